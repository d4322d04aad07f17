/- The document's Read. -/
import Derived.Test.YtkbifmgddbilmaaDoorFc
import Derived.Deep.QuietTactic
namespace Go.Proofs.YtkbifmgddbilmaaDoor
open Go Go.RowKit
set_option maxRecDepth 100000
set_option maxHeartbeats 1000000 in
theorem number_any (s : ByteArray) (a : Nat) (w : World) (h : a + 4 ≤ s.size) (hs : s.size ≤ 140737488351232) :
    Calls Tryd.prog 32 #[.string s, .int .i64 (a : Int)] w fun e w' => e = .returned (.int .u64 (Bt.fat s.data.toList a 4 : Nat)) ∧ w = w' := by
  have HB : Hid (Bt.fat s.data.toList a 4 < 256 ^ 4) := Bt.fat_lt
  go_enter Tryd.func32, Tryd.ntmps32
  go_wp2
  go_loop [5, 6] (fun n i => ∃ (k acc : Nat), k ≤ 4 ∧ Hid (acc = Bt.fat s.data.toList (a + k) (4 - k)) ∧ n = .int .u64 acc ∧ i = .int .i64 ((k : Int) - 1)) (fun _ i => (intOf i + 1).toNat)
  case atStart => exact ⟨4, 0, by omega, Lib.hid rfl, rfl, rfl⟩
  case round =>
    obtain ⟨k, acc, hk, HA, rfl, rfl⟩ := hrel
    by_cases hlt : 1 ≤ k
    · obtain ⟨j, rfl⟩ : ∃ j, k = j + 1 := ⟨k - 1, by omega⟩
      have hin : a + j < s.size := by omega
      have HF : Hid (Bt.fat s.data.toList (a + j) (4 - j) = s[a + j].toNat + 256 * acc) := by
        rw [HA.out, show 4 - j = (4 - (j + 1)) + 1 from by omega, ← Nat.add_assoc a j 1]
        exact Bt.fat_cons (by simpa using hin)
      have hbb := (s[a + j]).toNat_lt
      have hacc : acc ≤ 72057594037927935 := by
        have h := @Bt.fat_lt s.data.toList (a + (j + 1)) (4 - (j + 1))
        rw [← HA.out] at h
        have h2 := Nat.pow_le_pow_right (n := 256) (by omega) (show 4 - (j + 1) ≤ 7 by omega)
        have e7 : (256 : Nat) ^ 7 = 72057594037927936 := by decide
        omega
      go_wp2
      go_round
      case rel =>
        refine ⟨j, s[a + j].toNat + 256 * acc, by omega, Lib.hid HF.out.symm, ?_, ?_⟩
        · go_num
        · go_num
      case measure => simp [intOf]
    · obtain rfl : k = 0 := by omega
      go_wp2
      go_ret
      exact ⟨ret_u64 (by rw [HA.out, Nat.add_zero]), rfl⟩
set_option maxHeartbeats 1000000 in
theorem rread_arg (s : ByteArray) (at' : Int) (w : World) (hs : s.size ≤ 140737488351232) (h : at' < 0 ∨ (s.size : Int) < at') :
    Calls Tryd.prog 13 #[.string s, .int .i64 at'] w (Ret w (noV 1)) := by
  by_cases h0 : at' < 0
  · go_enter Tryd.func13, Tryd.ntmps13
    go_wp2
    exact ret3 Tryd.results13 tri28 w.heap.size rfl rfl rfl rfl (heap_alloc_new w _) ⟨rfl, below_one _ _⟩
  · have h1 : (s.size : Int) < at' := by omega
    clear h
    go_enter Tryd.func13, Tryd.ntmps13
    go_wp2
    exact ret3 Tryd.results13 tri28 w.heap.size rfl rfl rfl rfl (heap_alloc_new w _) ⟨rfl, below_one _ _⟩
set_option maxHeartbeats 1000000 in
theorem rread_nine (s : ByteArray) (a : Nat) (w : World) (hs : s.size ≤ 140737488351232) (h : a ≤ s.size) (h9 : s.size < a + 9) :
    Calls Tryd.prog 13 #[.string s, .int .i64 (a : Int)] w (Ret w (noV 8)) := by
  go_enter Tryd.func13, Tryd.ntmps13
  go_wp2
  exact ret3 Tryd.results13 tri28 w.heap.size rfl rfl rfl rfl (heap_alloc_new w _) ⟨rfl, below_one _ _⟩
theorem below_drewN {m : Nat} {w w1 : World} (n : Nat) (h : Below m w w1) : Below m w (w1.drewN n) := by
  induction n with
  | zero => exact h
  | succ n ih => exact Below.drew ih
/-- What the document's number is. -/
def Nx (s : ByteArray) (a n : Nat) : Prop := ∀ w, Calls Tryd.prog 32 #[.string s, .int .i64 (a : Int)] w fun e w' => e = .returned (.int .u64 (n : Int)) ∧ w = w'
set_option maxHeartbeats 1000000 in
theorem rread_large (s : ByteArray) (a n : Nat) (w : World) (hs : s.size ≤ 140737488351232) (h9 : a + 9 ≤ s.size) (h1 : Nx s a n) (hn : 262144 < n) :
    Calls Tryd.prog 13 #[.string s, .int .i64 (a : Int)] w (Ret w (noV 40)) := by
  have H1 := Lib.hid h1
  clear h1
  go_enter Tryd.func13, Tryd.ntmps13
  go_wp2_with fail
  refine (H1.out _).mono ?_
  rintro e w' ⟨rfl, rfl⟩
  go_wp2
  exact ret3 Tryd.results13 tri28 w.heap.size rfl rfl rfl rfl (heap_alloc_new w _) ⟨rfl, below_one _ _⟩
set_option maxHeartbeats 1000000 in
theorem rread_cut (s : ByteArray) (a n : Nat) (w : World) (hs : s.size ≤ 140737488351232) (h9 : a + 9 ≤ s.size) (h1 : Nx s a n) (hn : n ≤ 262144) (hc : s.size < a + 9 + n) :
    Calls Tryd.prog 13 #[.string s, .int .i64 (a : Int)] w (Ret w (noV 8)) := by
  have H1 := Lib.hid h1
  obtain ⟨D, hD⟩ : ∃ D : Nat, (s.size : Int) - a - 9 = (D : Int) := ⟨s.size - a - 9, by omega⟩
  have hD2 : D < n := by omega
  clear h1
  go_enter Tryd.func13, Tryd.ntmps13
  go_wp2_with fail
  refine (H1.out _).mono ?_
  rintro e w' ⟨rfl, rfl⟩
  go_wp2
  exact ret3 Tryd.results13 tri28 w.heap.size rfl rfl rfl rfl (heap_alloc_new w _) ⟨rfl, below_one _ _⟩
set_option maxHeartbeats 1000000 in
theorem rread_sum (s : ByteArray) (a n c C M X : Nat) (w : World) (hs : s.size ≤ 140737488351232) (h9 : a + 9 ≤ s.size) (h1 : Nx s a n) (h2 : Nx s (a + 4) c) (hn : n ≤ 262144) (hX : a + 9 + n = X) (hc : X ≤ s.size) (T : ByteArray) (hT : s.extract (a + 8) X = T) (hM4 : M < 4294967296)
    (hS : ∀ w', Calls Tryd.prog 34 #[.string T] w' fun e w'' => e = .returned (.int .u32 (C : Int)) ∧ w' = w'')
    (hM : ∀ w', Calls Tryd.prog 33 #[.int .u32 (C : Int)] w' fun e w'' => e = .returned (.int .u32 (M : Int)) ∧ w' = w'') (hne : (c : Int) ≠ (M : Int)) :
    Calls Tryd.prog 13 #[.string s, .int .i64 (a : Int)] w (Ret w (noV 42)) := by
  have H1 := Lib.hid h1
  have H2 := Lib.hid h2
  have HS := Lib.hid hS
  have HM := Lib.hid hM
  have e1 : (a : Int) + 9 + (n : Int) = (X : Int) := by omega
  obtain ⟨D, hD⟩ : ∃ D : Nat, (s.size : Int) - a - 9 = (D : Int) := ⟨s.size - a - 9, by omega⟩
  have hD2 : n ≤ D := by omega
  have hX1 : a + 8 ≤ X := by omega
  have hmw : IntKind.u64.wrap (M : Int) = (M : Int) := by rw [IntKind.wrap_u64]; omega
  have hb : ((c : Int) == (M : Int)) = false := by rw [beq_eq_false_iff_ne]; exact hne
  have hb2 : ((c : Int) != (M : Int)) = true := by rw [bne_iff_ne]; exact hne
  clear h1 h2 hS hM hX hne
  go_enter Tryd.func13, Tryd.ntmps13
  go_wp2_with fail
  refine (H1.out _).mono ?_
  rintro e w' ⟨rfl, rfl⟩
  go_wp2_with fail
  go_big_quiet (first | (go_at_call 32; exact Calls.quiet_of_same ((H2.out _).mono fun _ _ h => ⟨h.1, h.2.symm⟩)) | (go_at_call 34; exact Calls.quiet_of_same ((HS.out _).mono fun _ _ h => ⟨h.1, h.2.symm⟩)) | (go_at_call 33; exact Calls.quiet_of_same ((HM.out _).mono fun _ _ h => ⟨h.1, h.2.symm⟩)))
  go_wp2
  exact ret3 Tryd.results13 tri28 w.heap.size rfl rfl rfl rfl (set3 _ _ _ (heap_alloc_new w _)) ⟨rfl, below_set3 (below_drewN _ (below_one _ _)) (Nat.le_refl _) _ _ _⟩
end Go.Proofs.YtkbifmgddbilmaaDoor
