/- Size, and Decode. -/
import Derived.Test.YtnnogjojoeajnaaIt
import Derived.Test.YtnnogjojoeajnaaQr
namespace Go.Proofs.Ytnnogjojoeajnaa
open Go.RowKit Go.Shelf Go.Sort
attribute [local go_sem] Oper.semAt_some
/-- What a block says that it stands for, how many bytes say so, and the error. -/
def szs (l : List UInt8) : Nat × Nat × Nat :=
  if (Bt.rd l 0 0).2.2 ≠ 0 then (0, 0, (Bt.rd l 0 0).2.2) else if 4294967296 ≤ (Bt.rd l 0 0).1 then (0, 0, 4) else ((Bt.rd l 0 0).1, (Bt.rd l 0 0).2.1, 0)
set_option maxRecDepth 100000 in
set_option maxHeartbeats 400000 in
theorem size_any (s : ByteArray) (hs : s.size ≤ 140737488351232) (w : World) :
    Calls Try.prog 19 #[.string s] w fun e w' => e = .returned (.tuple #[.int .u64 (szs s.data.toList).1, .int .i64 (szs s.data.toList).2.2]) ∧ w = w' := by
  obtain ⟨N, C, K, hr⟩ : ∃ N C K, Bt.rd s.data.toList 0 0 = (N, C, K) := ⟨_, _, _, rfl⟩
  unfold szs
  simp only [hr]
  have hf := Bt.rd_facts s.data.toList 0 0 (by omega) (by simp)
  rw [hr] at hf
  dsimp only at hf
  have hNu : N ≤ 18446744073709551615 := by omega
  by_cases hK : K = 0
  · subst hK
    have HU := Lib.hid (uvarint_ok s 0 w (by omega) hs N C C (by simpa using hr) (by omega))
    clear hf hr
    by_cases hN : 4294967296 ≤ N
    · rw [if_neg (by simp), if_pos hN]
      have hN1 : (4294967296 : Int) ≤ (N : Int) := by omega
      have hN2 : (N : Int) ≤ 18446744073709551615 := by omega
      clear hN hNu
      generalize (N : Int) = M at *
      go_enter Try.func19, Try.ntmps19
      go_wp2_with (go_at_call 46; refine HU.out.mono ?_; rintro e w' ⟨rfl, rfl⟩)
      go_ret2
      exact ⟨rfl, rfl⟩
    · rw [if_neg (by simp), if_neg hN]
      have hN1 : (N : Int) < 4294967296 := by omega
      have hN2 : (0 : Int) ≤ (N : Int) := by omega
      clear hN hNu
      dsimp only
      generalize (N : Int) = M at *
      go_enter Try.func19, Try.ntmps19
      go_wp2_with (go_at_call 46; refine HU.out.mono ?_; rintro e w' ⟨rfl, rfl⟩)
      go_ret2
      exact ⟨rfl, rfl⟩
  · have h0 : N = 0 ∧ C = 0 := by
      rcases hf.2.2 with h | h | h
      · exact absurd h hK
      · cases h; exact ⟨rfl, rfl⟩
      · cases h; exact ⟨rfl, rfl⟩
    obtain ⟨rfl, rfl⟩ := h0
    have HU := Lib.hid (uvarint_no s 0 w (by omega) hs K hK (by simpa using hr))
    clear hf hr
    rw [if_pos hK]
    have hK1 : ((K : Int) != 0) = true := by rw [bne_iff_ne]; omega
    go_enter Try.func19, Try.ntmps19
    go_wp2_with (go_at_call 46; refine HU.out.mono ?_; rintro e w' ⟨rfl, rfl⟩)
    go_ret2
    exact ⟨rfl, rfl⟩
theorem elements_any (s : ByteArray) (w : World) :
    Calls Try.prog 33 #[.string s] w fun e w' => e = .returned (.func (.func 52) #[] #[.pointer (some ⟨w.heap.size, 0, none⟩)]) ∧ w' = w.alloc (.cells #[.string s] 9) := by
  go_enter Try.func33, Try.ntmps33
  go_wp2
  go_ret
  exact ⟨rfl, rfl⟩
/-- What elements stand for behind bytes, if they are so many in all. -/
def dcd (N : Nat) : List (Pt × Int) → List UInt8 → List UInt8 × Int
  | [], b => if b.length < N then ([], 4) else (b, 0)
  | (p, e) :: r, b => if e ≠ 0 then ([], e) else if (!here p b.length || decide ((N : Int) < b.length + cnt p)) = true then ([], 4) else dcd N r (gro b p)
def decode (l : List UInt8) (most : Int) : List UInt8 × Int :=
  if (szs l).2.2 ≠ 0 then ([], ((szs l).2.2 : Int)) else if most < 0 ∨ most < ((szs l).1 : Int) then ([], 40) else dcd (szs l).1 (its (l.drop (szs l).2.1)) []
structure Elem (n : Nat) (x : Pt × Int) : Prop where
  t : x.1.t.size ≤ n
  o0 : 0 ≤ x.1.o
  o1 : x.1.o ≤ 4294967295
  l0 : 0 ≤ x.1.l
  l1 : x.1.l ≤ 64
  e : x.2 = 0 ∨ x.2 = 8
theorem Elem.mono {n m : Nat} {x : Pt × Int} (h : Elem n x) (hm : n ≤ m) : Elem m x := ⟨Nat.le_trans h.t hm, h.o0, h.o1, h.l0, h.l1, h.e⟩
theorem el_elem (c : UInt8) (r : List UInt8) (e : Int) (he : e = 0 ∨ e = 8) : Elem r.length ((el c r).1, e) := by
  have hc := c.toNat_lt
  have hb : ∀ k, (bs (r.drop k)).size ≤ r.length := fun k => by rw [bs_size]; simp
  have hl : ∀ (k : Nat), k ≤ 4 → low (r.take k) < 4294967296 := fun k hk => by
    have h1 := low_lt (r.take k)
    have h2 := pow256 (i := (r.take k).length) (by rw [List.length_take]; omega)
    omega
  have h1' : low (r.take 1) < 256 := by
    have h1 := low_lt (r.take 1)
    have h2 := Nat.pow_le_pow_right (n := 256) (by omega) (show (r.take 1).length ≤ 1 by rw [List.length_take]; omega)
    omega
  have h2 := hl 2 (by omega)
  have h4 := hl 4 (by omega)
  have hlit : ∀ K n, Elem r.length ((lit r K n).1, e) := fun K n => by
    unfold lit
    split
    · exact ⟨by rw [bs_size]; simp; omega, by simp only; decide, by simp only; decide, by simp only; decide, by simp only; decide, he⟩
    · exact ⟨Nat.zero_le _, by simp only; decide, by simp only; decide, by simp only; decide, by simp only; decide, he⟩
  have hcp : ∀ l o k : Nat, l ≤ 64 → o ≤ 4294967295 → Elem r.length ((cpy r l o k).1, e) := fun l o k h1 h2 => by
    unfold cpy
    exact ⟨Nat.zero_le _, by simp only; omega, by simp only; omega, by simp only; omega, by simp only; omega, he⟩
  unfold el
  split
  · split
    · exact hlit _ _
    · split
      · exact hlit _ _
      · exact ⟨Nat.zero_le _, by simp only; decide, by simp only; decide, by simp only; decide, by simp only; decide, he⟩
  · split
    · exact hcp _ _ _ (by omega) (by omega)
    · split
      · exact hcp _ _ _ (by omega) (by omega)
      · exact hcp _ _ _ (by omega) (by omega)
theorem its_elem : ∀ (n : Nat) (l : List UInt8), l.length ≤ n → ∀ x ∈ its l, Elem n x := by
  intro n
  induction n with
  | zero =>
    intro l hl
    obtain rfl := List.eq_nil_of_length_eq_zero (Nat.le_zero.1 hl)
    intro x hx
    rw [its] at hx
    cases hx
  | succ n ih =>
    intro l hl x hx
    cases l with
    | nil => rw [its] at hx; cases hx
    | cons c r =>
      rw [List.length_cons] at hl
      rw [its] at hx
      split at hx
      · rcases List.mem_cons.1 hx with rfl | hx
        · exact (el_elem c r 0 (.inl rfl)).mono (by omega)
        · exact (ih _ (by rw [List.length_drop]; omega) x hx).mono (by omega)
      · obtain rfl := List.mem_singleton.1 hx
        exact (el_elem c r 8 (.inr rfl)).mono (by omega)
end Go.Proofs.Ytnnogjojoeajnaa
