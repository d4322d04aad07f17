/- The document's Make; made; same of two that are alike; refused. -/
import Derived.Test.YtkbifmgddbilmaaDoorMk
namespace Go.Proofs.YtkbifmgddbilmaaDoor
open Go Go.RowKit
set_option maxRecDepth 100000
theorem rmake_arg (k : UInt8) (p : ByteArray) (hk : ¬ (1 ≤ k.toNat ∧ k.toNat ≤ 3)) (w : World) :
    Calls Tryd.prog 21 #[.int .u8 k.toNat, .string p] w (Ret w (noM 1)) := by
  by_cases h : k.toNat < 1
  · clear hk
    go_enter Tryd.func21, Tryd.ntmps21
    go_wp2
    go_ret2
    exact ⟨rfl, Below.refl _ _⟩
  · have h3 : 3 < k.toNat := by omega
    clear hk
    go_enter Tryd.func21, Tryd.ntmps21
    go_wp2
    go_ret2
    exact ⟨rfl, Below.refl _ _⟩
theorem rmake_large (k : UInt8) (p : ByteArray) (hk : 1 ≤ k.toNat ∧ k.toNat ≤ 3) (hp : 262144 < p.size) (w : World) :
    Calls Tryd.prog 21 #[.int .u8 k.toNat, .string p] w (Ret w (noM 40)) := by
  obtain ⟨h1, h3⟩ := hk
  go_enter Tryd.func21, Tryd.ntmps21
  go_wp2
  go_ret2
  exact ⟨rfl, Below.refl _ _⟩
set_option maxHeartbeats 2000000 in
theorem rmake_in (k : UInt8) (p B F1 F2 F3 F : ByteArray) (n C M : Nat) (hn : p.size = n) (hk : 1 ≤ k.toNat ∧ k.toNat ≤ 3) (hp : n ≤ 262144) (hB : bs [k] ++ p = B) (hBs : B.size = n + 1) (hF1 : F1.size = 4) (hF2 : F2.size = 4) (hF3 : F1 ++ F2 = F3) (hF3s : F3.size = 8) (hF : F3 ++ B = F) (w : World)
    (h1 : ∀ w', Calls Tryd.prog 39 #[.int .u64 (n : Int), .int .i64 4] w' (Ret w' (.string F1)))
    (h2 : ∀ w', Calls Tryd.prog 39 #[.int .u64 (M : Int), .int .i64 4] w' (Ret w' (.string F2)))
    (hO : ∀ w', Calls Tryd.prog 34 #[.string B] w' fun e w'' => e = .returned (.int .u32 (C : Int)) ∧ w' = w'')
    (hM : ∀ w', Calls Tryd.prog 33 #[.int .u32 (C : Int)] w' fun e w'' => e = .returned (.int .u32 (M : Int)) ∧ w' = w'') (hM4 : M < 4294967296) :
    Calls Tryd.prog 21 #[.int .u8 k.toNat, .string p] w (Ret w (.tuple #[.string F, .int .i64 0])) := by
  have hcv := run_string_one k (k.toNat : Int) rfl
  obtain ⟨hk1, hk3⟩ := hk
  have hk8 := k.toNat_lt
  have H1 := Lib.hid h1
  have H2 := Lib.hid h2
  have HO := Lib.hid hO
  have HM := Lib.hid hM
  have hmw : IntKind.u64.wrap (M : Int) = (M : Int) := by rw [IntKind.wrap_u64]; omega
  have hs1 : (bs [k]).size = 1 := rfl
  clear h1 h2 hO hM
  generalize bs [k] = K1 at *
  go_enter Tryd.func21, Tryd.ntmps21
  go_wp2_with fail
  refine (H1.out _).mono ?_
  rintro e w1 ⟨rfl, hb1⟩
  have HB1 : Hid (Below w.heap.size w w1) := Lib.hid ((below_one w _).trans (hb1.mono (by simp)))
  clear hb1
  go_wp2_with fail
  refine (HO.out _).mono ?_
  rintro e w' ⟨rfl, rfl⟩
  go_wp2_with fail
  refine (HM.out _).mono ?_
  rintro e w' ⟨rfl, rfl⟩
  go_wp2_with fail
  refine (H2.out _).mono ?_
  rintro e w2 ⟨rfl, hb2⟩
  have HB2 : Hid (Below w.heap.size w w2) := Lib.hid (HB1.out.trans (hb2.mono HB1.out.size))
  clear hb2
  go_wp2
  go_ret2
  exact ⟨rfl, HB2.out⟩
theorem rmake_ok (k : UInt8) (p : ByteArray) (hk : 1 ≤ k.toNat ∧ k.toNat ≤ 3) (hp : p.size ≤ 262144) (w : World) :
    Calls Tryd.prog 21 #[.int .u8 k.toNat, .string p] w (Ret w (.tuple #[.string (bs (Fr.frm k p.data.toList)), .int .i64 0])) := by
  have hBs : (bs (k :: p.data.toList)).size = p.size + 1 := by rw [bs_size]; simp
  exact rmake_in k p _ (bs (Bt.fx 4 p.size)) (bs (Bt.fx 4 (Fr.ck (k :: p.data.toList)))) _ _ p.size (Sm.add 0 (k :: p.data.toList)) (Fr.ck (k :: p.data.toList)) rfl hk hp (bs_cons_of k p) hBs
    (by rw [bs_size, Bt.fx_length]) (by rw [bs_size, Bt.fx_length]) (bs_append _ _) (by rw [bs_size, List.length_append, Bt.fx_length, Bt.fx_length])
    (by rw [bs_append, List.append_assoc]; rfl) w (fun w' => rfixed_any _ 4 w' (by omega) (by omega)) (fun w' => rfixed_any _ 4 w' (by have := Fr.ck_lt (k :: p.data.toList); omega) (by omega))
    (fun w' => rof_any (bs (k :: p.data.toList)) w' (by rw [hBs]; omega)) (fun w' => rmask_any _ w' (Sm.add_lt (by omega) _)) (Sm.mask_lt _)
/-- A frame's bytes; nothing, if it is refused. -/
def mdl (k : UInt8) (p : ByteArray) : List UInt8 := if 1 ≤ k.toNat ∧ k.toNat ≤ 3 then (if p.size ≤ 262144 then Fr.frm k p.data.toList else []) else []
def mkE (k : UInt8) (p : ByteArray) : Nat := if 1 ≤ k.toNat ∧ k.toNat ≤ 3 then (if p.size ≤ 262144 then 0 else 40) else 1
theorem make_any (k : UInt8) (p : ByteArray) (w : World) (hT : Hid (Tab w)) :
    Calls Tryd.prog 20 #[.int .u8 k.toNat, .string p] w (Ret w (.tuple #[.string (bs (mdl k p)), .int .i64 (mkE k p : Nat)])) := by
  unfold mdl mkE
  by_cases hk : 1 ≤ k.toNat ∧ k.toNat ≤ 3
  · rw [if_pos hk, if_pos hk]
    by_cases hp : p.size ≤ 262144
    · rw [if_pos hp, if_pos hp]; exact make_ok k p hk hp w hT
    · rw [if_neg hp, if_neg hp]; exact make_large k p hk (by omega) w
  · rw [if_neg hk, if_neg hk]; exact make_arg k p hk w
theorem rmake_any (k : UInt8) (p : ByteArray) (w : World) :
    Calls Tryd.prog 21 #[.int .u8 k.toNat, .string p] w (Ret w (.tuple #[.string (bs (mdl k p)), .int .i64 (mkE k p : Nat)])) := by
  unfold mdl mkE
  by_cases hk : 1 ≤ k.toNat ∧ k.toNat ≤ 3
  · rw [if_pos hk, if_pos hk]
    by_cases hp : p.size ≤ 262144
    · rw [if_pos hp, if_pos hp]; exact rmake_ok k p hk hp w
    · rw [if_neg hp, if_neg hp]; exact rmake_large k p hk (by omega) w
  · rw [if_neg hk, if_neg hk]; exact rmake_arg k p hk w
theorem made_any (k : UInt8) (p : ByteArray) (w : World) (hT : Hid (Tab w)) :
    Calls Tryd.prog 24 #[.int .u8 k.toNat, .string p] w (Ret w (.string (bs (mdl k p)))) := by
  have C := Lib.hid (make_any k p w hT)
  generalize bs (mdl k p) = T at *
  generalize (mkE k p : Int) = E at *
  go_enter Tryd.func24, Tryd.ntmps24
  go_wp2_with fail
  refine C.out.mono ?_
  rintro e w1 ⟨rfl, hb1⟩
  have HB1 := Lib.hid hb1
  clear hb1
  go_wp2
  go_ret
  exact ⟨rfl, HB1.out⟩
set_option maxHeartbeats 1000000 in
theorem same_true (k : Int) (p : ByteArray) (a : Int) (w : World) :
    Calls Tryd.prog 14 #[fv k p a, fv k p a] w (Ret w (.bool true)) := by
  have hp : (p.toList == p.toList) = true := by simp
  go_enter Tryd.func14, Tryd.ntmps14
  go_wp2
  go_ret
  exact ⟨rfl, ((Below.refl _ _).alloc (Nat.le_refl _) _).alloc (by simp) _⟩
end Go.Proofs.YtkbifmgddbilmaaDoor
