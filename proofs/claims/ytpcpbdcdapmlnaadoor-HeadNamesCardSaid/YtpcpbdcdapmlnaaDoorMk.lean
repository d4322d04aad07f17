/- Make and Size, the program's and the document's. -/
import Derived.Test.YtpcpbdcdapmlnaaDoorFa
import Derived.Laws.MakeOwn
namespace Go.Proofs.YtpcpbdcdapmlnaaDoor
open Go Go.RowKit
set_option maxRecDepth 100000
/-- How many bytes a frame has. -/
def fsz (n : Int) : Int := if n < 0 ∨ 262144 < n then 0 else n + 9
theorem size_any (n : Int) (w : World) : Calls Tryd.prog 82 #[.int .i64 n] w fun e w' => e = .returned (.int .i64 (fsz n)) ∧ w = w' := by
  by_cases h : n < 0
  · go_enter Tryd.func82, Tryd.ntmps82
    go_wp2
    go_ret
    exact ⟨ret_i64 (by unfold fsz; rw [if_pos (by omega)]), rfl⟩
  · by_cases h2 : 262144 < n
    · go_enter Tryd.func82, Tryd.ntmps82
      go_wp2
      go_ret
      exact ⟨ret_i64 (by unfold fsz; rw [if_pos (by omega)]), rfl⟩
    · go_enter Tryd.func82, Tryd.ntmps82
      go_wp2
      go_ret
      exact ⟨ret_i64 (by unfold fsz; rw [if_neg (by omega)]; omega), rfl⟩
abbrev noM (E : Nat) : Value := .tuple #[.string ⟨#[]⟩, .int .i64 (E : Int)]
theorem make_arg (k : UInt8) (p : ByteArray) (hk : ¬ (1 ≤ k.toNat ∧ k.toNat ≤ 3)) (w : World) :
    Calls Tryd.prog 65 #[.int .u8 k.toNat, .string p] w (Ret w (noM 1)) := by
  have HK := fun w => Lib.hid (isKind_any k w)
  rw [decide_eq_false hk] at HK
  have HK := Lib.hid HK
  clear hk
  go_enter Tryd.func65, Tryd.ntmps65
  go_wp2_with fail
  refine (HK.out _).out.mono ?_
  rintro e w' ⟨rfl, rfl⟩
  go_wp2
  go_ret2
  exact ⟨rfl, Below.refl _ _⟩
theorem make_large (k : UInt8) (p : ByteArray) (hk : 1 ≤ k.toNat ∧ k.toNat ≤ 3) (hp : 262144 < p.size) (w : World) :
    Calls Tryd.prog 65 #[.int .u8 k.toNat, .string p] w (Ret w (noM 40)) := by
  have HK := fun w => Lib.hid (isKind_any k w)
  rw [decide_eq_true hk] at HK
  have HK := Lib.hid HK
  clear hk
  go_enter Tryd.func65, Tryd.ntmps65
  go_wp2_with fail
  refine (HK.out _).out.mono ?_
  rintro e w' ⟨rfl, rfl⟩
  go_wp2
  go_ret2
  exact ⟨rfl, Below.refl _ _⟩
/-- What a new row of bytes lies in. -/
def mkObj (c : Nat) : Obj := .cells (madeCells (Value.int .u8 0).cells c) 5
theorem made_row (c : Nat) (hc : c ≤ 1000000) (W : World) : (Instr.makeSlice 65 (.int .i64 0) (.int .i64 (c : Int))).run Tryd.prog W = .ok (.slice (some ⟨W.heap.size, 0, none⟩) 0 c) (W.alloc (mkObj c)) := by
  obtain ⟨i0, hi, hz0, hz1, hz2⟩ := info_parts Tryd.info5
  have h := run_make (P := Tryd.prog) W 65 5 i0 (.int .u8 0) Tryd.underlying65 hi hz0 .i64 .i64 0 (c : Int) (by omega) (by omega) (by rw [hz2]; omega) (by omega)
  rw [hz1, Int.toNat_natCast, Nat.mul_one] at h
  exact h
theorem made_own (c : Nat) (hc : c ≤ 1000000) (W : World) (base : Nat) (hb : base ≤ W.heap.size) : Own (W.alloc (mkObj c)) base (.slice (some ⟨W.heap.size, 0, none⟩) 0 c) [] := by
  have h := Own.made W base 5 [] (madeCells (Value.int .u8 0).cells c) hb (by rw [size_madeCells]; simp [maxLen]; omega)
  rw [size_madeCells] at h
  simpa [mkObj] using h
theorem bs_cons_of (k : UInt8) (p : ByteArray) : bs [k] ++ p = bs (k :: p.data.toList) := by
  have h := bs_append [k] p.data.toList
  rw [bs_of] at h
  exact h
set_option maxHeartbeats 2000000 in
theorem make_in (k : UInt8) (p B : ByteArray) (n C M : Nat) (hn : p.size = n) (hk : 1 ≤ k.toNat ∧ k.toNat ≤ 3) (hp : n ≤ 262144) (hB : bs [k] ++ p = B) (hBs : B.size = n + 1) (w : World)
    (hO : ∀ w', Below w.heap.size w w' → Calls Tryd.prog 85 #[.string B] w' fun e w'' => e = .returned (.int .u32 (C : Int)) ∧ w' = w'')
    (hM : ∀ w', Calls Tryd.prog 84 #[.int .u32 (C : Int)] w' fun e w'' => e = .returned (.int .u32 (M : Int)) ∧ w' = w'') (hM4 : M < 4294967296) :
    Calls Tryd.prog 65 #[.int .u8 k.toNat, .string p] w (Ret w (.tuple #[.string (bs (Bt.fx 4 n ++ (Bt.fx 4 M ++ B.data.toList))), .int .i64 0])) := by
  have HK := fun w => Lib.hid (isKind_any k w)
  rw [decide_eq_true hk] at HK
  have HK := Lib.hid HK
  have hcv := run_string_one k (k.toNat : Int) rfl
  have hk8 := k.toNat_lt
  have HO := Lib.hid hO
  have HM := Lib.hid hM
  have hz := size_any (n : Int)
  rw [show fsz (n : Int) = ((n + 9 : Nat) : Int) by unfold fsz; rw [if_neg (by omega)]; omega] at hz
  have HZ := Lib.hid hz
  have hmk : ∀ W : World, (Instr.makeSlice 65 (.int .i64 0) (.int .i64 ((n : Int) + 9))).run Tryd.prog W = .ok (.slice (some ⟨W.heap.size, 0, none⟩) 0 (n + 9)) (W.alloc (mkObj (n + 9))) := fun W => by
    have h := made_row (n + 9) (by omega) W
    rw [show ((n + 9 : Nat) : Int) = (n : Int) + 9 from by omega] at h
    exact h
  have hmw : IntKind.u64.wrap (M : Int) = (M : Int) := by rw [IntKind.wrap_u64]; omega
  obtain ⟨i0, hi, hz0, hz1, hz2⟩ := info_parts Tryd.info5
  have hs1 : (bs [k]).size = 1 := rfl
  clear hO hM hz hk
  have HW1 : Hid (Own ((w.alloc (.cells #[.int .u8 k.toNat] 5)).alloc (mkObj (n + 9))) (w.heap.size + 1) (.slice (some ⟨w.heap.size + 1, 0, none⟩) 0 (n + 9)) []) := by
    have h := made_own (n + 9) (by omega) (w.alloc (.cells #[.int .u8 k.toNat] 5)) (w.heap.size + 1) (by simp)
    rw [World.size_alloc] at h
    exact Lib.hid h
  generalize bs [k] = K1 at *
  go_enter Tryd.func65, Tryd.ntmps65
  go_wp2_with fail
  refine (HK.out _).out.mono ?_
  rintro e w' ⟨rfl, rfl⟩
  go_wp2_with fail
  refine (HZ.out _).mono ?_
  rintro e w' ⟨rfl, rfl⟩
  go_wp2_with fail
  refine (putFixed_4 n (w.heap.size + 1) _ [] _ HW1.out (by simp) (by simp)).mono ?_
  rintro e w1 ⟨v1, rfl, hO1, hS1⟩
  have HO1 := Lib.hid hO1; have HS1 := Lib.hid hS1
  clear hO1 hS1
  have HBl : Hid (Below w.heap.size w w1) := by
    refine Lib.hid ?_
    have h0 : Below w.heap.size w ((w.alloc (.cells #[.int .u8 k.toNat] 5)).alloc (mkObj (n + 9))) := ((Below.refl _ _).alloc (Nat.le_refl _) _).alloc (by simp) _
    exact h0.trans (HS1.out.below (by simp; omega) (fun g hg => by cases hg; exact Nat.le_succ _))
  go_wp2_with fail
  refine (HO.out _ HBl.out).mono ?_
  rintro e w' ⟨rfl, rfl⟩
  go_wp2_with fail
  refine (HM.out _).mono ?_
  rintro e w' ⟨rfl, rfl⟩
  go_wp2_with fail
  refine (putFixed_4 M (w.heap.size + 1) _ _ _ HO1.out (by have := HS1.out.grown.size; simp at this; omega) (by simp [Bt.fx_length])).mono ?_
  rintro e w2 ⟨v2, rfl, hO2, hS2⟩
  have HO2 := Lib.hid hO2; have HS2 := Lib.hid hS2
  clear hO2 hS2
  have HB2 : Hid (Below w.heap.size w w2) := Lib.hid (HBl.out.trans (HS2.out.below HBl.out.size (fun g hg => by have := (HO1.out.lt g hg).1; omega)))
  have HL : Hid ((([] ++ Bt.fx 4 n ++ Bt.fx 4 M).map bv).length = 8) := Lib.hid (by simp [Bt.fx_length])
  have hsz2 : Hid (w.heap.size + 1 ≤ w2.heap.size) := Lib.hid (by have h1 := HS1.out.grown.size; have h2 := HS2.out.grown.size; simp at h1; omega)
  go_wp2_with (at_builtin; refine wpList_append_Own _ rfl (.tmp 34) (.tmp 35) 65 9 rfl (w.heap.size + 1) 5 i0 (.int .u8 0) 1 Tryd.underlying65 hi hz0 hz1 hz2 rfl v2 (([] ++ Bt.fx 4 n ++ Bt.fx 4 M).map bv) rfl HO2.out _ B.size _ rfl (Src.ofString _ Tryd.underlying9 B) ?c1 ?c2 ?c3 ?_; rotate_right; intro v' w3 hown1 hgr hwh; have HO3 := Lib.hid hown1; have HG := Lib.hid hgr; have HH := Lib.hid hwh; clear hown1 hgr hwh)
  case c1 => rw [HL.out]; omega
  case c2 => rw [HL.out]; omega
  case c3 => exact hsz2.out
  have hr := run_string_Own w3 (w.heap.size + 1) 65 9 5 v' ([] ++ Bt.fx 4 n ++ Bt.fx 4 M ++ B.data.toList) (by have h := HO3.out; rw [List.map_append]; exact h) Tryd.underlying65 Tryd.underlying5 Tryd.underlying9
  rw [List.nil_append, List.append_assoc] at hr
  have hr : Sem.run Tryd.prog (convert 65 9 v') w3 = .ok (.string (bs (Bt.fx 4 n ++ (Bt.fx 4 M ++ B.data.toList)))) w3 := hr
  have HB3 : Hid (Below w.heap.size w w3) := Lib.hid (HB2.out.trans ((Step.mk HG.out HH.out).below HB2.out.size (fun g hg => by have := (HO2.out.lt g hg).1; omega)))
  generalize bs (Bt.fx 4 n ++ (Bt.fx 4 M ++ B.data.toList)) = F at *
  simp only [hr, Result.andThen]
  go_simp
  go_wp2
  go_ret2
  exact ⟨rfl, HB3.out⟩
theorem make_ok (k : UInt8) (p : ByteArray) (hk : 1 ≤ k.toNat ∧ k.toNat ≤ 3) (hp : p.size ≤ 262144) (w : World) (hT : Hid (Tab w)) :
    Calls Tryd.prog 65 #[.int .u8 k.toNat, .string p] w (Ret w (.tuple #[.string (bs (Fr.frm k p.data.toList)), .int .i64 0])) := by
  have hB := bs_cons_of k p
  have hBs : (bs (k :: p.data.toList)).size = p.size + 1 := by rw [bs_size]; simp
  have h := make_in k p _ p.size (Sm.add 0 (k :: p.data.toList)) (Sm.mask (Sm.add 0 (k :: p.data.toList))) rfl hk hp hB hBs w
    (fun w' hw => of_any (bs (k :: p.data.toList)) w' (by rw [hBs]; omega) (Lib.hid (hT.out.below hw))) (fun w' => mask_any _ w' (Sm.add_lt (by omega) _)) (Sm.mask_lt _)
  exact h
end Go.Proofs.YtpcpbdcdapmlnaaDoor
