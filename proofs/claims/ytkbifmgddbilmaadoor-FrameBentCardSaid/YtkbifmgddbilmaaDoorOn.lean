/- refused; One, the program's and the document's. -/
import Derived.Test.YtkbifmgddbilmaaDoorMl
namespace Go.Proofs.YtkbifmgddbilmaaDoor
open Go Go.RowKit
set_option maxRecDepth 100000
theorem ret_two {s : ByteArray} {b : Bool} {w w' : World} (h : Below w.heap.size w w') : Ret w (.tuple #[.string s, .bool b]) (.returned (.tuple #[.string s, .bool b])) w' := ⟨rfl, h⟩
theorem below_more {w w1 : World} (o : Obj) (h : Below w.heap.size w w1) : Below w.heap.size w (w1.alloc o) := h.alloc h.size _
set_option maxHeartbeats 1000000 in
theorem refused_in (s : ByteArray) (a : Int) (E : Nat) (w : World) (hR : ∀ w', Below w.heap.size w w' → Calls Tryd.prog 12 #[.string s, .int .i64 a] w' (Ret w' (noV E))) :
    Calls Tryd.prog 25 #[.string s, .int .i64 a, .int .i64 (E : Int)] w (Ret w (.bool true)) := by
  have HR := Lib.hid (hR w (Below.refl _ _))
  have HS := Lib.hid (fun w => same_true 0 ⟨#[]⟩ 0 w)
  clear hR
  go_enter Tryd.func25, Tryd.ntmps25
  go_wp2_with fail
  refine HR.out.mono ?_
  rintro e w1 ⟨rfl, hb1⟩
  have HB1 := Lib.hid (below_more (.cells #[.int .u8 0, .string ⟨#[]⟩, .int .i64 0] 24) hb1)
  clear hb1
  go_wp2_with fail
  refine (HS.out _).mono ?_
  rintro e w2 ⟨rfl, hb2⟩
  have HB2 := Lib.hid (HB1.out.trans (hb2.mono HB1.out.size))
  clear hb2
  go_wp2
  go_ret
  exact ⟨rfl, HB2.out⟩
theorem refused_any (s : ByteArray) (a : Int) (E : Nat) (hE : er1 s a = E) (h0 : E ≠ 0) (w : World) (hs : s.size ≤ 140737488351232) (hT : Hid (Tab w)) :
    Calls Tryd.prog 25 #[.string s, .int .i64 a, .int .i64 (E : Int)] w (Ret w (.bool true)) :=
  refused_in s a E w fun w' hw => read_bad s a E hE h0 w' hs (Lib.hid (hT.out.below hw))
/-- What One tells. -/
def oneY (s : ByteArray) (k : UInt8) : Prop := Fr.er s.data.toList = 0 ∧ Fr.kd s.data.toList = k ∧ 9 + Fr.ln s.data.toList = s.size
instance (s : ByteArray) (k : UInt8) : Decidable (oneY s k) := by unfold oneY; infer_instance
def oneV (s : ByteArray) (k : UInt8) : Value := if oneY s k then .tuple #[.string (bs (Fr.pl s.data.toList)), .bool true] else .tuple #[.string ⟨#[]⟩, .bool false]
theorem bh_zero (s : ByteArray) : bh s 0 = s.data.toList := rfl
theorem er1_zero (s : ByteArray) : er1 s 0 = Fr.er s.data.toList := er1_at s 0 (Nat.zero_le _)
set_option maxHeartbeats 1000000 in
theorem one_no (s : ByteArray) (k : UInt8) (E : Nat) (h0 : E ≠ 0) (w : World) (hR : Calls Tryd.prog 12 #[.string s, .int .i64 0] w (Ret w (noV E))) :
    Calls Tryd.prog 18 #[.string s, .int .u8 k.toNat] w (Ret w (.tuple #[.string ⟨#[]⟩, .bool false])) := by
  have HR := Lib.hid hR
  have hE : ((E : Int) != 0) = true := by rw [bne_iff_ne]; omega
  clear hR
  go_enter Tryd.func18, Tryd.ntmps18
  go_wp2_with fail
  refine HR.out.mono ?_
  rintro e w1 ⟨rfl, hb1⟩
  have HB1 := Lib.hid (below_more (.cells #[.int .u8 0, .string ⟨#[]⟩, .int .i64 0] 24) hb1)
  clear hb1
  go_wp2
  go_ret2
  exact ⟨rfl, HB1.out⟩
set_option maxHeartbeats 1000000 in
theorem one_kind (s T : ByteArray) (k : UInt8) (q X : Nat) (hq : (q : Int) ≠ (k.toNat : Int)) (hX : X = s.size) (w : World) (hR : Calls Tryd.prog 12 #[.string s, .int .i64 0] w (Ret w (.tuple #[fv (q : Int) T 0, .int .i64 (X : Int), .int .i64 0]))) :
    Calls Tryd.prog 18 #[.string s, .int .u8 k.toNat] w (Ret w (.tuple #[.string ⟨#[]⟩, .bool false])) := by
  have HR := Lib.hid hR
  have hE : ((q : Int) != (k.toNat : Int)) = true := by rw [bne_iff_ne]; exact hq
  have hE2 : ((X : Int) != (s.size : Int)) = false := by subst hX; simp
  clear hR hq
  generalize (k.toNat : Int) = K at *
  clear hX
  go_enter Tryd.func18, Tryd.ntmps18
  go_wp2_with fail
  refine HR.out.mono ?_
  rintro e w1 ⟨rfl, hb1⟩
  have HB1 := Lib.hid (below_more (.cells #[.int .u8 (q : Int), .string T, .int .i64 0] 24) hb1)
  clear hb1
  go_wp2
  go_ret2
  exact ⟨rfl, HB1.out⟩
set_option maxHeartbeats 1000000 in
theorem one_more (s T : ByteArray) (k : UInt8) (q X : Nat) (hX : (X : Int) ≠ (s.size : Int)) (w : World) (hR : Calls Tryd.prog 12 #[.string s, .int .i64 0] w (Ret w (.tuple #[fv (q : Int) T 0, .int .i64 (X : Int), .int .i64 0]))) :
    Calls Tryd.prog 18 #[.string s, .int .u8 k.toNat] w (Ret w (.tuple #[.string ⟨#[]⟩, .bool false])) := by
  have HR := Lib.hid hR
  have hE2 : ((X : Int) != (s.size : Int)) = true := by rw [bne_iff_ne]; exact hX
  clear hR
  generalize (k.toNat : Int) = K at *
  rcases Bool.eq_false_or_eq_true ((q : Int) != K) with hE | hE
  all_goals
    go_enter Tryd.func18, Tryd.ntmps18
    go_wp2_with fail
    refine HR.out.mono ?_
    rintro e w1 ⟨rfl, hb1⟩
    have HB1 := Lib.hid (below_more (.cells #[.int .u8 (q : Int), .string T, .int .i64 0] 24) hb1)
    clear hb1
    go_wp2
    go_ret2
    exact ⟨rfl, HB1.out⟩
set_option maxHeartbeats 1000000 in
theorem one_yes (s T : ByteArray) (k : UInt8) (X : Nat) (hX : X = s.size) (w : World) (hR : Calls Tryd.prog 12 #[.string s, .int .i64 0] w (Ret w (.tuple #[fv (k.toNat : Int) T 0, .int .i64 (X : Int), .int .i64 0]))) :
    Calls Tryd.prog 18 #[.string s, .int .u8 k.toNat] w (Ret w (.tuple #[.string T, .bool true])) := by
  have HR := Lib.hid hR
  have hE2 : ((X : Int) != (s.size : Int)) = false := by subst hX; simp
  clear hR hX
  generalize (k.toNat : Int) = K at *
  have hE : (K != K) = false := by simp
  go_enter Tryd.func18, Tryd.ntmps18
  go_wp2_with fail
  refine HR.out.mono ?_
  rintro e w1 ⟨rfl, hb1⟩
  have HB1 := Lib.hid (below_more (.cells #[.int .u8 K, .string T, .int .i64 0] 24) hb1)
  clear hb1
  go_wp2
  go_ret2
  exact ⟨rfl, HB1.out⟩
theorem one_any (s : ByteArray) (k : UInt8) (w : World) (hs : s.size ≤ 140737488351232) (hT : Hid (Tab w)) :
    Calls Tryd.prog 18 #[.string s, .int .u8 k.toNat] w (Ret w (oneV s k)) := by
  have hz := er1_zero s
  unfold oneV
  by_cases he : Fr.er s.data.toList = 0
  · have hg := Fr.er_good.1 he
    have hR := read_ok s 0 hg w hs hT
    rw [bh_zero] at hR
    by_cases hk : Fr.kd s.data.toList = k
    · by_cases hx : 9 + Fr.ln s.data.toList = s.size
      · rw [if_pos ⟨he, hk, hx⟩]
        subst hk
        exact one_yes s _ _ _ (by omega) w hR
      · rw [if_neg (fun h => hx h.2.2)]
        exact one_more s _ k _ _ (by omega) w hR
    · rw [if_neg (fun h => hk h.2.1)]
      have hq : ((Fr.kd s.data.toList).toNat : Int) ≠ (k.toNat : Int) := fun e => hk (UInt8.toNat.inj (by omega))
      by_cases hx : 9 + Fr.ln s.data.toList = s.size
      · exact one_kind s _ k _ _ hq (by omega) w hR
      · exact one_more s _ k _ _ (by omega) w hR
  · rw [if_neg (fun h => he h.1)]
    exact one_no s k _ he w (read_bad s 0 _ hz he w hs hT)
set_option maxHeartbeats 1000000 in
theorem rone_no (s : ByteArray) (k : UInt8) (E : Nat) (h0 : E ≠ 0) (w : World) (hR : Calls Tryd.prog 13 #[.string s, .int .i64 0] w (Ret w (noV E))) :
    Calls Tryd.prog 19 #[.string s, .int .u8 k.toNat] w (Ret w (.tuple #[.string ⟨#[]⟩, .bool false])) := by
  have HR := Lib.hid hR
  have hE : ((E : Int) != 0) = true := by rw [bne_iff_ne]; omega
  clear hR
  go_enter Tryd.func19, Tryd.ntmps19
  go_wp2_with fail
  refine HR.out.mono ?_
  rintro e w1 ⟨rfl, hb1⟩
  have HB1 := Lib.hid (below_more (.cells #[.int .u8 0, .string ⟨#[]⟩, .int .i64 0] 28) hb1)
  clear hb1
  go_wp2
  go_ret2
  exact ⟨rfl, HB1.out⟩
set_option maxHeartbeats 1000000 in
theorem rone_kind (s T : ByteArray) (k : UInt8) (q X : Nat) (hq : (q : Int) ≠ (k.toNat : Int)) (hX : X = s.size) (w : World) (hR : Calls Tryd.prog 13 #[.string s, .int .i64 0] w (Ret w (.tuple #[fv (q : Int) T 0, .int .i64 (X : Int), .int .i64 0]))) :
    Calls Tryd.prog 19 #[.string s, .int .u8 k.toNat] w (Ret w (.tuple #[.string ⟨#[]⟩, .bool false])) := by
  have HR := Lib.hid hR
  have hE : ((q : Int) != (k.toNat : Int)) = true := by rw [bne_iff_ne]; exact hq
  have hE2 : ((X : Int) != (s.size : Int)) = false := by subst hX; simp
  clear hR hq
  generalize (k.toNat : Int) = K at *
  clear hX
  go_enter Tryd.func19, Tryd.ntmps19
  go_wp2_with fail
  refine HR.out.mono ?_
  rintro e w1 ⟨rfl, hb1⟩
  have HB1 := Lib.hid (below_more (.cells #[.int .u8 (q : Int), .string T, .int .i64 0] 28) hb1)
  clear hb1
  go_wp2
  go_ret2
  exact ⟨rfl, HB1.out⟩
set_option maxHeartbeats 1000000 in
theorem rone_more (s T : ByteArray) (k : UInt8) (q X : Nat) (hX : (X : Int) ≠ (s.size : Int)) (w : World) (hR : Calls Tryd.prog 13 #[.string s, .int .i64 0] w (Ret w (.tuple #[fv (q : Int) T 0, .int .i64 (X : Int), .int .i64 0]))) :
    Calls Tryd.prog 19 #[.string s, .int .u8 k.toNat] w (Ret w (.tuple #[.string ⟨#[]⟩, .bool false])) := by
  have HR := Lib.hid hR
  have hE2 : ((X : Int) != (s.size : Int)) = true := by rw [bne_iff_ne]; exact hX
  clear hR
  generalize (k.toNat : Int) = K at *
  rcases Bool.eq_false_or_eq_true ((q : Int) != K) with hE | hE
  all_goals
    go_enter Tryd.func19, Tryd.ntmps19
    go_wp2_with fail
    refine HR.out.mono ?_
    rintro e w1 ⟨rfl, hb1⟩
    have HB1 := Lib.hid (below_more (.cells #[.int .u8 (q : Int), .string T, .int .i64 0] 28) hb1)
    clear hb1
    go_wp2
    go_ret2
    exact ⟨rfl, HB1.out⟩
set_option maxHeartbeats 1000000 in
theorem rone_yes (s T : ByteArray) (k : UInt8) (X : Nat) (hX : X = s.size) (w : World) (hR : Calls Tryd.prog 13 #[.string s, .int .i64 0] w (Ret w (.tuple #[fv (k.toNat : Int) T 0, .int .i64 (X : Int), .int .i64 0]))) :
    Calls Tryd.prog 19 #[.string s, .int .u8 k.toNat] w (Ret w (.tuple #[.string T, .bool true])) := by
  have HR := Lib.hid hR
  have hE2 : ((X : Int) != (s.size : Int)) = false := by subst hX; simp
  clear hR hX
  generalize (k.toNat : Int) = K at *
  have hE : (K != K) = false := by simp
  go_enter Tryd.func19, Tryd.ntmps19
  go_wp2_with fail
  refine HR.out.mono ?_
  rintro e w1 ⟨rfl, hb1⟩
  have HB1 := Lib.hid (below_more (.cells #[.int .u8 K, .string T, .int .i64 0] 28) hb1)
  clear hb1
  go_wp2
  go_ret2
  exact ⟨rfl, HB1.out⟩
theorem rone_any (s : ByteArray) (k : UInt8) (w : World) (hs : s.size ≤ 140737488351232) :
    Calls Tryd.prog 19 #[.string s, .int .u8 k.toNat] w (Ret w (oneV s k)) := by
  have hz := er1_zero s
  unfold oneV
  by_cases he : Fr.er s.data.toList = 0
  · have hg := Fr.er_good.1 he
    have hR := rread_ok s 0 hg w hs
    rw [bh_zero] at hR
    by_cases hk : Fr.kd s.data.toList = k
    · by_cases hx : 9 + Fr.ln s.data.toList = s.size
      · rw [if_pos ⟨he, hk, hx⟩]
        subst hk
        exact rone_yes s _ _ _ (by omega) w hR
      · rw [if_neg (fun h => hx h.2.2)]
        exact rone_more s _ k _ _ (by omega) w hR
    · rw [if_neg (fun h => hk h.2.1)]
      have hq : ((Fr.kd s.data.toList).toNat : Int) ≠ (k.toNat : Int) := fun e => hk (UInt8.toNat.inj (by omega))
      by_cases hx : 9 + Fr.ln s.data.toList = s.size
      · exact rone_kind s _ k _ _ hq (by omega) w hR
      · exact rone_more s _ k _ _ (by omega) w hR
  · rw [if_neg (fun h => he h.1)]
    exact rone_no s k _ he w (rread_bad s 0 _ hz he w hs)
end Go.Proofs.YtkbifmgddbilmaaDoor
