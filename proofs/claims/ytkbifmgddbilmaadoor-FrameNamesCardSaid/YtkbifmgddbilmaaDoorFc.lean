/- frame.Read, whole: what it tells of any bytes at any place. -/
import Derived.Test.YtkbifmgddbilmaaDoorFb
namespace Go.Proofs.YtkbifmgddbilmaaDoor
open Go Go.RowKit
set_option maxRecDepth 100000
/-- The bytes from a place on. -/
abbrev bh (s : ByteArray) (a : Nat) : List UInt8 := s.data.toList.drop a
/-- How the frame at a place is refused; 0: it is not. -/
def er1 (s : ByteArray) (at' : Int) : Nat := if 0 ≤ at' ∧ at' ≤ (s.size : Int) then Fr.er (bh s at'.toNat) else 1
theorem er1_at (s : ByteArray) (a : Nat) (h : a ≤ s.size) : er1 s (a : Int) = Fr.er (bh s a) := by
  unfold er1
  rw [if_pos ⟨by omega, by omega⟩]; rfl
theorem er1_out (s : ByteArray) (at' : Int) (h : at' < 0 ∨ (s.size : Int) < at') : er1 s at' = 1 := by
  unfold er1
  rw [if_neg (by omega)]
theorem bh_length (s : ByteArray) (a : Nat) : (bh s a).length = s.size - a := by simp [bh]
theorem fat_drop (l : List UInt8) (a b z : Nat) : Bt.fat (l.drop a) b z = Bt.fat l (a + b) z := by
  unfold Bt.fat; rw [List.drop_drop]
theorem fx_one (s : ByteArray) (a : Nat) (hs : s.size ≤ 140737488351232) (h : a + 4 ≤ s.size) : Fx s a (Bt.fat s.data.toList a 4) (a + 4) := fun w => fixed_ok4 s a w h hs
theorem fx_ln (s : ByteArray) (a : Nat) (hs : s.size ≤ 140737488351232) (h : a + 9 ≤ s.size) : Fx s a (Fr.ln (bh s a)) (a + 4) := by
  have := fx_one s a hs (by omega)
  unfold Fr.ln
  rw [fat_drop]; exact this
theorem fx_cs (s : ByteArray) (a : Nat) (hs : s.size ≤ 140737488351232) (h : a + 9 ≤ s.size) : Fx s (a + 4) (Fr.cs (bh s a)) (a + 8) := by
  have := fx_one s (a + 4) hs (by omega)
  unfold Fr.cs
  rw [fat_drop]; exact this
theorem cs_lt (l : List UInt8) : Fr.cs l < 4294967296 := Nat.lt_of_lt_of_le Bt.fat_lt (by decide)
theorem ext_toList (s : ByteArray) (a b : Nat) : (s.extract a b).data.toList = (s.data.toList.take b).drop a := by
  rw [List.drop_take]; simp [ByteArray.data_extract]
/-- The kind and the payload, in the bytes. -/
theorem body_ext (s : ByteArray) (a n : Nat) (h : a + 9 + n ≤ s.size) (hn : n = Fr.ln (bh s a)) : (s.extract (a + 8) (a + 9 + n)).data.toList = Fr.kd (bh s a) :: Fr.pl (bh s a) := by
  rw [ext_toList, List.drop_take, show a + 9 + n - (a + 8) = n + 1 by omega]
  have h9 : 9 ≤ (bh s a).length := by rw [bh_length]; omega
  have e := Fr.kd_drop h9
  rw [List.drop_drop] at e
  rw [e, List.take_succ_cons]
  unfold Fr.pl
  rw [← hn]
theorem bs_toData (T : ByteArray) (l : List UInt8) (h : T.data.toList = l) : T = bs l := by rw [← h]; exact (bs_of T).symm
theorem read_bad (s : ByteArray) (at' : Int) (E : Nat) (hE : er1 s at' = E) (h0 : E ≠ 0) (w : World) (hs : s.size ≤ 140737488351232) (hT : Hid (Tab w)) :
    Calls Tryd.prog 12 #[.string s, .int .i64 at'] w (Ret w (noV E)) := by
  by_cases hp : at' < 0 ∨ (s.size : Int) < at'
  · rw [er1_out s at' hp] at hE
    subst hE
    exact read_arg s at' w hp
  obtain ⟨a, rfl⟩ := Int.eq_ofNat_of_zero_le (a := at') (by omega)
  have ha : a ≤ s.size := by omega
  rw [er1_at s a ha] at hE
  by_cases h9 : s.size < a + 9
  · have : Fr.er (bh s a) = 8 := by unfold Fr.er; rw [if_pos (by rw [bh_length]; omega)]
    rw [this] at hE; subst hE
    exact read_nine s a w hs ha h9
  have h9' : a + 9 ≤ s.size := by omega
  have c1 := fx_ln s a hs h9'
  have c2 := fx_cs s a hs h9'
  have hl := bh_length s a
  unfold Fr.er at hE
  rw [if_neg (by omega)] at hE
  by_cases h1 : 262144 < Fr.ln (bh s a)
  · rw [if_pos h1] at hE; subst hE
    exact read_large s a _ _ w hs h9' c1 c2 h1
  rw [if_neg h1] at hE
  by_cases h2 : (bh s a).length < 9 + Fr.ln (bh s a)
  · rw [if_pos h2] at hE; subst hE
    exact read_cut s a _ _ w hs h9' c1 c2 (by omega) (by omega)
  rw [if_neg h2] at hE
  have hX : a + 9 + Fr.ln (bh s a) ≤ s.size := by omega
  have hb := bs_toData _ _ (body_ext s a _ hX rfl)
  have hsz : (bs (Fr.kd (bh s a) :: Fr.pl (bh s a))).size ≤ 140737488351232 := by
    rw [← hb, ByteArray.size_extract]; omega
  have hS : ∀ w', Below w.heap.size w w' → Calls Tryd.prog 30 #[.string (bs (Fr.kd (bh s a) :: Fr.pl (bh s a))), .int .u32 (Fr.cs (bh s a) : Nat)] w' fun e w'' => e = .returned (.bool (Fr.ck (Fr.kd (bh s a) :: Fr.pl (bh s a)) == Fr.cs (bh s a))) ∧ w' = w'' := fun w' hw =>
    same_any _ _ w' hsz (Lib.hid (hT.out.below hw))
  by_cases h3 : Fr.cs (bh s a) ≠ Fr.ck (Fr.kd (bh s a) :: Fr.pl (bh s a))
  · rw [if_pos h3] at hE; subst hE
    rw [show (Fr.ck (Fr.kd (bh s a) :: Fr.pl (bh s a)) == Fr.cs (bh s a)) = false by rw [beq_eq_false_iff_ne]; exact fun h => h3 h.symm] at hS
    exact read_sum s a _ _ _ w hs h9' c1 c2 (by omega) rfl hX (cs_lt _) _ hb hS
  rw [if_neg h3] at hE
  rw [show (Fr.ck (Fr.kd (bh s a) :: Fr.pl (bh s a)) == Fr.cs (bh s a)) = true by rw [beq_iff_eq]; exact (Classical.not_not.1 h3).symm] at hS
  by_cases h4 : (Fr.kd (bh s a)).toNat < 1 ∨ 3 < (Fr.kd (bh s a)).toNat
  · rw [if_pos h4] at hE; subst hE
    exact read_kind s a _ _ _ w hs h9' c1 c2 (by omega) rfl hX (cs_lt _) _ hb hS (by rw [bs_size]; simp) (Fr.kd (bh s a)) rfl (by omega)
  · rw [if_neg h4] at hE
    exact absurd hE.symm h0
theorem read_ok (s : ByteArray) (a : Nat) (hg : Fr.Good (bh s a)) (w : World) (hs : s.size ≤ 140737488351232) (hT : Hid (Tab w)) :
    Calls Tryd.prog 12 #[.string s, .int .i64 (a : Int)] w (Ret w (.tuple #[fv ((Fr.kd (bh s a)).toNat : Nat) (bs (Fr.pl (bh s a))) (a : Int), .int .i64 ((a + 9 + Fr.ln (bh s a) : Nat) : Int), .int .i64 0])) := by
  have hl := bh_length s a
  have hn := hg.nine
  have hw := hg.whole
  have hm := hg.most
  have h9' : a + 9 ≤ s.size := by omega
  have c1 := fx_ln s a hs h9'
  have c2 := fx_cs s a hs h9'
  have hX : a + 9 + Fr.ln (bh s a) ≤ s.size := by omega
  have hb := bs_toData _ _ (body_ext s a _ hX rfl)
  have hsz : (bs (Fr.kd (bh s a) :: Fr.pl (bh s a))).size ≤ 140737488351232 := by
    rw [← hb, ByteArray.size_extract]; omega
  have hS : ∀ w', Below w.heap.size w w' → Calls Tryd.prog 30 #[.string (bs (Fr.kd (bh s a) :: Fr.pl (bh s a))), .int .u32 (Fr.cs (bh s a) : Nat)] w' fun e w'' => e = .returned (.bool (Fr.ck (Fr.kd (bh s a) :: Fr.pl (bh s a)) == Fr.cs (bh s a))) ∧ w' = w'' := fun w' hw =>
    same_any _ _ w' hsz (Lib.hid (hT.out.below hw))
  rw [show (Fr.ck (Fr.kd (bh s a) :: Fr.pl (bh s a)) == Fr.cs (bh s a)) = true by rw [beq_iff_eq]; exact hg.sum.symm] at hS
  refine read_right s a _ _ _ w hs h9' c1 c2 hm rfl hX (cs_lt _) _ hb hS (by rw [bs_size]; simp) (Fr.kd (bh s a)) rfl hg.kind (bs (Fr.pl (bh s a))) ?_
  refine bs_toData _ _ ?_
  rw [ext_toList, bs_data, bs_size, List.take_length]
  rfl
end Go.Proofs.YtkbifmgddbilmaaDoor
