/- frame.Read where the checksum, or the kind, is wrong, and where it reads. -/
import Derived.Test.YtieemdcoomilaaaGreatDoorPu
import Derived.BigRegion
import Derived.BigQuiet
import Derived.Deep.RegionWith
import Derived.Deep.RegionHeld3
import Derived.Laws.MakeOwn
set_option linter.unusedVariables false
set_option linter.unusedSimpArgs false
namespace Go.Proofs.YtieemdcoomilaaaGreatDoor
open Go Go.RowKit
set_option maxRecDepth 100000
theorem isKind_any (k : UInt8) (w : World) :
    Calls Tryz.prog 90 #[.int .u8 k.toNat] w fun e w' => e = .returned (.bool (decide (1 ≤ k.toNat ∧ k.toNat ≤ 3))) ∧ w = w' := by
  have hk := k.toNat_lt
  by_cases h : 1 ≤ k.toNat
  · go_enter Tryz.func90, Tryz.ntmps90
    go_wp2
    go_ret
    exact ⟨by simp [h]; omega, rfl⟩
  · go_enter Tryz.func90, Tryz.ntmps90
    go_wp2
    go_ret
    exact ⟨by simp [h], rfl⟩
set_option maxHeartbeats 1000000 in
theorem read_sum (s : ByteArray) (a n c X : Nat) (w : World) (hs : s.size ≤ 140737488351232) (h9 : a + 9 ≤ s.size) (h1 : Fx s a n (a + 4)) (h2 : Fx s (a + 4) c (a + 8)) (hn : n ≤ 262144) (hX : a + 9 + n = X) (hc : X ≤ s.size) (hc4 : c < 4294967296) (T : ByteArray) (hT : s.extract (a + 8) X = T)
    (hS : ∀ w', Below w.heap.size w w' → Calls Tryz.prog 132 #[.string T, .int .u32 c] w' fun e w'' => e = .returned (.bool false) ∧ w' = w'') :
    Calls Tryz.prog 111 #[.string s, .int .i64 a] w (Ret w (noV 42)) := by
  have hd : decide (0 ≤ (a : Int) ∧ (a : Int) ≤ (s.size : Int)) = true := decide_eq_true (by omega)
  have H1 := Lib.hid h1
  have H2 := Lib.hid h2
  have HS := Lib.hid (hS (w.alloc (.cells #[.int .u8 0, .string ⟨#[]⟩, .int .i64 0] 145)) (below_one _ _))
  have e1 : (a : Int) + 9 + (n : Int) = (X : Int) := by omega
  have hX1 : a + 8 ≤ X := by omega
  clear h1 h2 hS hX
  go_enter Tryz.func111, Tryz.ntmps111
  go_wp2_with (go_at_call 130; refine (fplace_any _ _ _).mono ?_; rintro e w' ⟨rfl, rfl⟩; simp only [hd])
  refine (H1.out _).mono ?_
  rintro e w' ⟨rfl, rfl⟩
  go_wp2_with fail
  refine (H2.out _).mono ?_
  rintro e w' ⟨rfl, rfl⟩
  go_wp2_with fail
  refine HS.out.mono ?_
  rintro e w' ⟨rfl, rfl⟩
  go_wp2
  exact ret3 Tryz.results111 tri24 w.heap.size rfl rfl rfl rfl (heap_alloc_new w _) ⟨rfl, below_one _ _⟩
set_option maxHeartbeats 1000000 in
theorem read_kind (s : ByteArray) (a n c X : Nat) (w : World) (hs : s.size ≤ 140737488351232) (h9 : a + 9 ≤ s.size) (h1 : Fx s a n (a + 4)) (h2 : Fx s (a + 4) c (a + 8)) (hn : n ≤ 262144) (hX : a + 9 + n = X) (hc : X ≤ s.size) (hc4 : c < 4294967296) (T : ByteArray) (hT : s.extract (a + 8) X = T)
    (hS : ∀ w', Below w.heap.size w w' → Calls Tryz.prog 132 #[.string T, .int .u32 c] w' fun e w'' => e = .returned (.bool true) ∧ w' = w'') (hz : 0 < T.size) (k : UInt8) (hk : T[0] = k) (hkk : ¬ (1 ≤ k.toNat ∧ k.toNat ≤ 3)) :
    Calls Tryz.prog 111 #[.string s, .int .i64 a] w (Ret w (noV 4)) := by
  have hd : decide (0 ≤ (a : Int) ∧ (a : Int) ≤ (s.size : Int)) = true := decide_eq_true (by omega)
  have H1 := Lib.hid h1
  have H2 := Lib.hid h2
  have HS := Lib.hid (hS (w.alloc (.cells #[.int .u8 0, .string ⟨#[]⟩, .int .i64 0] 145)) (below_one _ _))
  have e1 : (a : Int) + 9 + (n : Int) = (X : Int) := by omega
  have hX1 : a + 8 ≤ X := by omega
  have HK := fun w => Lib.hid (isKind_any k w)
  rw [decide_eq_false hkk] at HK
  have HK := Lib.hid HK
  clear h1 h2 hS hX
  go_enter Tryz.func111, Tryz.ntmps111
  go_wp2_with (go_at_call 130; refine (fplace_any _ _ _).mono ?_; rintro e w' ⟨rfl, rfl⟩; simp only [hd])
  refine (H1.out _).mono ?_
  rintro e w' ⟨rfl, rfl⟩
  go_wp2_with fail
  refine (H2.out _).mono ?_
  rintro e w' ⟨rfl, rfl⟩
  go_wp2_with fail
  refine HS.out.mono ?_
  rintro e w' ⟨rfl, rfl⟩
  go_wp2_with fail
  refine (HK.out _).out.mono ?_
  rintro e w' ⟨rfl, rfl⟩
  go_wp2
  exact ret3 Tryz.results111 tri24 w.heap.size rfl rfl rfl rfl (heap_alloc_new w _) ⟨rfl, below_one _ _⟩
set_option maxHeartbeats 1000000 in
theorem read_right (s : ByteArray) (a n c X : Nat) (w : World) (hs : s.size ≤ 140737488351232) (h9 : a + 9 ≤ s.size) (h1 : Fx s a n (a + 4)) (h2 : Fx s (a + 4) c (a + 8)) (hn : n ≤ 262144) (hX : a + 9 + n = X) (hc : X ≤ s.size) (hc4 : c < 4294967296) (T : ByteArray) (hT : s.extract (a + 8) X = T)
    (hS : ∀ w', Below w.heap.size w w' → Calls Tryz.prog 132 #[.string T, .int .u32 c] w' fun e w'' => e = .returned (.bool true) ∧ w' = w'') (hz : 0 < T.size) (k : UInt8) (hk : T[0] = k) (hkk : 1 ≤ k.toNat ∧ k.toNat ≤ 3) (Q : ByteArray) (hQ : T.extract 1 T.size = Q) :
    Calls Tryz.prog 111 #[.string s, .int .i64 a] w (Ret w (.tuple #[fv k.toNat Q a, .int .i64 X, .int .i64 0])) := by
  have hd : decide (0 ≤ (a : Int) ∧ (a : Int) ≤ (s.size : Int)) = true := decide_eq_true (by omega)
  have H1 := Lib.hid h1
  have H2 := Lib.hid h2
  have HS := Lib.hid (hS (w.alloc (.cells #[.int .u8 0, .string ⟨#[]⟩, .int .i64 0] 145)) (below_one _ _))
  have e1 : (a : Int) + 9 + (n : Int) = (X : Int) := by omega
  have hX1 : a + 8 ≤ X := by omega
  have HK := fun w => Lib.hid (isKind_any k w)
  rw [decide_eq_true hkk] at HK
  have HK := Lib.hid HK
  clear h1 h2 hS hX
  go_enter Tryz.func111, Tryz.ntmps111
  go_wp2_with (go_at_call 130; refine (fplace_any _ _ _).mono ?_; rintro e w' ⟨rfl, rfl⟩; simp only [hd])
  refine (H1.out _).mono ?_
  rintro e w' ⟨rfl, rfl⟩
  go_wp2_with fail
  refine (H2.out _).mono ?_
  rintro e w' ⟨rfl, rfl⟩
  go_wp2_with fail
  refine HS.out.mono ?_
  rintro e w' ⟨rfl, rfl⟩
  go_wp2_with fail
  refine (HK.out _).out.mono ?_
  rintro e w' ⟨rfl, rfl⟩
  go_wp2
  go_region
  go_wp2
  exact ret3 Tryz.results111 tri24 w.heap.size rfl rfl rfl rfl (heap_alloc_new w _) ⟨rfl, Below.drew (below_one _ _)⟩
end Go.Proofs.YtieemdcoomilaaaGreatDoor
namespace Go.Proofs.YtieemdcoomilaaaGreatDoor
open Go Go.RowKit
set_option maxRecDepth 100000
/-- The bytes from a place on. -/
abbrev bh (s : ByteArray) (a : Nat) : List UInt8 := s.data.toList.drop a
/-- How the frame at a place is refused; 0: it is not. -/
def er1 (s : ByteArray) (at' : Int) : Nat := if 0 ≤ at' ∧ at' ≤ (s.size : Int) then Fr.er (bh s at'.toNat) else 1
theorem er1_at (s : ByteArray) (a : Nat) (h : a ≤ s.size) : er1 s (a : Int) = Fr.er (bh s a) := by
  unfold er1
  rw [if_pos ⟨by omega, by omega⟩]; rfl
theorem er1_out (s : ByteArray) (at' : Int) (h : at' < 0 ∨ (s.size : Int) < at') : er1 s at' = 1 := by
  unfold er1
  rw [if_neg (by omega)]
theorem bh_length (s : ByteArray) (a : Nat) : (bh s a).length = s.size - a := by simp [bh]
theorem fat_drop (l : List UInt8) (a b z : Nat) : Bt.fat (l.drop a) b z = Bt.fat l (a + b) z := by
  unfold Bt.fat; rw [List.drop_drop]
theorem fx_one (s : ByteArray) (a : Nat) (hs : s.size ≤ 140737488351232) (h : a + 4 ≤ s.size) : Fx s a (Bt.fat s.data.toList a 4) (a + 4) := fun w => fixed_ok4 s a w h hs
theorem fx_ln (s : ByteArray) (a : Nat) (hs : s.size ≤ 140737488351232) (h : a + 9 ≤ s.size) : Fx s a (Fr.ln (bh s a)) (a + 4) := by
  have := fx_one s a hs (by omega)
  unfold Fr.ln
  rw [fat_drop]; exact this
theorem fx_cs (s : ByteArray) (a : Nat) (hs : s.size ≤ 140737488351232) (h : a + 9 ≤ s.size) : Fx s (a + 4) (Fr.cs (bh s a)) (a + 8) := by
  have := fx_one s (a + 4) hs (by omega)
  unfold Fr.cs
  rw [fat_drop]; exact this
theorem cs_lt (l : List UInt8) : Fr.cs l < 4294967296 := Nat.lt_of_lt_of_le Bt.fat_lt (by decide)
theorem ext_toList (s : ByteArray) (a b : Nat) : (s.extract a b).data.toList = (s.data.toList.take b).drop a := by
  rw [List.drop_take]; simp [ByteArray.data_extract]
/-- The kind and the payload, in the bytes. -/
theorem body_ext (s : ByteArray) (a n : Nat) (h : a + 9 + n ≤ s.size) (hn : n = Fr.ln (bh s a)) : (s.extract (a + 8) (a + 9 + n)).data.toList = Fr.kd (bh s a) :: Fr.pl (bh s a) := by
  rw [ext_toList, List.drop_take, show a + 9 + n - (a + 8) = n + 1 by omega]
  have h9 : 9 ≤ (bh s a).length := by rw [bh_length]; omega
  have e := Fr.kd_drop h9
  rw [List.drop_drop] at e
  rw [e, List.take_succ_cons]
  unfold Fr.pl
  rw [← hn]
theorem bs_toData (T : ByteArray) (l : List UInt8) (h : T.data.toList = l) : T = bs l := by rw [← h]; exact (bs_of T).symm
theorem read_bad (s : ByteArray) (at' : Int) (E : Nat) (hE : er1 s at' = E) (h0 : E ≠ 0) (w : World) (hs : s.size ≤ 140737488351232) (hT : Hid (Tab w)) :
    Calls Tryz.prog 111 #[.string s, .int .i64 at'] w (Ret w (noV E)) := by
  by_cases hp : at' < 0 ∨ (s.size : Int) < at'
  · rw [er1_out s at' hp] at hE
    subst hE
    exact read_arg s at' w hp
  obtain ⟨a, rfl⟩ := Int.eq_ofNat_of_zero_le (a := at') (by omega)
  have ha : a ≤ s.size := by omega
  rw [er1_at s a ha] at hE
  by_cases h9 : s.size < a + 9
  · have : Fr.er (bh s a) = 8 := by unfold Fr.er; rw [if_pos (by rw [bh_length]; omega)]
    rw [this] at hE; subst hE
    exact read_nine s a w hs ha h9
  have h9' : a + 9 ≤ s.size := by omega
  have c1 := fx_ln s a hs h9'
  have c2 := fx_cs s a hs h9'
  have hl := bh_length s a
  unfold Fr.er at hE
  rw [if_neg (by omega)] at hE
  by_cases h1 : 262144 < Fr.ln (bh s a)
  · rw [if_pos h1] at hE; subst hE
    exact read_large s a _ _ w hs h9' c1 c2 h1
  rw [if_neg h1] at hE
  by_cases h2 : (bh s a).length < 9 + Fr.ln (bh s a)
  · rw [if_pos h2] at hE; subst hE
    exact read_cut s a _ _ w hs h9' c1 c2 (by omega) (by omega)
  rw [if_neg h2] at hE
  have hX : a + 9 + Fr.ln (bh s a) ≤ s.size := by omega
  have hb := bs_toData _ _ (body_ext s a _ hX rfl)
  have hsz : (bs (Fr.kd (bh s a) :: Fr.pl (bh s a))).size ≤ 140737488351232 := by
    rw [← hb, ByteArray.size_extract]; omega
  have hS : ∀ w', Below w.heap.size w w' → Calls Tryz.prog 132 #[.string (bs (Fr.kd (bh s a) :: Fr.pl (bh s a))), .int .u32 (Fr.cs (bh s a) : Nat)] w' fun e w'' => e = .returned (.bool (Fr.ck (Fr.kd (bh s a) :: Fr.pl (bh s a)) == Fr.cs (bh s a))) ∧ w' = w'' := fun w' hw =>
    same_any _ _ w' hsz (Lib.hid (hT.out.below hw))
  by_cases h3 : Fr.cs (bh s a) ≠ Fr.ck (Fr.kd (bh s a) :: Fr.pl (bh s a))
  · rw [if_pos h3] at hE; subst hE
    rw [show (Fr.ck (Fr.kd (bh s a) :: Fr.pl (bh s a)) == Fr.cs (bh s a)) = false by rw [beq_eq_false_iff_ne]; exact fun h => h3 h.symm] at hS
    exact read_sum s a _ _ _ w hs h9' c1 c2 (by omega) rfl hX (cs_lt _) _ hb hS
  rw [if_neg h3] at hE
  rw [show (Fr.ck (Fr.kd (bh s a) :: Fr.pl (bh s a)) == Fr.cs (bh s a)) = true by rw [beq_iff_eq]; exact (Classical.not_not.1 h3).symm] at hS
  by_cases h4 : (Fr.kd (bh s a)).toNat < 1 ∨ 3 < (Fr.kd (bh s a)).toNat
  · rw [if_pos h4] at hE; subst hE
    exact read_kind s a _ _ _ w hs h9' c1 c2 (by omega) rfl hX (cs_lt _) _ hb hS (by rw [bs_size]; simp) (Fr.kd (bh s a)) rfl (by omega)
  · rw [if_neg h4] at hE
    exact absurd hE.symm h0
theorem read_ok (s : ByteArray) (a : Nat) (hg : Fr.Good (bh s a)) (w : World) (hs : s.size ≤ 140737488351232) (hT : Hid (Tab w)) :
    Calls Tryz.prog 111 #[.string s, .int .i64 (a : Int)] w (Ret w (.tuple #[fv ((Fr.kd (bh s a)).toNat : Nat) (bs (Fr.pl (bh s a))) (a : Int), .int .i64 ((a + 9 + Fr.ln (bh s a) : Nat) : Int), .int .i64 0])) := by
  have hl := bh_length s a
  have hn := hg.nine
  have hw := hg.whole
  have hm := hg.most
  have h9' : a + 9 ≤ s.size := by omega
  have c1 := fx_ln s a hs h9'
  have c2 := fx_cs s a hs h9'
  have hX : a + 9 + Fr.ln (bh s a) ≤ s.size := by omega
  have hb := bs_toData _ _ (body_ext s a _ hX rfl)
  have hsz : (bs (Fr.kd (bh s a) :: Fr.pl (bh s a))).size ≤ 140737488351232 := by
    rw [← hb, ByteArray.size_extract]; omega
  have hS : ∀ w', Below w.heap.size w w' → Calls Tryz.prog 132 #[.string (bs (Fr.kd (bh s a) :: Fr.pl (bh s a))), .int .u32 (Fr.cs (bh s a) : Nat)] w' fun e w'' => e = .returned (.bool (Fr.ck (Fr.kd (bh s a) :: Fr.pl (bh s a)) == Fr.cs (bh s a))) ∧ w' = w'' := fun w' hw =>
    same_any _ _ w' hsz (Lib.hid (hT.out.below hw))
  rw [show (Fr.ck (Fr.kd (bh s a) :: Fr.pl (bh s a)) == Fr.cs (bh s a)) = true by rw [beq_iff_eq]; exact hg.sum.symm] at hS
  refine read_right s a _ _ _ w hs h9' c1 c2 hm rfl hX (cs_lt _) _ hb hS (by rw [bs_size]; simp) (Fr.kd (bh s a)) rfl hg.kind (bs (Fr.pl (bh s a))) ?_
  refine bs_toData _ _ ?_
  rw [ext_toList, bs_data, bs_size, List.take_length]
  rfl
end Go.Proofs.YtieemdcoomilaaaGreatDoor
namespace Go.Proofs.YtieemdcoomilaaaGreatDoor
open Go Go.RowKit
set_option maxRecDepth 100000
/-- How many bytes a frame has. -/
def fsz (n : Int) : Int := if n < 0 ∨ 262144 < n then 0 else n + 9
theorem size_any (n : Int) (w : World) : Calls Tryz.prog 91 #[.int .i64 n] w fun e w' => e = .returned (.int .i64 (fsz n)) ∧ w = w' := by
  by_cases h : n < 0
  · go_enter Tryz.func91, Tryz.ntmps91
    go_wp2
    go_ret
    exact ⟨ret_i64 (by unfold fsz; rw [if_pos (by omega)]), rfl⟩
  · by_cases h2 : 262144 < n
    · go_enter Tryz.func91, Tryz.ntmps91
      go_wp2
      go_ret
      exact ⟨ret_i64 (by unfold fsz; rw [if_pos (by omega)]), rfl⟩
    · go_enter Tryz.func91, Tryz.ntmps91
      go_wp2
      go_ret
      exact ⟨ret_i64 (by unfold fsz; rw [if_neg (by omega)]; omega), rfl⟩
abbrev noM (E : Nat) : Value := .tuple #[.string ⟨#[]⟩, .int .i64 (E : Int)]
theorem make_arg (k : UInt8) (p : ByteArray) (hk : ¬ (1 ≤ k.toNat ∧ k.toNat ≤ 3)) (w : World) :
    Calls Tryz.prog 54 #[.int .u8 k.toNat, .string p] w (Ret w (noM 1)) := by
  have HK := fun w => Lib.hid (isKind_any k w)
  rw [decide_eq_false hk] at HK
  have HK := Lib.hid HK
  clear hk
  go_enter Tryz.func54, Tryz.ntmps54
  go_wp2_with fail
  refine (HK.out _).out.mono ?_
  rintro e w' ⟨rfl, rfl⟩
  go_wp2
  go_ret2
  exact ⟨rfl, Below.refl _ _⟩
theorem make_large (k : UInt8) (p : ByteArray) (hk : 1 ≤ k.toNat ∧ k.toNat ≤ 3) (hp : 262144 < p.size) (w : World) :
    Calls Tryz.prog 54 #[.int .u8 k.toNat, .string p] w (Ret w (noM 40)) := by
  have HK := fun w => Lib.hid (isKind_any k w)
  rw [decide_eq_true hk] at HK
  have HK := Lib.hid HK
  clear hk
  go_enter Tryz.func54, Tryz.ntmps54
  go_wp2_with fail
  refine (HK.out _).out.mono ?_
  rintro e w' ⟨rfl, rfl⟩
  go_wp2
  go_ret2
  exact ⟨rfl, Below.refl _ _⟩
/-- What a new row of bytes lies in. -/
def mkObj (c : Nat) : Obj := .cells (madeCells (Value.int .u8 0).cells c) 5
theorem made_row (c : Nat) (hc : c ≤ 1000000) (W : World) : (Instr.makeSlice 92 (.int .i64 0) (.int .i64 (c : Int))).run Tryz.prog W = .ok (.slice (some ⟨W.heap.size, 0, none⟩) 0 c) (W.alloc (mkObj c)) := by
  obtain ⟨i0, hi, hz0, hz1, hz2⟩ := info_parts Tryz.info5
  have h := run_make (P := Tryz.prog) W 92 5 i0 (.int .u8 0) Tryz.underlying92 hi hz0 .i64 .i64 0 (c : Int) (by omega) (by omega) (by rw [hz2]; omega) (by omega)
  rw [hz1, Int.toNat_natCast, Nat.mul_one] at h
  exact h
theorem made_own (c : Nat) (hc : c ≤ 1000000) (W : World) (base : Nat) (hb : base ≤ W.heap.size) : Own (W.alloc (mkObj c)) base (.slice (some ⟨W.heap.size, 0, none⟩) 0 c) [] := by
  have h := Own.made W base 5 [] (madeCells (Value.int .u8 0).cells c) hb (by rw [size_madeCells]; simp [maxLen]; omega)
  rw [size_madeCells] at h
  simpa [mkObj] using h
theorem bs_cons_of (k : UInt8) (p : ByteArray) : bs [k] ++ p = bs (k :: p.data.toList) := by
  have h := bs_append [k] p.data.toList
  rw [bs_of] at h
  exact h
set_option maxHeartbeats 2000000 in
theorem make_in (k : UInt8) (p B : ByteArray) (n C M : Nat) (hn : p.size = n) (hk : 1 ≤ k.toNat ∧ k.toNat ≤ 3) (hp : n ≤ 262144) (hB : bs [k] ++ p = B) (hBs : B.size = n + 1) (w : World)
    (hO : ∀ w', Below w.heap.size w w' → Calls Tryz.prog 94 #[.string B] w' fun e w'' => e = .returned (.int .u32 (C : Int)) ∧ w' = w'')
    (hM : ∀ w', Calls Tryz.prog 93 #[.int .u32 (C : Int)] w' fun e w'' => e = .returned (.int .u32 (M : Int)) ∧ w' = w'') (hM4 : M < 4294967296) :
    Calls Tryz.prog 54 #[.int .u8 k.toNat, .string p] w (Ret w (.tuple #[.string (bs (Bt.fx 4 n ++ (Bt.fx 4 M ++ B.data.toList))), .int .i64 0])) := by
  have HK := fun w => Lib.hid (isKind_any k w)
  rw [decide_eq_true hk] at HK
  have HK := Lib.hid HK
  have hcv := run_string_one k (k.toNat : Int) rfl
  have hk8 := k.toNat_lt
  have HO := Lib.hid hO
  have HM := Lib.hid hM
  have hz := size_any (n : Int)
  rw [show fsz (n : Int) = ((n + 9 : Nat) : Int) by unfold fsz; rw [if_neg (by omega)]; omega] at hz
  have HZ := Lib.hid hz
  have hmk : ∀ W : World, (Instr.makeSlice 92 (.int .i64 0) (.int .i64 ((n : Int) + 9))).run Tryz.prog W = .ok (.slice (some ⟨W.heap.size, 0, none⟩) 0 (n + 9)) (W.alloc (mkObj (n + 9))) := fun W => by
    have h := made_row (n + 9) (by omega) W
    rw [show ((n + 9 : Nat) : Int) = (n : Int) + 9 from by omega] at h
    exact h
  have hmw : IntKind.u64.wrap (M : Int) = (M : Int) := by rw [IntKind.wrap_u64]; omega
  obtain ⟨i0, hi, hz0, hz1, hz2⟩ := info_parts Tryz.info5
  have hs1 : (bs [k]).size = 1 := rfl
  clear hO hM hz hk
  have HW1 : Hid (Own ((w.alloc (.cells #[.int .u8 k.toNat] 5)).alloc (mkObj (n + 9))) (w.heap.size + 1) (.slice (some ⟨w.heap.size + 1, 0, none⟩) 0 (n + 9)) []) := by
    have h := made_own (n + 9) (by omega) (w.alloc (.cells #[.int .u8 k.toNat] 5)) (w.heap.size + 1) (by simp)
    rw [World.size_alloc] at h
    exact Lib.hid h
  generalize bs [k] = K1 at *
  go_enter Tryz.func54, Tryz.ntmps54
  go_wp2_with fail
  refine (HK.out _).out.mono ?_
  rintro e w' ⟨rfl, rfl⟩
  go_wp2_with fail
  refine (HZ.out _).mono ?_
  rintro e w' ⟨rfl, rfl⟩
  go_wp2_with fail
  refine (putFixed_4 n (w.heap.size + 1) _ [] _ HW1.out (by simp) (by simp)).mono ?_
  rintro e w1 ⟨v1, rfl, hO1, hS1⟩
  have HO1 := Lib.hid hO1; have HS1 := Lib.hid hS1
  clear hO1 hS1
  have HBl : Hid (Below w.heap.size w w1) := by
    refine Lib.hid ?_
    have h0 : Below w.heap.size w ((w.alloc (.cells #[.int .u8 k.toNat] 5)).alloc (mkObj (n + 9))) := ((Below.refl _ _).alloc (Nat.le_refl _) _).alloc (by simp) _
    exact h0.trans (HS1.out.below (by simp; omega) (fun g hg => by cases hg; exact Nat.le_succ _))
  go_wp2_with fail
  refine (HO.out _ HBl.out).mono ?_
  rintro e w' ⟨rfl, rfl⟩
  go_wp2_with fail
  refine (HM.out _).mono ?_
  rintro e w' ⟨rfl, rfl⟩
  go_wp2_with fail
  refine (putFixed_4 M (w.heap.size + 1) _ _ _ HO1.out (by have := HS1.out.grown.size; simp at this; omega) (by simp [Bt.fx_length])).mono ?_
  rintro e w2 ⟨v2, rfl, hO2, hS2⟩
  have HO2 := Lib.hid hO2; have HS2 := Lib.hid hS2
  clear hO2 hS2
  have HB2 : Hid (Below w.heap.size w w2) := Lib.hid (HBl.out.trans (HS2.out.below HBl.out.size (fun g hg => by have := (HO1.out.lt g hg).1; omega)))
  have HL : Hid ((([] ++ Bt.fx 4 n ++ Bt.fx 4 M).map bv).length = 8) := Lib.hid (by simp [Bt.fx_length])
  have hsz2 : Hid (w.heap.size + 1 ≤ w2.heap.size) := Lib.hid (by have h1 := HS1.out.grown.size; have h2 := HS2.out.grown.size; simp at h1; omega)
  go_wp2_with (at_builtin; refine wpList_append_Own _ rfl (.tmp 34) (.tmp 35) 92 9 rfl (w.heap.size + 1) 5 i0 (.int .u8 0) 1 Tryz.underlying92 hi hz0 hz1 hz2 rfl v2 (([] ++ Bt.fx 4 n ++ Bt.fx 4 M).map bv) rfl HO2.out _ B.size _ rfl (Src.ofString _ Tryz.underlying9 B) ?c1 ?c2 ?c3 ?_; rotate_right; intro v' w3 hown1 hgr hwh; have HO3 := Lib.hid hown1; have HG := Lib.hid hgr; have HH := Lib.hid hwh; clear hown1 hgr hwh)
  case c1 => rw [HL.out]; omega
  case c2 => rw [HL.out]; omega
  case c3 => exact hsz2.out
  have hr := run_string_Own w3 (w.heap.size + 1) 92 9 5 v' ([] ++ Bt.fx 4 n ++ Bt.fx 4 M ++ B.data.toList) (by have h := HO3.out; rw [List.map_append]; exact h) Tryz.underlying92 Tryz.underlying5 Tryz.underlying9
  rw [List.nil_append, List.append_assoc] at hr
  have hr : Sem.run Tryz.prog (convert 92 9 v') w3 = .ok (.string (bs (Bt.fx 4 n ++ (Bt.fx 4 M ++ B.data.toList)))) w3 := hr
  have HB3 : Hid (Below w.heap.size w w3) := Lib.hid (HB2.out.trans ((Step.mk HG.out HH.out).below HB2.out.size (fun g hg => by have := (HO2.out.lt g hg).1; omega)))
  generalize bs (Bt.fx 4 n ++ (Bt.fx 4 M ++ B.data.toList)) = F at *
  simp only [hr, Result.andThen]
  go_simp
  go_wp2
  go_ret2
  exact ⟨rfl, HB3.out⟩
theorem make_ok (k : UInt8) (p : ByteArray) (hk : 1 ≤ k.toNat ∧ k.toNat ≤ 3) (hp : p.size ≤ 262144) (w : World) (hT : Hid (Tab w)) :
    Calls Tryz.prog 54 #[.int .u8 k.toNat, .string p] w (Ret w (.tuple #[.string (bs (Fr.frm k p.data.toList)), .int .i64 0])) := by
  have hB := bs_cons_of k p
  have hBs : (bs (k :: p.data.toList)).size = p.size + 1 := by rw [bs_size]; simp
  have h := make_in k p _ p.size (Sm.add 0 (k :: p.data.toList)) (Sm.mask (Sm.add 0 (k :: p.data.toList))) rfl hk hp hB hBs w
    (fun w' hw => of_any (bs (k :: p.data.toList)) w' (by rw [hBs]; omega) (Lib.hid (hT.out.below hw))) (fun w' => mask_any _ w' (Sm.add_lt (by omega) _)) (Sm.mask_lt _)
  exact h
end Go.Proofs.YtieemdcoomilaaaGreatDoor
