/- The document's Read, where the kind is wrong, and where it reads. -/
import Derived.Test.YtkbifmgddbilmaaDoorFd
namespace Go.Proofs.YtkbifmgddbilmaaDoor
open Go Go.RowKit
set_option maxRecDepth 100000
set_option maxHeartbeats 1000000 in
theorem rread_kind (s : ByteArray) (a n c C M X : Nat) (w : World) (hs : s.size ≤ 140737488351232) (h9 : a + 9 ≤ s.size) (h1 : Nx s a n) (h2 : Nx s (a + 4) c) (hn : n ≤ 262144) (hX : a + 9 + n = X) (hc : X ≤ s.size) (T : ByteArray) (hT : s.extract (a + 8) X = T) (hM4 : M < 4294967296)
    (hS : ∀ w', Calls Tryd.prog 34 #[.string T] w' fun e w'' => e = .returned (.int .u32 (C : Int)) ∧ w' = w'')
    (hM : ∀ w', Calls Tryd.prog 33 #[.int .u32 (C : Int)] w' fun e w'' => e = .returned (.int .u32 (M : Int)) ∧ w' = w'') (he : (c : Int) = (M : Int)) (k : UInt8) (hk : s[a + 8] = k) (hkk : k.toNat < 1 ∨ 3 < k.toNat) :
    Calls Tryd.prog 13 #[.string s, .int .i64 (a : Int)] w (Ret w (noV 4)) := by
  have H1 := Lib.hid h1
  have H2 := Lib.hid h2
  have HS := Lib.hid hS
  have HM := Lib.hid hM
  have e1 : (a : Int) + 9 + (n : Int) = (X : Int) := by omega
  obtain ⟨D, hD⟩ : ∃ D : Nat, (s.size : Int) - a - 9 = (D : Int) := ⟨s.size - a - 9, by omega⟩
  have hD2 : n ≤ D := by omega
  have hX1 : a + 8 ≤ X := by omega
  have hmw : IntKind.u64.wrap (M : Int) = (M : Int) := by rw [IntKind.wrap_u64]; omega
  have hX2 : a + 9 ≤ X := by omega
  obtain rfl : M = c := by omega
  clear h1 h2 hS hM hX he
  have hk8 := k.toNat_lt
  by_cases hk1 : k.toNat < 1
  · clear hkk
    go_enter Tryd.func13, Tryd.ntmps13
    go_wp2_with fail
    refine (H1.out _).mono ?_
    rintro e w' ⟨rfl, rfl⟩
    go_wp2_with fail
    go_big_quiet (first | (go_at_call 32; exact Calls.quiet_of_same ((H2.out _).mono fun _ _ h => ⟨h.1, h.2.symm⟩)) | (go_at_call 34; exact Calls.quiet_of_same ((HS.out _).mono fun _ _ h => ⟨h.1, h.2.symm⟩)) | (go_at_call 33; exact Calls.quiet_of_same ((HM.out _).mono fun _ _ h => ⟨h.1, h.2.symm⟩)))
    go_wp2
    exact ret3 Tryd.results13 tri28 w.heap.size rfl rfl rfl rfl (set3 _ _ _ (heap_alloc_new w _)) ⟨rfl, below_set3 (below_drewN _ (below_one _ _)) (Nat.le_refl _) _ _ _⟩
  · have hk3 : 3 < k.toNat := by omega
    clear hkk
    go_enter Tryd.func13, Tryd.ntmps13
    go_wp2_with fail
    refine (H1.out _).mono ?_
    rintro e w' ⟨rfl, rfl⟩
    go_wp2_with fail
    go_big_quiet (first | (go_at_call 32; exact Calls.quiet_of_same ((H2.out _).mono fun _ _ h => ⟨h.1, h.2.symm⟩)) | (go_at_call 34; exact Calls.quiet_of_same ((HS.out _).mono fun _ _ h => ⟨h.1, h.2.symm⟩)) | (go_at_call 33; exact Calls.quiet_of_same ((HM.out _).mono fun _ _ h => ⟨h.1, h.2.symm⟩)))
    go_wp2
    exact ret3 Tryd.results13 tri28 w.heap.size rfl rfl rfl rfl (set3 _ _ _ (heap_alloc_new w _)) ⟨rfl, below_set3 (below_drewN _ (below_one _ _)) (Nat.le_refl _) _ _ _⟩
set_option maxHeartbeats 1000000 in
theorem rread_right (s : ByteArray) (a n c C M X : Nat) (w : World) (hs : s.size ≤ 140737488351232) (h9 : a + 9 ≤ s.size) (h1 : Nx s a n) (h2 : Nx s (a + 4) c) (hn : n ≤ 262144) (hX : a + 9 + n = X) (hc : X ≤ s.size) (T : ByteArray) (hT : s.extract (a + 8) X = T) (hM4 : M < 4294967296)
    (hS : ∀ w', Calls Tryd.prog 34 #[.string T] w' fun e w'' => e = .returned (.int .u32 (C : Int)) ∧ w' = w'')
    (hM : ∀ w', Calls Tryd.prog 33 #[.int .u32 (C : Int)] w' fun e w'' => e = .returned (.int .u32 (M : Int)) ∧ w' = w'') (he : (c : Int) = (M : Int)) (k : UInt8) (hk : s[a + 8] = k) (hkk : 1 ≤ k.toNat ∧ k.toNat ≤ 3) (Q : ByteArray) (hQ : s.extract (a + 9) X = Q) :
    Calls Tryd.prog 13 #[.string s, .int .i64 (a : Int)] w (Ret w (.tuple #[fv k.toNat Q (a : Int), .int .i64 (X : Int), .int .i64 0])) := by
  have H1 := Lib.hid h1
  have H2 := Lib.hid h2
  have HS := Lib.hid hS
  have HM := Lib.hid hM
  have e1 : (a : Int) + 9 + (n : Int) = (X : Int) := by omega
  obtain ⟨D, hD⟩ : ∃ D : Nat, (s.size : Int) - a - 9 = (D : Int) := ⟨s.size - a - 9, by omega⟩
  have hD2 : n ≤ D := by omega
  have hX1 : a + 8 ≤ X := by omega
  have hmw : IntKind.u64.wrap (M : Int) = (M : Int) := by rw [IntKind.wrap_u64]; omega
  have hX2 : a + 9 ≤ X := by omega
  obtain rfl : M = c := by omega
  clear h1 h2 hS hM hX he
  obtain ⟨hk1, hk3⟩ := hkk
  have hk8 := k.toNat_lt
  go_enter Tryd.func13, Tryd.ntmps13
  go_wp2_with fail
  refine (H1.out _).mono ?_
  rintro e w' ⟨rfl, rfl⟩
  go_wp2_with fail
  go_big_quiet (first | (go_at_call 32; exact Calls.quiet_of_same ((H2.out _).mono fun _ _ h => ⟨h.1, h.2.symm⟩)) | (go_at_call 34; exact Calls.quiet_of_same ((HS.out _).mono fun _ _ h => ⟨h.1, h.2.symm⟩)) | (go_at_call 33; exact Calls.quiet_of_same ((HM.out _).mono fun _ _ h => ⟨h.1, h.2.symm⟩)))
  go_wp2
  go_region
  go_wp2
  exact ret3 Tryd.results13 tri28 w.heap.size rfl rfl rfl rfl (set3 _ _ _ (heap_alloc_new w _)) ⟨rfl, below_set3 (below_drewN _ (below_one _ _)) (Nat.le_refl _) _ _ _⟩
theorem nx_any (s : ByteArray) (a : Nat) (hs : s.size ≤ 140737488351232) (h : a + 4 ≤ s.size) : Nx s a (Bt.fat s.data.toList a 4) := fun w => number_any s a w h hs
theorem nx_ln (s : ByteArray) (a : Nat) (hs : s.size ≤ 140737488351232) (h : a + 9 ≤ s.size) : Nx s a (Fr.ln (bh s a)) := by
  have := nx_any s a hs (by omega)
  unfold Fr.ln
  rw [fat_drop]; exact this
theorem nx_cs (s : ByteArray) (a : Nat) (hs : s.size ≤ 140737488351232) (h : a + 9 ≤ s.size) : Nx s (a + 4) (Fr.cs (bh s a)) := by
  have := nx_any s (a + 4) hs (by omega)
  unfold Fr.cs
  rw [fat_drop]; exact this
theorem kd_at (s : ByteArray) (a : Nat) (h : a + 8 < s.size) : s[a + 8] = Fr.kd (bh s a) := by
  unfold Fr.kd
  rw [List.getD_eq_getElem?_getD, List.getElem?_drop, List.getElem?_eq_getElem (by simpa using h)]; rfl
theorem rread_bad (s : ByteArray) (at' : Int) (E : Nat) (hE : er1 s at' = E) (h0 : E ≠ 0) (w : World) (hs : s.size ≤ 140737488351232) :
    Calls Tryd.prog 13 #[.string s, .int .i64 at'] w (Ret w (noV E)) := by
  by_cases hp : at' < 0 ∨ (s.size : Int) < at'
  · rw [er1_out s at' hp] at hE
    subst hE
    exact rread_arg s at' w hs hp
  obtain ⟨a, rfl⟩ := Int.eq_ofNat_of_zero_le (a := at') (by omega)
  have ha : a ≤ s.size := by omega
  rw [er1_at s a ha] at hE
  by_cases h9 : s.size < a + 9
  · have : Fr.er (bh s a) = 8 := by unfold Fr.er; rw [if_pos (by rw [bh_length]; omega)]
    rw [this] at hE; subst hE
    exact rread_nine s a w hs ha h9
  have h9' : a + 9 ≤ s.size := by omega
  have c1 := nx_ln s a hs h9'
  have c2 := nx_cs s a hs h9'
  have hl := bh_length s a
  unfold Fr.er at hE
  rw [if_neg (by omega)] at hE
  by_cases h1 : 262144 < Fr.ln (bh s a)
  · rw [if_pos h1] at hE; subst hE
    exact rread_large s a _ w hs h9' c1 h1
  rw [if_neg h1] at hE
  by_cases h2 : (bh s a).length < 9 + Fr.ln (bh s a)
  · rw [if_pos h2] at hE; subst hE
    exact rread_cut s a _ w hs h9' c1 (by omega) (by omega)
  rw [if_neg h2] at hE
  have hX : a + 9 + Fr.ln (bh s a) ≤ s.size := by omega
  have hb := bs_toData _ _ (body_ext s a _ hX rfl)
  have hsz : (bs (Fr.kd (bh s a) :: Fr.pl (bh s a))).size ≤ 140737488351232 := by
    rw [← hb, ByteArray.size_extract]; omega
  have hS := fun w' => rof_any (bs (Fr.kd (bh s a) :: Fr.pl (bh s a))) w' hsz
  have hM := fun w' => rmask_any (Sm.add 0 (Fr.kd (bh s a) :: Fr.pl (bh s a))) w' (Sm.add_lt (by omega) _)
  by_cases h3 : Fr.cs (bh s a) ≠ Fr.ck (Fr.kd (bh s a) :: Fr.pl (bh s a))
  · rw [if_pos h3] at hE; subst hE
    exact rread_sum s a _ _ _ _ _ w hs h9' c1 c2 (by omega) rfl hX _ hb (Sm.mask_lt _) hS hM (fun e => h3 (by exact_mod_cast e))
  rw [if_neg h3] at hE
  by_cases h4 : (Fr.kd (bh s a)).toNat < 1 ∨ 3 < (Fr.kd (bh s a)).toNat
  · rw [if_pos h4] at hE; subst hE
    exact rread_kind s a _ _ _ _ _ w hs h9' c1 c2 (by omega) rfl hX _ hb (Sm.mask_lt _) hS hM (by exact_mod_cast Classical.not_not.1 h3) (Fr.kd (bh s a)) (kd_at s a (by omega)) h4
  · rw [if_neg h4] at hE
    exact absurd hE.symm h0
theorem rread_ok (s : ByteArray) (a : Nat) (hg : Fr.Good (bh s a)) (w : World) (hs : s.size ≤ 140737488351232) :
    Calls Tryd.prog 13 #[.string s, .int .i64 (a : Int)] w (Ret w (.tuple #[fv ((Fr.kd (bh s a)).toNat : Nat) (bs (Fr.pl (bh s a))) (a : Int), .int .i64 ((a + 9 + Fr.ln (bh s a) : Nat) : Int), .int .i64 0])) := by
  have hl := bh_length s a
  have hn := hg.nine
  have hw := hg.whole
  have hm := hg.most
  have h9' : a + 9 ≤ s.size := by omega
  have c1 := nx_ln s a hs h9'
  have c2 := nx_cs s a hs h9'
  have hX : a + 9 + Fr.ln (bh s a) ≤ s.size := by omega
  have hb := bs_toData _ _ (body_ext s a _ hX rfl)
  have hsz : (bs (Fr.kd (bh s a) :: Fr.pl (bh s a))).size ≤ 140737488351232 := by
    rw [← hb, ByteArray.size_extract]; omega
  have hS := fun w' => rof_any (bs (Fr.kd (bh s a) :: Fr.pl (bh s a))) w' hsz
  have hM := fun w' => rmask_any (Sm.add 0 (Fr.kd (bh s a) :: Fr.pl (bh s a))) w' (Sm.add_lt (by omega) _)
  refine rread_right s a _ _ _ _ _ w hs h9' c1 c2 hm rfl hX _ hb (Sm.mask_lt _) hS hM (by exact_mod_cast hg.sum) (Fr.kd (bh s a)) (kd_at s a (by omega)) hg.kind (bs (Fr.pl (bh s a))) ?_
  refine bs_toData _ _ ?_
  rw [ext_toList, List.drop_take]
  unfold Fr.pl
  rw [List.drop_drop, show a + 9 + Fr.ln (bh s a) - (a + 9) = Fr.ln (bh s a) by omega]
end Go.Proofs.YtkbifmgddbilmaaDoor
