/- LabelsMay: the law answers true. Condition: the tables of the library read as their initialisers lay them (tied to the program's text by the card). -/
import Derived.Test.YtjhgmlhoefakpaaDoorCards
import Derived.Test.YtjhgmlhoefakpaaDoorTie
import Derived.Test.YtjhgmlhoefakpaaDoorFi
import Derived.Test.YtjhgmlhoefakpaaDoorAw
import Derived.SevenTiedAt
import Derived.LaidMore
import Derived.Lay
import Derived.WalkKit
import Derived.ProofKit
import Derived.OpenShut
import Derived.ShutString
namespace Go.Proofs.YtjhgmlhoefakpaaDoor.labelsMay
open Go.ChangeShapes Go.WideShapes Go.ChangeAt Go.RowKit
open Go.ChangeMaps (open_string shut_string)
set_option linter.unusedVariables false
set_option maxRecDepth 100000 in
set_option maxHeartbeats 4000000 in
theorem core (s : ByteArray) (v : Value) (l : List Lb) (u : Value) (m : List Lb) (w : World) (ws : s.size ≤ maxLen) (wl : Arg w v l) (wm : Arg w u m) (hT : Hid (Tab w)) :
    Calls Tryd.prog 4 #[.string s, v, u] w fun e w' => e = .returned (.bool true) ∧ Below w.heap.size w w' := by
  have hs63 : (s.size : Int) ≤ 9223372036854775807 := by unfold maxLen at ws; omega
  have HV := Lib.hid wl.at'
  have HU := Lib.hid wm.at'
  obtain ⟨l1, l2⟩ := arg_wide wl
  obtain ⟨m1, m2⟩ := arg_wide wm
  have HL1 := Lib.hid (fun v W (h : LAt W v l) => long_any l l1 l2 v W h)
  have HL2 := Lib.hid (fun v W (h : LAt W v m) => long_any m m1 m2 v W h)
  clear wl wm
  by_cases hb : 3000 < s.size
  · clear HL1 HL2
    have HB0 : Hid (Below w.heap.size w w) := Lib.hid (Below.refl _ _)
    go_enter Tryd.func4, Tryd.ntmps4
    go_wp2_with fail
    refine (awake_any _ (tab_of hT HB0)).mono ?_
    rintro e w1 ⟨rfl, hb⟩
    have HB1 : Hid (Below w.heap.size w w1) := Lib.hid (below_trans' HB0.out hb)
    clear hb
    go_wp2
    go_ret
    exact ⟨rfl, HB1.out⟩
  cases hd : decide (5000 ≤ lng l 0) with
  | true =>
    rw [hd] at HL1
    clear hd
    have HB0 : Hid (Below w.heap.size w w) := Lib.hid (Below.refl _ _)
    go_enter Tryd.func4, Tryd.ntmps4
    go_wp2_with fail
    refine (HL1.out _ _ (HV.out.below HB0.out (Nat.le_refl _))).mono ?_
    rintro e w1 ⟨rfl, hb⟩
    have HB1 : Hid (Below w.heap.size w w1) := Lib.hid (below_trans' HB0.out hb)
    clear hb
    go_wp2_with fail
    refine (awake_any _ (tab_of hT HB1)).mono ?_
    rintro e w2 ⟨rfl, hb⟩
    have HB2 : Hid (Below w.heap.size w w2) := Lib.hid (below_trans' HB1.out hb)
    clear hb
    go_wp2
    go_ret
    exact ⟨rfl, HB2.out⟩
  | false =>
    have htl := small_tot hd
    rw [hd] at HL1
    clear hd
    cases hd : decide (5000 ≤ lng m 0) with
    | true =>
      rw [hd] at HL2
      clear hd htl
      have HB0 : Hid (Below w.heap.size w w) := Lib.hid (Below.refl _ _)
      go_enter Tryd.func4, Tryd.ntmps4
      go_wp2_with fail
      refine (HL1.out _ _ (HV.out.below HB0.out (Nat.le_refl _))).mono ?_
      rintro e w1 ⟨rfl, hb⟩
      have HB1 : Hid (Below w.heap.size w w1) := Lib.hid (below_trans' HB0.out hb)
      clear hb
      go_wp2_with fail
      refine (HL2.out _ _ (HU.out.below HB1.out (Nat.le_refl _))).mono ?_
      rintro e w2 ⟨rfl, hb⟩
      have HB2 : Hid (Below w.heap.size w w2) := Lib.hid (below_trans' HB1.out hb)
      clear hb
      go_wp2_with fail
      refine (awake_any _ (tab_of hT HB2)).mono ?_
      rintro e w3 ⟨rfl, hb⟩
      have HB3 : Hid (Below w.heap.size w w3) := Lib.hid (below_trans' HB2.out hb)
      clear hb
      go_wp2
      go_ret
      exact ⟨rfl, HB3.out⟩
    | false =>
      rw [hd] at HL2
      clear hd
      have hs20 : s.size ≤ 9223372036854775807 := by omega
      have hll := tot_len l
      have HOW := Lib.hid (fun v W (h : LAt W v l) => own_any l (by omega) v W h)
      have HN1 := Lib.hid (fun W => mayN_any s W)
      have HN2 := Lib.hid (fun W => rmayN_any s W)
      have HV1 := Lib.hid (fun W (k : Tab W) => mayV_any s W hs20 k)
      have HV2 := Lib.hid (fun W => rmayV_any s W hs20)
      have HM1 := Lib.hid (fun v W (h : LAt W v l) (k : Tab W) => mayL_any l l1 l2 v W h k)
      have HM2 := Lib.hid (fun v W (h : LAt W v l) => rmayL_any l l1 l2 v W h)
      have HS1 := Lib.hid (fun v u W (h : LAt W v l) (k : LAt W u m) => same_any l m l1 m1 v u W h k)
      have HS2 := Lib.hid (fun v u W (h : LAt W v l) (k : LAt W u m) => rsame_any l m l1 m1 v u W h k)
      have HS3 := Lib.hid (fun v u W (h : LAt W v l) (k : LAt W u l) => same_any l l l1 l1 v u W h k)
      have HIS := Lib.hid (fun v u W (h : LAt W v l) (r : Wr W v l.length) (k : LAt W u l) => is_any l l l1 l1 v u W h r k)
      have hE : sameL l l = true := by simp [sameL]
      rw [hE] at HS3 HIS
      clear hE hll htl hs20
      generalize mayN s.data.toList = b1 at *
      generalize mayV s.data.toList = b2 at *
      generalize mayL l = b3 at *
      generalize sameL l m = b4 at *
      have e1 : (b1 == b1) = true := by simp
      have e2 : (b2 == b2) = true := by simp
      have e3 : (b3 == b3) = true := by simp
      have e4 : (b4 == b4) = true := by simp
      have HB0 : Hid (Below w.heap.size w w) := Lib.hid (Below.refl _ _)
      go_enter Tryd.func4, Tryd.ntmps4
      go_wp2_with fail
      refine (HL1.out _ _ (HV.out.below HB0.out (Nat.le_refl _))).mono ?_
      rintro e w1 ⟨rfl, hb⟩
      have HB1 : Hid (Below w.heap.size w w1) := Lib.hid (below_trans' HB0.out hb)
      clear hb
      go_wp2_with fail
      refine (HL2.out _ _ (HU.out.below HB1.out (Nat.le_refl _))).mono ?_
      rintro e w2 ⟨rfl, hb⟩
      have HB2 : Hid (Below w.heap.size w w2) := Lib.hid (below_trans' HB1.out hb)
      clear hb
      have C2_2 : Hid (Below w2.heap.size w2 w2) := Lib.hid (Below.refl _ _)
      go_wp2_with fail
      refine (HOW.out _ _ (HV.out.below HB2.out (Nat.le_refl _))).mono ?_
      rintro e w3 ⟨uo, rfl, ho, hb⟩
      have HB3 : Hid (Below w.heap.size w w3) := Lib.hid (below_trans' HB2.out hb)
      have C2_3 : Hid (Below w2.heap.size w2 w3) := Lib.hid (below_trans' C2_2.out hb)
      have HOo := Lib.hid ho
      have HO_3 := Lib.hid ho.at
      have HOw_3 := Lib.hid ho.wr
      clear ho hb
      go_wp2_with fail
      refine (HN1.out _).mono ?_
      rintro e wx ⟨rfl, rfl⟩
      go_wp2_with fail
      refine (HN2.out _).mono ?_
      rintro e wx ⟨rfl, rfl⟩
      go_wp2_with fail
      refine (HV1.out _ (tab_of hT HB3)).mono ?_
      rintro e w4 ⟨rfl, hb⟩
      have HB4 : Hid (Below w.heap.size w w4) := Lib.hid (below_trans' HB3.out hb)
      have HO_4 := Lib.hid (HO_3.out.below hb (Nat.le_refl _))
      have HOw_4 := Lib.hid (HOw_3.out.below hb (Nat.le_refl _))
      have C2_4 : Hid (Below w2.heap.size w2 w4) := Lib.hid (below_trans' C2_3.out hb)
      clear hb
      go_wp2_with fail
      refine (HV2.out _).mono ?_
      rintro e wx ⟨rfl, rfl⟩
      go_wp2_with fail
      refine (HM1.out _ _ HO_4.out (tab_of hT HB4)).mono ?_
      rintro e w5 ⟨rfl, hb⟩
      have HB5 : Hid (Below w.heap.size w w5) := Lib.hid (below_trans' HB4.out hb)
      have HO_5 := Lib.hid (HO_4.out.below hb (Nat.le_refl _))
      have HOw_5 := Lib.hid (HOw_4.out.below hb (Nat.le_refl _))
      have C2_5 : Hid (Below w2.heap.size w2 w5) := Lib.hid (below_trans' C2_4.out hb)
      clear hb
      go_wp2_with fail
      refine (HM2.out _ _ (HV.out.below HB5.out (Nat.le_refl _))).mono ?_
      rintro e w6 ⟨rfl, hb⟩
      have HB6 : Hid (Below w.heap.size w w6) := Lib.hid (below_trans' HB5.out hb)
      have HO_6 := Lib.hid (HO_5.out.below hb (Nat.le_refl _))
      have HOw_6 := Lib.hid (HOw_5.out.below hb (Nat.le_refl _))
      have C2_6 : Hid (Below w2.heap.size w2 w6) := Lib.hid (below_trans' C2_5.out hb)
      clear hb
      go_wp2_with fail
      refine (HS1.out _ _ _ HO_6.out (HU.out.below HB6.out (Nat.le_refl _))).mono ?_
      rintro e w7 ⟨rfl, hb⟩
      have HB7 : Hid (Below w.heap.size w w7) := Lib.hid (below_trans' HB6.out hb)
      have HO_7 := Lib.hid (HO_6.out.below hb (Nat.le_refl _))
      have HOw_7 := Lib.hid (HOw_6.out.below hb (Nat.le_refl _))
      have C2_7 : Hid (Below w2.heap.size w2 w7) := Lib.hid (below_trans' C2_6.out hb)
      clear hb
      go_wp2_with fail
      refine (HS2.out _ _ _ (HV.out.below HB7.out (Nat.le_refl _)) (HU.out.below HB7.out (Nat.le_refl _))).mono ?_
      rintro e w8 ⟨rfl, hb⟩
      have HB8 : Hid (Below w.heap.size w w8) := Lib.hid (below_trans' HB7.out hb)
      have HO_8 := Lib.hid (HO_7.out.below hb (Nat.le_refl _))
      have HOw_8 := Lib.hid (HOw_7.out.below hb (Nat.le_refl _))
      have C2_8 : Hid (Below w2.heap.size w2 w8) := Lib.hid (below_trans' C2_7.out hb)
      clear hb
      go_wp2_with fail
      refine (HS3.out _ _ _ HO_8.out (HV.out.below HB8.out (Nat.le_refl _))).mono ?_
      rintro e w9 ⟨rfl, hb⟩
      have HB9 : Hid (Below w.heap.size w w9) := Lib.hid (below_trans' HB8.out hb)
      have HO_9 := Lib.hid (HO_8.out.below hb (Nat.le_refl _))
      have HOw_9 := Lib.hid (HOw_8.out.below hb (Nat.le_refl _))
      have C2_9 : Hid (Below w2.heap.size w2 w9) := Lib.hid (below_trans' C2_8.out hb)
      clear hb
      go_wp2_with fail
      refine (HIS.out _ _ _ HO_9.out HOw_9.out (HV.out.below HB9.out (Nat.le_refl _))).mono ?_
      rintro e w10 ⟨rfl, hg⟩
      have C2_10 : Hid (Below w2.heap.size w2 w10) := Lib.hid (C2_9.out.trans (below_grown hg C2_9.out.size (fun g h => (own_lt HOo.out g h).1)))
      clear hg
      have HB10 : Hid (Below w.heap.size w w10) := Lib.hid (below_trans' HB2.out C2_10.out)
      go_wp2_with fail
      refine (awake_any _ (tab_of hT HB10)).mono ?_
      rintro e w11 ⟨rfl, hb⟩
      have HB11 : Hid (Below w.heap.size w w11) := Lib.hid (below_trans' HB10.out hb)
      have C2_11 : Hid (Below w2.heap.size w2 w11) := Lib.hid (below_trans' C2_10.out hb)
      clear hb
      go_wp2
      go_ret
      exact ⟨rfl, HB11.out⟩
set_option maxRecDepth 100000 in
theorem lifted (os : Os) (started : os.Started) (H : Type) (enc : TypeId × Value → H) :
    ReturnsInHanded {} Tryd.checked os 4 .any (fun w args => (Rows.labelsMaySpec.pre enc Tryd.prog Tryd.f4 [] false w args ∧ laidMetH Tryd.prog laid w) ∧ sizedMet enc Tryd.prog Tryd.f4 (OpenSpec.ofChange Rows.labelsMaySpec) false w args)
      (Rows.labelsMaySpec.post enc Tryd.prog Tryd.f4 false true false false) := by
  refine returnsInHanded_of_change_and (C := Tryd.checked) (X := fun w _ => laidMetH Tryd.prog laid w) (fun _ _ _ hh h => h.of_heap hh) own started (by kernel_rfl) Tryd.func4
    (ChangeSpec.witness_shaped (enc := enc) (C := Tryd.checked) (os := os) (X := fun w _ => laidMetH Tryd.prog laid w) false (World.laidAll Tryd.prog os laid) #[.string ByteArray.empty, .slice none 0 0, .slice none 0 0] 8 (World.laidAll_os _ _ _) (World.shaped_of_ZipB (by kernel_rfl) (by kernel_rfl)) (by kernel_rfl) (by kernel_rfl) (by kernel_rfl) (door_met os _)) ?_
  intro W base args ds gs before hval0 hW hcnd _ hL _
  have hval : ∀ (j : Nat) t v, Tryd.f4.params[j]? = some t → args[j]? = some v → Value.okWide Tryd.prog W .any base t v := hval0
  have hW' := hW
  obtain ⟨p, q, hA0, hV, rfl, hfz, hnd⟩ := hW
  have hA : DataW.TrodAll enc Tryd.prog W 0 (fun _ => true) true Tryd.f4.params.toList args.toList ds p := hA0
  rw [Tryd.params4] at hA hval
  obtain ⟨v0, vs0, d0, ds0, p0, q0, hargs, rfl, rfl, h0, r0⟩ := trodAll_cons hA
  obtain ⟨v1, vs1, d1, ds1, p1, q1, rfl, rfl, rfl, h1, r1⟩ := trodAll_cons r0
  obtain ⟨v2, vs2, d2, ds2, p2, q2, rfl, rfl, rfl, h2, r2⟩ := trodAll_cons r1
  obtain ⟨rfl, rfl, rfl⟩ := trodAll_nil r2
  obtain rfl : args = #[v0, v1, v2] := by cases args; simp_all
  obtain ⟨rfl, rfl⟩ := trodVars_none hV
  have k0 := h0
  have lt0 : ∀ x ∈ p0, x.block < W.heap.size := by obtain ⟨m, hm⟩ := k0; exact DataW.trod_lt m _ _ _ hm
  have k1 := h1
  have lt1 : ∀ x ∈ p1, x.block < W.heap.size := by obtain ⟨m, hm⟩ := k1; exact DataW.trod_lt m _ _ _ hm
  have k2 := h2
  have lt2 : ∀ x ∈ p2, x.block < W.heap.size := by obtain ⟨m, hm⟩ := k2; exact DataW.trod_lt m _ _ _ hm
  obtain ⟨a0, rfl, rfl, rfl, w0⟩ := open_string Tryd.underlying9 (hval 0 9 v0 rfl rfl) h0
  obtain ⟨a1, w1⟩ := open_labels (hval 1 25 v1 rfl rfl) h1
  obtain ⟨a2, w2⟩ := open_labels (hval 2 25 v2 rfl rfl) h2
  clear hA0 hval0
  refine (core a0 v1 a1 v2 a2 W w0 w1 w2 (Lib.hid (of_laid hL))).mono fun e W' ⟨he, bel⟩ => ?_
  subst he
  exact ⟨_, rfl, _, _, _, [], _, [], hW', trodAll_mk1 (shut_bool Tryd.underlying4 _), (trodAll_cons_mk (Below.trod laidOut (by kernel_rfl) (of_decide_eq_true (by kernel_rfl)) k0 bel lt0) (trodAll_cons_mk (Below.trod laidOut (by kernel_rfl) (of_decide_eq_true (by kernel_rfl)) k1 bel lt1) (trodAll_cons_mk (Below.trod laidOut (by kernel_rfl) (of_decide_eq_true (by kernel_rfl)) k2 bel lt2) trodAll_mk0))), rfl, bel.frame _, fun h => by cases h⟩
theorem over : Rows.labelsMayRow.holds Tryd.pinned (OpenSpec.ofChange Rows.labelsMaySpec) :=
  OpenClaim.holds_of_wide 4 Tryd.f4 rfl rfl rfl rfl rfl rfl rfl ⟨rfl, rfl, rfl, rfl, rfl⟩ rfl rfl rfl rfl rfl (by kernel_rfl) Tryd.func4 (by kernel_rfl)
    (of_decide_eq_true (by kernel_rfl)) (by unfold Func.isWrapper; first | (rw [if_pos (by decide +kernel)]; kernel_rfl) | (rw [if_neg (by decide +kernel)]; exact ⟨rfl, rfl⟩))
    (fun os started H enc _ => lifted os started H enc)
theorem proved : Rows.LabelsMayCardSaid :=
  Claim7.holds_tied_plain_at .later [] [.data, .data, .data, .data, .pinned] true (true, "29d8eb039746b622064e7fdd6be2e3716893f65b16f6a8010a72416b636b660b") false
    over (fun _ h => by cases h) (by kernel_rfl) (fun _ h => by cases h) labelsMay_row_tie rfl ⟨rfl, rfl⟩ (by kernel_rfl) rfl
    (fun f fn hf hfn => by
      obtain rfl : f = 4 := Option.some.inj ((show Tryd.prog.funcNamed "baton/batonlaw05.LabelsMay" = some 4 by kernel_rfl).symm.trans hf) |>.symm
      obtain rfl : fn = Tryd.f4 := (Option.some.inj (Tryd.func4.symm.trans hfn)).symm
      exact ⟨by kernel_rfl, fun j t ht => by
        rw [Tryd.params4] at ht
        have hm : t ∈ [9, 25, 25] := by simpa using Array.mem_of_getElem? ht
        have hall : ([9, 25, 25].all fun u => !Tryd.prog.wantsStandIn u) = true := by kernel_rfl
        exact (show Tryd.prog.wantsStandIn t = false by simpa using List.all_eq_true.1 hall t hm)⟩)
    (by kernel_rfl)
end Go.Proofs.YtjhgmlhoefakpaaDoor.labelsMay
