/- LabelsGets: the law answers true. Condition: the tables of the library read as their initialisers lay them (tied to the program's text by the card). -/
import Derived.Test.YtjhgmlhoefakpaaDoorCards
import Derived.Test.YtjhgmlhoefakpaaDoorTie
import Derived.Test.YtjhgmlhoefakpaaDoorFi
import Derived.Test.YtjhgmlhoefakpaaDoorAw
import Derived.SevenTiedAt
import Derived.LaidMore
import Derived.Lay
import Derived.WalkKit
import Derived.ProofKit
import Derived.OpenShut
import Derived.ShutString
namespace Go.Proofs.YtjhgmlhoefakpaaDoor.labelsGets
open Go.ChangeShapes Go.WideShapes Go.ChangeAt Go.RowKit
open Go.ChangeMaps (open_string shut_string)
set_option linter.unusedVariables false
set_option maxRecDepth 100000 in
set_option maxHeartbeats 4000000 in
theorem core (v : Value) (l : List Lb) (s : ByteArray) (w : World) (wl : Arg w v l) (ws : s.size ≤ maxLen) (hT : Hid (Tab w)) :
    Calls Tryd.prog 6 #[v, .string s] w fun e w' => e = .returned (.bool true) ∧ Below w.heap.size w w' := by
  have hs63 : (s.size : Int) ≤ 9223372036854775807 := by unfold maxLen at ws; omega
  have HV := Lib.hid wl.at'
  obtain ⟨l1, l2⟩ := arg_wide wl
  have HL1 := Lib.hid (fun v W (h : LAt W v l) => long_any l l1 l2 v W h)
  clear wl
  cases hd : decide (5000 ≤ lng l 0) with
  | true =>
    rw [hd] at HL1
    clear hd
    have HB0 : Hid (Below w.heap.size w w) := Lib.hid (Below.refl _ _)
    go_enter Tryd.func6, Tryd.ntmps6
    go_wp2_with fail
    refine (HL1.out _ _ (HV.out.below HB0.out (Nat.le_refl _))).mono ?_
    rintro e w1 ⟨rfl, hb⟩
    have HB1 : Hid (Below w.heap.size w w1) := Lib.hid (below_trans' HB0.out hb)
    clear hb
    go_wp2_with fail
    refine (awake_any _ (tab_of hT HB1)).mono ?_
    rintro e w2 ⟨rfl, hb⟩
    have HB2 : Hid (Below w.heap.size w w2) := Lib.hid (below_trans' HB1.out hb)
    clear hb
    go_wp2
    go_ret
    exact ⟨rfl, HB2.out⟩
  | false =>
    have htl := small_tot hd
    rw [hd] at HL1
    clear hd
    by_cases hb : 3000 < s.size
    · clear htl
      have HB0 : Hid (Below w.heap.size w w) := Lib.hid (Below.refl _ _)
      go_enter Tryd.func6, Tryd.ntmps6
      go_wp2_with fail
      refine (HL1.out _ _ (HV.out.below HB0.out (Nat.le_refl _))).mono ?_
      rintro e w1 ⟨rfl, hb⟩
      have HB1 : Hid (Below w.heap.size w w1) := Lib.hid (below_trans' HB0.out hb)
      clear hb
      go_wp2_with fail
      refine (awake_any _ (tab_of hT HB1)).mono ?_
      rintro e w2 ⟨rfl, hb⟩
      have HB2 : Hid (Below w.heap.size w w2) := Lib.hid (below_trans' HB1.out hb)
      clear hb
      go_wp2
      go_ret
      exact ⟨rfl, HB2.out⟩
    have hll := tot_len l
    have HOW := Lib.hid (fun v W (h : LAt W v l) => own_any l (by omega) v W h)
    have HG1 := Lib.hid (fun v W (h : LAt W v l) => get_any l l1 s v W h)
    have HG2 := Lib.hid (fun v W (h : LAt W v l) => rget_any l l1 s v W h)
    have HW1 := Lib.hid (fun v W (h : LAt W v l) => with_any l (by omega) s v W h)
    have HW2 := Lib.hid (fun v W (h : LAt W v l) => rwith_any l (by omega) s v W h)
    have hwl := withL_len l s
    have HIW := Lib.hid (fun v u W (h : LAt W v (withL l s)) (r : Wr W v (withL l s).length) (k : LAt W u (withL l s)) => is_any (withL l s) (withL l s) (by omega) (by omega) v u W h r k)
    have HIS := Lib.hid (fun v u W (h : LAt W v l) (r : Wr W v l.length) (k : LAt W u l) => is_any l l l1 l1 v u W h r k)
    have hE : ∀ l, sameL l l = true := by simp [sameL]
    rw [hE] at HIW HIS
    clear hE hll htl hwl
    generalize withL l s = ls at *
    generalize (getL l s).1 = g1 at *
    generalize (getL l s).2 = g2 at *
    have e1 : (g1.toList == g1.toList) = true := by simp
    have e2 : (g2 == g2) = true := by simp
    have HB0 : Hid (Below w.heap.size w w) := Lib.hid (Below.refl _ _)
    go_enter Tryd.func6, Tryd.ntmps6
    go_wp2_with fail
    refine (HL1.out _ _ (HV.out.below HB0.out (Nat.le_refl _))).mono ?_
    rintro e w1 ⟨rfl, hb⟩
    have HB1 : Hid (Below w.heap.size w w1) := Lib.hid (below_trans' HB0.out hb)
    clear hb
    have C1_1 : Hid (Below w1.heap.size w1 w1) := Lib.hid (Below.refl _ _)
    go_wp2_with fail
    refine (HOW.out _ _ (HV.out.below HB1.out (Nat.le_refl _))).mono ?_
    rintro e w2 ⟨uo, rfl, ho, hb⟩
    have HB2 : Hid (Below w.heap.size w w2) := Lib.hid (below_trans' HB1.out hb)
    have C1_2 : Hid (Below w1.heap.size w1 w2) := Lib.hid (below_trans' C1_1.out hb)
    have HOo := Lib.hid ho
    have HO_2 := Lib.hid ho.at
    have HOw_2 := Lib.hid ho.wr
    clear ho hb
    go_wp2_with fail
    refine (HG1.out _ _ HO_2.out).mono ?_
    rintro e w3 ⟨rfl, hb⟩
    have HB3 : Hid (Below w.heap.size w w3) := Lib.hid (below_trans' HB2.out hb)
    have HO_3 := Lib.hid (HO_2.out.below hb (Nat.le_refl _))
    have HOw_3 := Lib.hid (HOw_2.out.below hb (Nat.le_refl _))
    have C1_3 : Hid (Below w1.heap.size w1 w3) := Lib.hid (below_trans' C1_2.out hb)
    clear hb
    go_wp2_with fail
    refine (HG2.out _ _ (HV.out.below HB3.out (Nat.le_refl _))).mono ?_
    rintro e w4 ⟨rfl, hb⟩
    have HB4 : Hid (Below w.heap.size w w4) := Lib.hid (below_trans' HB3.out hb)
    have HO_4 := Lib.hid (HO_3.out.below hb (Nat.le_refl _))
    have HOw_4 := Lib.hid (HOw_3.out.below hb (Nat.le_refl _))
    have C1_4 : Hid (Below w1.heap.size w1 w4) := Lib.hid (below_trans' C1_3.out hb)
    clear hb
    have C4_4 : Hid (Below w4.heap.size w4 w4) := Lib.hid (Below.refl _ _)
    go_wp2_with fail
    refine (HW1.out _ _ HO_4.out).mono ?_
    rintro e w5 ⟨up1, rfl, ho, hb⟩
    have HB5 : Hid (Below w.heap.size w w5) := Lib.hid (below_trans' HB4.out hb)
    have HO_5 := Lib.hid (HO_4.out.below hb (Nat.le_refl _))
    have HOw_5 := Lib.hid (HOw_4.out.below hb (Nat.le_refl _))
    have C1_5 : Hid (Below w1.heap.size w1 w5) := Lib.hid (below_trans' C1_4.out hb)
    have C4_5 : Hid (Below w4.heap.size w4 w5) := Lib.hid (below_trans' C4_4.out hb)
    have HP1o := Lib.hid ho
    have HP1_5 := Lib.hid ho.at
    have HP1w_5 := Lib.hid ho.wr
    clear ho hb
    go_wp2_with fail
    refine (HW2.out _ _ (HV.out.below HB5.out (Nat.le_refl _))).mono ?_
    rintro e w6 ⟨uq1, rfl, ho, hb⟩
    have HB6 : Hid (Below w.heap.size w w6) := Lib.hid (below_trans' HB5.out hb)
    have HO_6 := Lib.hid (HO_5.out.below hb (Nat.le_refl _))
    have HOw_6 := Lib.hid (HOw_5.out.below hb (Nat.le_refl _))
    have HP1_6 := Lib.hid (HP1_5.out.below hb (Nat.le_refl _))
    have HP1w_6 := Lib.hid (HP1w_5.out.below hb (Nat.le_refl _))
    have C1_6 : Hid (Below w1.heap.size w1 w6) := Lib.hid (below_trans' C1_5.out hb)
    have C4_6 : Hid (Below w4.heap.size w4 w6) := Lib.hid (below_trans' C4_5.out hb)
    have HQ1o := Lib.hid ho
    have HQ1_6 := Lib.hid ho.at
    have HQ1w_6 := Lib.hid ho.wr
    clear ho hb
    go_wp2_with fail
    refine (HIW.out _ _ _ HP1_6.out HP1w_6.out HQ1_6.out).mono ?_
    rintro e w7 ⟨rfl, hg⟩
    have C4_7 : Hid (Below w4.heap.size w4 w7) := Lib.hid (C4_6.out.trans (below_grown hg C4_6.out.size (fun g h => (own_lt HP1o.out g h).1)))
    clear hg
    have HB7 : Hid (Below w.heap.size w w7) := Lib.hid (below_trans' HB4.out C4_7.out)
    have HO_7 := Lib.hid (HO_4.out.below C4_7.out (Nat.le_refl _))
    have HOw_7 := Lib.hid (HOw_4.out.below C4_7.out (Nat.le_refl _))
    have C1_7 : Hid (Below w1.heap.size w1 w7) := Lib.hid (below_trans' C1_4.out C4_7.out)
    have C7_7 : Hid (Below w7.heap.size w7 w7) := Lib.hid (Below.refl _ _)
    go_wp2_with fail
    refine (HW1.out _ _ HO_7.out).mono ?_
    rintro e w8 ⟨up2, rfl, ho, hb⟩
    have HB8 : Hid (Below w.heap.size w w8) := Lib.hid (below_trans' HB7.out hb)
    have HO_8 := Lib.hid (HO_7.out.below hb (Nat.le_refl _))
    have HOw_8 := Lib.hid (HOw_7.out.below hb (Nat.le_refl _))
    have C1_8 : Hid (Below w1.heap.size w1 w8) := Lib.hid (below_trans' C1_7.out hb)
    have C4_8 : Hid (Below w4.heap.size w4 w8) := Lib.hid (below_trans' C4_7.out hb)
    have C7_8 : Hid (Below w7.heap.size w7 w8) := Lib.hid (below_trans' C7_7.out hb)
    have HP2o := Lib.hid ho
    have HP2_8 := Lib.hid ho.at
    have HP2w_8 := Lib.hid ho.wr
    clear ho hb
    go_wp2_with fail
    refine (HW2.out _ _ (HV.out.below HB8.out (Nat.le_refl _))).mono ?_
    rintro e w9 ⟨uq2, rfl, ho, hb⟩
    have HB9 : Hid (Below w.heap.size w w9) := Lib.hid (below_trans' HB8.out hb)
    have HO_9 := Lib.hid (HO_8.out.below hb (Nat.le_refl _))
    have HOw_9 := Lib.hid (HOw_8.out.below hb (Nat.le_refl _))
    have HP2_9 := Lib.hid (HP2_8.out.below hb (Nat.le_refl _))
    have HP2w_9 := Lib.hid (HP2w_8.out.below hb (Nat.le_refl _))
    have C1_9 : Hid (Below w1.heap.size w1 w9) := Lib.hid (below_trans' C1_8.out hb)
    have C4_9 : Hid (Below w4.heap.size w4 w9) := Lib.hid (below_trans' C4_8.out hb)
    have C7_9 : Hid (Below w7.heap.size w7 w9) := Lib.hid (below_trans' C7_8.out hb)
    have HQ2o := Lib.hid ho
    have HQ2_9 := Lib.hid ho.at
    have HQ2w_9 := Lib.hid ho.wr
    clear ho hb
    go_wp2_with fail
    refine (HIW.out _ _ _ HP2_9.out HP2w_9.out HQ2_9.out).mono ?_
    rintro e w10 ⟨rfl, hg⟩
    have C7_10 : Hid (Below w7.heap.size w7 w10) := Lib.hid (C7_9.out.trans (below_grown hg C7_9.out.size (fun g h => (own_lt HP2o.out g h).1)))
    clear hg
    have HB10 : Hid (Below w.heap.size w w10) := Lib.hid (below_trans' HB7.out C7_10.out)
    have HO_10 := Lib.hid (HO_7.out.below C7_10.out (Nat.le_refl _))
    have HOw_10 := Lib.hid (HOw_7.out.below C7_10.out (Nat.le_refl _))
    have C1_10 : Hid (Below w1.heap.size w1 w10) := Lib.hid (below_trans' C1_7.out C7_10.out)
    have C4_10 : Hid (Below w4.heap.size w4 w10) := Lib.hid (below_trans' C4_7.out C7_10.out)
    go_wp2_with fail
    refine (HIS.out _ _ _ HO_10.out HOw_10.out (HV.out.below HB10.out (Nat.le_refl _))).mono ?_
    rintro e w11 ⟨rfl, hg⟩
    have C1_11 : Hid (Below w1.heap.size w1 w11) := Lib.hid (C1_10.out.trans (below_grown hg C1_10.out.size (fun g h => (own_lt HOo.out g h).1)))
    clear hg
    have HB11 : Hid (Below w.heap.size w w11) := Lib.hid (below_trans' HB1.out C1_11.out)
    go_wp2_with fail
    refine (awake_any _ (tab_of hT HB11)).mono ?_
    rintro e w12 ⟨rfl, hb⟩
    have HB12 : Hid (Below w.heap.size w w12) := Lib.hid (below_trans' HB11.out hb)
    have C1_12 : Hid (Below w1.heap.size w1 w12) := Lib.hid (below_trans' C1_11.out hb)
    clear hb
    go_wp2
    go_ret
    exact ⟨rfl, HB12.out⟩
set_option maxRecDepth 100000 in
theorem lifted (os : Os) (started : os.Started) (H : Type) (enc : TypeId × Value → H) :
    ReturnsInHanded {} Tryd.checked os 6 .any (fun w args => (Rows.labelsGetsSpec.pre enc Tryd.prog Tryd.f6 [] false w args ∧ laidMetH Tryd.prog laid w) ∧ sizedMet enc Tryd.prog Tryd.f6 (OpenSpec.ofChange Rows.labelsGetsSpec) false w args)
      (Rows.labelsGetsSpec.post enc Tryd.prog Tryd.f6 false true false false) := by
  refine returnsInHanded_of_change_and (C := Tryd.checked) (X := fun w _ => laidMetH Tryd.prog laid w) (fun _ _ _ hh h => h.of_heap hh) own started (by kernel_rfl) Tryd.func6
    (ChangeSpec.witness_shaped (enc := enc) (C := Tryd.checked) (os := os) (X := fun w _ => laidMetH Tryd.prog laid w) false (World.laidAll Tryd.prog os laid) #[.slice none 0 0, .string ByteArray.empty] 8 (World.laidAll_os _ _ _) (World.shaped_of_ZipB (by kernel_rfl) (by kernel_rfl)) (by kernel_rfl) (by kernel_rfl) (by kernel_rfl) (door_met os _)) ?_
  intro W base args ds gs before hval0 hW hcnd _ hL _
  have hval : ∀ (j : Nat) t v, Tryd.f6.params[j]? = some t → args[j]? = some v → Value.okWide Tryd.prog W .any base t v := hval0
  have hW' := hW
  obtain ⟨p, q, hA0, hV, rfl, hfz, hnd⟩ := hW
  have hA : DataW.TrodAll enc Tryd.prog W 0 (fun _ => true) true Tryd.f6.params.toList args.toList ds p := hA0
  rw [Tryd.params6] at hA hval
  obtain ⟨v0, vs0, d0, ds0, p0, q0, hargs, rfl, rfl, h0, r0⟩ := trodAll_cons hA
  obtain ⟨v1, vs1, d1, ds1, p1, q1, rfl, rfl, rfl, h1, r1⟩ := trodAll_cons r0
  obtain ⟨rfl, rfl, rfl⟩ := trodAll_nil r1
  obtain rfl : args = #[v0, v1] := by cases args; simp_all
  obtain ⟨rfl, rfl⟩ := trodVars_none hV
  have k0 := h0
  have lt0 : ∀ x ∈ p0, x.block < W.heap.size := by obtain ⟨m, hm⟩ := k0; exact DataW.trod_lt m _ _ _ hm
  have k1 := h1
  have lt1 : ∀ x ∈ p1, x.block < W.heap.size := by obtain ⟨m, hm⟩ := k1; exact DataW.trod_lt m _ _ _ hm
  obtain ⟨a0, w0⟩ := open_labels (hval 0 25 v0 rfl rfl) h0
  obtain ⟨a1, rfl, rfl, rfl, w1⟩ := open_string Tryd.underlying9 (hval 1 9 v1 rfl rfl) h1
  clear hA0 hval0
  refine (core v0 a0 a1 W w0 w1 (Lib.hid (of_laid hL))).mono fun e W' ⟨he, bel⟩ => ?_
  subst he
  exact ⟨_, rfl, _, _, _, [], _, [], hW', trodAll_mk1 (shut_bool Tryd.underlying4 _), (trodAll_cons_mk (Below.trod laidOut (by kernel_rfl) (of_decide_eq_true (by kernel_rfl)) k0 bel lt0) (trodAll_cons_mk (Below.trod laidOut (by kernel_rfl) (of_decide_eq_true (by kernel_rfl)) k1 bel lt1) trodAll_mk0)), rfl, bel.frame _, fun h => by cases h⟩
theorem over : Rows.labelsGetsRow.holds Tryd.pinned (OpenSpec.ofChange Rows.labelsGetsSpec) :=
  OpenClaim.holds_of_wide 6 Tryd.f6 rfl rfl rfl rfl rfl rfl rfl ⟨rfl, rfl, rfl, rfl, rfl⟩ rfl rfl rfl rfl rfl (by kernel_rfl) Tryd.func6 (by kernel_rfl)
    (of_decide_eq_true (by kernel_rfl)) (by unfold Func.isWrapper; first | (rw [if_pos (by decide +kernel)]; kernel_rfl) | (rw [if_neg (by decide +kernel)]; exact ⟨rfl, rfl⟩))
    (fun os started H enc _ => lifted os started H enc)
theorem proved : Rows.LabelsGetsCardSaid :=
  Claim7.holds_tied_plain_at .later [] [.data, .data, .data, .data, .pinned] true (true, "29d8eb039746b622064e7fdd6be2e3716893f65b16f6a8010a72416b636b660b") false
    over (fun _ h => by cases h) (by kernel_rfl) (fun _ h => by cases h) labelsGets_row_tie rfl ⟨rfl, rfl⟩ (by kernel_rfl) rfl
    (fun f fn hf hfn => by
      obtain rfl : f = 6 := Option.some.inj ((show Tryd.prog.funcNamed "baton/batonlaw05.LabelsGets" = some 6 by kernel_rfl).symm.trans hf) |>.symm
      obtain rfl : fn = Tryd.f6 := (Option.some.inj (Tryd.func6.symm.trans hfn)).symm
      exact ⟨by kernel_rfl, fun j t ht => by
        rw [Tryd.params6] at ht
        have hm : t ∈ [25, 9] := by simpa using Array.mem_of_getElem? ht
        have hall : ([25, 9].all fun u => !Tryd.prog.wantsStandIn u) = true := by kernel_rfl
        exact (show Tryd.prog.wantsStandIn t = false by simpa using List.all_eq_true.1 hall t hm)⟩)
    (by kernel_rfl)
end Go.Proofs.YtjhgmlhoefakpaaDoor.labelsGets
