/- LabelsUnlike: the law answers true. Condition: the tables of the library read as their initialisers lay them (tied to the program's text by the card). -/
import Derived.Test.YtjhgmlhoefakpaaDoorCards
import Derived.Test.YtjhgmlhoefakpaaDoorTie
import Derived.Test.YtjhgmlhoefakpaaDoorFi
import Derived.Test.YtjhgmlhoefakpaaDoorAw
import Derived.Test.YtjhgmlhoefakpaaDoorKn
import Derived.SevenTiedAt
import Derived.LaidMore
import Derived.Lay
import Derived.WalkKit
import Derived.ProofKit
import Derived.OpenShut
import Derived.ShutString
namespace Go.Proofs.YtjhgmlhoefakpaaDoor.labelsUnlike
open Go.ChangeShapes Go.WideShapes Go.ChangeAt Go.RowKit
open Go.ChangeMaps (open_string shut_string)
set_option linter.unusedVariables false
set_option maxRecDepth 100000 in
set_option maxHeartbeats 4000000 in
theorem core (v : Value) (a : List Lb) (u : Value) (b : List Lb) (w : World) (wa : Arg2 w v a) (wb : Arg2 w u b) (hT : Hid (Tab w)) :
    Calls Tryd.prog 10 #[v, u] w fun e w' => e = .returned (.bool true) ∧ Below w.heap.size w w' := by
  have HV := Lib.hid wa.arg.at'
  have HU := Lib.hid wb.arg.at'
  obtain ⟨a1, a2⟩ := arg_wide wa.arg
  obtain ⟨b1, b2⟩ := arg_wide wb.arg
  obtain ⟨va, vc, hv, _⟩ := wa.cap
  obtain ⟨ub, uc, hu, hcap, hcm, hnone⟩ := wb.cap
  have HL1 := Lib.hid (fun v W (h : LAt W v a) => long_any a a1 a2 v W h)
  have HL2 := Lib.hid (fun v W (h : LAt W v b) => long_any b b1 b2 v W h)
  clear wa wb
  generalize hA : a.length = LA at hv
  generalize hB : b.length = LB at hu hcap
  have HA := Lib.hid hA
  have HBn := Lib.hid hB
  clear hA hB
  subst hv hu
  cases hd : decide (5000 ≤ lng a 0) with
  | true =>
    rw [hd] at HL1
    clear hd
    have HB0 : Hid (Below w.heap.size w w) := Lib.hid (Below.refl _ _)
    go_enter Tryd.func10, Tryd.ntmps10
    go_wp2_with fail
    refine (HL1.out _ _ (HV.out.below HB0.out (Nat.le_refl _))).mono ?_
    rintro e w1 ⟨rfl, hb⟩
    have HB1 : Hid (Below w.heap.size w w1) := Lib.hid (below_trans' HB0.out hb)
    clear hb
    go_wp2_with fail
    refine (awake_any _ (tab_of hT HB1)).mono ?_
    rintro e w2 ⟨rfl, hb⟩
    have HB2 : Hid (Below w.heap.size w w2) := Lib.hid (below_trans' HB1.out hb)
    clear hb
    go_wp2
    go_ret
    exact ⟨rfl, HB2.out⟩
  | false =>
    have hta := small_tot hd
    rw [hd] at HL1
    clear hd
    cases hd : decide (5000 ≤ lng b 0) with
    | true =>
      rw [hd] at HL2
      clear hd hta
      have HB0 : Hid (Below w.heap.size w w) := Lib.hid (Below.refl _ _)
      go_enter Tryd.func10, Tryd.ntmps10
      go_wp2_with fail
      refine (HL1.out _ _ (HV.out.below HB0.out (Nat.le_refl _))).mono ?_
      rintro e w1 ⟨rfl, hb⟩
      have HB1 : Hid (Below w.heap.size w w1) := Lib.hid (below_trans' HB0.out hb)
      clear hb
      go_wp2_with fail
      refine (HL2.out _ _ (HU.out.below HB1.out (Nat.le_refl _))).mono ?_
      rintro e w2 ⟨rfl, hb⟩
      have HB2 : Hid (Below w.heap.size w w2) := Lib.hid (below_trans' HB1.out hb)
      clear hb
      go_wp2_with fail
      refine (awake_any _ (tab_of hT HB2)).mono ?_
      rintro e w3 ⟨rfl, hb⟩
      have HB3 : Hid (Below w.heap.size w w3) := Lib.hid (below_trans' HB2.out hb)
      clear hb
      go_wp2
      go_ret
      exact ⟨rfl, HB3.out⟩
    | false =>
      have htb := small_tot hd
      rw [hd] at HL2
      clear hd
      have hka := keyL_len a (by omega)
      have hkb := keyL_len b (by omega)
      have hza : (bs (keyL a)).size ≤ 10000 := by rw [bs_size]; omega
      have hzb : (bs (keyL b)).size ≤ 10000 := by rw [bs_size]; omega
      have HK1 := Lib.hid (fun v W (h : LAt W v a) => key_any a (by omega) v W h)
      have HK2 := Lib.hid (fun v W (h : LAt W v b) => key_any b (by omega) v W h)
      have hq := key_beq (a := a) (b := b) (by omega) (by omega)
      have HSM := Lib.hid (fun v u W (h : LAt W v a) (k : LAt W u b) => same_any a b a1 b1 v u W h k)
      have hal := tot_len a
      have hbl := tot_len b
      have HS2 := Lib.hid (fun v u W (h : LAt W v a) (k : LAt W u (b.take LA)) => same_any a (b.take LA) a1 (by rw [List.length_take]; omega) v u W h k)
      have HTK := Lib.hid (fun W c' (h : LA ≤ LB) (k : LAt W (.slice ub LB uc) b) => lat_take k LA c' (by rw [HBn.out]; exact h))
      have hLa := HA.out
      have hLb := HBn.out
      have hLA1 : LA ≤ 10000 := by omega
      have hLB1 : LB ≤ 10000 := by omega
      have hpre : LA ≤ LB ∧ b.take LA = a → (bs (keyL a)).size ≤ (bs (keyL b)).size ∧ (((bs (keyL b)).extract 0 (bs (keyL a)).size).toList != (bs (keyL a)).toList) = false := fun h => key_cut (by rw [hLa]; exact h.2)
      have hpr2 : ¬ (LA ≤ LB ∧ b.take LA = a) → (bs (keyL a)).size ≤ (bs (keyL b)).size → (((bs (keyL b)).extract 0 (bs (keyL a)).size).toList != (bs (keyL a)).toList) = true := fun h k => key_nocut (by omega) (by omega) (by rw [hLa, hLb]; exact h) k
      clear hLa hLb
      generalize bs (keyL a) = ka at *
      generalize bs (keyL b) = kb at *
      have hbb : ∀ b : Bool, (b != b) = false := by simp
      have hbB := hbb (sameL a b)
      clear hbb
      by_cases hp : LA ≤ LB ∧ b.take LA = a
      · obtain ⟨z1, z2⟩ := hpre hp
        have hE : sameL a (b.take LA) = true := decide_eq_true hp.2.symm
        rw [hE] at HS2
        have HLE := Lib.hid hp.1
        have hle : (LA : Int) ≤ (LB : Int) := by have := HLE.out; omega
        have zq : ((kb.extract 0 ka.size).toList == ka.toList) = true := by simpa using z2
        have zd : decide (kb.size < ka.size) = false := decide_eq_false (by omega)
        have zl : decide (LA ≤ LB) = true := decide_eq_true HLE.out
        have zc : ¬ ((uc : Int) < (LA : Int)) := by have := HLE.out; omega
        clear hpre hpr2 hE hp hka hkb hal hbl hta htb
        generalize sameL a b = B at *
        generalize b.take LA = bt at *
        have HB0 : Hid (Below w.heap.size w w) := Lib.hid (Below.refl _ _)
        go_enter Tryd.func10, Tryd.ntmps10
        go_wp2_with fail
        refine (HL1.out _ _ (HV.out.below HB0.out (Nat.le_refl _))).mono ?_
        rintro e w1 ⟨rfl, hb⟩
        have HB1 : Hid (Below w.heap.size w w1) := Lib.hid (below_trans' HB0.out hb)
        clear hb
        go_wp2_with fail
        refine (HL2.out _ _ (HU.out.below HB1.out (Nat.le_refl _))).mono ?_
        rintro e w2 ⟨rfl, hb⟩
        have HB2 : Hid (Below w.heap.size w w2) := Lib.hid (below_trans' HB1.out hb)
        clear hb
        go_wp2_with fail
        refine (awake_any _ (tab_of hT HB2)).mono ?_
        rintro e w3 ⟨rfl, hb⟩
        have HB3 : Hid (Below w.heap.size w w3) := Lib.hid (below_trans' HB2.out hb)
        clear hb
        go_wp2_with fail
        refine (HK1.out _ _ (HV.out.below HB3.out (Nat.le_refl _))).mono ?_
        rintro e w4 ⟨rfl, hb⟩
        have HB4 : Hid (Below w.heap.size w w4) := Lib.hid (below_trans' HB3.out hb)
        clear hb
        go_wp2_with fail
        refine (HK2.out _ _ (HU.out.below HB4.out (Nat.le_refl _))).mono ?_
        rintro e w5 ⟨rfl, hb⟩
        have HB5 : Hid (Below w.heap.size w w5) := Lib.hid (below_trans' HB4.out hb)
        clear hb
        go_wp2_with fail
        refine (HSM.out _ _ _ (HV.out.below HB5.out (Nat.le_refl _)) (HU.out.below HB5.out (Nat.le_refl _))).mono ?_
        rintro e w6 ⟨rfl, hb⟩
        have HB6 : Hid (Below w.heap.size w w6) := Lib.hid (below_trans' HB5.out hb)
        clear hb
        go_wp2_with fail
        refine (HS2.out _ _ _ (HV.out.below HB6.out (Nat.le_refl _)) (HTK.out _ _ HLE.out (HU.out.below HB6.out (Nat.le_refl _)))).mono ?_
        rintro e w7 ⟨rfl, hb⟩
        have HB7 : Hid (Below w.heap.size w w7) := Lib.hid (below_trans' HB6.out hb)
        clear hb
        go_wp2
        go_ret
        exact ⟨rfl, HB7.out⟩
      · have hE : LA ≤ LB → sameL a (b.take LA) = false := fun h => decide_eq_false fun e => hp ⟨h, e.symm⟩
        have z2 := hpr2 hp
        clear hpre hpr2 hp hka hkb hal hbl hta htb
        by_cases hle : LA ≤ LB
        · rw [hE hle] at HS2
          have HLE := Lib.hid hle
          clear hE
          generalize sameL a b = B at *
          generalize b.take LA = bt at *
          by_cases hsz : ka.size ≤ kb.size
          · have z3 := z2 hsz
            have zq : ((kb.extract 0 ka.size).toList == ka.toList) = false := by simpa using z3
            have zd : decide (kb.size < ka.size) = false := decide_eq_false (by omega)
            have zl : decide (LB < LA) = false := decide_eq_false (by omega)
            clear z2
            have HB0 : Hid (Below w.heap.size w w) := Lib.hid (Below.refl _ _)
            go_enter Tryd.func10, Tryd.ntmps10
            go_wp2_with fail
            refine (HL1.out _ _ (HV.out.below HB0.out (Nat.le_refl _))).mono ?_
            rintro e w1 ⟨rfl, hb⟩
            have HB1 : Hid (Below w.heap.size w w1) := Lib.hid (below_trans' HB0.out hb)
            clear hb
            go_wp2_with fail
            refine (HL2.out _ _ (HU.out.below HB1.out (Nat.le_refl _))).mono ?_
            rintro e w2 ⟨rfl, hb⟩
            have HB2 : Hid (Below w.heap.size w w2) := Lib.hid (below_trans' HB1.out hb)
            clear hb
            go_wp2_with fail
            refine (awake_any _ (tab_of hT HB2)).mono ?_
            rintro e w3 ⟨rfl, hb⟩
            have HB3 : Hid (Below w.heap.size w w3) := Lib.hid (below_trans' HB2.out hb)
            clear hb
            go_wp2_with fail
            refine (HK1.out _ _ (HV.out.below HB3.out (Nat.le_refl _))).mono ?_
            rintro e w4 ⟨rfl, hb⟩
            have HB4 : Hid (Below w.heap.size w w4) := Lib.hid (below_trans' HB3.out hb)
            clear hb
            go_wp2_with fail
            refine (HK2.out _ _ (HU.out.below HB4.out (Nat.le_refl _))).mono ?_
            rintro e w5 ⟨rfl, hb⟩
            have HB5 : Hid (Below w.heap.size w w5) := Lib.hid (below_trans' HB4.out hb)
            clear hb
            go_wp2_with fail
            refine (HSM.out _ _ _ (HV.out.below HB5.out (Nat.le_refl _)) (HU.out.below HB5.out (Nat.le_refl _))).mono ?_
            rintro e w6 ⟨rfl, hb⟩
            have HB6 : Hid (Below w.heap.size w w6) := Lib.hid (below_trans' HB5.out hb)
            clear hb
            go_wp2_with fail
            refine (HS2.out _ _ _ (HV.out.below HB6.out (Nat.le_refl _)) (HTK.out _ _ HLE.out (HU.out.below HB6.out (Nat.le_refl _)))).mono ?_
            rintro e w7 ⟨rfl, hb⟩
            have HB7 : Hid (Below w.heap.size w w7) := Lib.hid (below_trans' HB6.out hb)
            clear hb
            go_wp2
            go_ret
            exact ⟨rfl, HB7.out⟩
          · clear z2
            have zd : decide (kb.size < ka.size) = true := decide_eq_true (by omega)
            have zl : decide (LB < LA) = false := decide_eq_false (by omega)
            have HB0 : Hid (Below w.heap.size w w) := Lib.hid (Below.refl _ _)
            go_enter Tryd.func10, Tryd.ntmps10
            go_wp2_with fail
            refine (HL1.out _ _ (HV.out.below HB0.out (Nat.le_refl _))).mono ?_
            rintro e w1 ⟨rfl, hb⟩
            have HB1 : Hid (Below w.heap.size w w1) := Lib.hid (below_trans' HB0.out hb)
            clear hb
            go_wp2_with fail
            refine (HL2.out _ _ (HU.out.below HB1.out (Nat.le_refl _))).mono ?_
            rintro e w2 ⟨rfl, hb⟩
            have HB2 : Hid (Below w.heap.size w w2) := Lib.hid (below_trans' HB1.out hb)
            clear hb
            go_wp2_with fail
            refine (awake_any _ (tab_of hT HB2)).mono ?_
            rintro e w3 ⟨rfl, hb⟩
            have HB3 : Hid (Below w.heap.size w w3) := Lib.hid (below_trans' HB2.out hb)
            clear hb
            go_wp2_with fail
            refine (HK1.out _ _ (HV.out.below HB3.out (Nat.le_refl _))).mono ?_
            rintro e w4 ⟨rfl, hb⟩
            have HB4 : Hid (Below w.heap.size w w4) := Lib.hid (below_trans' HB3.out hb)
            clear hb
            go_wp2_with fail
            refine (HK2.out _ _ (HU.out.below HB4.out (Nat.le_refl _))).mono ?_
            rintro e w5 ⟨rfl, hb⟩
            have HB5 : Hid (Below w.heap.size w w5) := Lib.hid (below_trans' HB4.out hb)
            clear hb
            go_wp2_with fail
            refine (HSM.out _ _ _ (HV.out.below HB5.out (Nat.le_refl _)) (HU.out.below HB5.out (Nat.le_refl _))).mono ?_
            rintro e w6 ⟨rfl, hb⟩
            have HB6 : Hid (Below w.heap.size w w6) := Lib.hid (below_trans' HB5.out hb)
            clear hb
            go_wp2_with fail
            refine (HS2.out _ _ _ (HV.out.below HB6.out (Nat.le_refl _)) (HTK.out _ _ HLE.out (HU.out.below HB6.out (Nat.le_refl _)))).mono ?_
            rintro e w7 ⟨rfl, hb⟩
            have HB7 : Hid (Below w.heap.size w w7) := Lib.hid (below_trans' HB6.out hb)
            clear hb
            go_wp2
            go_ret
            exact ⟨rfl, HB7.out⟩
        · clear hE HS2 HTK
          generalize sameL a b = B at *
          have zl : decide (LB < LA) = true := decide_eq_true (by omega)
          by_cases hsz : ka.size ≤ kb.size
          · have z3 := z2 hsz
            have zq : ((kb.extract 0 ka.size).toList == ka.toList) = false := by simpa using z3
            have zd : decide (kb.size < ka.size) = false := decide_eq_false (by omega)
            clear z2
            have HB0 : Hid (Below w.heap.size w w) := Lib.hid (Below.refl _ _)
            go_enter Tryd.func10, Tryd.ntmps10
            go_wp2_with fail
            refine (HL1.out _ _ (HV.out.below HB0.out (Nat.le_refl _))).mono ?_
            rintro e w1 ⟨rfl, hb⟩
            have HB1 : Hid (Below w.heap.size w w1) := Lib.hid (below_trans' HB0.out hb)
            clear hb
            go_wp2_with fail
            refine (HL2.out _ _ (HU.out.below HB1.out (Nat.le_refl _))).mono ?_
            rintro e w2 ⟨rfl, hb⟩
            have HB2 : Hid (Below w.heap.size w w2) := Lib.hid (below_trans' HB1.out hb)
            clear hb
            go_wp2_with fail
            refine (awake_any _ (tab_of hT HB2)).mono ?_
            rintro e w3 ⟨rfl, hb⟩
            have HB3 : Hid (Below w.heap.size w w3) := Lib.hid (below_trans' HB2.out hb)
            clear hb
            go_wp2_with fail
            refine (HK1.out _ _ (HV.out.below HB3.out (Nat.le_refl _))).mono ?_
            rintro e w4 ⟨rfl, hb⟩
            have HB4 : Hid (Below w.heap.size w w4) := Lib.hid (below_trans' HB3.out hb)
            clear hb
            go_wp2_with fail
            refine (HK2.out _ _ (HU.out.below HB4.out (Nat.le_refl _))).mono ?_
            rintro e w5 ⟨rfl, hb⟩
            have HB5 : Hid (Below w.heap.size w w5) := Lib.hid (below_trans' HB4.out hb)
            clear hb
            go_wp2_with fail
            refine (HSM.out _ _ _ (HV.out.below HB5.out (Nat.le_refl _)) (HU.out.below HB5.out (Nat.le_refl _))).mono ?_
            rintro e w6 ⟨rfl, hb⟩
            have HB6 : Hid (Below w.heap.size w w6) := Lib.hid (below_trans' HB5.out hb)
            clear hb
            go_wp2
            go_ret
            exact ⟨rfl, HB6.out⟩
          · clear z2
            have zd : decide (kb.size < ka.size) = true := decide_eq_true (by omega)
            have HB0 : Hid (Below w.heap.size w w) := Lib.hid (Below.refl _ _)
            go_enter Tryd.func10, Tryd.ntmps10
            go_wp2_with fail
            refine (HL1.out _ _ (HV.out.below HB0.out (Nat.le_refl _))).mono ?_
            rintro e w1 ⟨rfl, hb⟩
            have HB1 : Hid (Below w.heap.size w w1) := Lib.hid (below_trans' HB0.out hb)
            clear hb
            go_wp2_with fail
            refine (HL2.out _ _ (HU.out.below HB1.out (Nat.le_refl _))).mono ?_
            rintro e w2 ⟨rfl, hb⟩
            have HB2 : Hid (Below w.heap.size w w2) := Lib.hid (below_trans' HB1.out hb)
            clear hb
            go_wp2_with fail
            refine (awake_any _ (tab_of hT HB2)).mono ?_
            rintro e w3 ⟨rfl, hb⟩
            have HB3 : Hid (Below w.heap.size w w3) := Lib.hid (below_trans' HB2.out hb)
            clear hb
            go_wp2_with fail
            refine (HK1.out _ _ (HV.out.below HB3.out (Nat.le_refl _))).mono ?_
            rintro e w4 ⟨rfl, hb⟩
            have HB4 : Hid (Below w.heap.size w w4) := Lib.hid (below_trans' HB3.out hb)
            clear hb
            go_wp2_with fail
            refine (HK2.out _ _ (HU.out.below HB4.out (Nat.le_refl _))).mono ?_
            rintro e w5 ⟨rfl, hb⟩
            have HB5 : Hid (Below w.heap.size w w5) := Lib.hid (below_trans' HB4.out hb)
            clear hb
            go_wp2_with fail
            refine (HSM.out _ _ _ (HV.out.below HB5.out (Nat.le_refl _)) (HU.out.below HB5.out (Nat.le_refl _))).mono ?_
            rintro e w6 ⟨rfl, hb⟩
            have HB6 : Hid (Below w.heap.size w w6) := Lib.hid (below_trans' HB5.out hb)
            clear hb
            go_wp2
            go_ret
            exact ⟨rfl, HB6.out⟩
set_option maxRecDepth 100000 in
theorem lifted (os : Os) (started : os.Started) (H : Type) (enc : TypeId × Value → H) :
    ReturnsInHanded {} Tryd.checked os 10 .any (fun w args => (Rows.labelsUnlikeSpec.pre enc Tryd.prog Tryd.f10 [] false w args ∧ laidMetH Tryd.prog laid w) ∧ sizedMet enc Tryd.prog Tryd.f10 (OpenSpec.ofChange Rows.labelsUnlikeSpec) false w args)
      (Rows.labelsUnlikeSpec.post enc Tryd.prog Tryd.f10 false true false false) := by
  refine returnsInHanded_of_change_and (C := Tryd.checked) (X := fun w _ => laidMetH Tryd.prog laid w) (fun _ _ _ hh h => h.of_heap hh) own started (by kernel_rfl) Tryd.func10
    (ChangeSpec.witness_shaped (enc := enc) (C := Tryd.checked) (os := os) (X := fun w _ => laidMetH Tryd.prog laid w) false (World.laidAll Tryd.prog os laid) #[.slice none 0 0, .slice none 0 0] 8 (World.laidAll_os _ _ _) (World.shaped_of_ZipB (by kernel_rfl) (by kernel_rfl)) (by kernel_rfl) (by kernel_rfl) (by kernel_rfl) (door_met os _)) ?_
  intro W base args ds gs before hval0 hW hcnd _ hL _
  have hval : ∀ (j : Nat) t v, Tryd.f10.params[j]? = some t → args[j]? = some v → Value.okWide Tryd.prog W .any base t v := hval0
  have hW' := hW
  obtain ⟨p, q, hA0, hV, rfl, hfz, hnd⟩ := hW
  have hA : DataW.TrodAll enc Tryd.prog W 0 (fun _ => true) true Tryd.f10.params.toList args.toList ds p := hA0
  rw [Tryd.params10] at hA hval
  obtain ⟨v0, vs0, d0, ds0, p0, q0, hargs, rfl, rfl, h0, r0⟩ := trodAll_cons hA
  obtain ⟨v1, vs1, d1, ds1, p1, q1, rfl, rfl, rfl, h1, r1⟩ := trodAll_cons r0
  obtain ⟨rfl, rfl, rfl⟩ := trodAll_nil r1
  obtain rfl : args = #[v0, v1] := by cases args; simp_all
  obtain ⟨rfl, rfl⟩ := trodVars_none hV
  have k0 := h0
  have lt0 : ∀ x ∈ p0, x.block < W.heap.size := by obtain ⟨m, hm⟩ := k0; exact DataW.trod_lt m _ _ _ hm
  have k1 := h1
  have lt1 : ∀ x ∈ p1, x.block < W.heap.size := by obtain ⟨m, hm⟩ := k1; exact DataW.trod_lt m _ _ _ hm
  obtain ⟨a0, w0⟩ := open_labels2 (hval 0 25 v0 rfl rfl) h0
  obtain ⟨a1, w1⟩ := open_labels2 (hval 1 25 v1 rfl rfl) h1
  clear hA0 hval0
  refine (core v0 a0 v1 a1 W w0 w1 (Lib.hid (of_laid hL))).mono fun e W' ⟨he, bel⟩ => ?_
  subst he
  exact ⟨_, rfl, _, _, _, [], _, [], hW', trodAll_mk1 (shut_bool Tryd.underlying4 _), (trodAll_cons_mk (Below.trod laidOut (by kernel_rfl) (of_decide_eq_true (by kernel_rfl)) k0 bel lt0) (trodAll_cons_mk (Below.trod laidOut (by kernel_rfl) (of_decide_eq_true (by kernel_rfl)) k1 bel lt1) trodAll_mk0)), rfl, bel.frame _, fun h => by cases h⟩
theorem over : Rows.labelsUnlikeRow.holds Tryd.pinned (OpenSpec.ofChange Rows.labelsUnlikeSpec) :=
  OpenClaim.holds_of_wide 10 Tryd.f10 rfl rfl rfl rfl rfl rfl rfl ⟨rfl, rfl, rfl, rfl, rfl⟩ rfl rfl rfl rfl rfl (by kernel_rfl) Tryd.func10 (by kernel_rfl)
    (of_decide_eq_true (by kernel_rfl)) (by unfold Func.isWrapper; first | (rw [if_pos (by decide +kernel)]; kernel_rfl) | (rw [if_neg (by decide +kernel)]; exact ⟨rfl, rfl⟩))
    (fun os started H enc _ => lifted os started H enc)
theorem proved : Rows.LabelsUnlikeCardSaid :=
  Claim7.holds_tied_plain_at .later [] [.data, .data, .data, .data, .pinned] true (true, "29d8eb039746b622064e7fdd6be2e3716893f65b16f6a8010a72416b636b660b") false
    over (fun _ h => by cases h) (by kernel_rfl) (fun _ h => by cases h) labelsUnlike_row_tie rfl ⟨rfl, rfl⟩ (by kernel_rfl) rfl
    (fun f fn hf hfn => by
      obtain rfl : f = 10 := Option.some.inj ((show Tryd.prog.funcNamed "baton/batonlaw05.LabelsUnlike" = some 10 by kernel_rfl).symm.trans hf) |>.symm
      obtain rfl : fn = Tryd.f10 := (Option.some.inj (Tryd.func10.symm.trans hfn)).symm
      exact ⟨by kernel_rfl, fun j t ht => by
        rw [Tryd.params10] at ht
        have hm : t ∈ [25, 25] := by simpa using Array.mem_of_getElem? ht
        have hall : ([25, 25].all fun u => !Tryd.prog.wantsStandIn u) = true := by kernel_rfl
        exact (show Tryd.prog.wantsStandIn t = false by simpa using List.all_eq_true.1 hall t hm)⟩)
    (by kernel_rfl)
end Go.Proofs.YtjhgmlhoefakpaaDoor.labelsUnlike
