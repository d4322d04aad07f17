/- LabelsBack: the law answers true. Condition: the tables of the library read as their initialisers lay them (tied to the program's text by the card). -/
import Derived.Test.YtjhgmlhoefakpaaDoorCards
import Derived.Test.YtjhgmlhoefakpaaDoorTie
import Derived.Test.YtjhgmlhoefakpaaDoorFi
import Derived.Test.YtjhgmlhoefakpaaDoorAw
import Derived.Test.YtjhgmlhoefakpaaDoorKn
import Derived.SevenTiedAt
import Derived.LaidMore
import Derived.Lay
import Derived.WalkKit
import Derived.ProofKit
import Derived.OpenShut
import Derived.ShutString
namespace Go.Proofs.YtjhgmlhoefakpaaDoor.labelsBack
open Go.ChangeShapes Go.WideShapes Go.ChangeAt Go.RowKit
open Go.ChangeMaps (open_string shut_string)
set_option linter.unusedVariables false
set_option maxRecDepth 100000 in
set_option maxHeartbeats 4000000 in
theorem core (v : Value) (l : List Lb) (w : World) (wl : Arg w v l) (hT : Hid (Tab w)) :
    Calls Tryd.prog 8 #[v] w fun e w' => e = .returned (.bool true) ∧ Below w.heap.size w w' := by
  have HV := Lib.hid wl.at'
  obtain ⟨l1, l2⟩ := arg_wide wl
  have HL1 := Lib.hid (fun v W (h : LAt W v l) => long_any l l1 l2 v W h)
  clear wl
  cases hd : decide (5000 ≤ lng l 0) with
  | true =>
    rw [hd] at HL1
    clear hd
    have HB0 : Hid (Below w.heap.size w w) := Lib.hid (Below.refl _ _)
    go_enter Tryd.func8, Tryd.ntmps8
    go_wp2_with fail
    refine (HL1.out _ _ (HV.out.below HB0.out (Nat.le_refl _))).mono ?_
    rintro e w1 ⟨rfl, hb⟩
    have HB1 : Hid (Below w.heap.size w w1) := Lib.hid (below_trans' HB0.out hb)
    clear hb
    go_wp2_with fail
    refine (awake_any _ (tab_of hT HB1)).mono ?_
    rintro e w2 ⟨rfl, hb⟩
    have HB2 : Hid (Below w.heap.size w w2) := Lib.hid (below_trans' HB1.out hb)
    clear hb
    go_wp2
    go_ret
    exact ⟨rfl, HB2.out⟩
  | false =>
    have htl := small_tot hd
    rw [hd] at HL1
    clear hd
    have hk1 := keyL_len l (by omega)
    have hk2 : (bs (keyL l)).size ≤ 1000000000 := by rw [bs_size]; omega
    have HKY := Lib.hid (fun v W (h : LAt W v l) => key_any l (by omega) v W h)
    have HMY := Lib.hid (fun v W (h : LAt W v l) (k : Tab W) => mayL_any l l1 l2 v W h k)
    obtain ⟨o1, o2⟩ := ofK_key l (by omega)
    cases hm : mayL l with
    | false =>
      obtain ⟨K, hK, hO⟩ := o2 hm
      rw [hm] at HMY
      have HSH := Lib.hid (fun v W (h : LAt W v l) (k : Tab W) => show_not l l1 l2 (showE_no hm) v W h k)
      have HPA := Lib.hid (fun W (k : Tab W) => parse_not ⟨#[]⟩ (by decide) pnil W k)
      have HOF := Lib.hid (fun W (k : Tab W) => of_is (bs (keyL l)) [] K hk2 hO W k)
      have eK : ((K : Int) != 0) = true := by rw [bne_iff_ne]; omega
      clear o1 o2 hK hO hm htl hk1
      generalize bs (keyL l) = kl at *
      have HB0 : Hid (Below w.heap.size w w) := Lib.hid (Below.refl _ _)
      go_enter Tryd.func8, Tryd.ntmps8
      go_wp2_with fail
      refine (HL1.out _ _ (HV.out.below HB0.out (Nat.le_refl _))).mono ?_
      rintro e w1 ⟨rfl, hb⟩
      have HB1 : Hid (Below w.heap.size w w1) := Lib.hid (below_trans' HB0.out hb)
      clear hb
      go_wp2_with fail
      refine (awake_any _ (tab_of hT HB1)).mono ?_
      rintro e w2 ⟨rfl, hb⟩
      have HB2 : Hid (Below w.heap.size w w2) := Lib.hid (below_trans' HB1.out hb)
      clear hb
      go_wp2_with fail
      refine (HSH.out _ _ (HV.out.below HB2.out (Nat.le_refl _)) (tab_of hT HB2)).mono ?_
      rintro e w3 ⟨rfl, hb⟩
      have HB3 : Hid (Below w.heap.size w w3) := Lib.hid (below_trans' HB2.out hb)
      clear hb
      go_wp2_with fail
      refine (HPA.out _ (tab_of hT HB3)).mono ?_
      rintro e w4 ⟨ua, rfl, ho, hb⟩
      have HB4 : Hid (Below w.heap.size w w4) := Lib.hid (below_trans' HB3.out hb)
      have HAo := Lib.hid ho
      have HA_4 := Lib.hid ho.at
      have HAw_4 := Lib.hid ho.wr
      clear ho hb
      obtain ⟨ad, ac, hua⟩ := HAo.out.shape
      subst hua
      go_wp2_with fail
      refine (HKY.out _ _ (HV.out.below HB4.out (Nat.le_refl _))).mono ?_
      rintro e w5 ⟨rfl, hb⟩
      have HB5 : Hid (Below w.heap.size w w5) := Lib.hid (below_trans' HB4.out hb)
      have HA_5 := Lib.hid (HA_4.out.below hb (Nat.le_refl _))
      have HAw_5 := Lib.hid (HAw_4.out.below hb (Nat.le_refl _))
      clear hb
      go_wp2_with fail
      refine (HOF.out _ (tab_of hT HB5)).mono ?_
      rintro e w6 ⟨ub, rfl, ho, hb⟩
      have HB6 : Hid (Below w.heap.size w w6) := Lib.hid (below_trans' HB5.out hb)
      have HA_6 := Lib.hid (HA_5.out.below hb (Nat.le_refl _))
      have HAw_6 := Lib.hid (HAw_5.out.below hb (Nat.le_refl _))
      have HBo := Lib.hid ho
      have HB_6 := Lib.hid ho.at
      have HBw_6 := Lib.hid ho.wr
      clear ho hb
      obtain ⟨bd, bc, hub⟩ := HBo.out.shape
      subst hub
      go_wp2_with fail
      refine (HMY.out _ _ (HV.out.below HB6.out (Nat.le_refl _)) (tab_of hT HB6)).mono ?_
      rintro e w7 ⟨rfl, hb⟩
      have HB7 : Hid (Below w.heap.size w w7) := Lib.hid (below_trans' HB6.out hb)
      have HA_7 := Lib.hid (HA_6.out.below hb (Nat.le_refl _))
      have HAw_7 := Lib.hid (HAw_6.out.below hb (Nat.le_refl _))
      have HB_7 := Lib.hid (HB_6.out.below hb (Nat.le_refl _))
      have HBw_7 := Lib.hid (HBw_6.out.below hb (Nat.le_refl _))
      clear hb
      go_wp2
      go_ret
      exact ⟨rfl, HB7.out⟩
    | true =>
      have hO := o1 hm
      rw [hm] at HMY
      have hz := shows_len hm
      have hz2 : (bs (shows l)).size ≤ 11329 := by rw [bs_size]; exact hz
      have HSH := Lib.hid (fun v W (h : LAt W v l) (k : Tab W) => show_yes l _ l1 l2 (showE_yes hm) v W h k)
      have hp : parseK (bs (shows l)).data.toList = (l, 0) := by unfold parseK; rw [bs_data, parse_shows hm]
      have HPA := Lib.hid (fun W (k : Tab W) => parse_yes (bs (shows l)) l (by omega) hp W k)
      have HOF := Lib.hid (fun W (k : Tab W) => of_is (bs (keyL l)) l 0 hk2 hO W k)
      have HPR := Lib.hid (show ∀ j (h : j < (bs (shows l)).size), Prt (bs (shows l))[j] from fun j h => prt_shows hm _ (by
        have e : (bs (shows l))[j] = (shows l)[j]'(by rw [bs_size] at h; exact h) := by simp [bs, ByteArray.getElem_eq_getElem_data]
        rw [e]; exact List.getElem_mem _))
      have HSM := Lib.hid (fun v u W (h : LAt W v l) (k : LAt W u l) => same_any l l l1 l1 v u W h k)
      have hE : sameL l l = true := by simp [sameL]
      rw [hE] at HSM
      clear o1 o2 hO hm htl hk1 hE hz hp
      generalize bs (keyL l) = kl at *
      generalize bs (shows l) = sl at *
      have HB0 : Hid (Below w.heap.size w w) := Lib.hid (Below.refl _ _)
      go_enter Tryd.func8, Tryd.ntmps8
      go_wp2_with fail
      refine (HL1.out _ _ (HV.out.below HB0.out (Nat.le_refl _))).mono ?_
      rintro e w1 ⟨rfl, hb⟩
      have HB1 : Hid (Below w.heap.size w w1) := Lib.hid (below_trans' HB0.out hb)
      clear hb
      go_wp2_with fail
      refine (awake_any _ (tab_of hT HB1)).mono ?_
      rintro e w2 ⟨rfl, hb⟩
      have HB2 : Hid (Below w.heap.size w w2) := Lib.hid (below_trans' HB1.out hb)
      clear hb
      go_wp2_with fail
      refine (HSH.out _ _ (HV.out.below HB2.out (Nat.le_refl _)) (tab_of hT HB2)).mono ?_
      rintro e w3 ⟨rfl, hb⟩
      have HB3 : Hid (Below w.heap.size w w3) := Lib.hid (below_trans' HB2.out hb)
      clear hb
      go_wp2_with fail
      refine (HPA.out _ (tab_of hT HB3)).mono ?_
      rintro e w4 ⟨ua, rfl, ho, hb⟩
      have HB4 : Hid (Below w.heap.size w w4) := Lib.hid (below_trans' HB3.out hb)
      have HAo := Lib.hid ho
      have HA_4 := Lib.hid ho.at
      have HAw_4 := Lib.hid ho.wr
      clear ho hb
      go_wp2_with fail
      refine (HKY.out _ _ (HV.out.below HB4.out (Nat.le_refl _))).mono ?_
      rintro e w5 ⟨rfl, hb⟩
      have HB5 : Hid (Below w.heap.size w w5) := Lib.hid (below_trans' HB4.out hb)
      have HA_5 := Lib.hid (HA_4.out.below hb (Nat.le_refl _))
      have HAw_5 := Lib.hid (HAw_4.out.below hb (Nat.le_refl _))
      clear hb
      go_wp2_with fail
      refine (HOF.out _ (tab_of hT HB5)).mono ?_
      rintro e w6 ⟨ub, rfl, ho, hb⟩
      have HB6 : Hid (Below w.heap.size w w6) := Lib.hid (below_trans' HB5.out hb)
      have HA_6 := Lib.hid (HA_5.out.below hb (Nat.le_refl _))
      have HAw_6 := Lib.hid (HAw_5.out.below hb (Nat.le_refl _))
      have HBo := Lib.hid ho
      have HB_6 := Lib.hid ho.at
      have HBw_6 := Lib.hid ho.wr
      clear ho hb
      go_wp2_with fail
      refine (HMY.out _ _ (HV.out.below HB6.out (Nat.le_refl _)) (tab_of hT HB6)).mono ?_
      rintro e w7 ⟨rfl, hb⟩
      have HB7 : Hid (Below w.heap.size w w7) := Lib.hid (below_trans' HB6.out hb)
      have HA_7 := Lib.hid (HA_6.out.below hb (Nat.le_refl _))
      have HAw_7 := Lib.hid (HAw_6.out.below hb (Nat.le_refl _))
      have HB_7 := Lib.hid (HB_6.out.below hb (Nat.le_refl _))
      have HBw_7 := Lib.hid (HBw_6.out.below hb (Nat.le_refl _))
      clear hb
      go_wp2
      go_loopw [9] (fun i wr => ∃ k : Nat, i = .int .i64 (k : Int) ∧ k ≤ sl.size ∧ Hid (wr = w7)) (fun i _ => sl.size - (intOf i).toNat)
      case atStart => exact ⟨0, rfl, by omega, Lib.hid rfl⟩
      case round =>
        obtain ⟨k, rfl, hk, HW⟩ := hrel
        obtain rfl := HW.out
        by_cases hlt : k < sl.size
        · have hc := HPR.out k hlt
          unfold Prt at hc
          obtain ⟨hc1, hc2⟩ := hc
          have d1 : ¬ ((sl[k].toNat : Int) < 32) := by omega
          have d2 : ¬ (126 < (sl[k].toNat : Int)) := by omega
          go_wp2
          go_roundw
          case rel => exact ⟨k + 1, by go_num, by omega, by first | exact HW | exact Lib.hid trivial | exact Lib.hid rfl⟩
          case measure => (try simp [intOf]); (try omega)
        · obtain rfl : k = sl.size := by omega
          go_wp2_with fail
          refine (HSM.out _ _ _ HA_7.out (HV.out.below HB7.out (Nat.le_refl _))).mono ?_
          rintro e w8 ⟨rfl, hb⟩
          have HB8 : Hid (Below w.heap.size w w8) := Lib.hid (below_trans' HB7.out hb)
          have HA_8 := Lib.hid (HA_7.out.below hb (Nat.le_refl _))
          have HAw_8 := Lib.hid (HAw_7.out.below hb (Nat.le_refl _))
          have HB_8 := Lib.hid (HB_7.out.below hb (Nat.le_refl _))
          have HBw_8 := Lib.hid (HBw_7.out.below hb (Nat.le_refl _))
          clear hb
          go_wp2_with fail
          refine (HSM.out _ _ _ HB_8.out (HV.out.below HB8.out (Nat.le_refl _))).mono ?_
          rintro e w9 ⟨rfl, hb⟩
          have HB9 : Hid (Below w.heap.size w w9) := Lib.hid (below_trans' HB8.out hb)
          have HA_9 := Lib.hid (HA_8.out.below hb (Nat.le_refl _))
          have HAw_9 := Lib.hid (HAw_8.out.below hb (Nat.le_refl _))
          have HB_9 := Lib.hid (HB_8.out.below hb (Nat.le_refl _))
          have HBw_9 := Lib.hid (HBw_8.out.below hb (Nat.le_refl _))
          clear hb
          go_wp2
          go_ret
          exact ⟨rfl, HB9.out⟩
set_option maxRecDepth 100000 in
theorem lifted (os : Os) (started : os.Started) (H : Type) (enc : TypeId × Value → H) :
    ReturnsInHanded {} Tryd.checked os 8 .any (fun w args => (Rows.labelsBackSpec.pre enc Tryd.prog Tryd.f8 [] false w args ∧ laidMetH Tryd.prog laid w) ∧ sizedMet enc Tryd.prog Tryd.f8 (OpenSpec.ofChange Rows.labelsBackSpec) false w args)
      (Rows.labelsBackSpec.post enc Tryd.prog Tryd.f8 false true false false) := by
  refine returnsInHanded_of_change_and (C := Tryd.checked) (X := fun w _ => laidMetH Tryd.prog laid w) (fun _ _ _ hh h => h.of_heap hh) own started (by kernel_rfl) Tryd.func8
    (ChangeSpec.witness_shaped (enc := enc) (C := Tryd.checked) (os := os) (X := fun w _ => laidMetH Tryd.prog laid w) false (World.laidAll Tryd.prog os laid) #[.slice none 0 0] 8 (World.laidAll_os _ _ _) (World.shaped_of_ZipB (by kernel_rfl) (by kernel_rfl)) (by kernel_rfl) (by kernel_rfl) (by kernel_rfl) (door_met os _)) ?_
  intro W base args ds gs before hval0 hW hcnd _ hL _
  have hval : ∀ (j : Nat) t v, Tryd.f8.params[j]? = some t → args[j]? = some v → Value.okWide Tryd.prog W .any base t v := hval0
  have hW' := hW
  obtain ⟨p, q, hA0, hV, rfl, hfz, hnd⟩ := hW
  have hA : DataW.TrodAll enc Tryd.prog W 0 (fun _ => true) true Tryd.f8.params.toList args.toList ds p := hA0
  rw [Tryd.params8] at hA hval
  obtain ⟨v0, vs0, d0, ds0, p0, q0, hargs, rfl, rfl, h0, r0⟩ := trodAll_cons hA
  obtain ⟨rfl, rfl, rfl⟩ := trodAll_nil r0
  obtain rfl : args = #[v0] := by cases args; simp_all
  obtain ⟨rfl, rfl⟩ := trodVars_none hV
  have k0 := h0
  have lt0 : ∀ x ∈ p0, x.block < W.heap.size := by obtain ⟨m, hm⟩ := k0; exact DataW.trod_lt m _ _ _ hm
  obtain ⟨a0, w0⟩ := open_labels (hval 0 25 v0 rfl rfl) h0
  clear hA0 hval0
  refine (core v0 a0 W w0 (Lib.hid (of_laid hL))).mono fun e W' ⟨he, bel⟩ => ?_
  subst he
  exact ⟨_, rfl, _, _, _, [], _, [], hW', trodAll_mk1 (shut_bool Tryd.underlying4 _), (trodAll_cons_mk (Below.trod laidOut (by kernel_rfl) (of_decide_eq_true (by kernel_rfl)) k0 bel lt0) trodAll_mk0), rfl, bel.frame _, fun h => by cases h⟩
theorem over : Rows.labelsBackRow.holds Tryd.pinned (OpenSpec.ofChange Rows.labelsBackSpec) :=
  OpenClaim.holds_of_wide 8 Tryd.f8 rfl rfl rfl rfl rfl rfl rfl ⟨rfl, rfl, rfl, rfl, rfl⟩ rfl rfl rfl rfl rfl (by kernel_rfl) Tryd.func8 (by kernel_rfl)
    (of_decide_eq_true (by kernel_rfl)) (by unfold Func.isWrapper; first | (rw [if_pos (by decide +kernel)]; kernel_rfl) | (rw [if_neg (by decide +kernel)]; exact ⟨rfl, rfl⟩))
    (fun os started H enc _ => lifted os started H enc)
theorem proved : Rows.LabelsBackCardSaid :=
  Claim7.holds_tied_plain_at .later [] [.data, .data, .data, .data, .pinned] true (true, "29d8eb039746b622064e7fdd6be2e3716893f65b16f6a8010a72416b636b660b") false
    over (fun _ h => by cases h) (by kernel_rfl) (fun _ h => by cases h) labelsBack_row_tie rfl ⟨rfl, rfl⟩ (by kernel_rfl) rfl
    (fun f fn hf hfn => by
      obtain rfl : f = 8 := Option.some.inj ((show Tryd.prog.funcNamed "baton/batonlaw05.LabelsBack" = some 8 by kernel_rfl).symm.trans hf) |>.symm
      obtain rfl : fn = Tryd.f8 := (Option.some.inj (Tryd.func8.symm.trans hfn)).symm
      exact ⟨by kernel_rfl, fun j t ht => by
        rw [Tryd.params8] at ht
        have hm : t ∈ [25] := by simpa using Array.mem_of_getElem? ht
        have hall : ([25].all fun u => !Tryd.prog.wantsStandIn u) = true := by kernel_rfl
        exact (show Tryd.prog.wantsStandIn t = false by simpa using List.all_eq_true.1 hall t hm)⟩)
    (by kernel_rfl)
end Go.Proofs.YtjhgmlhoefakpaaDoor.labelsBack
