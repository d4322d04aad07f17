/- ProtoBack: for any fields and any text the law answers true. No condition. -/
import Derived.Test.YtbckkfoenembmaaRows
import Derived.Test.YtbckkfoenembmaaAw
import Derived.Test.YtbckkfoenembmaaFs
import Derived.WalkKit
import Derived.ProofKit
import Derived.OpenShut
import Derived.ShutString
namespace Go.Proofs.Ytbckkfoenembmaa.protoBack
open Go.ChangeShapes Go.WideShapes Go.ChangeAt Go.RowKit
open Go.ChangeMaps (open_string shut_string)
set_option linter.unusedVariables false
set_option maxRecDepth 100000 in
set_option maxHeartbeats 4000000 in
/-- From where the text is read on. -/
theorem core (v : Value) (l : List Ff) (s : ByteArray) (ws : s.size ≤ maxLen) (w : World) (h : Arg w v l) :
    Calls Try.prog 7 #[v, .string s] w fun e w' => e = .returned (.bool true) ∧ Below w.heap.size w w' := by
  obtain ⟨hA, hlm, hwd⟩ := h
  have hs63 : (s.size : Int) ≤ 9223372036854775807 := by unfold maxLen at ws; omega
  have HA := Lib.hid hA
  have HLG := Lib.hid (fun W (hW : FAt W v l) => large_any l hlm hwd v W hW)
  obtain ⟨va, vc, hv⟩ := hA.slice
  generalize hLL : l.length = LL at hv
  clear hLL
  subst hv
  clear hA
  by_cases hb : 10000 ≤ lng l 0
  · have hd : decide (10000 ≤ lng l 0) = true := decide_eq_true hb
    clear hb
    rw [hd] at HLG
    clear hd hwd hlm
    go_enter Try.func7, Try.ntmps7
    go_wp2_with fail
    refine (HLG.out _ HA.out).mono ?_
    rintro e w1 ⟨rfl, rfl⟩
    go_wp2_with fail
    refine (awake_any _).mono ?_
    rintro e w1 ⟨rfl, hb1⟩
    have HB1 := Lib.hid hb1
    clear hb1
    go_wp2
    go_ret
    exact ⟨rfl, HB1.out⟩
  · have hd : decide (10000 ≤ lng l 0) = false := decide_eq_false hb
    rw [hd] at HLG
    have F := fit_of hwd (by omega)
    clear hd hwd hlm hb
    by_cases hbig : 20000 < s.size
    · clear F
      go_enter Try.func7, Try.ntmps7
      go_wp2_with fail
      refine (HLG.out _ HA.out).mono ?_
      rintro e w1 ⟨rfl, rfl⟩
      go_wp2_with fail
      refine (awake_any _).mono ?_
      rintro e w1 ⟨rfl, hb1⟩
      have HB1 := Lib.hid hb1
      clear hb1
      go_wp2
      go_ret
      exact ⟨rfl, HB1.out⟩
    · obtain ⟨M, E2, H2⟩ := half s (by omega)
      obtain ⟨gs, R, E, H1⟩ := fst_of F
      have HMD := Lib.hid H1.md
      have HWR := Lib.hid H1.wr
      have HWH := Lib.hid H1.wh
      have HRD := Lib.hid H1.rd
      have HSM := Lib.hid H1.sm
      have KRD := Lib.hid H2.rd
      have KWR := Lib.hid H2.wr
      have KR2 := Lib.hid H2.rd2
      have KLE := Lib.hid H2.le
      have KSM := Lib.hid H2.sm
      clear H1 H2 F
      generalize M.map gfd = ms at *
      generalize M.flatMap fby = U at *
      go_enter Try.func7, Try.ntmps7
      go_wp2_with fail
      refine (HLG.out _ HA.out).mono ?_
      rintro e w0 ⟨rfl, rfl⟩
      go_wp2_with fail
      refine (HMD.out _ _ HA.out).mono ?_
      rintro e w2 ⟨v2, rfl, ho2, hb2⟩
      have HB2 := Lib.hid hb2
      have HA2 := Lib.hid (HA.out.below hb2 (Nat.le_refl _))
      have HG2 := Lib.hid ho2.at
      obtain ⟨a2, c2, hv2⟩ := ho2.shape
      clear hb2 ho2
      subst hv2
      go_wp2_with fail
      refine (HWR.out _ _ HG2.out).mono ?_
      rintro e w3 ⟨rfl, hb3⟩
      have HB3 := Lib.hid (below_trans' HB2.out hb3)
      have HA3 := Lib.hid (HA2.out.below hb3 (Nat.le_refl _))
      have HG3 := Lib.hid (HG2.out.below hb3 (Nat.le_refl _))
      clear hb3
      dsimp only
      by_cases h0 : E = 0
      · subst h0
        have hd0 : decide ((0 : Nat) = 0) = true := rfl
        rw [hd0] at HWH
        clear hd0
        have HRD1 := Lib.hid (HRD.out rfl)
        have HSM1 := Lib.hid (HSM.out rfl)
        clear HRD HSM
        go_wp2_with fail
        refine (HWH.out _ _ HA3.out).mono ?_
        rintro e w4 ⟨rfl, hb4⟩
        have HB4 := Lib.hid (below_trans' HB3.out hb4)
        have HG4 := Lib.hid (HG3.out.below hb4 (Nat.le_refl _))
        clear hb4
        go_wp2_with fail
        refine (HRD1.out _).mono ?_
        rintro e w5 ⟨v5, rfl, ho5, hb5⟩
        have HB5 := Lib.hid (below_trans' HB4.out hb5)
        have HG5 := Lib.hid (HG4.out.below hb5 (Nat.le_refl _))
        have HM5 := Lib.hid ho5.at
        clear hb5 ho5
        go_wp2_with fail
        refine (HSM1.out _ _ _ HM5.out HG5.out).mono ?_
        rintro e w6 ⟨rfl, hb6⟩
        have HB6 := Lib.hid (below_trans' HB5.out hb6)
        have HG6 := Lib.hid (HG5.out.below hb6 (Nat.le_refl _))
        have HM6 := Lib.hid (HM5.out.below hb6 (Nat.le_refl _))
        clear hb6
        go_wp2_with fail
        refine (HSM1.out _ _ _ HG6.out HM6.out).mono ?_
        rintro e w7 ⟨rfl, hb7⟩
        have HB7 := Lib.hid (below_trans' HB6.out hb7)
        clear hb7
        go_wp2_with fail
        refine (KRD.out _).mono ?_
        rintro e w8 ⟨v8, rfl, ho8, hb8⟩
        have HB8 := Lib.hid (below_trans' HB7.out hb8)
        have HM8 := Lib.hid ho8.at
        obtain ⟨a8, c8, hv8⟩ := ho8.shape
        subst hv8
        clear hb8 ho8
        dsimp only
        by_cases h2 : E2 = 0
        · subst h2
          have KWR1 := Lib.hid (KWR.out rfl)
          have KR21 := Lib.hid (KR2.out rfl)
          have KSM1 := Lib.hid (KSM.out rfl)
          have hle := KLE.out rfl
          clear KWR KR2 KSM KLE
          go_wp2_with fail
          refine (KWR1.out _ _ HM8.out).mono ?_
          rintro e w9 ⟨rfl, hb9⟩
          have HB9 := Lib.hid (below_trans' HB8.out hb9)
          have HM9 := Lib.hid (HM8.out.below hb9 (Nat.le_refl _))
          clear hb9
          dsimp only
          go_wp2_with fail
          refine (KR21.out _).mono ?_
          rintro e w10 ⟨v10, rfl, ho10, hb10⟩
          have HB10 := Lib.hid (below_trans' HB9.out hb10)
          have HM10 := Lib.hid (HM9.out.below hb10 (Nat.le_refl _))
          have HN10 := Lib.hid ho10.at
          clear hb10 ho10
          have hlei : ((bs U).size : Int) ≤ (s.size : Int) := by omega
          go_wp2_with fail
          refine (KSM1.out _ _ _ HN10.out HM10.out).mono ?_
          rintro e w11 ⟨rfl, hb11⟩
          have HB11 := Lib.hid (below_trans' HB10.out hb11)
          clear hb11
          go_wp2_with fail
          refine (awake_any _).mono ?_
          rintro e w12 ⟨rfl, hb12⟩
          have HB12 := Lib.hid (below_trans' HB11.out hb12)
          clear hb12
          go_wp2
          go_ret
          exact ⟨rfl, HB12.out⟩
        · have he2 : ((E2 : Int) != 0) = true := by rw [bne_iff_ne]; omega
          clear h2
          go_wp2_with fail
          refine (awake_any _).mono ?_
          rintro e w9 ⟨rfl, hb9⟩
          have HB9 := Lib.hid (below_trans' HB8.out hb9)
          clear hb9
          go_wp2
          go_ret
          exact ⟨rfl, HB9.out⟩
      · have hd0 : decide (E = 0) = false := decide_eq_false h0
        rw [hd0] at HWH
        have he0 : ((E : Int) == 0) = false := by rw [beq_eq_false_iff_ne]; omega
        clear hd0 HRD HSM h0
        go_wp2_with fail
        refine (HWH.out _ _ HA3.out).mono ?_
        rintro e w4 ⟨rfl, hb4⟩
        have HB7 := Lib.hid (below_trans' HB3.out hb4)
        clear hb4
        go_wp2_with fail
        refine (KRD.out _).mono ?_
        rintro e w8 ⟨v8, rfl, ho8, hb8⟩
        have HB8 := Lib.hid (below_trans' HB7.out hb8)
        have HM8 := Lib.hid ho8.at
        obtain ⟨a8, c8, hv8⟩ := ho8.shape
        subst hv8
        clear hb8 ho8
        dsimp only
        by_cases h2 : E2 = 0
        · subst h2
          have KWR1 := Lib.hid (KWR.out rfl)
          have KR21 := Lib.hid (KR2.out rfl)
          have KSM1 := Lib.hid (KSM.out rfl)
          have hle := KLE.out rfl
          clear KWR KR2 KSM KLE
          go_wp2_with fail
          refine (KWR1.out _ _ HM8.out).mono ?_
          rintro e w9 ⟨rfl, hb9⟩
          have HB9 := Lib.hid (below_trans' HB8.out hb9)
          have HM9 := Lib.hid (HM8.out.below hb9 (Nat.le_refl _))
          clear hb9
          dsimp only
          go_wp2_with fail
          refine (KR21.out _).mono ?_
          rintro e w10 ⟨v10, rfl, ho10, hb10⟩
          have HB10 := Lib.hid (below_trans' HB9.out hb10)
          have HM10 := Lib.hid (HM9.out.below hb10 (Nat.le_refl _))
          have HN10 := Lib.hid ho10.at
          clear hb10 ho10
          have hlei : ((bs U).size : Int) ≤ (s.size : Int) := by omega
          go_wp2_with fail
          refine (KSM1.out _ _ _ HN10.out HM10.out).mono ?_
          rintro e w11 ⟨rfl, hb11⟩
          have HB11 := Lib.hid (below_trans' HB10.out hb11)
          clear hb11
          go_wp2_with fail
          refine (awake_any _).mono ?_
          rintro e w12 ⟨rfl, hb12⟩
          have HB12 := Lib.hid (below_trans' HB11.out hb12)
          clear hb12
          go_wp2
          go_ret
          exact ⟨rfl, HB12.out⟩
        · have he2 : ((E2 : Int) != 0) = true := by rw [bne_iff_ne]; omega
          clear h2
          go_wp2_with fail
          refine (awake_any _).mono ?_
          rintro e w9 ⟨rfl, hb9⟩
          have HB9 := Lib.hid (below_trans' HB8.out hb9)
          clear hb9
          go_wp2
          go_ret
          exact ⟨rfl, HB9.out⟩
theorem own : ownKnob Try.prog.godebug = none := by kernel_rfl
theorem laidOut : laidOutB Try.prog = true := by kernel_rfl
set_option maxRecDepth 100000 in
theorem lifted (os : Os) (started : os.Started) (H : Type) (enc : TypeId × Value → H) :
    ReturnsInHanded {} Try.checked os 7 .any (Rows.protoBackSpec.pre6 enc Try.prog Try.f7 Rows.protoBackRow.domain false) (Rows.protoBackSpec.post enc Try.prog Try.f7 false true false false) := by
  refine returnsInHanded_of_change (C := Try.checked) own started (by kernel_rfl) Try.func7
    (ChangeSpec.witness6 (enc := enc) (C := Try.checked) false ⟨#[], #[.slice none 0 0, .string ByteArray.empty], []⟩ 8 (by kernel_rfl) (by kernel_rfl) (by kernel_rfl) (by kernel_rfl)) ?_
  intro W base args ds gs before hval0 hW hcnd _
  have hval : ∀ (j : Nat) t v, Try.f7.params[j]? = some t → args[j]? = some v → Value.okWide Try.prog W .any base t v := hval0
  have hW' := hW
  obtain ⟨p, q, hA0, hV, rfl, hfz, hnd⟩ := hW
  have hA : DataW.TrodAll enc Try.prog W 0 (fun _ => true) true Try.f7.params.toList args.toList ds p := hA0
  rw [Try.params7] at hA hval
  obtain ⟨v0, vs0, d0, ds0, p0, q0, hargs, rfl, rfl, h0, r0⟩ := trodAll_cons hA
  obtain ⟨v1, vs1, d1, ds1, p1, q1, rfl, rfl, rfl, h1, r1⟩ := trodAll_cons r0
  obtain ⟨rfl, rfl, rfl⟩ := trodAll_nil r1
  obtain rfl : args = #[v0, v1] := by cases args; simp_all
  obtain ⟨rfl, rfl⟩ := trodVars_none hV
  have k0 := h0
  have lt0 : ∀ x ∈ p0, x.block < W.heap.size := by obtain ⟨m, hm⟩ := k0; exact DataW.trod_lt m _ _ _ hm
  have k1 := h1
  have lt1 : ∀ x ∈ p1, x.block < W.heap.size := by obtain ⟨m, hm⟩ := k1; exact DataW.trod_lt m _ _ _ hm
  obtain ⟨a0, w0⟩ := open_fields (hval 0 23 v0 rfl rfl) h0
  obtain ⟨a1, rfl, rfl, rfl, w1⟩ := open_string Try.underlying9 (hval 1 9 v1 rfl rfl) h1
  clear hA0 hval0
  refine (core v0 a0 a1 w1 W w0).mono fun e W' ⟨he, bel⟩ => ?_
  subst he
  exact ⟨_, rfl, _, _, _, [], _, [], hW', trodAll_mk1 (shut_bool Try.underlying4 _), (trodAll_cons_mk (Below.trod laidOut (by kernel_rfl) (of_decide_eq_true (by kernel_rfl)) k0 bel lt0) (trodAll_cons_mk (Below.trod laidOut (by kernel_rfl) (of_decide_eq_true (by kernel_rfl)) k1 bel lt1) trodAll_mk0)), rfl, bel.frame _, fun h => by cases h⟩
theorem over : Rows.protoBackRow.holds Try.pinned (OpenSpec.ofChange Rows.protoBackSpec) :=
  OpenClaim.holds_of_wide 7 Try.f7 rfl rfl rfl rfl rfl rfl rfl ⟨rfl, rfl, rfl, rfl, rfl⟩ rfl rfl rfl rfl rfl (by kernel_rfl) Try.func7 (by kernel_rfl)
    (of_decide_eq_true (by kernel_rfl)) (by unfold Func.isWrapper; first | (rw [if_pos (by decide +kernel)]; kernel_rfl) | (rw [if_neg (by decide +kernel)]; exact ⟨rfl, rfl⟩))
    (fun os started H enc _ => lifted os started H enc)
theorem proved : Rows.ProtoBackSaid := over
end Go.Proofs.Ytbckkfoenembmaa.protoBack
