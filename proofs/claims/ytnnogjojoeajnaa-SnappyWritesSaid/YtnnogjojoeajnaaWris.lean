/- SnappyWrites: for any parts and any number the law answers true. No condition. -/
import Derived.Test.YtnnogjojoeajnaaRows
import Derived.Test.YtnnogjojoeajnaaAw
import Derived.Test.YtnnogjojoeajnaaGi
import Derived.Test.YtnnogjojoeajnaaRi
import Derived.WalkKit
import Derived.ProofKit
import Derived.OpenShut
import Derived.ShutString
namespace Go.Proofs.Ytnnogjojoeajnaa.snappyWrites
open Go.ChangeShapes Go.WideShapes Go.ChangeAt Go.RowKit
set_option linter.unusedVariables false
theorem below_trans' {w a b : World} (h : Below w.heap.size w a) (k : Below a.heap.size a b) : Below w.heap.size w b := h.trans (k.mono h.size)
set_option maxRecDepth 100000 in
set_option maxHeartbeats 2000000 in
theorem core (v : Value) (l : List Pt) (most : Int) (wm : (Lit.int .i64 most).wf = true) (w : World) (h : Arg w v l) :
    Calls Try.prog 5 #[v, .int .i64 most] w fun e w' => e = .returned (.bool true) ∧ Below w.heap.size w w' := by
  obtain ⟨mm0, mm1⟩ := bounds_i64 wm
  obtain ⟨hA, hlm, hwd⟩ := h
  have HA := Lib.hid hA
  have HLG := Lib.hid (fun W (hW : ArgAt W v l) => long_any l hlm hwd v W hW)
  obtain ⟨va, vc, hv⟩ := hA.slice
  generalize hLL : l.length = LL at hv
  subst hv
  clear hA
  by_cases hb : 5000 ≤ lng l 0
  · have hd : decide (5000 ≤ lng l 0) = true := decide_eq_true hb
    clear hb
    rw [hd] at HLG
    clear hd hwd hlm
    go_enter Try.func5, Try.ntmps5
    go_wp2_with fail
    refine (HLG.out _ HA.out).mono ?_
    rintro e w1 ⟨rfl, rfl⟩
    go_wp2_with fail
    refine (awake_any _).mono ?_
    rintro e w1 ⟨rfl, hb1⟩
    have HB1 := Lib.hid hb1
    clear hb1
    go_wp2
    go_ret
    exact ⟨rfl, HB1.out⟩
  · have hd : decide (5000 ≤ lng l 0) = false := decide_eq_false hb
    rw [hd] at HLG
    obtain ⟨hs1, hs2⟩ := lng_short l 0 (by omega)
    have hok : ∀ p ∈ l, p.ok := fun p hp => by
      have h1 := hwd p hp
      have h2 := hs2 p hp
      exact ⟨by omega, h1.o0, h1.o1, h1.l0, h1.l1⟩
    have hl71 : l.length ≤ 71 := by omega
    obtain ⟨out, er, hx⟩ : ∃ out er, expand most l [] = (out, er) := ⟨_, _, rfl⟩
    obtain ⟨blo, er2, hx2⟩ : ∃ out er, write l = (out, er) := ⟨_, _, rfl⟩
    have HE := Lib.hid (fun V W hv => expand_any l (by omega) hok most mm0 (by omega) V W hv)
    have HE2 := Lib.hid (fun V W hv => rexpand_any l (by omega) hok most mm0 (by omega) V W hv)
    have HW := Lib.hid (fun V W hv => write_any l (by omega) hok V W hv)
    have HW2 := Lib.hid (fun V W hv => rwrite_any l (by omega) hok V W hv)
    have HG := Lib.hid (fun V W hv => given_any l (by omega) V W hv)
    have HS := Lib.hid (fun V U W hv hu => same_any l (by omega) V U W hv hu)
    rw [hx] at HE HE2
    rw [hx2] at HW HW2
    have e1 : (er == er) = true := by simp
    have e2 : (er2 == er2) = true := by simp
    have e3 : ((bs out).toList == (bs out).toList) = true := by simp
    have e4 : ((bs blo).toList == (bs blo).toList) = true := by simp
    clear hok hx hx2 hs2 hd hs1 hlm hwd hb hl71 hLL
    go_enter Try.func5, Try.ntmps5
    go_wp2_with fail
    refine (HLG.out _ HA.out).mono ?_
    rintro e w0 ⟨rfl, rfl⟩
    go_wp2_with fail
    refine (HG.out _ _ HA.out).mono ?_
    rintro e w2 ⟨v2, rfl, ho2, hb2⟩
    have HB2 := Lib.hid hb2
    have HA2 := Lib.hid (HA.out.below hb2 rfl)
    have HV2 := Lib.hid (partsAt_of ho2)
    clear hb2 ho2
    go_wp2_with fail
    refine (HE.out _ _ HV2.out).mono ?_
    rintro e w3 ⟨rfl, hb3⟩
    have HB3 := Lib.hid (below_trans' HB2.out hb3)
    have HA3 := Lib.hid (HA2.out.below hb3 rfl)
    have HV3 := Lib.hid (HV2.out.below hb3 rfl)
    clear hb3
    go_wp2_with fail
    refine (HE2.out _ _ HA3.out).mono ?_
    rintro e w4 ⟨rfl, hb4⟩
    have HB4 := Lib.hid (below_trans' HB3.out hb4)
    have HA4 := Lib.hid (HA3.out.below hb4 rfl)
    have HV4 := Lib.hid (HV3.out.below hb4 rfl)
    clear hb4
    go_wp2_with fail
    refine (HW.out _ _ HV4.out).mono ?_
    rintro e w5 ⟨rfl, hb5⟩
    have HB5 := Lib.hid (below_trans' HB4.out hb5)
    have HA5 := Lib.hid (HA4.out.below hb5 rfl)
    have HV5 := Lib.hid (HV4.out.below hb5 rfl)
    clear hb5
    go_wp2_with fail
    refine (HW2.out _ _ HA5.out).mono ?_
    rintro e w6 ⟨rfl, hb6⟩
    have HB6 := Lib.hid (below_trans' HB5.out hb6)
    have HA6 := Lib.hid (HA5.out.below hb6 rfl)
    have HV6 := Lib.hid (HV5.out.below hb6 rfl)
    clear hb6
    go_wp2_with fail
    refine (HS.out _ _ _ HV6.out HA6.out).mono ?_
    rintro e w7 ⟨rfl, hb7⟩
    have HB7 := Lib.hid (below_trans' HB6.out hb7)
    clear hb7
    go_wp2_with fail
    refine (awake_any _).mono ?_
    rintro e w8 ⟨rfl, hb8⟩
    have HB8 := Lib.hid (below_trans' HB7.out hb8)
    clear hb8
    go_wp2
    go_ret
    exact ⟨rfl, HB8.out⟩
theorem own : ownKnob Try.prog.godebug = none := by kernel_rfl
theorem laidOut : laidOutB Try.prog = true := by kernel_rfl
set_option maxRecDepth 100000 in
theorem lifted (os : Os) (started : os.Started) (H : Type) (enc : TypeId × Value → H) :
    ReturnsInHanded {} Try.checked os 5 .any (Rows.snappyWritesSpec.pre6 enc Try.prog Try.f5 Rows.snappyWritesRow.domain false) (Rows.snappyWritesSpec.post enc Try.prog Try.f5 false true false false) := by
  refine returnsInHanded_of_change (C := Try.checked) own started (by kernel_rfl) Try.func5
    (ChangeSpec.witness6 (enc := enc) (C := Try.checked) false ⟨#[], #[.slice none 0 0, .int .i64 0], []⟩ 8 (by kernel_rfl) (by kernel_rfl) (by kernel_rfl) (by kernel_rfl)) ?_
  intro W base args ds gs before hval0 hW hcnd _
  have hval : ∀ (j : Nat) t v, Try.f5.params[j]? = some t → args[j]? = some v → Value.okWide Try.prog W .any base t v := hval0
  have hW' := hW
  obtain ⟨p, q, hA0, hV, rfl, hfz, hnd⟩ := hW
  have hA : DataW.TrodAll enc Try.prog W 0 (fun _ => true) true Try.f5.params.toList args.toList ds p := hA0
  rw [Try.params5] at hA hval
  obtain ⟨v0, vs0, d0, ds0, p0, q0, hargs, rfl, rfl, h0, r0⟩ := trodAll_cons hA
  obtain ⟨v1, vs1, d1, ds1, p1, q1, rfl, rfl, rfl, h1, r1⟩ := trodAll_cons r0
  obtain ⟨rfl, rfl, rfl⟩ := trodAll_nil r1
  obtain rfl : args = #[v0, v1] := by cases args; simp_all
  obtain ⟨rfl, rfl⟩ := trodVars_none hV
  have k0 := h0
  have lt0 : ∀ x ∈ p0, x.block < W.heap.size := by obtain ⟨m, hm⟩ := k0; exact DataW.trod_lt m _ _ _ hm
  have k1 := h1
  have lt1 : ∀ x ∈ p1, x.block < W.heap.size := by obtain ⟨m, hm⟩ := k1; exact DataW.trod_lt m _ _ _ hm
  obtain ⟨a0, w0⟩ := open_parts (hval 0 42 v0 rfl rfl) h0
  obtain ⟨a1, rfl, rfl, rfl, w1⟩ := open_int Try.underlying3 (hval 1 3 v1 rfl rfl) h1
  clear hA0 hval0
  refine (core v0 a0 a1 w1 W w0).mono fun e W' ⟨he, bel⟩ => ?_
  subst he
  exact ⟨_, rfl, _, _, _, [], _, [], hW', trodAll_mk1 (shut_bool Try.underlying4 _), (trodAll_cons_mk (Below.trod laidOut (by kernel_rfl) (of_decide_eq_true (by kernel_rfl)) k0 bel lt0) (trodAll_cons_mk (Below.trod laidOut (by kernel_rfl) (of_decide_eq_true (by kernel_rfl)) k1 bel lt1) trodAll_mk0)), rfl, bel.frame _, fun h => by cases h⟩
theorem over : Rows.snappyWritesRow.holds Try.pinned (OpenSpec.ofChange Rows.snappyWritesSpec) :=
  OpenClaim.holds_of_wide 5 Try.f5 rfl rfl rfl rfl rfl rfl rfl ⟨rfl, rfl, rfl, rfl, rfl⟩ rfl rfl rfl rfl rfl (by kernel_rfl) Try.func5 (by kernel_rfl)
    (of_decide_eq_true (by kernel_rfl)) (by unfold Func.isWrapper; first | (rw [if_pos (by decide +kernel)]; kernel_rfl) | (rw [if_neg (by decide +kernel)]; exact ⟨rfl, rfl⟩))
    (fun os started H enc _ => lifted os started H enc)
theorem proved : Rows.SnappyWritesSaid := over
end Go.Proofs.Ytnnogjojoeajnaa.snappyWrites
