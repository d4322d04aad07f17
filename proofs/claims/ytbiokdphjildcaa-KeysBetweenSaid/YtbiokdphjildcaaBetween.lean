/- KeysBetween: the law answers true, for every input. No condition. -/
import Derived.Test.YtbiokdphjildcaaRows
import Derived.Test.YtbiokdphjildcaaKg
import Derived.WalkKit
import Derived.ProofKit
import Derived.OpenShut
import Derived.ShutString
namespace Go.Proofs.Ytbiokdphjildcaa.keysBetween
open Go.ChangeShapes Go.WideShapes Go.ChangeAt Go.RowKit
open Go.ChangeMaps (open_string shut_string)
set_option linter.unusedVariables false
set_option maxRecDepth 100000 in
set_option maxHeartbeats 4000000 in

theorem core (k : ByteArray) (p : ByteArray) (w0 : k.size ≤ maxLen) (w1 : p.size ≤ maxLen) (w : World) :
    Calls Try.prog 7 #[.string k, .string p] w fun e w' => e = .returned (.bool true) ∧ Below w.heap.size w w' := by
  have HB0 : Hid (Below w.heap.size w w) := Lib.hid (Below.refl _ _)
  have HAW := Lib.hid awake_any
  by_cases gk : 3000 < k.size
  · have qk : decide ((3000 : Int) < (k.size : Int)) = true := decide_eq_true (by omega)
    clear gk
    go_enter Try.func7, Try.ntmps7
    go_wp2_with fail
    refine (HAW.out _).mono ?_
    rintro e w1 ⟨rfl, hb⟩
    have HB1 := Lib.hid (below_trans' HB0.out hb)
    clear hb
    go_wp2
    go_ret
    exact ⟨rfl, HB1.out⟩
  have qk : decide ((3000 : Int) < (k.size : Int)) = false := decide_eq_false (by omega)
  have hlk : k.size ≤ 3000 := by omega
  clear gk
  by_cases gp : 3000 < p.size
  · have qp : decide ((3000 : Int) < (p.size : Int)) = true := decide_eq_true (by omega)
    clear gp
    go_enter Try.func7, Try.ntmps7
    go_wp2_with fail
    refine (HAW.out _).mono ?_
    rintro e w1 ⟨rfl, hb⟩
    have HB1 := Lib.hid (below_trans' HB0.out hb)
    clear hb
    go_wp2
    go_ret
    exact ⟨rfl, HB1.out⟩
  have qp : decide ((3000 : Int) < (p.size : Int)) = false := decide_eq_false (by omega)
  have hlp : p.size ≤ 3000 := by omega
  clear gp
  have H14 := Lib.hid (end_any p)
  have H13 := Lib.hid (prefix_any p)
  have H12 := Lib.hid (key_any k)
  have H19 := Lib.hid (begins_any k p)
  generalize hU : bs (endL p.data.toList) = U at *
  by_cases h0 : p.size = 0
  · have he := emp_t h0
    have hU2 : U = ⟨#[]⟩ := by rw [← hU]; unfold endL; rw [if_neg (by rw [← Lib.size_eq]; omega)]; rfl
    rw [hU2] at H14
    have hp : prefB p.data.toList = true := by rw [List.eq_nil_of_length_eq_zero (l := p.data.toList) (by rw [← Lib.size_eq]; exact h0)]; rfl
    rw [hp] at H13
    clear hp hU hU2 h0
    go_enter Try.func7, Try.ntmps7
    go_wp2_with fail
    refine (HAW.out _).mono ?_
    rintro e w1 ⟨rfl, hb⟩
    have HB1 := Lib.hid (below_trans' HB0.out hb)
    clear hb
    go_wp2_with fail
    refine (H14.out _).mono ?_
    rintro e w2 ⟨rfl, hb⟩
    have HB2 := Lib.hid (below_trans' HB1.out hb)
    clear hb
    go_wp2_with fail
    refine (H13.out _).mono ?_
    rintro e w' ⟨rfl, rfl⟩
    go_wp2
    go_ret
    exact ⟨rfl, HB2.out⟩
  have he := emp_f h0
  cases hp : prefB p.data.toList with
  | false =>
    have hU2 : U = ⟨#[]⟩ := by rw [← hU]; unfold endL; rw [if_neg (fun h => by rw [hp] at h; cases h.2)]; rfl
    rw [hU2] at H14
    rw [hp] at H13
    clear hp hU hU2 h0
    go_enter Try.func7, Try.ntmps7
    go_wp2_with fail
    refine (HAW.out _).mono ?_
    rintro e w1 ⟨rfl, hb⟩
    have HB1 := Lib.hid (below_trans' HB0.out hb)
    clear hb
    go_wp2_with fail
    refine (H14.out _).mono ?_
    rintro e w2 ⟨rfl, hb⟩
    have HB2 := Lib.hid (below_trans' HB1.out hb)
    clear hb
    go_wp2_with fail
    refine (H13.out _).mono ?_
    rintro e w' ⟨rfl, rfl⟩
    go_wp2
    go_ret
    exact ⟨rfl, HB2.out⟩
  | true =>
    obtain ⟨q, x, h1, h2, h3⟩ := end_eq (l := p.data.toList) (fun e => h0 (by rw [Lib.size_eq, e]; rfl)) hp
    have eU : U.toList = q ++ [x + 1] := by rw [← hU, toL_bs, h2]
    have eP : p.toList = q ++ [x] := by rw [Lib.toList_data, h1]
    have e1 : Op.bytesLess U.toList p.toList = false := by rw [eU, eP]; exact (bl_end h3 q).1
    have e2 : (U.toList == p.toList) = false := by rw [eU, eP]; exact (bl_end h3 q).2
    have e3 : ((U.size : Int) != (p.size : Int)) = false := by
      have : U.size = p.size := by rw [← hU, bs_size, h2, Lib.size_eq, h1]; simp
      rw [this]; simp
    have er : Lib.hasPrefix k.data.toList p.data.toList = (!(Op.bytesLess k.toList p.toList) && Op.bytesLess k.toList U.toList) := by
      rw [eU, eP, ← Lib.toList_data k, h1]; exact between h3 q _
    rw [hp] at H13
    rw [er] at H19
    clear er eU eP h1 h2 h3 hU hp h0
    generalize hq : keyB k.data.toList = q at *
    generalize hu : Op.bytesLess k.toList p.toList = u at *
    generalize hz : Op.bytesLess k.toList U.toList = z at *
    clear hq
    cases q
    · skip
      go_enter Try.func7, Try.ntmps7
      go_wp2_with fail
      refine (HAW.out _).mono ?_
      rintro e w1 ⟨rfl, hb⟩
      have HB1 := Lib.hid (below_trans' HB0.out hb)
      clear hb
      go_wp2_with fail
      refine (H14.out _).mono ?_
      rintro e w2 ⟨rfl, hb⟩
      have HB2 := Lib.hid (below_trans' HB1.out hb)
      clear hb
      go_wp2_with fail
      refine (H13.out _).mono ?_
      rintro e w' ⟨rfl, rfl⟩
      go_wp2_with fail
      refine (H12.out _).mono ?_
      rintro e w' ⟨rfl, rfl⟩
      go_wp2
      go_ret
      exact ⟨rfl, HB2.out⟩
    · cases u <;> cases z
      all_goals
        go_enter Try.func7, Try.ntmps7
        go_wp2_with fail
        refine (HAW.out _).mono ?_
        rintro e w1 ⟨rfl, hb⟩
        have HB1 := Lib.hid (below_trans' HB0.out hb)
        clear hb
        go_wp2_with fail
        refine (H14.out _).mono ?_
        rintro e w2 ⟨rfl, hb⟩
        have HB2 := Lib.hid (below_trans' HB1.out hb)
        clear hb
        go_wp2_with fail
        refine (H13.out _).mono ?_
        rintro e w' ⟨rfl, rfl⟩
        go_wp2_with fail
        refine (H12.out _).mono ?_
        rintro e w' ⟨rfl, rfl⟩
        go_wp2_with fail
        refine (H19.out _).mono ?_
        rintro e w' ⟨rfl, rfl⟩
        go_wp2
        go_ret
        exact ⟨rfl, HB2.out⟩
theorem own : ownKnob Try.prog.godebug = none := by kernel_rfl
theorem laidOut : laidOutB Try.prog = true := by kernel_rfl
set_option maxRecDepth 100000 in
theorem lifted (os : Os) (started : os.Started) (H : Type) (enc : TypeId × Value → H) :
    ReturnsInHanded {} Try.checked os 7 .any (Rows.keysBetweenSpec.pre6 enc Try.prog Try.f7 Rows.keysBetweenRow.domain false) (Rows.keysBetweenSpec.post enc Try.prog Try.f7 false true false false) := by
  refine returnsInHanded_of_change (C := Try.checked) own started (by kernel_rfl) Try.func7
    (ChangeSpec.witness6 (enc := enc) (C := Try.checked) false ⟨#[], #[.string ByteArray.empty, .string ByteArray.empty], []⟩ 8 (by kernel_rfl) (by kernel_rfl) (by kernel_rfl) (by kernel_rfl)) ?_
  intro W base args ds gs before hval0 hW hcnd _
  have hval : ∀ (j : Nat) t v, Try.f7.params[j]? = some t → args[j]? = some v → Value.okWide Try.prog W .any base t v := hval0
  have hW' := hW
  obtain ⟨p, q, hA0, hV, rfl, hfz, hnd⟩ := hW
  have hA : DataW.TrodAll enc Try.prog W 0 (fun _ => true) true Try.f7.params.toList args.toList ds p := hA0
  rw [Try.params7] at hA hval
  obtain ⟨v0, vs0, d0, ds0, p0, q0, hargs, rfl, rfl, h0, r0⟩ := trodAll_cons hA
  obtain ⟨v1, vs1, d1, ds1, p1, q1, rfl, rfl, rfl, h1, r1⟩ := trodAll_cons r0
  obtain ⟨rfl, rfl, rfl⟩ := trodAll_nil r1
  obtain rfl : args = #[v0, v1] := by cases args; simp_all
  obtain ⟨rfl, rfl⟩ := trodVars_none hV
  have k0 := h0
  have lt0 : ∀ x ∈ p0, x.block < W.heap.size := by obtain ⟨m, hm⟩ := k0; exact DataW.trod_lt m _ _ _ hm
  have k1 := h1
  have lt1 : ∀ x ∈ p1, x.block < W.heap.size := by obtain ⟨m, hm⟩ := k1; exact DataW.trod_lt m _ _ _ hm
  obtain ⟨a0, rfl, rfl, rfl, w0⟩ := open_string Try.underlying9 (hval 0 9 v0 rfl rfl) h0
  obtain ⟨a1, rfl, rfl, rfl, w1⟩ := open_string Try.underlying9 (hval 1 9 v1 rfl rfl) h1
  clear hA0 hval0
  refine (core a0 a1 w0 w1 W ).mono fun e W' ⟨he, bel⟩ => ?_
  subst he
  exact ⟨_, rfl, _, _, _, [], _, [], hW', trodAll_mk1 (shut_bool Try.underlying4 _), (trodAll_cons_mk (Below.trod laidOut (by kernel_rfl) (of_decide_eq_true (by kernel_rfl)) k0 bel lt0) (trodAll_cons_mk (Below.trod laidOut (by kernel_rfl) (of_decide_eq_true (by kernel_rfl)) k1 bel lt1) trodAll_mk0)), rfl, bel.frame _, fun h => by cases h⟩
theorem over : Rows.keysBetweenRow.holds Try.pinned (OpenSpec.ofChange Rows.keysBetweenSpec) :=
  OpenClaim.holds_of_wide 7 Try.f7 rfl rfl rfl rfl rfl rfl rfl ⟨rfl, rfl, rfl, rfl, rfl⟩ rfl rfl rfl rfl rfl (by kernel_rfl) Try.func7 (by kernel_rfl)
    (of_decide_eq_true (by kernel_rfl)) (by unfold Func.isWrapper; first | (rw [if_pos (by decide +kernel)]; kernel_rfl) | (rw [if_neg (by decide +kernel)]; exact ⟨rfl, rfl⟩))
    (fun os started H enc _ => lifted os started H enc)
theorem proved : Rows.KeysBetweenSaid := over
end Go.Proofs.Ytbiokdphjildcaa.keysBetween
