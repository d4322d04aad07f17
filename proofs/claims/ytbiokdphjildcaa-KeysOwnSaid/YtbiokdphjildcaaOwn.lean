/- KeysOwn: the law answers true, for every input. No condition. -/
import Derived.Test.YtbiokdphjildcaaRows
import Derived.Test.YtbiokdphjildcaaKg
import Derived.WalkKit
import Derived.ProofKit
import Derived.OpenShut
import Derived.ShutString
namespace Go.Proofs.Ytbiokdphjildcaa.keysOwn
open Go.ChangeShapes Go.WideShapes Go.ChangeAt Go.RowKit
open Go.ChangeMaps (open_string shut_string)
set_option linter.unusedVariables false
set_option maxRecDepth 100000 in
set_option maxHeartbeats 4000000 in

theorem core (a : ByteArray) (b : ByteArray) (c : ByteArray) (d : ByteArray) (w0 : a.size ≤ maxLen) (w1 : b.size ≤ maxLen) (w2 : c.size ≤ maxLen) (w3 : d.size ≤ maxLen) (w : World) :
    Calls Try.prog 8 #[.string a, .string b, .string c, .string d] w fun e w' => e = .returned (.bool true) ∧ Below w.heap.size w w' := by
  have HB0 : Hid (Below w.heap.size w w) := Lib.hid (Below.refl _ _)
  have HAW := Lib.hid awake_any
  by_cases ga : 3000 < a.size
  · have qa : decide ((3000 : Int) < (a.size : Int)) = true := decide_eq_true (by omega)
    clear ga
    go_enter Try.func8, Try.ntmps8
    go_wp2_with fail
    refine (HAW.out _).mono ?_
    rintro e w1 ⟨rfl, hb⟩
    have HB1 := Lib.hid (below_trans' HB0.out hb)
    clear hb
    go_wp2
    go_ret
    exact ⟨rfl, HB1.out⟩
  have qa : decide ((3000 : Int) < (a.size : Int)) = false := decide_eq_false (by omega)
  have hla : a.size ≤ 3000 := by omega
  clear ga
  by_cases gb : 3000 < b.size
  · have qb : decide ((3000 : Int) < (b.size : Int)) = true := decide_eq_true (by omega)
    clear gb
    go_enter Try.func8, Try.ntmps8
    go_wp2_with fail
    refine (HAW.out _).mono ?_
    rintro e w1 ⟨rfl, hb⟩
    have HB1 := Lib.hid (below_trans' HB0.out hb)
    clear hb
    go_wp2
    go_ret
    exact ⟨rfl, HB1.out⟩
  have qb : decide ((3000 : Int) < (b.size : Int)) = false := decide_eq_false (by omega)
  have hlb : b.size ≤ 3000 := by omega
  clear gb
  by_cases gc : 3000 < c.size
  · have qc : decide ((3000 : Int) < (c.size : Int)) = true := decide_eq_true (by omega)
    clear gc
    go_enter Try.func8, Try.ntmps8
    go_wp2_with fail
    refine (HAW.out _).mono ?_
    rintro e w1 ⟨rfl, hb⟩
    have HB1 := Lib.hid (below_trans' HB0.out hb)
    clear hb
    go_wp2
    go_ret
    exact ⟨rfl, HB1.out⟩
  have qc : decide ((3000 : Int) < (c.size : Int)) = false := decide_eq_false (by omega)
  have hlc : c.size ≤ 3000 := by omega
  clear gc
  by_cases gd : 3000 < d.size
  · have qd : decide ((3000 : Int) < (d.size : Int)) = true := decide_eq_true (by omega)
    clear gd
    go_enter Try.func8, Try.ntmps8
    go_wp2_with fail
    refine (HAW.out _).mono ?_
    rintro e w1 ⟨rfl, hb⟩
    have HB1 := Lib.hid (below_trans' HB0.out hb)
    clear hb
    go_wp2
    go_ret
    exact ⟨rfl, HB1.out⟩
  have qd : decide ((3000 : Int) < (d.size : Int)) = false := decide_eq_false (by omega)
  have hld : d.size ≤ 3000 := by omega
  clear gd
  have H17 := Lib.hid (clusters_any a)
  have H15 := Lib.hid (cluster_any c d)
  have H11 := Lib.hid (name_any a)
  have H18 := Lib.hid (tenant_any c)
  have H13 := Lib.hid (prefix_any (clsB a))
  have H19 := Lib.hid (begins_any (cluB c d) (clsB a))
  have H20 := Lib.hid (begins_any (tenB c) (clsB a))
  simp only [cluB_eq, clsB_eq, tenB_eq, bs_data] at H17 H15 H18 H13 H19 H20
  cases ha : nameB a.data.toList with
  | false =>
    rw [ha] at H11
    rw [cls_no ha, show bs [] = ⟨#[]⟩ from rfl] at H17
    clear ha H13 H19 H20 H18
    generalize bs (cluL c.data.toList d.data.toList) = K at *
    go_enter Try.func8, Try.ntmps8
    go_wp2_with fail
    refine (HAW.out _).mono ?_
    rintro e w1 ⟨rfl, hb⟩
    have HB1 := Lib.hid (below_trans' HB0.out hb)
    clear hb
    go_wp2_with fail
    refine (H17.out _).mono ?_
    rintro e w' ⟨rfl, rfl⟩
    go_wp2_with fail
    refine (H15.out _).mono ?_
    rintro e w' ⟨rfl, rfl⟩
    go_wp2_with fail
    refine (H11.out _).mono ?_
    rintro e w' ⟨rfl, rfl⟩
    go_wp2
    go_ret
    exact ⟨rfl, HB1.out⟩
  | true =>
    rw [ha] at H11
    obtain ⟨p1, p2, _⟩ := cls_pref ha
    rw [p1] at H13
    have eP : (bs (clsL a.data.toList)).toList.isEmpty = false := by rw [toL_bs, List.isEmpty_eq_false_iff]; exact p2
    rw [cls_ten ha] at H20
    cases hk : (nameB c.data.toList && nameB d.data.toList) with
    | false =>
      rw [clu_no hk, show bs [] = ⟨#[]⟩ from rfl] at H15
      clear hk ha p1 p2 H19 H20 H18
      generalize bs (clsL a.data.toList) = P at *
      go_enter Try.func8, Try.ntmps8
      go_wp2_with fail
      refine (HAW.out _).mono ?_
      rintro e w1 ⟨rfl, hb⟩
      have HB1 := Lib.hid (below_trans' HB0.out hb)
      clear hb
      go_wp2_with fail
      refine (H17.out _).mono ?_
      rintro e w' ⟨rfl, rfl⟩
      go_wp2_with fail
      refine (H15.out _).mono ?_
      rintro e w' ⟨rfl, rfl⟩
      go_wp2_with fail
      refine (H11.out _).mono ?_
      rintro e w' ⟨rfl, rfl⟩
      go_wp2_with fail
      refine (H13.out _).mono ?_
      rintro e w' ⟨rfl, rfl⟩
      go_wp2
      go_ret
      exact ⟨rfl, HB1.out⟩
    | true =>
      rw [Bool.and_eq_true] at hk
      have eK : (bs (cluL c.data.toList d.data.toList)).toList.isEmpty = false := by rw [toL_bs, List.isEmpty_eq_false_iff]; exact (clu_key hk.1 hk.2).2.1
      have ex : (a.data.toList == c.data.toList) = (a.toList == c.toList) := by rw [Lib.toList_data, Lib.toList_data]
      rw [cls_clu ha hk.1 hk.2, ex] at H19
      clear hk ha p1 p2 ex
      generalize bs (clsL a.data.toList) = P at *
      generalize bs (cluL c.data.toList d.data.toList) = K at *
      generalize bs (tenL c.data.toList) = T at *
      generalize hx : (a.toList == c.toList) = x at *
      cases x
      all_goals
        go_enter Try.func8, Try.ntmps8
        go_wp2_with fail
        refine (HAW.out _).mono ?_
        rintro e w1 ⟨rfl, hb⟩
        have HB1 := Lib.hid (below_trans' HB0.out hb)
        clear hb
        go_wp2_with fail
        refine (H17.out _).mono ?_
        rintro e w' ⟨rfl, rfl⟩
        go_wp2_with fail
        refine (H15.out _).mono ?_
        rintro e w' ⟨rfl, rfl⟩
        go_wp2_with fail
        refine (H11.out _).mono ?_
        rintro e w' ⟨rfl, rfl⟩
        go_wp2_with fail
        refine (H13.out _).mono ?_
        rintro e w' ⟨rfl, rfl⟩
        go_wp2_with fail
        refine (H19.out _).mono ?_
        rintro e w' ⟨rfl, rfl⟩
        go_wp2_with fail
        refine (H18.out _).mono ?_
        rintro e w' ⟨rfl, rfl⟩
        go_wp2_with fail
        refine (H20.out _).mono ?_
        rintro e w' ⟨rfl, rfl⟩
        go_wp2
        go_ret
        exact ⟨rfl, HB1.out⟩
theorem own : ownKnob Try.prog.godebug = none := by kernel_rfl
theorem laidOut : laidOutB Try.prog = true := by kernel_rfl
set_option maxRecDepth 100000 in
theorem lifted (os : Os) (started : os.Started) (H : Type) (enc : TypeId × Value → H) :
    ReturnsInHanded {} Try.checked os 8 .any (Rows.keysOwnSpec.pre6 enc Try.prog Try.f8 Rows.keysOwnRow.domain false) (Rows.keysOwnSpec.post enc Try.prog Try.f8 false true false false) := by
  refine returnsInHanded_of_change (C := Try.checked) own started (by kernel_rfl) Try.func8
    (ChangeSpec.witness6 (enc := enc) (C := Try.checked) false ⟨#[], #[.string ByteArray.empty, .string ByteArray.empty, .string ByteArray.empty, .string ByteArray.empty], []⟩ 8 (by kernel_rfl) (by kernel_rfl) (by kernel_rfl) (by kernel_rfl)) ?_
  intro W base args ds gs before hval0 hW hcnd _
  have hval : ∀ (j : Nat) t v, Try.f8.params[j]? = some t → args[j]? = some v → Value.okWide Try.prog W .any base t v := hval0
  have hW' := hW
  obtain ⟨p, q, hA0, hV, rfl, hfz, hnd⟩ := hW
  have hA : DataW.TrodAll enc Try.prog W 0 (fun _ => true) true Try.f8.params.toList args.toList ds p := hA0
  rw [Try.params8] at hA hval
  obtain ⟨v0, vs0, d0, ds0, p0, q0, hargs, rfl, rfl, h0, r0⟩ := trodAll_cons hA
  obtain ⟨v1, vs1, d1, ds1, p1, q1, rfl, rfl, rfl, h1, r1⟩ := trodAll_cons r0
  obtain ⟨v2, vs2, d2, ds2, p2, q2, rfl, rfl, rfl, h2, r2⟩ := trodAll_cons r1
  obtain ⟨v3, vs3, d3, ds3, p3, q3, rfl, rfl, rfl, h3, r3⟩ := trodAll_cons r2
  obtain ⟨rfl, rfl, rfl⟩ := trodAll_nil r3
  obtain rfl : args = #[v0, v1, v2, v3] := by cases args; simp_all
  obtain ⟨rfl, rfl⟩ := trodVars_none hV
  have k0 := h0
  have lt0 : ∀ x ∈ p0, x.block < W.heap.size := by obtain ⟨m, hm⟩ := k0; exact DataW.trod_lt m _ _ _ hm
  have k1 := h1
  have lt1 : ∀ x ∈ p1, x.block < W.heap.size := by obtain ⟨m, hm⟩ := k1; exact DataW.trod_lt m _ _ _ hm
  have k2 := h2
  have lt2 : ∀ x ∈ p2, x.block < W.heap.size := by obtain ⟨m, hm⟩ := k2; exact DataW.trod_lt m _ _ _ hm
  have k3 := h3
  have lt3 : ∀ x ∈ p3, x.block < W.heap.size := by obtain ⟨m, hm⟩ := k3; exact DataW.trod_lt m _ _ _ hm
  obtain ⟨a0, rfl, rfl, rfl, w0⟩ := open_string Try.underlying9 (hval 0 9 v0 rfl rfl) h0
  obtain ⟨a1, rfl, rfl, rfl, w1⟩ := open_string Try.underlying9 (hval 1 9 v1 rfl rfl) h1
  obtain ⟨a2, rfl, rfl, rfl, w2⟩ := open_string Try.underlying9 (hval 2 9 v2 rfl rfl) h2
  obtain ⟨a3, rfl, rfl, rfl, w3⟩ := open_string Try.underlying9 (hval 3 9 v3 rfl rfl) h3
  clear hA0 hval0
  refine (core a0 a1 a2 a3 w0 w1 w2 w3 W ).mono fun e W' ⟨he, bel⟩ => ?_
  subst he
  exact ⟨_, rfl, _, _, _, [], _, [], hW', trodAll_mk1 (shut_bool Try.underlying4 _), (trodAll_cons_mk (Below.trod laidOut (by kernel_rfl) (of_decide_eq_true (by kernel_rfl)) k0 bel lt0) (trodAll_cons_mk (Below.trod laidOut (by kernel_rfl) (of_decide_eq_true (by kernel_rfl)) k1 bel lt1) (trodAll_cons_mk (Below.trod laidOut (by kernel_rfl) (of_decide_eq_true (by kernel_rfl)) k2 bel lt2) (trodAll_cons_mk (Below.trod laidOut (by kernel_rfl) (of_decide_eq_true (by kernel_rfl)) k3 bel lt3) trodAll_mk0)))), rfl, bel.frame _, fun h => by cases h⟩
theorem over : Rows.keysOwnRow.holds Try.pinned (OpenSpec.ofChange Rows.keysOwnSpec) :=
  OpenClaim.holds_of_wide 8 Try.f8 rfl rfl rfl rfl rfl rfl rfl ⟨rfl, rfl, rfl, rfl, rfl⟩ rfl rfl rfl rfl rfl (by kernel_rfl) Try.func8 (by kernel_rfl)
    (of_decide_eq_true (by kernel_rfl)) (by unfold Func.isWrapper; first | (rw [if_pos (by decide +kernel)]; kernel_rfl) | (rw [if_neg (by decide +kernel)]; exact ⟨rfl, rfl⟩))
    (fun os started H enc _ => lifted os started H enc)
theorem proved : Rows.KeysOwnSaid := over
end Go.Proofs.Ytbiokdphjildcaa.keysOwn
