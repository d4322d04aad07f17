/- BitsPuts: for every text ahead, all numbers, every text and every size the law answers true. No condition. -/
import Derived.Test.YtnoejddhdgmkcaaRows
import Derived.Test.YtnoejddhdgmkcaaPutsA
import Derived.Test.YtnoejddhdgmkcaaPutsB
import Derived.Test.YtnoejddhdgmkcaaPutsC
import Derived.WalkKit
import Derived.ProofKit
import Derived.OpenShut
import Derived.ShutString
namespace Go.Proofs.Ytnoejddhdgmkcaa.bitsPuts
open Go.ChangeShapes Go.WideShapes Go.ChangeAt Go.RowKit
open Go.ChangeMaps (open_string shut_string)
set_option linter.unusedVariables false
set_option maxRecDepth 100000 in
set_option maxHeartbeats 2000000 in
theorem long (a : ByteArray) (n i : Int) (t : ByteArray) (z : Int) (h : 3000 < a.size ∨ 3000 < t.size) (w : World) :
    Calls Try.prog 4 #[.string a, .int .u64 n, .int .i64 i, .string t, .int .i64 z] w fun e w' => e = .returned (.bool true) ∧ Below w.heap.size w w' := by
  by_cases ha : 3000 < a.size
  · go_enter Try.func4, Try.ntmps4
    go_wp2_with fail
    refine (awake_any _).mono ?_
    rintro e w1 ⟨rfl, hb1⟩
    have HB1 := Lib.hid hb1; clear hb1
    go_wp2
    go_ret
    exact ⟨rfl, HB1.out⟩
  · have ht : 3000 < t.size := by omega
    clear h
    go_enter Try.func4, Try.ntmps4
    go_wp2_with fail
    refine (awake_any _).mono ?_
    rintro e w1 ⟨rfl, hb1⟩
    have HB1 := Lib.hid hb1; clear hb1
    go_wp2
    go_ret
    exact ⟨rfl, HB1.out⟩
theorem knows (w : World) (a : ByteArray) (n : Nat) (i : Int) (t : ByteArray) (z : Int) (hn : n ≤ 18446744073709551615) (i0 : -9223372036854775808 ≤ i) (i1 : i ≤ 9223372036854775807) (ha : a.size ≤ 3000) (ht : t.size ≤ 3000) :
    Knows w a (bs (Bt.vint n)) (bs (fxz z n)) (bs (Bt.vint t.size ++ t.data.toList)) n i z (Bt.zig i) (Bt.zag n) t where
  p1 W g hg hB := by subst hg; exact put_b hB n hn a _ ha (by rw [← bs_append]; rfl)
  p2 W g hg hB := by subst hg; exact fixed_b hB n z hn a _ ha (by rw [← bs_append]; rfl)
  p3 W g hg hB := by subst hg; exact text_b hB t a _ ha ht (by rw [← bs_append]; rfl)
  q1 W := rvint n W hn
  q2 W := by
    have h := len_any n W hn
    rw [← Bt.vint_length] at h
    exact h
  q4 W := rtext_any t W (by omega)
  z0 W := zig_any i W i0 i1
  z1 W := rzig_any i W i0 i1
  z2 W := zag_any n W (by omega) (by omega)
  z3 W := rzag_any n W (by omega) (by omega)
theorem core (a : ByteArray) (n i : Int) (t : ByteArray) (z : Int) (w0 : a.size ≤ maxLen) (w1 : (Lit.int .u64 n).wf = true) (w2 : (Lit.int .i64 i).wf = true) (w3 : t.size ≤ maxLen) (w4 : (Lit.int .i64 z).wf = true) (w : World) :
    Calls Try.prog 4 #[.string a, .int .u64 n, .int .i64 i, .string t, .int .i64 z] w fun e w' => e = .returned (.bool true) ∧ Below w.heap.size w w' := by
  obtain ⟨n0, n1⟩ := bounds_u64 w1
  obtain ⟨i0, i1⟩ := bounds_i64 w2
  obtain ⟨m, rfl⟩ := Int.eq_ofNat_of_zero_le n0
  by_cases hs : 3000 < a.size ∨ 3000 < t.size
  · exact long a m i t z hs w
  · have ha : a.size ≤ 3000 := by omega
    have ht : t.size ≤ 3000 := by omega
    have hcv : ∀ W : World, Sem.run Try.prog (convert 9 41 (.string a)) W = .ok (.slice (some ⟨W.heap.size, 0, none⟩) a.size (grownCap W a.size 0 5)) (Lib.bytesWorld W 5 a) := fun W => Lib.run_convert_string_bytes W 9 41 5 a Try.underlying9 Try.underlying41 Try.underlying5
    have hv : (bs (Bt.vint m)).size ≤ 10 := by rw [bs_size, Bt.vint_length]; exact Bt.vlen_u64 (by omega)
    have ht2 : (bs (Bt.vint t.size ++ t.data.toList)).size ≤ 3010 := by
      have := Bt.vlen_u64 (n := t.size) (by omega)
      rw [bs_size, List.length_append, Bt.vint_length]; simp; omega
    have K := knows w a m i t z (by omega) i0 i1 ha ht
    have d1 : decide (3000 < (a.size : Int)) = false := decide_eq_false (by omega)
    have d2 : decide (3000 < (t.size : Int)) = false := decide_eq_false (by omega)
    have hr : ∀ (B : Nat) (W : World), Below B W W := fun B W => Below.refl B W
    by_cases h4 : z = 4
    · subst h4
      have e : fxz 4 m = Bt.fx 4 m := rfl
      rw [e] at K
      exact mainA w a _ _ _ m i _ _ t K (fun W => rfixed_any m 4 W (by omega) (by omega)) hcv d1 d2 (by omega) (by rw [bs_size, Bt.fx_length]; omega) (by omega) hr
    · by_cases h8 : z = 8
      · subst h8
        have e : fxz 8 m = Bt.fx 8 m := rfl
        rw [e] at K
        exact mainB w a _ _ _ m i _ _ t K (fun W => rfixed_any m 8 W (by omega) (by omega)) hcv d1 d2 (by omega) (by rw [bs_size, Bt.fx_length]; omega) (by omega) hr
      · have e : fxz z m = [] := by unfold fxz; rw [if_neg h4, if_neg h8]
        rw [e] at K
        exact mainC w a _ _ _ m i _ _ t z K (by rw [beq_eq_false_iff_ne]; exact h4) (by rw [beq_eq_false_iff_ne]; exact h8) rfl (by omega) hcv d1 d2 (by omega) (by rw [bs_size]; simp; omega) (by omega) hr
theorem own : ownKnob Try.prog.godebug = none := by kernel_rfl
theorem laidOut : laidOutB Try.prog = true := by kernel_rfl
set_option maxRecDepth 100000 in
theorem lifted (os : Os) (started : os.Started) (H : Type) (enc : TypeId × Value → H) :
    ReturnsInHanded {} Try.checked os 4 .any (Rows.bitsPutsSpec.pre6 enc Try.prog Try.f4 Rows.bitsPutsRow.domain false) (Rows.bitsPutsSpec.post enc Try.prog Try.f4 false true false false) := by
  refine returnsInHanded_of_change (C := Try.checked) own started (by kernel_rfl) Try.func4
    (ChangeSpec.witness6 (enc := enc) (C := Try.checked) false ⟨#[], #[.string ByteArray.empty, .int .u64 0, .int .i64 0, .string ByteArray.empty, .int .i64 0], []⟩ 8 (by kernel_rfl) (by kernel_rfl) (by kernel_rfl) (by kernel_rfl)) ?_
  intro W base args ds gs before hval0 hW hcnd _
  have hval : ∀ (j : Nat) t v, Try.f4.params[j]? = some t → args[j]? = some v → Value.okWide Try.prog W .any base t v := hval0
  have hW' := hW
  obtain ⟨p, q, hA0, hV, rfl, hfz, hnd⟩ := hW
  have hA : DataW.TrodAll enc Try.prog W 0 (fun _ => true) true Try.f4.params.toList args.toList ds p := hA0
  rw [Try.params4] at hA hval
  obtain ⟨v0, vs0, d0, ds0, p0, q0, hargs, rfl, rfl, h0, r0⟩ := trodAll_cons hA
  obtain ⟨v1, vs1, d1, ds1, p1, q1, rfl, rfl, rfl, h1, r1⟩ := trodAll_cons r0
  obtain ⟨v2, vs2, d2, ds2, p2, q2, rfl, rfl, rfl, h2, r2⟩ := trodAll_cons r1
  obtain ⟨v3, vs3, d3, ds3, p3, q3, rfl, rfl, rfl, h3, r3⟩ := trodAll_cons r2
  obtain ⟨v4, vs4, d4, ds4, p4, q4, rfl, rfl, rfl, h4, r4⟩ := trodAll_cons r3
  obtain ⟨rfl, rfl, rfl⟩ := trodAll_nil r4
  obtain rfl : args = #[v0, v1, v2, v3, v4] := by cases args; simp_all
  obtain ⟨rfl, rfl⟩ := trodVars_none hV
  have k0 := h0
  have lt0 : ∀ x ∈ p0, x.block < W.heap.size := by obtain ⟨m, hm⟩ := k0; exact DataW.trod_lt m _ _ _ hm
  have k1 := h1
  have lt1 : ∀ x ∈ p1, x.block < W.heap.size := by obtain ⟨m, hm⟩ := k1; exact DataW.trod_lt m _ _ _ hm
  have k2 := h2
  have lt2 : ∀ x ∈ p2, x.block < W.heap.size := by obtain ⟨m, hm⟩ := k2; exact DataW.trod_lt m _ _ _ hm
  have k3 := h3
  have lt3 : ∀ x ∈ p3, x.block < W.heap.size := by obtain ⟨m, hm⟩ := k3; exact DataW.trod_lt m _ _ _ hm
  have k4 := h4
  have lt4 : ∀ x ∈ p4, x.block < W.heap.size := by obtain ⟨m, hm⟩ := k4; exact DataW.trod_lt m _ _ _ hm
  obtain ⟨a0, rfl, rfl, rfl, w0⟩ := open_string Try.underlying9 (hval 0 9 v0 rfl rfl) h0
  obtain ⟨a1, rfl, rfl, rfl, w1⟩ := open_int Try.underlying24 (hval 1 24 v1 rfl rfl) h1
  obtain ⟨a2, rfl, rfl, rfl, w2⟩ := open_int Try.underlying2 (hval 2 2 v2 rfl rfl) h2
  obtain ⟨a3, rfl, rfl, rfl, w3⟩ := open_string Try.underlying9 (hval 3 9 v3 rfl rfl) h3
  obtain ⟨a4, rfl, rfl, rfl, w4⟩ := open_int Try.underlying3 (hval 4 3 v4 rfl rfl) h4
  clear hA0 hval0
  refine (core a0 a1 a2 a3 a4 w0 w1 w2 w3 w4 W).mono fun e W' ⟨he, bel⟩ => ?_
  subst he
  exact ⟨_, rfl, _, _, _, [], _, [], hW', trodAll_mk1 (shut_bool Try.underlying4 _), (trodAll_cons_mk (Below.trod laidOut (by kernel_rfl) (of_decide_eq_true (by kernel_rfl)) k0 bel lt0) (trodAll_cons_mk (Below.trod laidOut (by kernel_rfl) (of_decide_eq_true (by kernel_rfl)) k1 bel lt1) (trodAll_cons_mk (Below.trod laidOut (by kernel_rfl) (of_decide_eq_true (by kernel_rfl)) k2 bel lt2) (trodAll_cons_mk (Below.trod laidOut (by kernel_rfl) (of_decide_eq_true (by kernel_rfl)) k3 bel lt3) (trodAll_cons_mk (Below.trod laidOut (by kernel_rfl) (of_decide_eq_true (by kernel_rfl)) k4 bel lt4) trodAll_mk0))))), rfl, bel.frame _, fun h => by cases h⟩
theorem over : Rows.bitsPutsRow.holds Try.pinned (OpenSpec.ofChange Rows.bitsPutsSpec) :=
  OpenClaim.holds_of_wide 4 Try.f4 rfl rfl rfl rfl rfl rfl rfl ⟨rfl, rfl, rfl, rfl, rfl⟩ rfl rfl rfl rfl rfl (by kernel_rfl) Try.func4 (by kernel_rfl)
    (of_decide_eq_true (by kernel_rfl)) (by unfold Func.isWrapper; first | (rw [if_pos (by decide +kernel)]; kernel_rfl) | (rw [if_neg (by decide +kernel)]; exact ⟨rfl, rfl⟩))
    (fun os started H enc _ => lifted os started H enc)
theorem proved : Rows.BitsPutsSaid := over

end Go.Proofs.Ytnoejddhdgmkcaa.bitsPuts
