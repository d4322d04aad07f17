/- BitsReads: for every text, every place and every size the law answers true. No condition. -/
import Derived.Test.YtnoejddhdgmkcaaRows
import Derived.Test.YtnoejddhdgmkcaaAw
import Derived.Test.YtnoejddhdgmkcaaRf
import Derived.WalkKit
import Derived.ProofKit
import Derived.OpenShut
import Derived.ShutString
namespace Go.Proofs.Ytnoejddhdgmkcaa.bitsReads
open Go.ChangeShapes Go.WideShapes Go.ChangeAt Go.RowKit
open Go.ChangeMaps (open_string shut_string)
set_option linter.unusedVariables false
/-- What a call of function f tells, at any world: three numbers. -/
def Tells (f : Nat) (args : Array Value) (n x k : Int) : Prop := ∀ w : World, Calls Try.prog f args w fun e w' => e = .returned (.tuple #[.int .u64 n, .int .i64 x, .int .i64 k]) ∧ w = w'
set_option maxRecDepth 100000 in
set_option maxHeartbeats 2000000 in
theorem same (s : ByteArray) (a z n x k m y j : Int) (hs : s.size ≤ 3000) (h1 : Tells 14 #[.string s, .int .i64 a] n x k) (h2 : Tells 37 #[.string s, .int .i64 a] n x k) (h3 : Tells 15 #[.string s, .int .i64 a, .int .i64 z] m y j) (h4 : Tells 38 #[.string s, .int .i64 a, .int .i64 z] m y j) (w : World) :
    Calls Try.prog 5 #[.string s, .int .i64 a, .int .i64 z] w fun e w' => e = .returned (.bool true) ∧ Below w.heap.size w w' := by
  go_enter Try.func5, Try.ntmps5
  go_wp2_with fail
  refine (h1 _).mono ?_
  rintro e w1 ⟨rfl, rfl⟩
  go_wp2_with fail
  refine (h2 _).mono ?_
  rintro e w1 ⟨rfl, rfl⟩
  go_wp2_with fail
  refine (h3 _).mono ?_
  rintro e w1 ⟨rfl, rfl⟩
  go_wp2_with fail
  refine (h4 _).mono ?_
  rintro e w1 ⟨rfl, rfl⟩
  go_wp2_with fail
  refine (awake_any _).mono ?_
  rintro e w1 ⟨rfl, hb1⟩
  have HB1 := Lib.hid hb1; clear hb1
  go_wp2
  go_ret
  exact ⟨rfl, HB1.out⟩
set_option maxRecDepth 100000 in
set_option maxHeartbeats 2000000 in
theorem long (s : ByteArray) (a z : Int) (hs : 3000 < s.size) (w : World) :
    Calls Try.prog 5 #[.string s, .int .i64 a, .int .i64 z] w fun e w' => e = .returned (.bool true) ∧ Below w.heap.size w w' := by
  go_enter Try.func5, Try.ntmps5
  go_wp2_with fail
  refine (awake_any _).mono ?_
  rintro e w1 ⟨rfl, hb1⟩
  have HB1 := Lib.hid hb1; clear hb1
  go_wp2
  go_ret
  exact ⟨rfl, HB1.out⟩
/-- Both tell the same, whatever is asked. -/
theorem uvs (s : ByteArray) (a : Int) (hs : s.size ≤ 3000) : ∃ n x k, Tells 14 #[.string s, .int .i64 a] n x k ∧ Tells 37 #[.string s, .int .i64 a] n x k := by
  by_cases h : a < 0 ∨ (s.size : Int) < a
  · exact ⟨0, 0, 1, fun w => uvarint_out s a w h, fun w => ruvarint_out s a w h⟩
  · obtain ⟨b, rfl⟩ := Int.eq_ofNat_of_zero_le (a := a) (by omega)
    have hf := Bt.rd_facts (s.data.toList.drop b) 0 0 (by omega) (by simp)
    rcases hr : Bt.rd (s.data.toList.drop b) 0 0 with ⟨N, C, K⟩
    rw [hr] at hf
    simp only at hf
    by_cases hK : K = 0
    · subst hK
      exact ⟨N, (b + C : Nat), 0, fun w => uvarint_ok s b w (by omega) (by omega) N C _ hr rfl, fun w => ruvarint_ok s b w (by omega) (by omega) N C _ hr rfl (hf.2.1 rfl).2.1⟩
    · have hz : N = 0 ∧ C = 0 := by
        rcases hf.2.2 with h | h | h
        · exact absurd h hK
        · simp at h; omega
        · simp at h; omega
      obtain ⟨rfl, rfl⟩ := hz
      exact ⟨0, 0, K, fun w => uvarint_no s b w (by omega) (by omega) K hK hr, fun w => ruvarint_no s b w (by omega) (by omega) K (by omega) hr⟩
theorem fixs (s : ByteArray) (a z : Int) (hs : s.size ≤ 3000) : ∃ m y j, Tells 15 #[.string s, .int .i64 a, .int .i64 z] m y j ∧ Tells 38 #[.string s, .int .i64 a, .int .i64 z] m y j := by
  by_cases h4 : z = 4
  · subst h4
    by_cases h : a < 0 ∨ (s.size : Int) < a
    · exact ⟨0, 0, 1, fun w => fixed_arg4 s a w h, fun w => rfixed_arg4 s a w h⟩
    · obtain ⟨b, rfl⟩ := Int.eq_ofNat_of_zero_le (a := a) (by omega)
      by_cases hb : b + 4 ≤ s.size
      · exact ⟨_, _, _, fun w => fixed_ok4 s b w hb (by omega), fun w => rfixed_ok4 s b w hb (by omega)⟩
      · exact ⟨_, _, _, fun w => fixed_short4 s b w (by omega) (by omega), fun w => rfixed_short4 s b w (by omega) (by omega)⟩
  · by_cases h8 : z = 8
    · subst h8
      by_cases h : a < 0 ∨ (s.size : Int) < a
      · exact ⟨0, 0, 1, fun w => fixed_arg8 s a w h, fun w => rfixed_arg8 s a w h⟩
      · obtain ⟨b, rfl⟩ := Int.eq_ofNat_of_zero_le (a := a) (by omega)
        by_cases hb : b + 8 ≤ s.size
        · exact ⟨_, _, _, fun w => fixed_ok8 s b w hb (by omega), fun w => rfixed_ok8 s b w hb (by omega)⟩
        · exact ⟨_, _, _, fun w => fixed_short8 s b w (by omega) (by omega), fun w => rfixed_short8 s b w (by omega) (by omega)⟩
    · exact ⟨_, _, _, fun w => fixed_no s a z w (by rw [beq_eq_false_iff_ne]; exact h4) (by rw [beq_eq_false_iff_ne]; exact h8), fun w => rfixed_no s a z w (by rw [beq_eq_false_iff_ne]; exact h4) (by rw [beq_eq_false_iff_ne]; exact h8)⟩
theorem core (s : ByteArray) (a z : Int) (w0 : s.size ≤ maxLen) (w1 : (Lit.int .i64 a).wf = true) (w2 : (Lit.int .i64 z).wf = true) (w : World) :
    Calls Try.prog 5 #[.string s, .int .i64 a, .int .i64 z] w fun e w' => e = .returned (.bool true) ∧ Below w.heap.size w w' := by
  by_cases hs : s.size ≤ 3000
  · obtain ⟨n, x, k, h1, h2⟩ := uvs s a hs
    obtain ⟨m, y, j, h3, h4⟩ := fixs s a z hs
    exact same s a z n x k m y j hs h1 h2 h3 h4 w
  · exact long s a z (by omega) w
theorem own : ownKnob Try.prog.godebug = none := by kernel_rfl
theorem laidOut : laidOutB Try.prog = true := by kernel_rfl
set_option maxRecDepth 100000 in
theorem lifted (os : Os) (started : os.Started) (H : Type) (enc : TypeId × Value → H) :
    ReturnsInHanded {} Try.checked os 5 .any (Rows.bitsReadsSpec.pre6 enc Try.prog Try.f5 Rows.bitsReadsRow.domain false) (Rows.bitsReadsSpec.post enc Try.prog Try.f5 false true false false) := by
  refine returnsInHanded_of_change (C := Try.checked) own started (by kernel_rfl) Try.func5
    (ChangeSpec.witness6 (enc := enc) (C := Try.checked) false ⟨#[], #[.string ByteArray.empty, .int .i64 0, .int .i64 0], []⟩ 8 (by kernel_rfl) (by kernel_rfl) (by kernel_rfl) (by kernel_rfl)) ?_
  intro W base args ds gs before hval0 hW hcnd _
  have hval : ∀ (j : Nat) t v, Try.f5.params[j]? = some t → args[j]? = some v → Value.okWide Try.prog W .any base t v := hval0
  have hW' := hW
  obtain ⟨p, q, hA0, hV, rfl, hfz, hnd⟩ := hW
  have hA : DataW.TrodAll enc Try.prog W 0 (fun _ => true) true Try.f5.params.toList args.toList ds p := hA0
  rw [Try.params5] at hA hval
  obtain ⟨v0, vs0, d0, ds0, p0, q0, hargs, rfl, rfl, h0, r0⟩ := trodAll_cons hA
  obtain ⟨v1, vs1, d1, ds1, p1, q1, rfl, rfl, rfl, h1, r1⟩ := trodAll_cons r0
  obtain ⟨v2, vs2, d2, ds2, p2, q2, rfl, rfl, rfl, h2, r2⟩ := trodAll_cons r1
  obtain ⟨rfl, rfl, rfl⟩ := trodAll_nil r2
  obtain rfl : args = #[v0, v1, v2] := by cases args; simp_all
  obtain ⟨rfl, rfl⟩ := trodVars_none hV
  have k0 := h0
  have lt0 : ∀ x ∈ p0, x.block < W.heap.size := by obtain ⟨m, hm⟩ := k0; exact DataW.trod_lt m _ _ _ hm
  have k1 := h1
  have lt1 : ∀ x ∈ p1, x.block < W.heap.size := by obtain ⟨m, hm⟩ := k1; exact DataW.trod_lt m _ _ _ hm
  have k2 := h2
  have lt2 : ∀ x ∈ p2, x.block < W.heap.size := by obtain ⟨m, hm⟩ := k2; exact DataW.trod_lt m _ _ _ hm
  obtain ⟨a0, rfl, rfl, rfl, w0⟩ := open_string Try.underlying9 (hval 0 9 v0 rfl rfl) h0
  obtain ⟨a1, rfl, rfl, rfl, w1⟩ := open_int Try.underlying3 (hval 1 3 v1 rfl rfl) h1
  obtain ⟨a2, rfl, rfl, rfl, w2⟩ := open_int Try.underlying3 (hval 2 3 v2 rfl rfl) h2
  clear hA0 hval0
  refine (core a0 a1 a2 w0 w1 w2 W).mono fun e W' ⟨he, bel⟩ => ?_
  subst he
  exact ⟨_, rfl, _, _, _, [], _, [], hW', trodAll_mk1 (shut_bool Try.underlying4 _), (trodAll_cons_mk (Below.trod laidOut (by kernel_rfl) (of_decide_eq_true (by kernel_rfl)) k0 bel lt0) (trodAll_cons_mk (Below.trod laidOut (by kernel_rfl) (of_decide_eq_true (by kernel_rfl)) k1 bel lt1) (trodAll_cons_mk (Below.trod laidOut (by kernel_rfl) (of_decide_eq_true (by kernel_rfl)) k2 bel lt2) trodAll_mk0))), rfl, bel.frame _, fun h => by cases h⟩
theorem over : Rows.bitsReadsRow.holds Try.pinned (OpenSpec.ofChange Rows.bitsReadsSpec) :=
  OpenClaim.holds_of_wide 5 Try.f5 rfl rfl rfl rfl rfl rfl rfl ⟨rfl, rfl, rfl, rfl, rfl⟩ rfl rfl rfl rfl rfl (by kernel_rfl) Try.func5 (by kernel_rfl)
    (of_decide_eq_true (by kernel_rfl)) (by unfold Func.isWrapper; first | (rw [if_pos (by decide +kernel)]; kernel_rfl) | (rw [if_neg (by decide +kernel)]; exact ⟨rfl, rfl⟩))
    (fun os started H enc _ => lifted os started H enc)
theorem proved : Rows.BitsReadsSaid := over

end Go.Proofs.Ytnoejddhdgmkcaa.bitsReads
