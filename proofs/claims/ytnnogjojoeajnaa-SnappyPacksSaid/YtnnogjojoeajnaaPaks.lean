/- SnappyPacks: for any text and any place the law answers true. No condition. -/
import Derived.Test.YtnnogjojoeajnaaRows
import Derived.Test.YtnnogjojoeajnaaAw
import Derived.Test.YtnnogjojoeajnaaAr
import Derived.Test.YtnnogjojoeajnaaRk
import Derived.WalkKit
import Derived.ProofKit
import Derived.OpenShut
import Derived.ShutString
namespace Go.Proofs.Ytnnogjojoeajnaa.snappyPacks
open Go.ChangeShapes Go.WideShapes Go.ChangeAt Go.RowKit
open Go.ChangeMaps (open_string shut_string)
set_option linter.unusedVariables false
theorem below_trans' {w a b : World} (h : Below w.heap.size w a) (k : Below a.heap.size a b) : Below w.heap.size w b := h.trans (k.mono h.size)
set_option maxRecDepth 100000 in
set_option maxHeartbeats 2000000 in
theorem main (s : ByteArray) (at' : Int) (hs : s.size ≤ 600) (X : Nat × Nat) (h1 : ∀ W, Calls Try.prog 18 #[.string s, .int .i64 at'] W (Two W X)) (h2 : ∀ W, Calls Try.prog 29 #[.string s, .int .i64 at'] W (Two W X)) (w : World) :
    Calls Try.prog 6 #[.string s, .int .i64 at'] w fun e w' => e = .returned (.bool true) ∧ Below w.heap.size w w' := by
  have hsi : ¬ (600 : Int) < (s.size : Int) := by omega
  have hl0 : s.data.toList.length = s.size := by simp
  have HM1 := Lib.hid h1
  have HM2 := Lib.hid h2
  have HP1 := Lib.hid (fun W => pack_any s (by omega) W)
  have HP2 := Lib.hid (fun W => rpack_any s (by omega) W)
  have HE1 := Lib.hid (fun W => encode_any s W)
  have HE2 := Lib.hid (fun W => rencode_any s (by omega) W)
  have hpl := pk_length s.data.toList
  generalize pk s.data.toList 0 0 [] = PL at *
  obtain ⟨out, er, hx⟩ : ∃ out er, encode s.data.toList = (out, er) := ⟨_, _, rfl⟩
  rw [hx] at HE1 HE2
  have HS := Lib.hid (fun V U W hv hu => same_any PL (by omega) V U W hv hu)
  obtain ⟨o, n⟩ := X
  have e1 : (er == er) = true := by simp
  have e2 : ((bs out).toList == (bs out).toList) = true := by simp
  have e3 : (o == o) = true := by simp
  have e4 : (n == n) = true := by simp
  clear h1 h2 hx hpl hl0 hs
  go_enter Try.func6, Try.ntmps6
  go_wp2_with fail
  refine (HM1.out _).mono ?_
  rintro e w1 ⟨rfl, hb1⟩
  have HB1 := Lib.hid hb1
  clear hb1
  go_wp2_with fail
  refine (HM2.out _).mono ?_
  rintro e w2 ⟨rfl, hb2⟩
  have HB2 := Lib.hid (below_trans' HB1.out hb2)
  clear hb2
  go_wp2_with fail
  refine (HP1.out _).mono ?_
  rintro e w3 ⟨v3, rfl, ho3, hb3⟩
  have HB3 := Lib.hid (below_trans' HB2.out hb3)
  have HV3 := Lib.hid (partsAt_of ho3)
  clear hb3 ho3
  go_wp2_with fail
  refine (HP2.out _).mono ?_
  rintro e w4 ⟨v4, rfl, ho4, hb4⟩
  have HB4 := Lib.hid (below_trans' HB3.out hb4)
  have HV4 := Lib.hid (HV3.out.below hb4 rfl)
  have HA4 := Lib.hid (argAt_of ho4)
  clear hb4 ho4
  go_wp2_with fail
  refine (HE1.out _).mono ?_
  rintro e w5 ⟨rfl, hb5⟩
  have HB5 := Lib.hid (below_trans' HB4.out hb5)
  have HV5 := Lib.hid (HV4.out.below hb5 rfl)
  have HA5 := Lib.hid (HA4.out.below hb5 rfl)
  clear hb5
  go_wp2_with fail
  refine (HE2.out _).mono ?_
  rintro e w6 ⟨rfl, hb6⟩
  have HB6 := Lib.hid (below_trans' HB5.out hb6)
  have HV6 := Lib.hid (HV5.out.below hb6 rfl)
  have HA6 := Lib.hid (HA5.out.below hb6 rfl)
  clear hb6
  go_wp2_with fail
  refine (HS.out _ _ _ HV6.out HA6.out).mono ?_
  rintro e w7 ⟨rfl, hb7⟩
  have HB7 := Lib.hid (below_trans' HB6.out hb7)
  clear hb7
  go_wp2_with fail
  refine (awake_any _).mono ?_
  rintro e w8 ⟨rfl, hb8⟩
  have HB8 := Lib.hid (below_trans' HB7.out hb8)
  clear hb8
  go_wp2
  go_ret
  exact ⟨rfl, HB8.out⟩
set_option maxRecDepth 100000 in
set_option maxHeartbeats 2000000 in
theorem core (s : ByteArray) (at' : Int) (hs : s.size ≤ maxLen) (wa : (Lit.int .i64 at').wf = true) (w : World) :
    Calls Try.prog 6 #[.string s, .int .i64 at'] w fun e w' => e = .returned (.bool true) ∧ Below w.heap.size w w' := by
  by_cases hb : 600 < s.size
  · have hsi : (600 : Int) < (s.size : Int) := by omega
    go_enter Try.func6, Try.ntmps6
    go_wp2_with fail
    refine (awake_any _).mono ?_
    rintro e w1 ⟨rfl, hb1⟩
    have HB1 := Lib.hid hb1
    clear hb1
    go_wp2
    go_ret
    exact ⟨rfl, HB1.out⟩
  · by_cases ha : at' < 0 ∨ (s.size : Int) ≤ at'
    · exact main s at' (by omega) (0, 0) (fun W => match_out s at' ha W) (fun W => rmatch_out s at' ha W) w
    · obtain ⟨a, rfl⟩ := Int.eq_ofNat_of_zero_le (show 0 ≤ at' by omega)
      exact main s a (by omega) (mat s.data.toList a) (fun W => match_in s (by omega) a (by omega) W) (fun W => rmatch_in s (by omega) a (by omega) W) w
theorem own : ownKnob Try.prog.godebug = none := by kernel_rfl
theorem laidOut : laidOutB Try.prog = true := by kernel_rfl
set_option maxRecDepth 100000 in
theorem lifted (os : Os) (started : os.Started) (H : Type) (enc : TypeId × Value → H) :
    ReturnsInHanded {} Try.checked os 6 .any (Rows.snappyPacksSpec.pre6 enc Try.prog Try.f6 Rows.snappyPacksRow.domain false) (Rows.snappyPacksSpec.post enc Try.prog Try.f6 false true false false) := by
  refine returnsInHanded_of_change (C := Try.checked) own started (by kernel_rfl) Try.func6
    (ChangeSpec.witness6 (enc := enc) (C := Try.checked) false ⟨#[], #[.string ByteArray.empty, .int .i64 0], []⟩ 8 (by kernel_rfl) (by kernel_rfl) (by kernel_rfl) (by kernel_rfl)) ?_
  intro W base args ds gs before hval0 hW hcnd _
  have hval : ∀ (j : Nat) t v, Try.f6.params[j]? = some t → args[j]? = some v → Value.okWide Try.prog W .any base t v := hval0
  have hW' := hW
  obtain ⟨p, q, hA0, hV, rfl, hfz, hnd⟩ := hW
  have hA : DataW.TrodAll enc Try.prog W 0 (fun _ => true) true Try.f6.params.toList args.toList ds p := hA0
  rw [Try.params6] at hA hval
  obtain ⟨v0, vs0, d0, ds0, p0, q0, hargs, rfl, rfl, h0, r0⟩ := trodAll_cons hA
  obtain ⟨v1, vs1, d1, ds1, p1, q1, rfl, rfl, rfl, h1, r1⟩ := trodAll_cons r0
  obtain ⟨rfl, rfl, rfl⟩ := trodAll_nil r1
  obtain rfl : args = #[v0, v1] := by cases args; simp_all
  obtain ⟨rfl, rfl⟩ := trodVars_none hV
  have k0 := h0
  have lt0 : ∀ x ∈ p0, x.block < W.heap.size := by obtain ⟨m, hm⟩ := k0; exact DataW.trod_lt m _ _ _ hm
  have k1 := h1
  have lt1 : ∀ x ∈ p1, x.block < W.heap.size := by obtain ⟨m, hm⟩ := k1; exact DataW.trod_lt m _ _ _ hm
  obtain ⟨a0, rfl, rfl, rfl, w0⟩ := open_string Try.underlying9 (hval 0 9 v0 rfl rfl) h0
  obtain ⟨a1, rfl, rfl, rfl, w1⟩ := open_int Try.underlying3 (hval 1 3 v1 rfl rfl) h1
  clear hA0 hval0
  refine (core a0 a1 w0 w1 W ).mono fun e W' ⟨he, bel⟩ => ?_
  subst he
  exact ⟨_, rfl, _, _, _, [], _, [], hW', trodAll_mk1 (shut_bool Try.underlying4 _), (trodAll_cons_mk (Below.trod laidOut (by kernel_rfl) (of_decide_eq_true (by kernel_rfl)) k0 bel lt0) (trodAll_cons_mk (Below.trod laidOut (by kernel_rfl) (of_decide_eq_true (by kernel_rfl)) k1 bel lt1) trodAll_mk0)), rfl, bel.frame _, fun h => by cases h⟩
theorem over : Rows.snappyPacksRow.holds Try.pinned (OpenSpec.ofChange Rows.snappyPacksSpec) :=
  OpenClaim.holds_of_wide 6 Try.f6 rfl rfl rfl rfl rfl rfl rfl ⟨rfl, rfl, rfl, rfl, rfl⟩ rfl rfl rfl rfl rfl (by kernel_rfl) Try.func6 (by kernel_rfl)
    (of_decide_eq_true (by kernel_rfl)) (by unfold Func.isWrapper; first | (rw [if_pos (by decide +kernel)]; kernel_rfl) | (rw [if_neg (by decide +kernel)]; exact ⟨rfl, rfl⟩))
    (fun os started H enc _ => lifted os started H enc)
theorem proved : Rows.SnappyPacksSaid := over
end Go.Proofs.Ytnnogjojoeajnaa.snappyPacks
