/- SumTells: for any two texts, any two numbers, any number of bytes the law answers true. Condition: the table of package sum reads as its initialiser lays it (tied to the program's text by the card). -/
import Derived.Test.YtmbndjdpbpajmaaDoorCards
import Derived.Test.YtmbndjdpbpajmaaDoorTie
import Derived.Test.YtmbndjdpbpajmaaDoorFi
import Derived.Test.YtmbndjdpbpajmaaDoorCa
import Derived.SevenTiedAt
namespace Go.Proofs.YtmbndjdpbpajmaaDoor.sumTells
open Go.ChangeShapes Go.WideShapes Go.ChangeAt Go.RowKit
open Go.ChangeMaps (open_string shut_string)
set_option linter.unusedVariables false
set_option maxRecDepth 100000 in
theorem same_is (s : ByteArray) (m : Nat) (R : Bool) (w : World) (hs : s.size ≤ 140737488351232) (hT : Hid (Tab w)) (e : (Sm.mask (Sm.add 0 s.data.toList) == m) = R) :
   Calls Tryd.prog 21 #[.string s, .int .u32 m] w fun e w' => e = .returned (.bool R) ∧ w = w' := by
  rw [← e]; exact same_any s m w hs hT
theorem mask_beq (a b : Nat) (ha : a < 4294967296) (hb : b < 4294967296) : (Sm.mask a == Sm.mask b) = ((a : Int) == (b : Int)) := by
  rw [beq_nat]
  by_cases h : a = b
  · subst h; simp
  · rw [beq_eq_false_iff_ne.2 h, beq_eq_false_iff_ne.2 (fun e => h ((Sm.mask_inj a b ha hb).1 e))]
set_option maxRecDepth 100000 in
set_option maxHeartbeats 2000000 in
theorem main (s t : ByteArray) (a b : Nat) (n : Int) (hs : s.size ≤ 20000) (ht : t.size ≤ 20000) (ha : a < 4294967296) (hb : b < 4294967296) (h0 : -9223372036854775808 ≤ n) (h1 : n ≤ 9223372036854775807) (w : World) (hT : Hid (Tab w)) :
    Calls Tryd.prog 3 #[.string s, .string t, .int .u32 a, .int .u32 b, .int .i64 n] w fun e w' => e = .returned (.bool true) ∧ Below w.heap.size w w' := by
  have l0 : 0 < 4294967296 := by omega
  have hS := Sm.add_lt l0 s.data.toList
  have hU := Sm.add_lt l0 t.data.toList
  have hA := Sm.add_lt ha t.data.toList
  have C1 := fun w => rof_any s w (by omega)
  have C2 := fun w => rmask_any _ w hS
  have C3 := fun w (hT : Hid (Tab w)) => of_any s w (by omega) hT
  have C4 := fun w (hT : Hid (Tab w)) => add_any a t w ha (by omega) hT
  have C5 := fun w => radd_any a t w ha (by omega)
  have C6 := fun w => mask_any a w ha
  have C7 := fun w => rmask_any a w ha
  have C8 := fun w => plain_any a w ha
  have C9 := fun w => rplain_any a w ha
  have E1 := fun w (hT : Hid (Tab w)) => join_any a b n w ha hb h0 h1 hT
  have E2 := fun w => rjoin_any a b n w ha hb h0 h1
  have E3 := fun w (hT : Hid (Tab w)) => same_is s (Sm.mask (Sm.add 0 s.data.toList)) true w (by omega) hT (by simp)
  have E4 := fun w (hT : Hid (Tab w)) => same_is s a ((a : Int) == (Sm.mask (Sm.add 0 s.data.toList) : Int)) w (by omega) hT (by rw [← beq_nat, Bool.eq_iff_iff]; simp; exact eq_comm)
  have E5 := fun w (hT : Hid (Tab w)) => same_is t (Sm.mask (Sm.add 0 s.data.toList)) ((Sm.add 0 t.data.toList : Int) == (Sm.add 0 s.data.toList : Int)) w (by omega) hT (mask_beq _ _ hU hS)
  have E6 := fun w => rof_any t w (by omega)
  generalize Sm.mask (Sm.add 0 s.data.toList) = m at *
  generalize Sm.add 0 s.data.toList = x at *
  generalize Sm.add 0 t.data.toList = y at *
  generalize Sm.add a t.data.toList = z at *
  generalize Sm.mask a = p at *
  generalize Sm.plain a = q at *
  generalize Sm.join a b n = r at *
  have D1 := Lib.hid C1
  have D2 := Lib.hid C2
  have D3 := Lib.hid C3
  have D4 := Lib.hid C4
  have D5 := Lib.hid C5
  have D6 := Lib.hid C6
  have D7 := Lib.hid C7
  have D8 := Lib.hid C8
  have D9 := Lib.hid C9
  have F1 := Lib.hid E1
  have F2 := Lib.hid E2
  have F3 := Lib.hid E3
  have F4 := Lib.hid E4
  have F5 := Lib.hid E5
  have F6 := Lib.hid E6
  clear C1 C2 C3 C4 C5 C6 C7 C8 C9 E1 E2 E3 E4 E5 E6
  go_enter Tryd.func3, Tryd.ntmps3
  go_wp2_with fail
  refine (D1.out _).mono ?_
  rintro e w' ⟨rfl, rfl⟩
  go_wp2_with fail
  refine (D2.out _).mono ?_
  rintro e w' ⟨rfl, rfl⟩
  go_wp2_with fail
  refine (awake_any _ hT).mono ?_
  rintro e w1 ⟨rfl, hb1⟩
  have HB1 := Lib.hid hb1; clear hb1
  have hT1 := Lib.hid (hT.out.below HB1.out)
  go_wp2_with fail
  refine (D3.out _ hT1).mono ?_
  rintro e w' ⟨rfl, rfl⟩
  go_wp2_with fail
  refine (D1.out _).mono ?_
  rintro e w' ⟨rfl, rfl⟩
  go_wp2_with fail
  refine (D4.out _ hT1).mono ?_
  rintro e w' ⟨rfl, rfl⟩
  go_wp2_with fail
  refine (D5.out _).mono ?_
  rintro e w' ⟨rfl, rfl⟩
  go_wp2_with fail
  refine (D6.out _).mono ?_
  rintro e w' ⟨rfl, rfl⟩
  go_wp2_with fail
  refine (D7.out _).mono ?_
  rintro e w' ⟨rfl, rfl⟩
  go_wp2_with fail
  refine (D8.out _).mono ?_
  rintro e w' ⟨rfl, rfl⟩
  go_wp2_with fail
  refine (D9.out _).mono ?_
  rintro e w' ⟨rfl, rfl⟩
  go_wp2_with fail
  refine (F1.out _ hT1).mono ?_
  rintro e w2 ⟨rfl, hb2⟩
  have HB2 := Lib.hid hb2; clear hb2
  have hT2 := Lib.hid (hT1.out.below HB2.out)
  go_wp2_with fail
  refine (F2.out _).mono ?_
  rintro e w3 ⟨rfl, hb3⟩
  have HB3 := Lib.hid hb3; clear hb3
  have hT3 := Lib.hid (hT2.out.below HB3.out)
  go_wp2_with fail
  refine (F3.out _ hT3).mono ?_
  rintro e w' ⟨rfl, rfl⟩
  go_wp2_with fail
  refine (F4.out _ hT3).mono ?_
  rintro e w' ⟨rfl, rfl⟩
  go_wp2_with fail
  refine (F5.out _ hT3).mono ?_
  rintro e w' ⟨rfl, rfl⟩
  go_wp2_with fail
  refine (F6.out _).mono ?_
  rintro e w' ⟨rfl, rfl⟩
  go_wp2_with fail
  refine (D1.out _).mono ?_
  rintro e w' ⟨rfl, rfl⟩
  go_wp2
  go_ret
  exact ⟨rfl, below_on (below_on HB1.out HB2.out) HB3.out⟩
set_option maxRecDepth 100000 in
set_option maxHeartbeats 1000000 in
theorem long (s t : ByteArray) (a b : Nat) (n : Int) (h0 : s.size ≤ 9223372036854775807) (h1 : t.size ≤ 9223372036854775807) (h : ¬ (s.size ≤ 20000 ∧ t.size ≤ 20000)) (w : World) (hT : Hid (Tab w)) :
    Calls Tryd.prog 3 #[.string s, .string t, .int .u32 a, .int .u32 b, .int .i64 n] w fun e w' => e = .returned (.bool true) ∧ Below w.heap.size w w' := by
  by_cases hs : s.size ≤ 20000
  · have ht : ¬ t.size ≤ 20000 := fun h2 => h ⟨hs, h2⟩
    clear h
    go_enter Tryd.func3, Tryd.ntmps3
    go_wp2_with (go_at_call 10; refine (awake_any _ hT).mono ?_; rintro e w1 ⟨rfl, hb1⟩; have HB1 := Lib.hid hb1; clear hb1)
    go_ret
    exact ⟨rfl, HB1.out⟩
  · clear h
    go_enter Tryd.func3, Tryd.ntmps3
    go_wp2_with (go_at_call 10; refine (awake_any _ hT).mono ?_; rintro e w1 ⟨rfl, hb1⟩; have HB1 := Lib.hid hb1; clear hb1)
    go_ret
    exact ⟨rfl, HB1.out⟩
theorem core (s t : ByteArray) (a0 a1 a2 : Int) (w0 : s.size ≤ maxLen) (w1 : t.size ≤ maxLen) (w2 : (Lit.int .u32 a0).wf = true) (w3 : (Lit.int .u32 a1).wf = true) (w4 : (Lit.int .i64 a2).wf = true) (w : World) (hT : Hid (Tab w)) :
    Calls Tryd.prog 3 #[.string s, .string t, .int .u32 a0, .int .u32 a1, .int .i64 a2] w fun e w' => e = .returned (.bool true) ∧ Below w.heap.size w w' := by
  unfold maxLen at w0 w1
  obtain ⟨n0, n1⟩ := bounds_u32 w2
  obtain ⟨m0, m1⟩ := bounds_u32 w3
  obtain ⟨p0, p1⟩ := bounds_i64 w4
  obtain ⟨a, rfl⟩ := Int.eq_ofNat_of_zero_le n0
  obtain ⟨b, rfl⟩ := Int.eq_ofNat_of_zero_le m0
  by_cases h : s.size ≤ 20000 ∧ t.size ≤ 20000
  · exact main s t a b a2 h.1 h.2 (by omega) (by omega) p0 p1 w hT
  · exact long s t a b a2 (by omega) (by omega) h w hT
set_option maxRecDepth 100000 in
theorem lifted (os : Os) (started : os.Started) (H : Type) (enc : TypeId × Value → H) :
    ReturnsInHanded {} Tryd.checked os 3 .any (fun w args => (Rows.sumTellsSpec.pre enc Tryd.prog Tryd.f3 [] false w args ∧ laidMetH Tryd.prog laid w) ∧ sizedMet enc Tryd.prog Tryd.f3 (OpenSpec.ofChange Rows.sumTellsSpec) false w args)
      (Rows.sumTellsSpec.post enc Tryd.prog Tryd.f3 false true false false) := by
  refine returnsInHanded_of_change_and (C := Tryd.checked) (X := fun w _ => laidMetH Tryd.prog laid w) (fun _ _ _ hh h => h.of_heap hh) own started (by kernel_rfl) Tryd.func3
    (ChangeSpec.witness_shaped (enc := enc) (C := Tryd.checked) (os := os) (X := fun w _ => laidMetH Tryd.prog laid w) false (World.doorLaid Tryd.prog doorSteps os) #[.string ByteArray.empty, .string ByteArray.empty, .int .u32 0, .int .u32 0, .int .i64 0] 8 rfl (World.shaped_of_RefB (by kernel_rfl) (by kernel_rfl)) (by kernel_rfl) (by kernel_rfl) (by kernel_rfl) (door_met os _)) ?_
  intro W base args ds gs before hval0 hW hcnd _ hL _
  have hval : ∀ (j : Nat) t v, Tryd.f3.params[j]? = some t → args[j]? = some v → Value.okWide Tryd.prog W .any base t v := hval0
  have hW' := hW
  obtain ⟨p, q, hA0, hV, rfl, hfz, hnd⟩ := hW
  have hA : DataW.TrodAll enc Tryd.prog W 0 (fun _ => true) true Tryd.f3.params.toList args.toList ds p := hA0
  rw [Tryd.params3] at hA hval
  obtain ⟨v0, vs0, d0, ds0, p0, q0, hargs, rfl, rfl, h0, r0⟩ := trodAll_cons hA
  obtain ⟨v1, vs1, d1, ds1, p1, q1, rfl, rfl, rfl, h1, r1⟩ := trodAll_cons r0
  obtain ⟨v2, vs2, d2, ds2, p2, q2, rfl, rfl, rfl, h2, r2⟩ := trodAll_cons r1
  obtain ⟨v3, vs3, d3, ds3, p3, q3, rfl, rfl, rfl, h3, r3⟩ := trodAll_cons r2
  obtain ⟨v4, vs4, d4, ds4, p4, q4, rfl, rfl, rfl, h4, r4⟩ := trodAll_cons r3
  obtain ⟨rfl, rfl, rfl⟩ := trodAll_nil r4
  obtain rfl : args = #[v0, v1, v2, v3, v4] := by cases args; simp_all
  obtain ⟨rfl, rfl⟩ := trodVars_none hV
  have k0 := h0
  have lt0 : ∀ x ∈ p0, x.block < W.heap.size := by obtain ⟨m, hm⟩ := k0; exact DataW.trod_lt m _ _ _ hm
  have k1 := h1
  have lt1 : ∀ x ∈ p1, x.block < W.heap.size := by obtain ⟨m, hm⟩ := k1; exact DataW.trod_lt m _ _ _ hm
  have k2 := h2
  have lt2 : ∀ x ∈ p2, x.block < W.heap.size := by obtain ⟨m, hm⟩ := k2; exact DataW.trod_lt m _ _ _ hm
  have k3 := h3
  have lt3 : ∀ x ∈ p3, x.block < W.heap.size := by obtain ⟨m, hm⟩ := k3; exact DataW.trod_lt m _ _ _ hm
  have k4 := h4
  have lt4 : ∀ x ∈ p4, x.block < W.heap.size := by obtain ⟨m, hm⟩ := k4; exact DataW.trod_lt m _ _ _ hm
  obtain ⟨a0, rfl, rfl, rfl, w0⟩ := open_string Tryd.underlying9 (hval 0 9 v0 rfl rfl) h0
  obtain ⟨a1, rfl, rfl, rfl, w1⟩ := open_string Tryd.underlying9 (hval 1 9 v1 rfl rfl) h1
  obtain ⟨a2, rfl, rfl, rfl, w2⟩ := open_int Tryd.underlying22 (hval 2 22 v2 rfl rfl) h2
  obtain ⟨a3, rfl, rfl, rfl, w3⟩ := open_int Tryd.underlying22 (hval 3 22 v3 rfl rfl) h3
  obtain ⟨a4, rfl, rfl, rfl, w4⟩ := open_int Tryd.underlying3 (hval 4 3 v4 rfl rfl) h4
  clear hA0 hval0
  refine (core a0 a1 a2 a3 a4 w0 w1 w2 w3 w4 W (Lib.hid (of_laid hL))).mono fun e W' ⟨he, bel⟩ => ?_
  subst he
  exact ⟨_, rfl, _, _, _, [], _, [], hW', trodAll_mk1 (shut_bool Tryd.underlying4 _), (trodAll_cons_mk (Below.trod laidOut (by kernel_rfl) (of_decide_eq_true (by kernel_rfl)) k0 bel lt0) (trodAll_cons_mk (Below.trod laidOut (by kernel_rfl) (of_decide_eq_true (by kernel_rfl)) k1 bel lt1) (trodAll_cons_mk (Below.trod laidOut (by kernel_rfl) (of_decide_eq_true (by kernel_rfl)) k2 bel lt2) (trodAll_cons_mk (Below.trod laidOut (by kernel_rfl) (of_decide_eq_true (by kernel_rfl)) k3 bel lt3) (trodAll_cons_mk (Below.trod laidOut (by kernel_rfl) (of_decide_eq_true (by kernel_rfl)) k4 bel lt4) trodAll_mk0))))), rfl, bel.frame _, fun h => by cases h⟩
theorem over : Rows.sumTellsRow.holds Tryd.pinned (OpenSpec.ofChange Rows.sumTellsSpec) :=
  OpenClaim.holds_of_wide 3 Tryd.f3 rfl rfl rfl rfl rfl rfl rfl ⟨rfl, rfl, rfl, rfl, rfl⟩ rfl rfl rfl rfl rfl (by kernel_rfl) Tryd.func3 (by kernel_rfl)
    (of_decide_eq_true (by kernel_rfl)) (by unfold Func.isWrapper; first | (rw [if_pos (by decide +kernel)]; kernel_rfl) | (rw [if_neg (by decide +kernel)]; exact ⟨rfl, rfl⟩))
    (fun os started H enc _ => lifted os started H enc)
theorem proved : Rows.SumTellsCardSaid :=
  Claim7.holds_tied_plain_at .later [] [.data] true (true, "ec012be40840c8b481adfdcd4a219216fde9b8c297530996d1c8b008bc4c498b") false
    over (fun _ h => by cases h) (by kernel_rfl) (fun _ h => by cases h) sumTells_row_tie rfl ⟨rfl, rfl⟩ (by kernel_rfl) rfl
    (fun f fn hf hfn => by
      obtain rfl : f = 3 := Option.some.inj ((show Tryd.prog.funcNamed "baton/batonlaw02.SumTells" = some 3 by kernel_rfl).symm.trans hf) |>.symm
      obtain rfl : fn = Tryd.f3 := (Option.some.inj (Tryd.func3.symm.trans hfn)).symm
      exact ⟨by kernel_rfl, fun j t ht => by
        rw [Tryd.params3] at ht
        have hm : t ∈ [9, 9, 22, 22, 3] := by simpa using Array.mem_of_getElem? ht
        have hall : ([9, 9, 22, 22, 3].all fun u => !Tryd.prog.wantsStandIn u) = true := by kernel_rfl
        exact (show Tryd.prog.wantsStandIn t = false by simpa using List.all_eq_true.1 hall t hm)⟩)
    (by kernel_rfl)
end Go.Proofs.YtmbndjdpbpajmaaDoor.sumTells
