/- SumJoined: for any two texts the law answers true. Condition: the table of package sum reads as its initialiser lays it (tied to the program's text by the card). -/
import Derived.Test.YtmbndjdpbpajmaaDoorCards
import Derived.Test.YtmbndjdpbpajmaaDoorTie
import Derived.Test.YtmbndjdpbpajmaaDoorFi
import Derived.SevenTiedAt
namespace Go.Proofs.YtmbndjdpbpajmaaDoor.sumJoined
open Go.ChangeShapes Go.WideShapes Go.ChangeAt Go.RowKit
open Go.ChangeMaps (open_string shut_string)
set_option linter.unusedVariables false
set_option maxRecDepth 100000 in
theorem add_lit (c R : Nat) (s : ByteArray) (w : World) (hc : c < 4294967296) (hs : s.size ≤ 140737488351232) (hT : Hid (Tab w)) (e : Sm.add c s.data.toList = R) :
   Calls Tryd.prog 14 #[.int .u32 c, .string s] w fun e w' => e = .returned (.int .u32 R) ∧ w = w' := by
  rw [← e]; exact add_any c s w hc hs hT
theorem data_append (s t : ByteArray) : (s ++ t).data.toList = s.data.toList ++ t.data.toList := by simp
set_option maxRecDepth 100000 in
set_option maxHeartbeats 1000000 in
theorem main (s t : ByteArray) (hs : s.size ≤ 20000) (ht : t.size ≤ 20000) (w : World) (hT : Hid (Tab w)) :
    Calls Tryd.prog 5 #[.string s, .string t] w fun e w' => e = .returned (.bool true) ∧ Below w.heap.size w w' := by
  have hz : (s ++ t).size = s.size + t.size := by simp
  have hX := Sm.add_lt (c := 0) (by omega) s.data.toList
  have hY := Sm.add_lt (c := 0) (by omega) t.data.toList
  have hZ := Sm.add_lt (c := 0) (by omega) (s ++ t).data.toList
  have e4 : Sm.join (Sm.add 0 s.data.toList) (Sm.add 0 t.data.toList) (t.size : Nat) = Sm.add 0 (s ++ t).data.toList := by
    have := Sm.join_of s.data.toList t.data.toList
    rw [data_append, ← this]; simp
  have e5 : Sm.add (Sm.add 0 s.data.toList) t.data.toList = Sm.add 0 (s ++ t).data.toList := by
    rw [data_append, Sm.add_append]
  have C1 := fun w (hT : Hid (Tab w)) => of_any (s ++ t) w (by omega) hT
  have C2 := fun w (hT : Hid (Tab w)) => of_any s w (by omega) hT
  have C3 := fun w (hT : Hid (Tab w)) => of_any t w (by omega) hT
  have C4 := fun w (hT : Hid (Tab w)) => join_lit _ _ (t.size : Nat) _ w hX hY (by omega) (by omega) hT e4
  have C5 := fun w (hT : Hid (Tab w)) => add_lit _ _ t w hX (by omega) hT e5
  have C6 := fun w (hT : Hid (Tab w)) => add_lit _ _ ⟨#[]⟩ w hZ (by decide) hT (Sm.add_nil _)
  have C7 := fun w (hT : Hid (Tab w)) => join_lit _ 0 0 _ w hZ (by omega) (by omega) (by omega) hT (Sm.join_zero _)
  clear e4 e5
  generalize Sm.add 0 (s ++ t).data.toList = z at *
  generalize Sm.add 0 s.data.toList = x at *
  generalize Sm.add 0 t.data.toList = y at *
  have D1 := Lib.hid C1
  have D2 := Lib.hid C2
  have D3 := Lib.hid C3
  have D4 := Lib.hid C4
  have D5 := Lib.hid C5
  have D6 := Lib.hid C6
  have D7 := Lib.hid C7
  clear C1 C2 C3 C4 C5 C6 C7 hz
  go_enter Tryd.func5, Tryd.ntmps5
  go_wp2_with fail
  refine (D1.out _ hT).mono ?_
  rintro e w' ⟨rfl, rfl⟩
  go_wp2_with fail
  refine (awake_any _ hT).mono ?_
  rintro e w1 ⟨rfl, hb1⟩
  have HB1 := Lib.hid hb1; clear hb1
  have hT1 := Lib.hid (hT.out.below HB1.out)
  go_wp2_with fail
  refine (D2.out _ hT1).mono ?_
  rintro e w' ⟨rfl, rfl⟩
  go_wp2_with fail
  refine (D3.out _ hT1).mono ?_
  rintro e w' ⟨rfl, rfl⟩
  go_wp2_with fail
  refine (D4.out _ hT1).mono ?_
  rintro e w2 ⟨rfl, hb2⟩
  have HB2 := Lib.hid hb2; clear hb2
  have hT2 := Lib.hid (hT1.out.below HB2.out)
  go_wp2_with fail
  refine (D2.out _ hT2).mono ?_
  rintro e w' ⟨rfl, rfl⟩
  go_wp2_with fail
  refine (D5.out _ hT2).mono ?_
  rintro e w' ⟨rfl, rfl⟩
  go_wp2_with fail
  refine (D6.out _ hT2).mono ?_
  rintro e w' ⟨rfl, rfl⟩
  go_wp2_with fail
  refine (D7.out _ hT2).mono ?_
  rintro e w3 ⟨rfl, hb3⟩
  have HB3 := Lib.hid hb3; clear hb3
  go_wp2
  go_ret
  exact ⟨rfl, HB1.out.trans ((HB2.out.trans (HB3.out.mono HB2.out.size)).mono HB1.out.size)⟩
set_option maxRecDepth 100000 in
set_option maxHeartbeats 1000000 in
theorem long (s t : ByteArray) (h0 : s.size ≤ 9223372036854775807) (h1 : t.size ≤ 9223372036854775807) (h : ¬ (s.size ≤ 20000 ∧ t.size ≤ 20000)) (w : World) (hT : Hid (Tab w)) :
    Calls Tryd.prog 5 #[.string s, .string t] w fun e w' => e = .returned (.bool true) ∧ Below w.heap.size w w' := by
  by_cases hs : s.size ≤ 20000
  · have ht : ¬ t.size ≤ 20000 := fun h2 => h ⟨hs, h2⟩
    clear h
    go_enter Tryd.func5, Tryd.ntmps5
    go_wp2_with (go_at_call 10; refine (awake_any _ hT).mono ?_; rintro e w1 ⟨rfl, hb1⟩; have HB1 := Lib.hid hb1; clear hb1)
    go_ret
    exact ⟨rfl, HB1.out⟩
  · clear h
    go_enter Tryd.func5, Tryd.ntmps5
    go_wp2_with (go_at_call 10; refine (awake_any _ hT).mono ?_; rintro e w1 ⟨rfl, hb1⟩; have HB1 := Lib.hid hb1; clear hb1)
    go_ret
    exact ⟨rfl, HB1.out⟩
theorem core (s t : ByteArray) (w0 : s.size ≤ maxLen) (w1 : t.size ≤ maxLen) (w : World) (hT : Hid (Tab w)) :
    Calls Tryd.prog 5 #[.string s, .string t] w fun e w' => e = .returned (.bool true) ∧ Below w.heap.size w w' := by
  unfold maxLen at w0 w1
  by_cases h : s.size ≤ 20000 ∧ t.size ≤ 20000
  · exact main s t h.1 h.2 w hT
  · exact long s t (by omega) (by omega) h w hT
set_option maxRecDepth 100000 in
theorem lifted (os : Os) (started : os.Started) (H : Type) (enc : TypeId × Value → H) :
    ReturnsInHanded {} Tryd.checked os 5 .any (fun w args => (Rows.sumJoinedSpec.pre enc Tryd.prog Tryd.f5 [] false w args ∧ laidMetH Tryd.prog laid w) ∧ sizedMet enc Tryd.prog Tryd.f5 (OpenSpec.ofChange Rows.sumJoinedSpec) false w args)
      (Rows.sumJoinedSpec.post enc Tryd.prog Tryd.f5 false true false false) := by
  refine returnsInHanded_of_change_and (C := Tryd.checked) (X := fun w _ => laidMetH Tryd.prog laid w) (fun _ _ _ hh h => h.of_heap hh) own started (by kernel_rfl) Tryd.func5
    (ChangeSpec.witness_shaped (enc := enc) (C := Tryd.checked) (os := os) (X := fun w _ => laidMetH Tryd.prog laid w) false (World.doorLaid Tryd.prog doorSteps os) #[.string ByteArray.empty, .string ByteArray.empty] 8 rfl (World.shaped_of_RefB (by kernel_rfl) (by kernel_rfl)) (by kernel_rfl) (by kernel_rfl) (by kernel_rfl) (door_met os _)) ?_
  intro W base args ds gs before hval0 hW hcnd _ hL _
  have hval : ∀ (j : Nat) t v, Tryd.f5.params[j]? = some t → args[j]? = some v → Value.okWide Tryd.prog W .any base t v := hval0
  have hW' := hW
  obtain ⟨p, q, hA0, hV, rfl, hfz, hnd⟩ := hW
  have hA : DataW.TrodAll enc Tryd.prog W 0 (fun _ => true) true Tryd.f5.params.toList args.toList ds p := hA0
  rw [Tryd.params5] at hA hval
  obtain ⟨v0, vs0, d0, ds0, p0, q0, hargs, rfl, rfl, h0, r0⟩ := trodAll_cons hA
  obtain ⟨v1, vs1, d1, ds1, p1, q1, rfl, rfl, rfl, h1, r1⟩ := trodAll_cons r0
  obtain ⟨rfl, rfl, rfl⟩ := trodAll_nil r1
  obtain rfl : args = #[v0, v1] := by cases args; simp_all
  obtain ⟨rfl, rfl⟩ := trodVars_none hV
  have k0 := h0
  have lt0 : ∀ x ∈ p0, x.block < W.heap.size := by obtain ⟨m, hm⟩ := k0; exact DataW.trod_lt m _ _ _ hm
  have k1 := h1
  have lt1 : ∀ x ∈ p1, x.block < W.heap.size := by obtain ⟨m, hm⟩ := k1; exact DataW.trod_lt m _ _ _ hm
  obtain ⟨a0, rfl, rfl, rfl, w0⟩ := open_string Tryd.underlying9 (hval 0 9 v0 rfl rfl) h0
  obtain ⟨a1, rfl, rfl, rfl, w1⟩ := open_string Tryd.underlying9 (hval 1 9 v1 rfl rfl) h1
  clear hA0 hval0
  refine (core a0 a1 w0 w1 W (Lib.hid (of_laid hL))).mono fun e W' ⟨he, bel⟩ => ?_
  subst he
  exact ⟨_, rfl, _, _, _, [], _, [], hW', trodAll_mk1 (shut_bool Tryd.underlying4 _), (trodAll_cons_mk (Below.trod laidOut (by kernel_rfl) (of_decide_eq_true (by kernel_rfl)) k0 bel lt0) (trodAll_cons_mk (Below.trod laidOut (by kernel_rfl) (of_decide_eq_true (by kernel_rfl)) k1 bel lt1) trodAll_mk0)), rfl, bel.frame _, fun h => by cases h⟩
theorem over : Rows.sumJoinedRow.holds Tryd.pinned (OpenSpec.ofChange Rows.sumJoinedSpec) :=
  OpenClaim.holds_of_wide 5 Tryd.f5 rfl rfl rfl rfl rfl rfl rfl ⟨rfl, rfl, rfl, rfl, rfl⟩ rfl rfl rfl rfl rfl (by kernel_rfl) Tryd.func5 (by kernel_rfl)
    (of_decide_eq_true (by kernel_rfl)) (by unfold Func.isWrapper; first | (rw [if_pos (by decide +kernel)]; kernel_rfl) | (rw [if_neg (by decide +kernel)]; exact ⟨rfl, rfl⟩))
    (fun os started H enc _ => lifted os started H enc)
theorem proved : Rows.SumJoinedCardSaid :=
  Claim7.holds_tied_plain_at .later [] [.data] true (true, "ec012be40840c8b481adfdcd4a219216fde9b8c297530996d1c8b008bc4c498b") false
    over (fun _ h => by cases h) (by kernel_rfl) (fun _ h => by cases h) sumJoined_row_tie rfl ⟨rfl, rfl⟩ (by kernel_rfl) rfl
    (fun f fn hf hfn => by
      obtain rfl : f = 5 := Option.some.inj ((show Tryd.prog.funcNamed "baton/batonlaw02.SumJoined" = some 5 by kernel_rfl).symm.trans hf) |>.symm
      obtain rfl : fn = Tryd.f5 := (Option.some.inj (Tryd.func5.symm.trans hfn)).symm
      exact ⟨by kernel_rfl, fun j t ht => by
        rw [Tryd.params5] at ht
        have hm : t ∈ [9, 9] := by simpa using Array.mem_of_getElem? ht
        have hall : ([9, 9].all fun u => !Tryd.prog.wantsStandIn u) = true := by kernel_rfl
        exact (show Tryd.prog.wantsStandIn t = false by simpa using List.all_eq_true.1 hall t hm)⟩)
    (by kernel_rfl)
end Go.Proofs.YtmbndjdpbpajmaaDoor.sumJoined
