/- FrameMakes: for any kind, any payload and any number the law answers true. Condition: the table of package sum reads as its initialiser lays it (tied to the program's text by the card). -/
import Derived.Test.YtkbifmgddbilmaaDoorCards
import Derived.Test.YtkbifmgddbilmaaDoorTie
import Derived.Test.YtkbifmgddbilmaaDoorSf
import Derived.Test.YtkbifmgddbilmaaDoorAw
import Derived.SevenTiedAt
namespace Go.Proofs.YtkbifmgddbilmaaDoor.frameMakes
open Go Go.ChangeShapes Go.WideShapes Go.ChangeAt Go.RowKit
open Go.ChangeMaps (open_string shut_string)
set_option linter.unusedVariables false
theorem long (k n : Int) (s : ByteArray) (hs : 20000 < s.size) (h0 : s.size ≤ 9223372036854775807) (w : World) (hT : Hid (Tab w)) : Calls Tryd.prog 4 #[.int .u8 k, .string s, .int .i64 n] w (Ret w (.bool true)) := by
  go_enter Tryd.func4, Tryd.ntmps4
  go_wp2_with (go_at_call 11; refine (awake_any _ hT).mono ?_; rintro e w1 ⟨rfl, hb1⟩; have HB1 := Lib.hid hb1; clear hb1)
  go_ret
  exact ⟨rfl, HB1.out⟩
set_option maxRecDepth 100000 in
set_option maxHeartbeats 2000000 in
theorem main (k : UInt8) (s : ByteArray) (n : Int) (hs : s.size ≤ 20000) (w : World) (hT : Hid (Tab w)) : Calls Tryd.prog 4 #[.int .u8 k.toNat, .string s, .int .i64 n] w (Ret w (.bool true)) := by
  have C1 := Lib.hid (fun W (hW : Tab W) => make_any k s W (Lib.hid hW))
  have C2 := Lib.hid (fun W => rmake_any k s W)
  have C3 := Lib.hid (fun W => size_any n W)
  have C4 := Lib.hid (fun W => rsize_any n W)
  have C5 := Lib.hid (fun W => size_any (s.size : Int) W)
  have hz : mkE k s = 0 → ((bs (mdl k s)).size : Int) = fsz (s.size : Int) := by
    unfold mkE mdl
    by_cases hk : 1 ≤ k.toNat ∧ k.toNat ≤ 3
    · rw [if_pos hk, if_pos hk, if_pos (by omega), if_pos (by omega), bs_size, Fr.frm_length]
      intro _
      unfold fsz
      rw [if_neg (by omega)]
      simp; omega
    · rw [if_neg hk]
      intro h; omega
  have hmax : (bs (mdl k s)).size ≤ 1000000 := by
    unfold mdl
    split
    · split
      · rw [bs_size, Fr.frm_length]; simp; omega
      · decide
    · decide
  generalize bs (mdl k s) = T at *
  generalize (k.toNat : Int) = K at *
  have ht : (T.toList == T.toList) = true := by simp
  have hf : (fsz n == fsz n) = true := by simp
  generalize hM : mkE k s = M at *
  have hm : ((M : Int) == (M : Int)) = true := by simp
  by_cases h0 : M = 0
  · have hz1 := hz h0
    subst h0
    have hze : ((T.size : Int) == fsz (s.size : Int)) = true := by rw [hz1]; simp
    clear hz hM hz1
    generalize fsz n = A at *
    generalize fsz (s.size : Int) = B at *
    go_enter Tryd.func4, Tryd.ntmps4
    go_wp2_with fail
    refine (C1.out _ hT.out).mono ?_
    rintro e w1 ⟨rfl, hb1⟩
    have HB1 := Lib.hid hb1
    clear hb1
    go_wp2_with fail
    refine (C2.out _).mono ?_
    rintro e w2 ⟨rfl, hb2⟩
    have HB2 := Lib.hid (below_chain HB1.out hb2)
    clear hb2
    go_wp2_with fail
    refine (C3.out _).mono ?_
    rintro e w' ⟨rfl, rfl⟩
    go_wp2_with fail
    refine (C4.out _).mono ?_
    rintro e w' ⟨rfl, rfl⟩
    go_wp2_with fail
    refine (C5.out _).mono ?_
    rintro e w' ⟨rfl, rfl⟩
    go_wp2_with fail
    refine (awake_any _ (Lib.hid (hT.out.below HB2.out))).mono ?_
    rintro e w3 ⟨rfl, hb3⟩
    have HB3 := Lib.hid (below_chain HB2.out hb3)
    clear hb3
    go_wp2
    go_ret
    exact ⟨rfl, HB3.out⟩
  · have hne : ((M : Int) != 0) = true := by rw [bne_iff_ne]; omega
    clear hz hM h0
    generalize fsz n = A at *
    go_enter Tryd.func4, Tryd.ntmps4
    go_wp2_with fail
    refine (C1.out _ hT.out).mono ?_
    rintro e w1 ⟨rfl, hb1⟩
    have HB1 := Lib.hid hb1
    clear hb1
    go_wp2_with fail
    refine (C2.out _).mono ?_
    rintro e w2 ⟨rfl, hb2⟩
    have HB2 := Lib.hid (below_chain HB1.out hb2)
    clear hb2
    go_wp2_with fail
    refine (C3.out _).mono ?_
    rintro e w' ⟨rfl, rfl⟩
    go_wp2_with fail
    refine (C4.out _).mono ?_
    rintro e w' ⟨rfl, rfl⟩
    go_wp2_with fail
    refine (awake_any _ (Lib.hid (hT.out.below HB2.out))).mono ?_
    rintro e w3 ⟨rfl, hb3⟩
    have HB3 := Lib.hid (below_chain HB2.out hb3)
    clear hb3
    go_wp2
    go_ret
    exact ⟨rfl, HB3.out⟩
theorem core (a0 : Int) (s : ByteArray) (a2 : Int) (w0 : (Lit.int .u8 a0).wf = true) (w1 : s.size ≤ maxLen) (w2 : (Lit.int .i64 a2).wf = true) (w : World) (hT : Hid (Tab w)) :
    Calls Tryd.prog 4 #[.int .u8 a0, .string s, .int .i64 a2] w fun e w' => e = .returned (.bool true) ∧ Below w.heap.size w w' := by
  unfold maxLen at w1
  obtain ⟨n0, n1⟩ := bounds_u8 w0
  by_cases h : 20000 < s.size
  · exact long a0 a2 s h (by omega) w hT
  · have h2 := main (UInt8.ofNat a0.toNat) s a2 (by omega) w hT
    rw [Bt.ofNat_toNat (by omega), Int.toNat_of_nonneg n0] at h2
    exact h2
set_option maxRecDepth 100000 in
theorem lifted (os : Os) (started : os.Started) (H : Type) (enc : TypeId × Value → H) :
    ReturnsInHanded {} Tryd.checked os 4 .any (fun w args => (Rows.frameMakesSpec.pre enc Tryd.prog Tryd.f4 [] false w args ∧ laidMetH Tryd.prog laid w) ∧ sizedMet enc Tryd.prog Tryd.f4 (OpenSpec.ofChange Rows.frameMakesSpec) false w args)
      (Rows.frameMakesSpec.post enc Tryd.prog Tryd.f4 false true false false) := by
  refine returnsInHanded_of_change_and (C := Tryd.checked) (X := fun w _ => laidMetH Tryd.prog laid w) (fun _ _ _ hh h => h.of_heap hh) own started (by kernel_rfl) Tryd.func4
    (ChangeSpec.witness_shaped (enc := enc) (C := Tryd.checked) (os := os) (X := fun w _ => laidMetH Tryd.prog laid w) false (World.doorLaid Tryd.prog doorSteps os) #[.int .u8 0, .string ByteArray.empty, .int .i64 0] 8 rfl (World.shaped_of_RefB (by kernel_rfl) (by kernel_rfl)) (by kernel_rfl) (by kernel_rfl) (by kernel_rfl) (door_met os _)) ?_
  intro W base args ds gs before hval0 hW hcnd _ hL _
  have hval : ∀ (j : Nat) t v, Tryd.f4.params[j]? = some t → args[j]? = some v → Value.okWide Tryd.prog W .any base t v := hval0
  have hW' := hW
  obtain ⟨p, q, hA0, hV, rfl, hfz, hnd⟩ := hW
  have hA : DataW.TrodAll enc Tryd.prog W 0 (fun _ => true) true Tryd.f4.params.toList args.toList ds p := hA0
  rw [Tryd.params4] at hA hval
  obtain ⟨v0, vs0, d0, ds0, p0, q0, hargs, rfl, rfl, h0, r0⟩ := trodAll_cons hA
  obtain ⟨v1, vs1, d1, ds1, p1, q1, rfl, rfl, rfl, h1, r1⟩ := trodAll_cons r0
  obtain ⟨v2, vs2, d2, ds2, p2, q2, rfl, rfl, rfl, h2, r2⟩ := trodAll_cons r1
  obtain ⟨rfl, rfl, rfl⟩ := trodAll_nil r2
  obtain rfl : args = #[v0, v1, v2] := by cases args; simp_all
  obtain ⟨rfl, rfl⟩ := trodVars_none hV
  have k0 := h0
  have lt0 : ∀ x ∈ p0, x.block < W.heap.size := by obtain ⟨m, hm⟩ := k0; exact DataW.trod_lt m _ _ _ hm
  have k1 := h1
  have lt1 : ∀ x ∈ p1, x.block < W.heap.size := by obtain ⟨m, hm⟩ := k1; exact DataW.trod_lt m _ _ _ hm
  have k2 := h2
  have lt2 : ∀ x ∈ p2, x.block < W.heap.size := by obtain ⟨m, hm⟩ := k2; exact DataW.trod_lt m _ _ _ hm
  obtain ⟨a0, rfl, rfl, rfl, w0⟩ := open_int Tryd.underlying5 (hval 0 5 v0 rfl rfl) h0
  obtain ⟨a1, rfl, rfl, rfl, w1⟩ := open_string Tryd.underlying9 (hval 1 9 v1 rfl rfl) h1
  obtain ⟨a2, rfl, rfl, rfl, w2⟩ := open_int Tryd.underlying3 (hval 2 3 v2 rfl rfl) h2
  clear hA0 hval0
  refine (core a0 a1 a2 w0 w1 w2 W (Lib.hid (of_laid hL))).mono fun e W' ⟨he, bel⟩ => ?_
  subst he
  exact ⟨_, rfl, _, _, _, [], _, [], hW', trodAll_mk1 (shut_bool Tryd.underlying4 _), (trodAll_cons_mk (Below.trod laidOut (by kernel_rfl) (of_decide_eq_true (by kernel_rfl)) k0 bel lt0) (trodAll_cons_mk (Below.trod laidOut (by kernel_rfl) (of_decide_eq_true (by kernel_rfl)) k1 bel lt1) (trodAll_cons_mk (Below.trod laidOut (by kernel_rfl) (of_decide_eq_true (by kernel_rfl)) k2 bel lt2) trodAll_mk0))), rfl, bel.frame _, fun h => by cases h⟩
theorem over : Rows.frameMakesRow.holds Tryd.pinned (OpenSpec.ofChange Rows.frameMakesSpec) :=
  OpenClaim.holds_of_wide 4 Tryd.f4 rfl rfl rfl rfl rfl rfl rfl ⟨rfl, rfl, rfl, rfl, rfl⟩ rfl rfl rfl rfl rfl (by kernel_rfl) Tryd.func4 (by kernel_rfl)
    (of_decide_eq_true (by kernel_rfl)) (by unfold Func.isWrapper; first | (rw [if_pos (by decide +kernel)]; kernel_rfl) | (rw [if_neg (by decide +kernel)]; exact ⟨rfl, rfl⟩))
    (fun os started H enc _ => lifted os started H enc)
theorem proved : Rows.FrameMakesCardSaid :=
  Claim7.holds_tied_plain_at .later [] [.data] true (true, "528f451f71a3945e035b345f81124441f1a1f31a8451669a6375411dc09c6830") false
    over (fun _ h => by cases h) (by kernel_rfl) (fun _ h => by cases h) frameMakes_row_tie rfl ⟨rfl, rfl⟩ (by kernel_rfl) rfl
    (fun f fn hf hfn => by
      obtain rfl : f = 4 := Option.some.inj ((show Tryd.prog.funcNamed "baton/batonlaw08.FrameMakes" = some 4 by kernel_rfl).symm.trans hf) |>.symm
      obtain rfl : fn = Tryd.f4 := (Option.some.inj (Tryd.func4.symm.trans hfn)).symm
      exact ⟨by kernel_rfl, fun j t ht => by
        rw [Tryd.params4] at ht
        have hm : t ∈ [5, 9, 3] := by simpa using Array.mem_of_getElem? ht
        have hall : ([5, 9, 3].all fun u => !Tryd.prog.wantsStandIn u) = true := by kernel_rfl
        exact (show Tryd.prog.wantsStandIn t = false by simpa using List.all_eq_true.1 hall t hm)⟩)
    (by kernel_rfl)
end Go.Proofs.YtkbifmgddbilmaaDoor.frameMakes
