/- SumFar: for any two numbers and any two numbers of bytes the law answers true. Condition: the table of package sum reads as its initialiser lays it (tied to the program's text by the card). -/
import Derived.Test.YtmbndjdpbpajmaaDoorCards
import Derived.Test.YtmbndjdpbpajmaaDoorTie
import Derived.Test.YtmbndjdpbpajmaaDoorFi
import Derived.SevenTiedAt
namespace Go.Proofs.YtmbndjdpbpajmaaDoor.sumFar
open Go.ChangeShapes Go.WideShapes Go.ChangeAt Go.RowKit
open Go.ChangeMaps (open_string shut_string)
set_option linter.unusedVariables false
theorem far1 (a b X Y : Nat) : Sm.join (Sm.join a 0 (X : Int)) b (Y : Int) = Sm.join a b ((X : Int) + (Y : Int)) := by
  unfold Sm.join
  rw [Int.toNat_natCast, Int.toNat_natCast, Nat.xor_zero, ← Sm.it_add, show ((X : Int) + (Y : Int)).toNat = X + Y from by omega, Nat.mul_add]
theorem far2 (a b X : Nat) : Sm.join (a ^^^ b) 0 (X : Int) = Sm.join a (Sm.join b 0 (X : Int)) (X : Int) := by
  unfold Sm.join
  rw [Nat.xor_zero, Nat.xor_zero, Sm.it_xor]
theorem far3 (a b X : Nat) : Sm.join a b (-(X : Int)) = a ^^^ b := by
  unfold Sm.join
  rw [show (-(X : Int)).toNat = 0 from by omega]
  rfl
set_option maxRecDepth 100000 in
set_option maxHeartbeats 1000000 in
theorem main (a b X Y N M : Nat) (n m : Int) (ha : a < 4294967296) (hb : b < 4294967296) (hX : X < 1152921504606846976) (hY : Y < 1152921504606846976) (e1 : IntKind.u64.wrap n = (N : Int)) (e2 : (N : Int) % 1152921504606846976 = (X : Int)) (e3 : IntKind.u64.wrap m = (M : Int)) (e4 : (M : Int) % 1152921504606846976 = (Y : Int))
    (w : World) (hT : Hid (Tab w)) :
    Calls Tryd.prog 9 #[.int .u32 a, .int .u32 b, .int .i64 n, .int .i64 m] w fun e w' => e = .returned (.bool true) ∧ Below w.heap.size w w' := by
  have l0 : 0 < 4294967296 := by omega
  have j1 := Sm.join_lt (X : Int) ha l0
  have j2 := Sm.join_lt (X : Int) hb l0
  have hx := Sm.xor_lt ha hb
  have C1 := fun w (hT : Hid (Tab w)) => join_lit a 0 (X : Int) _ w ha l0 (by omega) (by omega) hT rfl
  have C2 := fun w (hT : Hid (Tab w)) => join_lit _ b (Y : Int) _ w j1 hb (by omega) (by omega) hT (far1 a b X Y)
  have C3 := fun w (hT : Hid (Tab w)) => join_lit a b ((X : Int) + (Y : Int)) _ w ha hb (by omega) (by omega) hT rfl
  have C4 := fun w (hT : Hid (Tab w)) => join_lit (a ^^^ b) 0 (X : Int) _ w hx l0 (by omega) (by omega) hT (far2 a b X)
  have C5 := fun w (hT : Hid (Tab w)) => join_lit b 0 (X : Int) _ w hb l0 (by omega) (by omega) hT rfl
  have C6 := fun w (hT : Hid (Tab w)) => join_lit a _ (X : Int) _ w ha j2 (by omega) (by omega) hT rfl
  have C7 := fun w (hT : Hid (Tab w)) => join_lit a b (-(X : Int)) _ w ha hb (by omega) (by omega) hT (far3 a b X)
  have e5 := u32_xor_nat a b ha hb
  generalize Sm.join a (Sm.join b 0 (X : Int)) (X : Int) = z2 at *
  generalize Sm.join a b ((X : Int) + (Y : Int)) = z1 at *
  generalize Sm.join a 0 (X : Int) = z3 at *
  generalize Sm.join b 0 (X : Int) = z4 at *
  generalize a ^^^ b = z5 at *
  have D1 := Lib.hid C1
  have D2 := Lib.hid C2
  have D3 := Lib.hid C3
  have D4 := Lib.hid C4
  have D5 := Lib.hid C5
  have D6 := Lib.hid C6
  have D7 := Lib.hid C7
  clear C1 C2 C3 C4 C5 C6 C7
  go_enter Tryd.func9, Tryd.ntmps9
  go_wp2_with fail
  refine (awake_any _ hT).mono ?_
  rintro e w1 ⟨rfl, hb1⟩
  have HB1 := Lib.hid hb1; clear hb1
  have hT1 := Lib.hid (hT.out.below HB1.out)
  go_wp2_with fail
  refine (D1.out _ hT1).mono ?_
  rintro e w2 ⟨rfl, hb2⟩
  have HB2 := Lib.hid hb2; clear hb2
  have hT2 := Lib.hid (hT1.out.below HB2.out)
  go_wp2_with fail
  refine (D2.out _ hT2).mono ?_
  rintro e w3 ⟨rfl, hb3⟩
  have HB3 := Lib.hid hb3; clear hb3
  have hT3 := Lib.hid (hT2.out.below HB3.out)
  go_wp2_with fail
  refine (D3.out _ hT3).mono ?_
  rintro e w4 ⟨rfl, hb4⟩
  have HB4 := Lib.hid hb4; clear hb4
  have hT4 := Lib.hid (hT3.out.below HB4.out)
  go_wp2_with fail
  refine (D4.out _ hT4).mono ?_
  rintro e w5 ⟨rfl, hb5⟩
  have HB5 := Lib.hid hb5; clear hb5
  have hT5 := Lib.hid (hT4.out.below HB5.out)
  go_wp2_with fail
  refine (D5.out _ hT5).mono ?_
  rintro e w6 ⟨rfl, hb6⟩
  have HB6 := Lib.hid hb6; clear hb6
  have hT6 := Lib.hid (hT5.out.below HB6.out)
  go_wp2_with fail
  refine (D6.out _ hT6).mono ?_
  rintro e w7 ⟨rfl, hb7⟩
  have HB7 := Lib.hid hb7; clear hb7
  have hT7 := Lib.hid (hT6.out.below HB7.out)
  go_wp2_with fail
  refine (D7.out _ hT7).mono ?_
  rintro e w8 ⟨rfl, hb8⟩
  have HB8 := Lib.hid hb8; clear hb8
  go_wp2
  go_ret
  exact ⟨rfl, below_on (below_on (below_on (below_on (below_on (below_on (below_on HB1.out HB2.out) HB3.out) HB4.out) HB5.out) HB6.out) HB7.out) HB8.out⟩
theorem core (a0 a1 a2 a3 : Int) (w0 : (Lit.int .u32 a0).wf = true) (w1 : (Lit.int .u32 a1).wf = true) (w2 : (Lit.int .i64 a2).wf = true) (w3 : (Lit.int .i64 a3).wf = true) (w : World) (hT : Hid (Tab w)) :
    Calls Tryd.prog 9 #[.int .u32 a0, .int .u32 a1, .int .i64 a2, .int .i64 a3] w fun e w' => e = .returned (.bool true) ∧ Below w.heap.size w w' := by
  obtain ⟨n0, n1⟩ := bounds_u32 w0
  obtain ⟨m0, m1⟩ := bounds_u32 w1
  obtain ⟨a, rfl⟩ := Int.eq_ofNat_of_zero_le n0
  obtain ⟨b, rfl⟩ := Int.eq_ofNat_of_zero_le m0
  obtain ⟨N, hN⟩ := Int.eq_ofNat_of_zero_le (a := IntKind.u64.wrap a2) (by rw [IntKind.wrap_u64]; omega)
  obtain ⟨M, hM⟩ := Int.eq_ofNat_of_zero_le (a := IntKind.u64.wrap a3) (by rw [IntKind.wrap_u64]; omega)
  exact main a b (N % 1152921504606846976) (M % 1152921504606846976) N M a2 a3 (by omega) (by omega) (by omega) (by omega) hN (by omega) hM (by omega) w hT
set_option maxRecDepth 100000 in
theorem lifted (os : Os) (started : os.Started) (H : Type) (enc : TypeId × Value → H) :
    ReturnsInHanded {} Tryd.checked os 9 .any (fun w args => (Rows.sumFarSpec.pre enc Tryd.prog Tryd.f9 [] false w args ∧ laidMetH Tryd.prog laid w) ∧ sizedMet enc Tryd.prog Tryd.f9 (OpenSpec.ofChange Rows.sumFarSpec) false w args)
      (Rows.sumFarSpec.post enc Tryd.prog Tryd.f9 false true false false) := by
  refine returnsInHanded_of_change_and (C := Tryd.checked) (X := fun w _ => laidMetH Tryd.prog laid w) (fun _ _ _ hh h => h.of_heap hh) own started (by kernel_rfl) Tryd.func9
    (ChangeSpec.witness_shaped (enc := enc) (C := Tryd.checked) (os := os) (X := fun w _ => laidMetH Tryd.prog laid w) false (World.doorLaid Tryd.prog doorSteps os) #[.int .u32 0, .int .u32 0, .int .i64 0, .int .i64 0] 8 rfl (World.shaped_of_RefB (by kernel_rfl) (by kernel_rfl)) (by kernel_rfl) (by kernel_rfl) (by kernel_rfl) (door_met os _)) ?_
  intro W base args ds gs before hval0 hW hcnd _ hL _
  have hval : ∀ (j : Nat) t v, Tryd.f9.params[j]? = some t → args[j]? = some v → Value.okWide Tryd.prog W .any base t v := hval0
  have hW' := hW
  obtain ⟨p, q, hA0, hV, rfl, hfz, hnd⟩ := hW
  have hA : DataW.TrodAll enc Tryd.prog W 0 (fun _ => true) true Tryd.f9.params.toList args.toList ds p := hA0
  rw [Tryd.params9] at hA hval
  obtain ⟨v0, vs0, d0, ds0, p0, q0, hargs, rfl, rfl, h0, r0⟩ := trodAll_cons hA
  obtain ⟨v1, vs1, d1, ds1, p1, q1, rfl, rfl, rfl, h1, r1⟩ := trodAll_cons r0
  obtain ⟨v2, vs2, d2, ds2, p2, q2, rfl, rfl, rfl, h2, r2⟩ := trodAll_cons r1
  obtain ⟨v3, vs3, d3, ds3, p3, q3, rfl, rfl, rfl, h3, r3⟩ := trodAll_cons r2
  obtain ⟨rfl, rfl, rfl⟩ := trodAll_nil r3
  obtain rfl : args = #[v0, v1, v2, v3] := by cases args; simp_all
  obtain ⟨rfl, rfl⟩ := trodVars_none hV
  have k0 := h0
  have lt0 : ∀ x ∈ p0, x.block < W.heap.size := by obtain ⟨m, hm⟩ := k0; exact DataW.trod_lt m _ _ _ hm
  have k1 := h1
  have lt1 : ∀ x ∈ p1, x.block < W.heap.size := by obtain ⟨m, hm⟩ := k1; exact DataW.trod_lt m _ _ _ hm
  have k2 := h2
  have lt2 : ∀ x ∈ p2, x.block < W.heap.size := by obtain ⟨m, hm⟩ := k2; exact DataW.trod_lt m _ _ _ hm
  have k3 := h3
  have lt3 : ∀ x ∈ p3, x.block < W.heap.size := by obtain ⟨m, hm⟩ := k3; exact DataW.trod_lt m _ _ _ hm
  obtain ⟨a0, rfl, rfl, rfl, w0⟩ := open_int Tryd.underlying22 (hval 0 22 v0 rfl rfl) h0
  obtain ⟨a1, rfl, rfl, rfl, w1⟩ := open_int Tryd.underlying22 (hval 1 22 v1 rfl rfl) h1
  obtain ⟨a2, rfl, rfl, rfl, w2⟩ := open_int Tryd.underlying3 (hval 2 3 v2 rfl rfl) h2
  obtain ⟨a3, rfl, rfl, rfl, w3⟩ := open_int Tryd.underlying3 (hval 3 3 v3 rfl rfl) h3
  clear hA0 hval0
  refine (core a0 a1 a2 a3 w0 w1 w2 w3 W (Lib.hid (of_laid hL))).mono fun e W' ⟨he, bel⟩ => ?_
  subst he
  exact ⟨_, rfl, _, _, _, [], _, [], hW', trodAll_mk1 (shut_bool Tryd.underlying4 _), (trodAll_cons_mk (Below.trod laidOut (by kernel_rfl) (of_decide_eq_true (by kernel_rfl)) k0 bel lt0) (trodAll_cons_mk (Below.trod laidOut (by kernel_rfl) (of_decide_eq_true (by kernel_rfl)) k1 bel lt1) (trodAll_cons_mk (Below.trod laidOut (by kernel_rfl) (of_decide_eq_true (by kernel_rfl)) k2 bel lt2) (trodAll_cons_mk (Below.trod laidOut (by kernel_rfl) (of_decide_eq_true (by kernel_rfl)) k3 bel lt3) trodAll_mk0)))), rfl, bel.frame _, fun h => by cases h⟩
theorem over : Rows.sumFarRow.holds Tryd.pinned (OpenSpec.ofChange Rows.sumFarSpec) :=
  OpenClaim.holds_of_wide 9 Tryd.f9 rfl rfl rfl rfl rfl rfl rfl ⟨rfl, rfl, rfl, rfl, rfl⟩ rfl rfl rfl rfl rfl (by kernel_rfl) Tryd.func9 (by kernel_rfl)
    (of_decide_eq_true (by kernel_rfl)) (by unfold Func.isWrapper; first | (rw [if_pos (by decide +kernel)]; kernel_rfl) | (rw [if_neg (by decide +kernel)]; exact ⟨rfl, rfl⟩))
    (fun os started H enc _ => lifted os started H enc)
theorem proved : Rows.SumFarCardSaid :=
  Claim7.holds_tied_plain_at .later [] [.data] true (true, "ec012be40840c8b481adfdcd4a219216fde9b8c297530996d1c8b008bc4c498b") false
    over (fun _ h => by cases h) (by kernel_rfl) (fun _ h => by cases h) sumFar_row_tie rfl ⟨rfl, rfl⟩ (by kernel_rfl) rfl
    (fun f fn hf hfn => by
      obtain rfl : f = 9 := Option.some.inj ((show Tryd.prog.funcNamed "baton/batonlaw02.SumFar" = some 9 by kernel_rfl).symm.trans hf) |>.symm
      obtain rfl : fn = Tryd.f9 := (Option.some.inj (Tryd.func9.symm.trans hfn)).symm
      exact ⟨by kernel_rfl, fun j t ht => by
        rw [Tryd.params9] at ht
        have hm : t ∈ [22, 22, 3, 3] := by simpa using Array.mem_of_getElem? ht
        have hall : ([22, 22, 3, 3].all fun u => !Tryd.prog.wantsStandIn u) = true := by kernel_rfl
        exact (show Tryd.prog.wantsStandIn t = false by simpa using List.all_eq_true.1 hall t hm)⟩)
    (by kernel_rfl)
end Go.Proofs.YtmbndjdpbpajmaaDoor.sumFar
