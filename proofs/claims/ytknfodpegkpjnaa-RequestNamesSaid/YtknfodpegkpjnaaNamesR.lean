/- RequestNames: the law answers true. No condition. -/
import Derived.Test.YtknfodpegkpjnaaRows
import Derived.Test.YtknfodpegkpjnaaNz
import Derived.WalkKit
import Derived.ProofKit
import Derived.OpenShut
import Derived.ShutString
namespace Go.Proofs.Ytknfodpegkpjnaa.requestNames
open Go.ChangeShapes Go.WideShapes Go.ChangeAt Go.RowKit
set_option linter.unusedVariables false
set_option maxRecDepth 100000 in
set_option maxHeartbeats 8000000 in
theorem core (w : World) : Calls Try.prog 4 #[] w fun e w' => e = .returned (.bool true) ∧ Below w.heap.size w w' := by
  have b0 : ((bs [10, 4, 10, 0, 18, 0]).toList != (ByteArray.mk #[10, 4, 10, 0, 18, 0]).toList) = false := by rw [bne_eq_false_iff_eq]; rfl
  have d0 : ((bs [10, 4, 10, 0, 18, 0]).toList == (ByteArray.mk #[10, 4, 10, 0, 18, 0]).toList) = true := by rw [beq_iff_eq]; rfl
  have e0 : ((bs [10, 4, 10, 0, 18, 0]).toList == [10, 4, 10, 0, 18, 0]) = true := by rw [beq_iff_eq, bs_toList]
  have c0 : ((bs [10, 4, 10, 0, 18, 0]).toList != [10, 4, 10, 0, 18, 0]) = false := by rw [bne_eq_false_iff_eq, bs_toList]
  have b1 : ((bs [10, 10, 10, 3, 18, 1, 118, 10, 3, 10, 1, 110]).toList != (ByteArray.mk #[10, 10, 10, 3, 18, 1, 118, 10, 3, 10, 1, 110]).toList) = false := by rw [bne_eq_false_iff_eq]; rfl
  have d1 : ((bs [10, 10, 10, 3, 18, 1, 118, 10, 3, 10, 1, 110]).toList == (ByteArray.mk #[10, 10, 10, 3, 18, 1, 118, 10, 3, 10, 1, 110]).toList) = true := by rw [beq_iff_eq]; rfl
  have e1 : ((bs [10, 10, 10, 3, 18, 1, 118, 10, 3, 10, 1, 110]).toList == [10, 10, 10, 3, 18, 1, 118, 10, 3, 10, 1, 110]) = true := by rw [beq_iff_eq, bs_toList]
  have c1 : ((bs [10, 10, 10, 3, 18, 1, 118, 10, 3, 10, 1, 110]).toList != [10, 10, 10, 3, 18, 1, 118, 10, 3, 10, 1, 110]) = false := by rw [bne_eq_false_iff_eq, bs_toList]
  have b2 : ((bs [10, 13, 18, 11, 16, 255, 255, 255, 255, 255, 255, 255, 255, 255, 1]).toList != (ByteArray.mk #[10, 13, 18, 11, 16, 255, 255, 255, 255, 255, 255, 255, 255, 255, 1]).toList) = false := by rw [bne_eq_false_iff_eq]; rfl
  have d2 : ((bs [10, 13, 18, 11, 16, 255, 255, 255, 255, 255, 255, 255, 255, 255, 1]).toList == (ByteArray.mk #[10, 13, 18, 11, 16, 255, 255, 255, 255, 255, 255, 255, 255, 255, 1]).toList) = true := by rw [beq_iff_eq]; rfl
  have e2 : ((bs [10, 13, 18, 11, 16, 255, 255, 255, 255, 255, 255, 255, 255, 255, 1]).toList == [10, 13, 18, 11, 16, 255, 255, 255, 255, 255, 255, 255, 255, 255, 1]) = true := by rw [beq_iff_eq, bs_toList]
  have c2 : ((bs [10, 13, 18, 11, 16, 255, 255, 255, 255, 255, 255, 255, 255, 255, 1]).toList != [10, 13, 18, 11, 16, 255, 255, 255, 255, 255, 255, 255, 255, 255, 1]) = false := by rw [bne_eq_false_iff_eq, bs_toList]
  have R1 := Lib.hid (fun W => refused_any ⟨#[13, 0, 0, 0, 0]⟩ (by decide) 4 n_r1 W)
  have R2 := Lib.hid (fun W => refused_any ⟨#[10, 2, 8, 1]⟩ (by decide) 4 n_r2 W)
  have R3 := Lib.hid (fun W => refused_any ⟨#[10, 2, 16, 1]⟩ (by decide) 4 n_r3 W)
  have R4 := Lib.hid (fun W => refused_any ⟨#[10, 4, 10, 2, 8, 1]⟩ (by decide) 4 n_r4 W)
  have R5 := Lib.hid (fun W => refused_any ⟨#[10, 4, 10, 2, 16, 1]⟩ (by decide) 4 n_r5 W)
  have R6 := Lib.hid (fun W => refused_any ⟨#[10, 4, 18, 2, 8, 1]⟩ (by decide) 4 n_r6 W)
  have R7 := Lib.hid (fun W => refused_any ⟨#[10, 4, 18, 2, 18, 0]⟩ (by decide) 4 n_r7 W)
  have R8 := Lib.hid (fun W => refused_any ⟨#[10, 3, 10, 1, 10]⟩ (by decide) 8 n_r8 W)
  have R9 := Lib.hid (fun W => refused_any ⟨#[10, 3, 18, 1, 16]⟩ (by decide) 8 n_r9 W)
  have R10 := Lib.hid (fun W => refused_any ⟨#[10, 1, 11]⟩ (by decide) 4 n_r10 W)
  have R11 := Lib.hid (fun W => refused_any ⟨#[10, 1, 11, 8, 1, 10]⟩ (by decide) 8 n_r11 W)
  have R12 := Lib.hid (fun W => refused_any ⟨#[10, 1, 16, 8, 1]⟩ (by decide) 4 n_r12 W)
  have R13 := Lib.hid (fun W => refused_any ⟨#[10, 6, 18, 1, 11, 10, 1, 16]⟩ (by decide) 8 n_r13 W)
  have R14 := Lib.hid (fun W => refused_any ⟨#[10, 1, 16, 10, 1, 11]⟩ (by decide) 8 n_r14 W)
  have E1 := Lib.hid (fun W => wr1 _ _ _ _ (mk1 W))
  have E2 := Lib.hid (fun W => wr2 _ _ _ _ (mk2 W))
  have E3 := Lib.hid (fun W => wr3 _ _ _ _ (mk3 W))
  have E4 := Lib.hid (fun W => td3 _ _ _ _ (mk3 W))
  have E5 := Lib.hid (fun W => td1 _ _ _ _ (mk1 W))
  have E6 := Lib.hid (fun W => td4 _ _ _ _ _ _ (mk4 W))
  have A1 := Lib.hid (fun W => ea_any ⟨#[10, 0, 10, 0, 10, 1, 11, 10, 0]⟩ (by decide) 9 (by decide) _ _ n_e1 W)
  have A2 := Lib.hid (fun W => ea_any ⟨#[10, 0, 10, 0, 10, 1, 11]⟩ (by decide) 2 (by decide) _ _ n_e2 W)
  have A3 := Lib.hid (fun W => ea_any ⟨#[10, 0, 10]⟩ (by decide) 9 (by decide) _ _ n_e3 W)
  go_enter Try.func4, Try.ntmps4
  go_wp2_with fail
  refine (awake_any _).mono ?_
  rintro e w1 ⟨rfl, hb⟩
  have HB1 := Lib.hid hb
  clear hb
  go_wp2_with fail
  refine (E1.out _).mono ?_
  rintro e w2 ⟨rfl, hb⟩
  have HB2 := Lib.hid (below_trans' (al3 HB1.out HB1.out.size) hb)
  clear hb
  go_wp2_with fail
  refine (E2.out _).mono ?_
  rintro e w3 ⟨rfl, hb⟩
  have HB3 := Lib.hid (below_trans' (al2 HB2.out HB2.out.size) hb)
  clear hb
  go_wp2_with fail
  refine (E3.out _).mono ?_
  rintro e w4 ⟨rfl, hb⟩
  have HB4 := Lib.hid (below_trans' (al2 HB3.out HB3.out.size) hb)
  clear hb
  go_wp2_with fail
  refine (E4.out _).mono ?_
  rintro e w5 ⟨rfl, hb⟩
  have HB5 := Lib.hid (below_trans' (al2 HB4.out HB4.out.size) hb)
  clear hb
  go_wp2_with fail
  refine (E5.out _).mono ?_
  rintro e w6 ⟨rfl, hb⟩
  have HB6 := Lib.hid (below_trans' (al3 HB5.out HB5.out.size) hb)
  clear hb
  go_wp2_with fail
  refine (E6.out _).mono ?_
  rintro e w7 ⟨rfl, hb⟩
  have HB7 := Lib.hid (below_trans' (al1 HB6.out HB6.out.size) hb)
  clear hb
  go_wp2_with fail
  refine (R1.out _).mono ?_
  rintro e w8 ⟨rfl, hb⟩
  have HB8 := Lib.hid (below_trans' (HB7.out) hb)
  clear hb
  go_wp2_with fail
  refine (R2.out _).mono ?_
  rintro e w9 ⟨rfl, hb⟩
  have HB9 := Lib.hid (below_trans' (HB8.out) hb)
  clear hb
  go_wp2_with fail
  refine (R3.out _).mono ?_
  rintro e w10 ⟨rfl, hb⟩
  have HB10 := Lib.hid (below_trans' (HB9.out) hb)
  clear hb
  go_wp2_with fail
  refine (R4.out _).mono ?_
  rintro e w11 ⟨rfl, hb⟩
  have HB11 := Lib.hid (below_trans' (HB10.out) hb)
  clear hb
  go_wp2_with fail
  refine (R5.out _).mono ?_
  rintro e w12 ⟨rfl, hb⟩
  have HB12 := Lib.hid (below_trans' (HB11.out) hb)
  clear hb
  go_wp2_with fail
  refine (R6.out _).mono ?_
  rintro e w13 ⟨rfl, hb⟩
  have HB13 := Lib.hid (below_trans' (HB12.out) hb)
  clear hb
  go_wp2_with fail
  refine (R7.out _).mono ?_
  rintro e w14 ⟨rfl, hb⟩
  have HB14 := Lib.hid (below_trans' (HB13.out) hb)
  clear hb
  go_wp2_with fail
  refine (R8.out _).mono ?_
  rintro e w15 ⟨rfl, hb⟩
  have HB15 := Lib.hid (below_trans' (HB14.out) hb)
  clear hb
  go_wp2_with fail
  refine (R9.out _).mono ?_
  rintro e w16 ⟨rfl, hb⟩
  have HB16 := Lib.hid (below_trans' (HB15.out) hb)
  clear hb
  go_wp2_with fail
  refine (R10.out _).mono ?_
  rintro e w17 ⟨rfl, hb⟩
  have HB17 := Lib.hid (below_trans' (HB16.out) hb)
  clear hb
  go_wp2_with fail
  refine (R11.out _).mono ?_
  rintro e w18 ⟨rfl, hb⟩
  have HB18 := Lib.hid (below_trans' (HB17.out) hb)
  clear hb
  go_wp2_with fail
  refine (R12.out _).mono ?_
  rintro e w19 ⟨rfl, hb⟩
  have HB19 := Lib.hid (below_trans' (HB18.out) hb)
  clear hb
  go_wp2_with fail
  refine (R13.out _).mono ?_
  rintro e w20 ⟨rfl, hb⟩
  have HB20 := Lib.hid (below_trans' (HB19.out) hb)
  clear hb
  go_wp2_with fail
  refine (R14.out _).mono ?_
  rintro e w21 ⟨rfl, hb⟩
  have HB21 := Lib.hid (below_trans' (HB20.out) hb)
  clear hb
  go_wp2_with fail
  refine (A1.out _).mono ?_
  rintro e w22 ⟨p1, q1, rfl, hb⟩
  have HB22 := Lib.hid (below_trans' (HB21.out) hb)
  clear hb
  go_wp2_with fail
  refine (A2.out _).mono ?_
  rintro e w23 ⟨p2, q2, rfl, hb⟩
  have HB23 := Lib.hid (below_trans' (HB22.out) hb)
  clear hb
  go_wp2_with fail
  refine (A3.out _).mono ?_
  rintro e w24 ⟨p3, q3, rfl, hb⟩
  have HB24 := Lib.hid (below_trans' (HB23.out) hb)
  clear hb
  go_wp2_with fail
  refine (one_any _).mono ?_
  rintro e w25 ⟨a, b, rfl, hl, hm, hb⟩
  have HB25 := Lib.hid (below_trans' (HB24.out) hb)
  obtain ⟨ax25, ay25, ha⟩ := At2.slice hl
  obtain ⟨mx25, my25, hm2⟩ := At2.slice hm
  subst ha hm2
  dsimp only [sr1, List.map_cons, List.map_nil, List.length_cons, List.length_nil] at hl hm ⊢
  have HL25 := Lib.hid hl
  have HM25 := Lib.hid hm
  clear hl hm
  clear hb
  go_wp2_with fail
  refine (one_any _).mono ?_
  rintro e w26 ⟨a, b, rfl, hl, hm, hb⟩
  have HB26 := Lib.hid (below_trans' (HB25.out) hb)
  obtain ⟨ax26, ay26, ha⟩ := At2.slice hl
  obtain ⟨mx26, my26, hm2⟩ := At2.slice hm
  subst ha hm2
  dsimp only [sr1, List.map_cons, List.map_nil, List.length_cons, List.length_nil] at hl hm ⊢
  have HL26 := Lib.hid hl
  have HM26 := Lib.hid hm
  clear hl hm
  have HP := Lib.hid (mk5 w26 _ _ _ _ (At2.below HL25.out hb (Nat.le_refl _)) (At2.below HM25.out hb (Nat.le_refl _)) HL26.out HM26.out)
  clear hb
  go_wp2_with fail
  refine (ct5 _ _ _ _ _ _ HP.out).mono ?_
  rintro e w27 ⟨rfl, hb⟩
  have HB27 := Lib.hid (below_trans' (al1 HB26.out HB26.out.size) hb)
  clear hb
  go_wp2_with fail
  refine (one_any _).mono ?_
  rintro e w28 ⟨a, b, rfl, hl, hm, hb⟩
  have HB28 := Lib.hid (below_trans' (HB27.out) hb)
  obtain ⟨ax28, ay28, ha⟩ := At2.slice hl
  obtain ⟨mx28, my28, hm2⟩ := At2.slice hm
  subst ha hm2
  dsimp only [sr1, List.map_cons, List.map_nil, List.length_cons, List.length_nil] at hl hm ⊢
  have HL28 := Lib.hid hl
  have HM28 := Lib.hid hm
  clear hl hm
  clear hb
  have hz := heap_alloc_new w28 (.cells #[.slice ax28 1 ay28, .slice mx28 1 my28] 40)
  have hy := heap_alloc_new (w28.alloc (.cells #[.slice ax28 1 ay28, .slice mx28 1 my28] 40)) (.cells #[.slice none 0 0, .slice none 0 0] 40)
  rw [World.size_alloc] at hy
  have hz2 := (Below.heap_alloc (w28.alloc (.cells #[.slice ax28 1 ay28, .slice mx28 1 my28] 40)) (.cells #[.slice none 0 0, .slice none 0 0] 40) w28.heap.size (by simp)).trans hz
  have HR1 := Lib.hid (rsame_one w28.heap.size (w28.heap.size + 1) 0 0 _ _ _ _ _ _ _ _ _ _ 1 1 ((w28.alloc (.cells #[.slice ax28 1 ay28, .slice mx28 1 my28] 40)).alloc (.cells #[.slice none 0 0, .slice none 0 0] 40)) (cell_of_row _ _ 0 _ _ _ hz2) (cell_of_row _ _ 1 _ _ _ hz2) (cell_of_row _ _ 0 _ _ _ hy) (cell_of_row _ _ 1 _ _ _ hy))
  clear hz hy hz2
  go_wp2_with fail
  refine (HR1.out).mono ?_
  rintro e w29 ⟨rfl, hb⟩
  have HB29 := Lib.hid (below_trans' (al2 HB28.out HB28.out.size) hb)
  clear hb
  go_wp2_with fail
  refine (rsame_len _ _ _ _ _).mono ?_
  rintro e w30 ⟨rfl, hb⟩
  have HB30 := Lib.hid (below_trans' (al1 HB29.out HB29.out.size) hb)
  clear hb
  go_wp2_with fail
  refine (rsame_nil _ _ _ _ _).mono ?_
  rintro e w31 ⟨rfl, hb⟩
  have HB31 := Lib.hid (below_trans' (al1 HB30.out HB30.out.size) hb)
  clear hb
  go_wp2
  go_ret
  exact ⟨rfl, HB31.out⟩
theorem own : ownKnob Try.prog.godebug = none := by kernel_rfl
theorem laidOut : laidOutB Try.prog = true := by kernel_rfl
set_option maxRecDepth 100000 in
theorem lifted (os : Os) (started : os.Started) (H : Type) (enc : TypeId × Value → H) :
    ReturnsInHanded {} Try.checked os 4 .any (Rows.requestNamesSpec.pre6 enc Try.prog Try.f4 Rows.requestNamesRow.domain false) (Rows.requestNamesSpec.post enc Try.prog Try.f4 false true false false) := by
  refine returnsInHanded_of_change (C := Try.checked) own started (by kernel_rfl) Try.func4
    (ChangeSpec.witness6 (enc := enc) (C := Try.checked) false ⟨#[], #[], []⟩ 8 (by kernel_rfl) (by kernel_rfl) (by kernel_rfl) (by kernel_rfl)) ?_
  intro W base args ds gs before hval0 hW hcnd _
  have hval : ∀ (j : Nat) t v, Try.f4.params[j]? = some t → args[j]? = some v → Value.okWide Try.prog W .any base t v := hval0
  have hW' := hW
  obtain ⟨p, q, hA0, hV, rfl, hfz, hnd⟩ := hW
  have hA : DataW.TrodAll enc Try.prog W 0 (fun _ => true) true Try.f4.params.toList args.toList ds p := hA0
  rw [Try.params4] at hA hval
  obtain ⟨hargs, rfl, rfl⟩ := trodAll_nil hA
  obtain rfl : args = #[] := by cases args; simp_all
  obtain ⟨rfl, rfl⟩ := trodVars_none hV
  clear hA0 hval0
  refine (core   W ).mono fun e W' ⟨he, bel⟩ => ?_
  subst he
  exact ⟨_, rfl, _, _, _, [], _, [], hW', trodAll_mk1 (shut_bool Try.underlying4 _), trodAll_mk0, rfl, bel.frame _, fun h => by cases h⟩
theorem over : Rows.requestNamesRow.holds Try.pinned (OpenSpec.ofChange Rows.requestNamesSpec) :=
  OpenClaim.holds_of_wide 4 Try.f4 rfl rfl rfl rfl rfl rfl rfl ⟨rfl, rfl, rfl, rfl, rfl⟩ rfl rfl rfl rfl rfl (by kernel_rfl) Try.func4 (by kernel_rfl)
    (of_decide_eq_true (by kernel_rfl)) (by unfold Func.isWrapper; first | (rw [if_pos (by decide +kernel)]; kernel_rfl) | (rw [if_neg (by decide +kernel)]; exact ⟨rfl, rfl⟩))
    (fun os started H enc _ => lifted os started H enc)
theorem proved : Rows.RequestNamesSaid := over
end Go.Proofs.Ytknfodpegkpjnaa.requestNames
