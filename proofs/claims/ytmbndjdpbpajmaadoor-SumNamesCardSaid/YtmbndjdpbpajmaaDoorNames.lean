/- SumNames: the law answers true. Condition: the table of package sum reads as its initialiser lays it (tied to the program's text by the card). -/
import Derived.Test.YtmbndjdpbpajmaaDoorCards
import Derived.Test.YtmbndjdpbpajmaaDoorTie
import Derived.Test.YtmbndjdpbpajmaaDoorFi
import Derived.Test.YtmbndjdpbpajmaaDoorMy
import Derived.SevenTiedAt
namespace Go.Proofs.YtmbndjdpbpajmaaDoor.sumNames
open Go.ChangeShapes Go.WideShapes Go.ChangeAt Go.RowKit
open Go.ChangeMaps (open_string shut_string)
set_option linter.unusedVariables false
def ups : List UInt8 := (List.range 32).map UInt8.ofNat
def downs : List UInt8 := (List.range 32).map fun i => UInt8.ofNat (31 - i)
theorem ups_at (k : Nat) (h : k < 32) : ups[k]'(by simpa [ups] using h) = UInt8.ofNat k := by simp [ups]
theorem downs_at (k : Nat) (h : k < 32) : downs[k]'(by simpa [downs] using h) = UInt8.ofNat (31 - k) := by simp [downs]
theorem add_lit (c R : Nat) (s : ByteArray) (w : World) (hc : c < 4294967296) (hs : s.size ≤ 140737488351232) (hT : Hid (Tab w)) (e : Sm.add c s.data.toList = R) :
   Calls Tryd.prog 14 #[.int .u32 c, .string s] w fun e w' => e = .returned (.int .u32 R) ∧ w = w' := by
  rw [← e]; exact add_any c s w hc hs hT
theorem plain_lit (c R : Nat) (w : World) (hc : c < 4294967296) (e : Sm.plain c = R) :
   Calls Tryd.prog 17 #[.int .u32 c] w fun e w' => e = .returned (.int .u32 R) ∧ w = w' := by
  rw [← e]; exact plain_any c w hc
theorem same_is (s : ByteArray) (m : Nat) (R : Bool) (w : World) (hs : s.size ≤ 140737488351232) (hT : Hid (Tab w)) (e : (Sm.mask (Sm.add 0 s.data.toList) == m) = R) :
   Calls Tryd.prog 21 #[.string s, .int .u32 m] w fun e w' => e = .returned (.bool R) ∧ w = w' := by
  rw [← e]; exact same_any s m w hs hT
theorem n0 : Sm.add 0 (List.replicate 32 0) = 2324772522 := by decide +kernel
theorem n1 : Sm.add 0 (List.replicate 32 255) = 1655221059 := by decide +kernel
theorem n2 : Sm.add 0 ups = 1188919630 := by decide +kernel
theorem n3 : Sm.add 0 downs = 289397596 := by decide +kernel
theorem n4 : Sm.add 0 [49, 50, 51, 52] = 4131058926 := by decide +kernel
theorem n5 : Sm.add 4131058926 [53, 54, 55, 56, 57] = 3808858755 := by decide +kernel
theorem n6 : Sm.add 0 [49, 50, 51, 52, 53, 54, 55] = 306354154 := by decide +kernel
theorem n7 : Sm.add 0 [56, 57] = 1684681876 := by decide +kernel
theorem n8 : Sm.join 306354154 1684681876 2 = 3808858755 := by decide +kernel
theorem n9 : Sm.plain 2726488792 = 0 := by decide +kernel
theorem n10 : Sm.mask 1 = 2726619864 := by decide +kernel
theorem n11 : Sm.mask 32768 = 2726488793 := by decide +kernel
theorem n12 : Sm.join 5 6 (-1) = 3 := by decide +kernel
theorem join_nought (n : Int) : Sm.join 0 7 n = 7 := by unfold Sm.join; rw [Sm.it_zero]; rfl
theorem n13 : Sm.join 0 7 4611686018427387904 = 7 := join_nought _
theorem n14 : Sm.mask 3808858755 = 3347755237 := by decide +kernel
theorem n15 : (Sm.mask (Sm.add 0 [49, 50, 51, 52, 53, 54, 55, 56, 57]) == 3347755237) = true := by decide +kernel
theorem n16 : (Sm.mask (Sm.add 0 [49, 50, 51, 52, 53, 54, 55, 56, 57]) == 3808858755) = false := by decide +kernel
theorem n17 : (Sm.mask (Sm.add 0 [49, 50, 51, 52, 53, 54, 55, 56]) == 3347755237) = false := by decide +kernel
set_option maxRecDepth 100000 in
set_option maxRecDepth 100000 in
set_option maxHeartbeats 2000000 in
theorem core (w : World) (hT : Hid (Tab w)) :
    Calls Tryd.prog 4 #[] w fun e w' => e = .returned (.bool true) ∧ Below w.heap.size w w' := by
  obtain ⟨w1, hmk1, hF1, hB1, hz1⟩ := make_bytes w w.heap.size ups (Nat.le_refl _) (by decide)
  obtain ⟨w2, hmk2, hF2, hB2, hz2⟩ := make_bytes w1 w.heap.size downs (by omega) (by decide)
  rw [show ups.length = 32 from rfl] at hmk1
  rw [show downs.length = 32 from rfl, hz1] at hmk2
  rw [hz1] at hF2
  have HF1 : Hid (Fill w2 w.heap.size w.heap.size ups 0) := Lib.hid (Own.below hF1 hB2 (fun k hk => by cases hk; show w.heap.size < _; omega))
  have HF2 := Lib.hid hF2
  have HB := Lib.hid (below_on hB1 hB2)
  clear hF1 hB1 hz1 hF2 hB2 hz2
  have hm1 : (Instr.makeSlice 30 (.int .i64 32) (.int .i64 32)).run Tryd.prog w = .ok (.slice (some ⟨w.heap.size, 0, none⟩) 32 32) w1 := hmk1
  have hm2 : (Instr.makeSlice 30 (.int .i64 32) (.int .i64 32)).run Tryd.prog w1 = .ok (.slice (some ⟨w.heap.size + 1, 0, none⟩) 32 32) w2 := hmk2
  clear hmk1 hmk2
  have KC' := fun w (hT : Hid (Tab w)) => of_lit ⟨#[49, 50, 51, 52, 53, 54, 55, 56, 57]⟩ 3808858755 w (by decide) hT k9
  have KC := Lib.hid KC'
  clear KC'
  have KA' := fun w (hT : Hid (Tab w)) => awake_any w hT
  have KA := Lib.hid KA'
  clear KA'
  have KM0' := fun w => many_any 32 0 w (by decide)
  have KM0 := Lib.hid KM0'
  clear KM0'
  have KO0' := fun w (hT : Hid (Tab w)) => of_lit (bs (List.replicate 32 0)) 2324772522 w (by decide) hT n0
  have KO0 := Lib.hid KO0'
  clear KO0'
  have KM1' := fun w => many_any 32 255 w (by decide)
  have KM1 := Lib.hid KM1'
  clear KM1'
  have KO1' := fun w (hT : Hid (Tab w)) => of_lit (bs (List.replicate 32 255)) 1655221059 w (by decide) hT n1
  have KO1 := Lib.hid KO1'
  clear KO1'
  have KU' := fun w (hT : Hid (Tab w)) => of_lit (bs ups) 1188919630 w (by decide) hT n2
  have KU := Lib.hid KU'
  clear KU'
  have KD' := fun w (hT : Hid (Tab w)) => of_lit (bs downs) 289397596 w (by decide) hT n3
  have KD := Lib.hid KD'
  clear KD'
  have K4' := fun w (hT : Hid (Tab w)) => of_lit ⟨#[49, 50, 51, 52]⟩ 4131058926 w (by decide) hT n4
  have K4 := Lib.hid K4'
  clear K4'
  have K5' := fun w (hT : Hid (Tab w)) => add_lit 4131058926 3808858755 ⟨#[53, 54, 55, 56, 57]⟩ w (by decide) (by decide) hT n5
  have K5 := Lib.hid K5'
  clear K5'
  have K7' := fun w (hT : Hid (Tab w)) => of_lit ⟨#[49, 50, 51, 52, 53, 54, 55]⟩ 306354154 w (by decide) hT n6
  have K7 := Lib.hid K7'
  clear K7'
  have K2' := fun w (hT : Hid (Tab w)) => of_lit ⟨#[56, 57]⟩ 1684681876 w (by decide) hT n7
  have K2 := Lib.hid K2'
  clear K2'
  have KJ' := fun w (hT : Hid (Tab w)) => join_lit 306354154 1684681876 2 3808858755 w (by decide) (by decide) (by decide) (by decide) hT n8
  have KJ := Lib.hid KJ'
  clear KJ'
  have KP' := fun w => plain_lit 2726488792 0 w (by decide) n9
  have KP := Lib.hid KP'
  clear KP'
  have KK1' := fun w => mask_lit 1 2726619864 w (by decide) n10
  have KK1 := Lib.hid KK1'
  clear KK1'
  have KK2' := fun w => mask_lit 32768 2726488793 w (by decide) n11
  have KK2 := Lib.hid KK2'
  clear KK2'
  have KJ1' := fun w (hT : Hid (Tab w)) => join_lit 5 6 (-1) 3 w (by decide) (by decide) (by decide) (by decide) hT n12
  have KJ1 := Lib.hid KJ1'
  clear KJ1'
  have KJ2' := fun w (hT : Hid (Tab w)) => join_lit 0 7 4611686018427387904 7 w (by decide) (by decide) (by decide) (by decide) hT n13
  have KJ2 := Lib.hid KJ2'
  clear KJ2'
  have KKC' := fun w => mask_lit 3808858755 3347755237 w (by decide) n14
  have KKC := Lib.hid KKC'
  clear KKC'
  have KS1' := fun w (hT : Hid (Tab w)) => same_is ⟨#[49, 50, 51, 52, 53, 54, 55, 56, 57]⟩ 3347755237 true w (by decide) hT n15
  have KS1 := Lib.hid KS1'
  clear KS1'
  have KS2' := fun w (hT : Hid (Tab w)) => same_is ⟨#[49, 50, 51, 52, 53, 54, 55, 56, 57]⟩ 3808858755 false w (by decide) hT n16
  have KS2 := Lib.hid KS2'
  clear KS2'
  have KS3' := fun w (hT : Hid (Tab w)) => same_is ⟨#[49, 50, 51, 52, 53, 54, 55, 56]⟩ 3347755237 false w (by decide) hT n17
  have KS3 := Lib.hid KS3'
  clear KS3'
  go_enter Tryd.func4, Tryd.ntmps4
  go_wp2
  go_loopw [3] (fun x wr => ∃ k : Nat, k ≤ 32 ∧ x = .int .i64 k ∧ Hid (Fill wr w.heap.size w.heap.size ups k) ∧ Hid (Fill wr w.heap.size (w.heap.size + 1) downs k) ∧ Hid (Below w.heap.size w wr)) (fun x _ => 32 - (intOf x).toNat)
  case atStart => exact ⟨0, by omega, rfl, HF1, HF2, HB⟩
  case round =>
    clear HF1 HF2 HB hm1 hm2
    obtain ⟨k, hk, rfl, HF1, HF2, HB⟩ := hrel
    by_cases h : k < 32
    · have hu : k < ups.length := h
      have hd : k < downs.length := h
      obtain ⟨hc1, hf1⟩ := HF1.out.cell k hk hu
      obtain ⟨hc2, hf2⟩ := HF2.out.cell k hk hd
      have HN1 := Lib.hid (Own.aside (HF1.out.store hu (u := .int .u8 k) (by rw [ups_at k h]; exact congrArg (Value.int .u8) (by simp; omega))) (w.heap.size + 1) k (.int .u8 (31 - k)) (fun e => by have e2 : w.heap.size = w.heap.size + 1 := Option.some.inj e; omega))
      have HA2 : Fill (wr.setCell ⟨w.heap.size, k, none⟩ (.int .u8 k)) w.heap.size (w.heap.size + 1) downs k := Own.aside HF2.out w.heap.size k (.int .u8 k) (fun e => by have e2 : w.heap.size + 1 = w.heap.size := Option.some.inj e; omega)
      have HN2 := Lib.hid (HA2.store hd (u := .int .u8 (31 - k)) (by rw [downs_at k h]; exact congrArg (Value.int .u8) (by simp; omega)))
      have HB2 : Hid (Below w.heap.size w ((wr.setCell ⟨w.heap.size, k, none⟩ (.int .u8 k)).setCell ⟨w.heap.size + 1, k, none⟩ (.int .u8 (31 - k)))) := Lib.hid ((HB.out.setCell (Nat.le_refl _) _).setCell (Nat.le_succ _) _)
      clear HA2
      go_wp2
      go_roundw
      case rel => exact ⟨k + 1, by omega, by go_num, HN1, HN2, HB2⟩
      case measure => simp [intOf]; omega
    · obtain rfl : k = 32 := by omega
      have HO1 : Hid (Own wr w.heap.size (.slice (some ⟨w.heap.size, 0, none⟩) 32 32) (ups.map bv)) := Lib.hid (Fill.full HF1.out)
      have HO2 : Hid (Own wr w.heap.size (.slice (some ⟨w.heap.size + 1, 0, none⟩) 32 32) (downs.map bv)) := Lib.hid (Fill.full HF2.out)
      clear HF1 HF2
      have hTr := Lib.hid (hT.out.below HB.out)
      go_wp2_with fail
      refine (KC.out _ hTr).mono ?_
      rintro e w' ⟨rfl, rfl⟩
      go_wp2_with fail
      refine (KA.out _ hTr).mono ?_
      rintro e v1 ⟨rfl, hb1⟩
      have HB1 := Lib.hid hb1; clear hb1
      have hT1 := Lib.hid (hTr.out.below HB1.out)
      go_wp2_with fail
      refine (KM0.out _).mono ?_
      rintro e v2 ⟨rfl, hb2⟩
      have HB2 := Lib.hid hb2; clear hb2
      have hT2 := Lib.hid (hT1.out.below HB2.out)
      go_wp2_with fail
      refine (KO0.out _ hT2).mono ?_
      rintro e w' ⟨rfl, rfl⟩
      go_wp2_with fail
      refine (KM1.out _).mono ?_
      rintro e v3 ⟨rfl, hb3⟩
      have HB3 := Lib.hid hb3; clear hb3
      have hT3 := Lib.hid (hT2.out.below HB3.out)
      go_wp2_with fail
      refine (KO1.out _ hT3).mono ?_
      rintro e w' ⟨rfl, rfl⟩
      have hBB : Below wr.heap.size wr v3 := below_on (below_on HB1.out HB2.out) HB3.out
      have hr1 := run_string_Own v3 w.heap.size 30 9 5 _ _ (HO1.out.below hBB (fun k hk => (HO1.out.lt k hk).2)) Tryd.underlying30 Tryd.underlying5 Tryd.underlying9
      have hr2 := run_string_Own v3 w.heap.size 30 9 5 _ _ (HO2.out.below hBB (fun k hk => (HO2.out.lt k hk).2)) Tryd.underlying30 Tryd.underlying5 Tryd.underlying9
      clear hBB
      go_wp2_with fail
      refine (KU.out _ hT3).mono ?_
      rintro e w' ⟨rfl, rfl⟩
      go_wp2_with fail
      refine (KD.out _ hT3).mono ?_
      rintro e w' ⟨rfl, rfl⟩
      clear hr1 hr2
      go_wp2_with fail
      refine (K4.out _ hT3).mono ?_
      rintro e w' ⟨rfl, rfl⟩
      go_wp2_with fail
      refine (K5.out _ hT3).mono ?_
      rintro e w' ⟨rfl, rfl⟩
      go_wp2_with fail
      refine (K7.out _ hT3).mono ?_
      rintro e w' ⟨rfl, rfl⟩
      go_wp2_with fail
      refine (K2.out _ hT3).mono ?_
      rintro e w' ⟨rfl, rfl⟩
      go_wp2_with fail
      refine (KJ.out _ hT3).mono ?_
      rintro e v4 ⟨rfl, hb4⟩
      have HB4 := Lib.hid hb4; clear hb4
      have hT4 := Lib.hid (hT3.out.below HB4.out)
      go_wp2_with fail
      refine (KP.out _).mono ?_
      rintro e w' ⟨rfl, rfl⟩
      go_wp2_with fail
      refine (KK1.out _).mono ?_
      rintro e w' ⟨rfl, rfl⟩
      go_wp2_with fail
      refine (KK2.out _).mono ?_
      rintro e w' ⟨rfl, rfl⟩
      go_wp2_with fail
      refine (KJ1.out _ hT4).mono ?_
      rintro e v5 ⟨rfl, hb5⟩
      have HB5 := Lib.hid hb5; clear hb5
      have hT5 := Lib.hid (hT4.out.below HB5.out)
      go_wp2_with fail
      refine (KJ2.out _ hT5).mono ?_
      rintro e v6 ⟨rfl, hb6⟩
      have HB6 := Lib.hid hb6; clear hb6
      have hT6 := Lib.hid (hT5.out.below HB6.out)
      go_wp2_with fail
      refine (KKC.out _).mono ?_
      rintro e w' ⟨rfl, rfl⟩
      go_wp2_with fail
      refine (KS1.out _ hT6).mono ?_
      rintro e w' ⟨rfl, rfl⟩
      go_wp2_with fail
      refine (KS2.out _ hT6).mono ?_
      rintro e w' ⟨rfl, rfl⟩
      go_wp2_with fail
      refine (KKC.out _).mono ?_
      rintro e w' ⟨rfl, rfl⟩
      go_wp2_with fail
      refine (KS3.out _ hT6).mono ?_
      rintro e w' ⟨rfl, rfl⟩
      go_wp2
      go_ret
      exact ⟨rfl, below_on (below_on (below_on (below_on (below_on (below_on (HB.out) HB1.out) HB2.out) HB3.out) HB4.out) HB5.out) HB6.out⟩
set_option maxRecDepth 100000 in
theorem lifted (os : Os) (started : os.Started) (H : Type) (enc : TypeId × Value → H) :
    ReturnsInHanded {} Tryd.checked os 4 .any (fun w args => (Rows.sumNamesSpec.pre enc Tryd.prog Tryd.f4 [] false w args ∧ laidMetH Tryd.prog laid w) ∧ sizedMet enc Tryd.prog Tryd.f4 (OpenSpec.ofChange Rows.sumNamesSpec) false w args)
      (Rows.sumNamesSpec.post enc Tryd.prog Tryd.f4 false true false false) := by
  refine returnsInHanded_of_change_and (C := Tryd.checked) (X := fun w _ => laidMetH Tryd.prog laid w) (fun _ _ _ hh h => h.of_heap hh) own started (by kernel_rfl) Tryd.func4
    (ChangeSpec.witness_shaped (enc := enc) (C := Tryd.checked) (os := os) (X := fun w _ => laidMetH Tryd.prog laid w) false (World.doorLaid Tryd.prog doorSteps os) #[] 8 rfl (World.shaped_of_RefB (by kernel_rfl) (by kernel_rfl)) (by kernel_rfl) (by kernel_rfl) (by kernel_rfl) (door_met os _)) ?_
  intro W base args ds gs before hval0 hW hcnd _ hL _
  have hval : ∀ (j : Nat) t v, Tryd.f4.params[j]? = some t → args[j]? = some v → Value.okWide Tryd.prog W .any base t v := hval0
  have hW' := hW
  obtain ⟨p, q, hA0, hV, rfl, hfz, hnd⟩ := hW
  have hA : DataW.TrodAll enc Tryd.prog W 0 (fun _ => true) true Tryd.f4.params.toList args.toList ds p := hA0
  rw [Tryd.params4] at hA hval
  obtain ⟨hargs, rfl, rfl⟩ := trodAll_nil hA
  obtain rfl : args = #[] := by cases args; simp_all
  obtain ⟨rfl, rfl⟩ := trodVars_none hV
  clear hA0 hval0
  refine (core   W (Lib.hid (of_laid hL))).mono fun e W' ⟨he, bel⟩ => ?_
  subst he
  exact ⟨_, rfl, _, _, _, [], _, [], hW', trodAll_mk1 (shut_bool Tryd.underlying4 _), trodAll_mk0, rfl, bel.frame _, fun h => by cases h⟩
theorem over : Rows.sumNamesRow.holds Tryd.pinned (OpenSpec.ofChange Rows.sumNamesSpec) :=
  OpenClaim.holds_of_wide 4 Tryd.f4 rfl rfl rfl rfl rfl rfl rfl ⟨rfl, rfl, rfl, rfl, rfl⟩ rfl rfl rfl rfl rfl (by kernel_rfl) Tryd.func4 (by kernel_rfl)
    (of_decide_eq_true (by kernel_rfl)) (by unfold Func.isWrapper; first | (rw [if_pos (by decide +kernel)]; kernel_rfl) | (rw [if_neg (by decide +kernel)]; exact ⟨rfl, rfl⟩))
    (fun os started H enc _ => lifted os started H enc)
theorem proved : Rows.SumNamesCardSaid :=
  Claim7.holds_tied_plain_at .later [] [.data] true (true, "ec012be40840c8b481adfdcd4a219216fde9b8c297530996d1c8b008bc4c498b") false
    over (fun _ h => by cases h) (by kernel_rfl) (fun _ h => by cases h) sumNames_row_tie rfl ⟨rfl, rfl⟩ (by kernel_rfl) rfl
    (fun f fn hf hfn => by
      obtain rfl : f = 4 := Option.some.inj ((show Tryd.prog.funcNamed "baton/batonlaw02.SumNames" = some 4 by kernel_rfl).symm.trans hf) |>.symm
      obtain rfl : fn = Tryd.f4 := (Option.some.inj (Tryd.func4.symm.trans hfn)).symm
      exact ⟨by kernel_rfl, fun j t ht => by
        rw [Tryd.params4] at ht
        simp at ht⟩)
    (by kernel_rfl)
end Go.Proofs.YtmbndjdpbpajmaaDoor.sumNames
