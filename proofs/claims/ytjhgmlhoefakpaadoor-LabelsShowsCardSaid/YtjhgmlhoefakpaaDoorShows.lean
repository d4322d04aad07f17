/- LabelsShows: the law answers true. Condition: the tables of the library read as their initialisers lay them (tied to the program's text by the card). -/
import Derived.Test.YtjhgmlhoefakpaaDoorCards
import Derived.Test.YtjhgmlhoefakpaaDoorTie
import Derived.Test.YtjhgmlhoefakpaaDoorFi
import Derived.Test.YtjhgmlhoefakpaaDoorAw
import Derived.Test.YtjhgmlhoefakpaaDoorKn
import Derived.Test.YtjhgmlhoefakpaaDoorDp
import Derived.Test.YtjhgmlhoefakpaaDoorRs2
import Derived.SevenTiedAt
import Derived.LaidMore
import Derived.Lay
import Derived.WalkKit
import Derived.ProofKit
import Derived.OpenShut
import Derived.ShutString
namespace Go.Proofs.YtjhgmlhoefakpaaDoor.labelsShows
open Go.ChangeShapes Go.WideShapes Go.ChangeAt Go.RowKit
open Go.ChangeMaps (open_string shut_string)
set_option linter.unusedVariables false
theorem par_is (s : ByteArray) (m : List Lb) (K : Nat) (hs : s.size ≤ 100000000) (h : parseK s.data.toList = (m, K)) (w : World) (hT : Tab w) :
    Calls Tryd.prog 17 #[.string s] w fun e w' => ∃ u, e = .returned (.tuple #[u, .int .i64 (K : Int)]) ∧ Ol w' w.heap.size u m ∧ Below w.heap.size w w' := by
  have := parse_any s hs w hT
  rw [h] at this
  exact this
theorem rpar_is (s : ByteArray) (m : List Lb) (K : Nat) (hs : s.size ≤ 100000000) (h : parseK s.data.toList = (m, K)) (w : World) :
    Calls Tryd.prog 36 #[.string s] w fun e w' => ∃ u, e = .returned (.tuple #[u, .int .i64 (K : Int)]) ∧ Ol w' w.heap.size u m ∧ Below w.heap.size w w' := by
  have := rparse_any s hs w
  rw [h] at this
  exact this
theorem sh_is (l : List Lb) (S : ByteArray) (K : Nat) (hl : l.length ≤ 9223372036854775807) (hw : Wide l) (h : shV (showE l) = .tuple #[.string S, .int .i64 (K : Int)]) (v : Value) (w : World) (hv : LAt w v l) (hT : Tab w) :
    Calls Tryd.prog 18 #[v] w (Ret w (.tuple #[.string S, .int .i64 (K : Int)])) := h ▸ show_any l hl hw v w hv hT
theorem rsh_is (l : List Lb) (S : ByteArray) (K : Nat) (hl : l.length ≤ 9223372036854775807) (hw : Wide l) (h : shV (showE l) = .tuple #[.string S, .int .i64 (K : Int)]) (v : Value) (w : World) (hv : LAt w v l) :
    Calls Tryd.prog 35 #[v] w (Ret w (.tuple #[.string S, .int .i64 (K : Int)])) := h ▸ rshow_any l hl hw v w hv
theorem parse_small {s : ByteArray} {m : List Lb} {K : Nat} (h : parseK s.data.toList = (m, K)) : m.length ≤ 16 := by
  rcases parse_parts s with h1 | ⟨l, h1, hm⟩
  · rw [h] at h1; cases h1; simp
  · rw [h] at h1; cases h1; exact (mayL_len hm).2
set_option maxRecDepth 100000 in
set_option maxHeartbeats 4000000 in
theorem core (v : Value) (l : List Lb) (s : ByteArray) (w : World) (wl : Arg w v l) (ws : s.size ≤ maxLen) (hT : Hid (Tab w)) :
    Calls Tryd.prog 7 #[v, .string s] w fun e w' => e = .returned (.bool true) ∧ Below w.heap.size w w' := by
  have hs63 : (s.size : Int) ≤ 9223372036854775807 := by unfold maxLen at ws; omega
  have HV := Lib.hid wl.at'
  obtain ⟨l1, l2⟩ := arg_wide wl
  have HL1 := Lib.hid (fun v W (h : LAt W v l) => long_any l l1 l2 v W h)
  clear wl
  cases hd : decide (5000 ≤ lng l 0) with
  | true =>
    rw [hd] at HL1
    clear hd
    have HB0 : Hid (Below w.heap.size w w) := Lib.hid (Below.refl _ _)
    go_enter Tryd.func7, Tryd.ntmps7
    go_wp2_with fail
    refine (HL1.out _ _ (HV.out.below HB0.out (Nat.le_refl _))).mono ?_
    rintro e w1 ⟨rfl, hb⟩
    have HB1 : Hid (Below w.heap.size w w1) := Lib.hid (below_trans' HB0.out hb)
    clear hb
    go_wp2_with fail
    refine (awake_any _ (tab_of hT HB1)).mono ?_
    rintro e w2 ⟨rfl, hb⟩
    have HB2 : Hid (Below w.heap.size w w2) := Lib.hid (below_trans' HB1.out hb)
    clear hb
    go_wp2
    go_ret
    exact ⟨rfl, HB2.out⟩
  | false =>
    have htl := small_tot hd
    rw [hd] at HL1
    clear hd
    by_cases hb : 3000 < s.size
    · clear htl
      have HB0 : Hid (Below w.heap.size w w) := Lib.hid (Below.refl _ _)
      go_enter Tryd.func7, Tryd.ntmps7
      go_wp2_with fail
      refine (HL1.out _ _ (HV.out.below HB0.out (Nat.le_refl _))).mono ?_
      rintro e w1 ⟨rfl, hb⟩
      have HB1 : Hid (Below w.heap.size w w1) := Lib.hid (below_trans' HB0.out hb)
      clear hb
      go_wp2_with fail
      refine (awake_any _ (tab_of hT HB1)).mono ?_
      rintro e w2 ⟨rfl, hb⟩
      have HB2 : Hid (Below w.heap.size w w2) := Lib.hid (below_trans' HB1.out hb)
      clear hb
      go_wp2
      go_ret
      exact ⟨rfl, HB2.out⟩
    have hll := tot_len l
    have HOW := Lib.hid (fun v W (h : LAt W v l) => own_any l (by omega) v W h)
    obtain ⟨S, K1, hS⟩ : ∃ (S : ByteArray) (K1 : Nat), shV (showE l) = .tuple #[.string S, .int .i64 (K1 : Int)] := ⟨_, _, rfl⟩
    have HS1 := Lib.hid (fun v W (h : LAt W v l) (k : Tab W) => sh_is l S K1 l1 l2 hS v W h k)
    have HS2 := Lib.hid (fun v W (h : LAt W v l) => rsh_is l S K1 l1 l2 hS v W h)
    have HIS := Lib.hid (fun v u W (h : LAt W v l) (r : Wr W v l.length) (k : LAt W u l) => is_any l l l1 l1 v u W h r k)
    have hE : ∀ l, sameL l l = true := by simp [sameL]
    obtain ⟨ms, K, hP⟩ : ∃ ms K, parseK s.data.toList = (ms, K) := ⟨_, _, rfl⟩
    have hms := parse_small hP
    have HF1 := Lib.hid (fun W (k : Tab W) => par_is s ms K (by omega) hP W k)
    have HF2 := Lib.hid (fun W => rpar_is s ms K (by omega) hP W)
    have HIM := Lib.hid (fun v u W (h : LAt W v ms) (r : Wr W v ms.length) (k : LAt W u ms) => is_any ms ms (by omega) (by omega) v u W h r k)
    rw [hE] at HIM HIS
    clear hE hll htl hP hms hS
    have e1 : (S.toList != S.toList) = false := by simp
    have e3 : (S.toList == S.toList) = true := by simp
    have e2 : ((K : Int) != (K : Int)) = false := by simp
    have e4 : ((K1 : Int) != (K1 : Int)) = false := by simp
    have HB0 : Hid (Below w.heap.size w w) := Lib.hid (Below.refl _ _)
    go_enter Tryd.func7, Tryd.ntmps7
    go_wp2_with fail
    refine (HL1.out _ _ (HV.out.below HB0.out (Nat.le_refl _))).mono ?_
    rintro e w1 ⟨rfl, hb⟩
    have HB1 : Hid (Below w.heap.size w w1) := Lib.hid (below_trans' HB0.out hb)
    clear hb
    have C1_1 : Hid (Below w1.heap.size w1 w1) := Lib.hid (Below.refl _ _)
    go_wp2_with fail
    refine (HOW.out _ _ (HV.out.below HB1.out (Nat.le_refl _))).mono ?_
    rintro e w2 ⟨uo, rfl, ho, hb⟩
    have HB2 : Hid (Below w.heap.size w w2) := Lib.hid (below_trans' HB1.out hb)
    have C1_2 : Hid (Below w1.heap.size w1 w2) := Lib.hid (below_trans' C1_1.out hb)
    have HOo := Lib.hid ho
    have HO_2 := Lib.hid ho.at
    have HOw_2 := Lib.hid ho.wr
    clear ho hb
    go_wp2_with fail
    refine (HS1.out _ _ HO_2.out (tab_of hT HB2)).mono ?_
    rintro e w3 ⟨rfl, hb⟩
    have HB3 : Hid (Below w.heap.size w w3) := Lib.hid (below_trans' HB2.out hb)
    have HO_3 := Lib.hid (HO_2.out.below hb (Nat.le_refl _))
    have HOw_3 := Lib.hid (HOw_2.out.below hb (Nat.le_refl _))
    have C1_3 : Hid (Below w1.heap.size w1 w3) := Lib.hid (below_trans' C1_2.out hb)
    clear hb
    go_wp2_with fail
    refine (HS2.out _ _ (HV.out.below HB3.out (Nat.le_refl _))).mono ?_
    rintro e w4 ⟨rfl, hb⟩
    have HB4 : Hid (Below w.heap.size w w4) := Lib.hid (below_trans' HB3.out hb)
    have HO_4 := Lib.hid (HO_3.out.below hb (Nat.le_refl _))
    have HOw_4 := Lib.hid (HOw_3.out.below hb (Nat.le_refl _))
    have C1_4 : Hid (Below w1.heap.size w1 w4) := Lib.hid (below_trans' C1_3.out hb)
    clear hb
    go_wp2_with fail
    refine (HIS.out _ _ _ HO_4.out HOw_4.out (HV.out.below HB4.out (Nat.le_refl _))).mono ?_
    rintro e w5 ⟨rfl, hg⟩
    have C1_5 : Hid (Below w1.heap.size w1 w5) := Lib.hid (C1_4.out.trans (below_grown hg C1_4.out.size (fun g h => (own_lt HOo.out g h).1)))
    clear hg
    have HB5 : Hid (Below w.heap.size w w5) := Lib.hid (below_trans' HB1.out C1_5.out)
    go_wp2
    go_loopw [10] (fun i wr => ∃ k : Nat, i = .int .i64 (k : Int) ∧ k ≤ 2 ∧ Hid (Below w.heap.size w wr)) (fun i _ => 2 - (intOf i).toNat)
    case atStart => exact ⟨0, rfl, by omega, HB5⟩
    case round =>
      obtain ⟨k, rfl, hk, HBr⟩ := hrel
      by_cases hlt : k < 2
      · have HB1 := HBr
        have C1_1 : Hid (Below wr.heap.size wr wr) := Lib.hid (Below.refl _ _)
        go_wp2_with fail
        refine (HF1.out _ (tab_of hT HB1)).mono ?_
        rintro e w2 ⟨up, rfl, ho, hb⟩
        have HB2 : Hid (Below w.heap.size w w2) := Lib.hid (below_trans' HB1.out hb)
        have C1_2 : Hid (Below wr.heap.size wr w2) := Lib.hid (below_trans' C1_1.out hb)
        have HPo := Lib.hid ho
        have HP_2 := Lib.hid ho.at
        have HPw_2 := Lib.hid ho.wr
        clear ho hb
        go_wp2_with fail
        refine (HF2.out _).mono ?_
        rintro e w3 ⟨uq, rfl, ho, hb⟩
        have HB3 : Hid (Below w.heap.size w w3) := Lib.hid (below_trans' HB2.out hb)
        have HP_3 := Lib.hid (HP_2.out.below hb (Nat.le_refl _))
        have HPw_3 := Lib.hid (HPw_2.out.below hb (Nat.le_refl _))
        have C1_3 : Hid (Below wr.heap.size wr w3) := Lib.hid (below_trans' C1_2.out hb)
        have HQo := Lib.hid ho
        have HQ_3 := Lib.hid ho.at
        have HQw_3 := Lib.hid ho.wr
        clear ho hb
        go_wp2_with fail
        refine (HIM.out _ _ _ HP_3.out HPw_3.out HQ_3.out).mono ?_
        rintro e w4 ⟨rfl, hg⟩
        have C1_4 : Hid (Below wr.heap.size wr w4) := Lib.hid (C1_3.out.trans (below_grown hg C1_3.out.size (fun g h => (own_lt HPo.out g h).1)))
        clear hg
        have HB4 : Hid (Below w.heap.size w w4) := Lib.hid (below_trans' HB1.out C1_4.out)
        go_wp2
        go_roundw
        case rel => exact ⟨k + 1, by go_num, by omega, HB4⟩
        case measure => (try simp [intOf]); (try omega)
      · obtain rfl : k = 2 := by omega
        have HB1 := HBr
        go_wp2_with fail
        refine (awake_any _ (tab_of hT HB1)).mono ?_
        rintro e w2 ⟨rfl, hb⟩
        have HB2 : Hid (Below w.heap.size w w2) := Lib.hid (below_trans' HB1.out hb)
        clear hb
        go_wp2
        go_ret
        exact ⟨rfl, HB2.out⟩
set_option maxRecDepth 100000 in
theorem lifted (os : Os) (started : os.Started) (H : Type) (enc : TypeId × Value → H) :
    ReturnsInHanded {} Tryd.checked os 7 .any (fun w args => (Rows.labelsShowsSpec.pre enc Tryd.prog Tryd.f7 [] false w args ∧ laidMetH Tryd.prog laid w) ∧ sizedMet enc Tryd.prog Tryd.f7 (OpenSpec.ofChange Rows.labelsShowsSpec) false w args)
      (Rows.labelsShowsSpec.post enc Tryd.prog Tryd.f7 false true false false) := by
  refine returnsInHanded_of_change_and (C := Tryd.checked) (X := fun w _ => laidMetH Tryd.prog laid w) (fun _ _ _ hh h => h.of_heap hh) own started (by kernel_rfl) Tryd.func7
    (ChangeSpec.witness_shaped (enc := enc) (C := Tryd.checked) (os := os) (X := fun w _ => laidMetH Tryd.prog laid w) false (World.laidAll Tryd.prog os laid) #[.slice none 0 0, .string ByteArray.empty] 8 (World.laidAll_os _ _ _) (World.shaped_of_ZipB (by kernel_rfl) (by kernel_rfl)) (by kernel_rfl) (by kernel_rfl) (by kernel_rfl) (door_met os _)) ?_
  intro W base args ds gs before hval0 hW hcnd _ hL _
  have hval : ∀ (j : Nat) t v, Tryd.f7.params[j]? = some t → args[j]? = some v → Value.okWide Tryd.prog W .any base t v := hval0
  have hW' := hW
  obtain ⟨p, q, hA0, hV, rfl, hfz, hnd⟩ := hW
  have hA : DataW.TrodAll enc Tryd.prog W 0 (fun _ => true) true Tryd.f7.params.toList args.toList ds p := hA0
  rw [Tryd.params7] at hA hval
  obtain ⟨v0, vs0, d0, ds0, p0, q0, hargs, rfl, rfl, h0, r0⟩ := trodAll_cons hA
  obtain ⟨v1, vs1, d1, ds1, p1, q1, rfl, rfl, rfl, h1, r1⟩ := trodAll_cons r0
  obtain ⟨rfl, rfl, rfl⟩ := trodAll_nil r1
  obtain rfl : args = #[v0, v1] := by cases args; simp_all
  obtain ⟨rfl, rfl⟩ := trodVars_none hV
  have k0 := h0
  have lt0 : ∀ x ∈ p0, x.block < W.heap.size := by obtain ⟨m, hm⟩ := k0; exact DataW.trod_lt m _ _ _ hm
  have k1 := h1
  have lt1 : ∀ x ∈ p1, x.block < W.heap.size := by obtain ⟨m, hm⟩ := k1; exact DataW.trod_lt m _ _ _ hm
  obtain ⟨a0, w0⟩ := open_labels (hval 0 25 v0 rfl rfl) h0
  obtain ⟨a1, rfl, rfl, rfl, w1⟩ := open_string Tryd.underlying9 (hval 1 9 v1 rfl rfl) h1
  clear hA0 hval0
  refine (core v0 a0 a1 W w0 w1 (Lib.hid (of_laid hL))).mono fun e W' ⟨he, bel⟩ => ?_
  subst he
  exact ⟨_, rfl, _, _, _, [], _, [], hW', trodAll_mk1 (shut_bool Tryd.underlying4 _), (trodAll_cons_mk (Below.trod laidOut (by kernel_rfl) (of_decide_eq_true (by kernel_rfl)) k0 bel lt0) (trodAll_cons_mk (Below.trod laidOut (by kernel_rfl) (of_decide_eq_true (by kernel_rfl)) k1 bel lt1) trodAll_mk0)), rfl, bel.frame _, fun h => by cases h⟩
theorem over : Rows.labelsShowsRow.holds Tryd.pinned (OpenSpec.ofChange Rows.labelsShowsSpec) :=
  OpenClaim.holds_of_wide 7 Tryd.f7 rfl rfl rfl rfl rfl rfl rfl ⟨rfl, rfl, rfl, rfl, rfl⟩ rfl rfl rfl rfl rfl (by kernel_rfl) Tryd.func7 (by kernel_rfl)
    (of_decide_eq_true (by kernel_rfl)) (by unfold Func.isWrapper; first | (rw [if_pos (by decide +kernel)]; kernel_rfl) | (rw [if_neg (by decide +kernel)]; exact ⟨rfl, rfl⟩))
    (fun os started H enc _ => lifted os started H enc)
theorem proved : Rows.LabelsShowsCardSaid :=
  Claim7.holds_tied_plain_at .later [] [.data, .data, .data, .data, .pinned] true (true, "29d8eb039746b622064e7fdd6be2e3716893f65b16f6a8010a72416b636b660b") false
    over (fun _ h => by cases h) (by kernel_rfl) (fun _ h => by cases h) labelsShows_row_tie rfl ⟨rfl, rfl⟩ (by kernel_rfl) rfl
    (fun f fn hf hfn => by
      obtain rfl : f = 7 := Option.some.inj ((show Tryd.prog.funcNamed "baton/batonlaw05.LabelsShows" = some 7 by kernel_rfl).symm.trans hf) |>.symm
      obtain rfl : fn = Tryd.f7 := (Option.some.inj (Tryd.func7.symm.trans hfn)).symm
      exact ⟨by kernel_rfl, fun j t ht => by
        rw [Tryd.params7] at ht
        have hm : t ∈ [25, 9] := by simpa using Array.mem_of_getElem? ht
        have hall : ([25, 9].all fun u => !Tryd.prog.wantsStandIn u) = true := by kernel_rfl
        exact (show Tryd.prog.wantsStandIn t = false by simpa using List.all_eq_true.1 hall t hm)⟩)
    (by kernel_rfl)
end Go.Proofs.YtjhgmlhoefakpaaDoor.labelsShows
