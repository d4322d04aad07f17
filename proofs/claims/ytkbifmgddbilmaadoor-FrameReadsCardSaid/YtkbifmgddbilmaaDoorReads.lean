/- FrameReads: for any text, any place and any kind the law answers true. Condition: the table of package sum reads as its initialiser lays it (tied to the program's text by the card). -/
import Derived.Test.YtkbifmgddbilmaaDoorCards
import Derived.Test.YtkbifmgddbilmaaDoorTie
import Derived.Test.YtkbifmgddbilmaaDoorSf
import Derived.Test.YtkbifmgddbilmaaDoorAw
import Derived.SevenTiedAt
namespace Go.Proofs.YtkbifmgddbilmaaDoor.frameReads
open Go Go.ChangeShapes Go.WideShapes Go.ChangeAt Go.RowKit
open Go.ChangeMaps (open_string shut_string)
set_option linter.unusedVariables false
theorem long (s : ByteArray) (a k : Int) (hs : 20000 < s.size) (h0 : s.size ≤ 9223372036854775807) (w : World) (hT : Hid (Tab w)) : Calls Tryd.prog 3 #[.string s, .int .i64 a, .int .u8 k] w (Ret w (.bool true)) := by
  go_enter Tryd.func3, Tryd.ntmps3
  go_wp2_with (go_at_call 11; refine (awake_any _ hT).mono ?_; rintro e w1 ⟨rfl, hb1⟩; have HB1 := Lib.hid hb1; clear hb1)
  go_ret
  exact ⟨rfl, HB1.out⟩
theorem both_read (s : ByteArray) (at' : Int) (hs : s.size ≤ 20000) : ∃ (K : Int) (P : ByteArray) (Z X E : Int),
    (∀ W, Tab W → Calls Tryd.prog 12 #[.string s, .int .i64 at'] W (Ret W (.tuple #[fv K P Z, .int .i64 X, .int .i64 E]))) ∧
    (∀ W, Calls Tryd.prog 13 #[.string s, .int .i64 at'] W (Ret W (.tuple #[fv K P Z, .int .i64 X, .int .i64 E]))) := by
  by_cases h : er1 s at' = 0
  · have hp : 0 ≤ at' ∧ at' ≤ (s.size : Int) := Classical.byContradiction fun hn => by
      rw [er1_out s at' (by omega)] at h; omega
    obtain ⟨a, rfl⟩ := Int.eq_ofNat_of_zero_le hp.1
    rw [er1_at s a (by omega)] at h
    exact ⟨_, _, _, _, _, fun W hW => read_ok s a (Fr.er_good.1 h) W (by omega) (Lib.hid hW), fun W => rread_ok s a (Fr.er_good.1 h) W (by omega)⟩
  · exact ⟨_, _, _, _, _, fun W hW => read_bad s at' _ rfl h W (by omega) (Lib.hid hW), fun W => rread_bad s at' _ rfl h W (by omega)⟩
theorem both_scan (s : ByteArray) (at' : Int) (hs : s.size ≤ 20000) : ∃ (l : List Fq) (n : Nat), l.length ≤ 1000000 ∧
    (∀ W, Tab W → Calls Tryd.prog 16 #[.string s, .int .i64 at'] W (Scans 24 W l n)) ∧ (∀ W, Calls Tryd.prog 15 #[.string s, .int .i64 at'] W (Scans 28 W l n)) := by
  by_cases h : at' < 0 ∨ (s.size : Int) < at'
  · exact ⟨[], 0, by simp, fun W _ => scan_arg s at' W h, fun W => rscan_arg s at' W (by omega) h⟩
  · obtain ⟨a, rfl⟩ := Int.eq_ofNat_of_zero_le (a := at') (by omega)
    exact ⟨scq s a, sce s a, by have := scq_len s _ a (Nat.le_refl _); omega, fun W hW => scan_any s a (by omega) W (by omega) (Lib.hid hW), fun W => rscan_any s a (by omega) W (by omega)⟩
theorem one_is (s : ByteArray) (k : UInt8) : ∃ T B, oneV s k = .tuple #[.string T, .bool B] := by
  unfold oneV
  by_cases h : oneY s k
  · rw [if_pos h]; exact ⟨_, _, rfl⟩
  · rw [if_neg h]; exact ⟨_, _, rfl⟩
/-- A row that is written over. -/
structure Sp (W : World) (g N : Nat) (A : World) : Prop where
  row : ∃ cur, A.heap[g]? = some (.cells cur 24 (0, 0)) ∧ cur.size = N
  kept : W.grownBy A (some g)
theorem Sp.cell {W A : World} {g N : Nat} (h : Sp W g N A) (j : Nat) (hj : j < N) : ∃ v, A.cell? ⟨g, j, none⟩ = some v ∧ A.frozen? ⟨g, j, none⟩ = false := by
  obtain ⟨cur, h1, h2⟩ := h.row
  refine ⟨cur[j]'(by omega), ?_, ?_⟩
  · simp [World.cell?, h1, h2, hj]
  · simp [World.frozen?, h1]
theorem Sp.set {W A : World} {g N : Nat} (h : Sp W g N A) (j : Nat) (v : Value) : Sp W g N (A.setCell ⟨g, j, none⟩ v) := by
  obtain ⟨cur, h1, h2⟩ := h.row
  refine ⟨⟨_, Go.heap_setCell_same A g j cur 24 v h1, by simpa using h2⟩, ?_⟩
  refine ⟨h.kept.os, h.kept.tape, h.kept.output, by simpa using h.kept.size, fun i hi hne => ?_⟩
  have hne' : i ≠ g := fun e => hne (by rw [e])
  rw [Below.heap_setCell _ _ _ _ (by simpa using hne')]
  exact h.kept.block i hi hne
theorem Sp.of {w : World} {base : Nat} {g c : Nat} {l : List Fq} (h : O3 24 w base (.slice (some ⟨g, 0, none⟩) l.length c) l) : ∃ N, l.length * 3 ≤ N ∧ Sp w g N w := by
  unfold O3 at h
  rcases h.2 with ⟨e, _⟩ | ⟨g', cap, cur, e, hb, hh, h1, h2, h3, h4⟩
  · cases e
  · injection e with e1 _ e3
    injection e1 with e1
    injection e1 with e1
    subst e1; subst e3
    exact ⟨cur.size, by first | omega | (rw [h3]; omega) | (have := h.1; omega), ⟨_, hh, rfl⟩, World.grownBy.refl _ _⟩
set_option maxRecDepth 100000 in
set_option maxHeartbeats 2000000 in
theorem main (s : ByteArray) (at' : Int) (k : UInt8) (hs : s.size ≤ 20000) (w : World) (hT : Hid (Tab w)) : Calls Tryd.prog 3 #[.string s, .int .i64 at', .int .u8 k.toNat] w (Ret w (.bool true)) := by
  obtain ⟨K, P, Z, X, E, r1, r2⟩ := both_read s at' hs
  obtain ⟨l, n, hl, s1, s2⟩ := both_scan s at' hs
  obtain ⟨T, B, h1⟩ := one_is s k
  have o1 := fun W (hW : Tab W) => one_any s k W (by omega) (Lib.hid hW)
  have o2 := fun W => rone_any s k W (by omega)
  rw [h1] at o1 o2
  have R1 := Lib.hid r1
  have R2 := Lib.hid r2
  have S1 := Lib.hid s1
  have S2 := Lib.hid s2
  have O1 := Lib.hid o1
  have O2 := Lib.hid o2
  have HLn := Lib.hid hl
  have hX : (X != X) = false := by simp
  have hE : (E != E) = false := by simp
  have hn : ((n : Int) != (n : Int)) = false := by simp
  have ht : (T.toList == T.toList) = true := by simp
  have HAT := Lib.hid (all_true l hl)
  clear r1 r2 s1 s2 o1 o2 h1 hl
  generalize (k.toNat : Int) = KK at *
  go_enter Tryd.func3, Tryd.ntmps3
  go_wp2_with fail
  refine (R1.out _ hT.out).mono ?_
  rintro e w1 ⟨rfl, hb1⟩
  have HB1 := Lib.hid (below_more (.cells #[.int .u8 K, .string P, .int .i64 Z] 24) hb1)
  have b1 := Box3.new w1 24 (.int .u8 K) (.string P) (.int .i64 Z)
  have HX1 := Lib.hid b1
  clear hb1 b1
  go_wp2_with fail
  refine (R2.out _).mono ?_
  rintro e w2 ⟨rfl, hb2⟩
  have HB2 := Lib.hid (below_more (.cells #[.int .u8 K, .string P, .int .i64 Z] 28) (below_chain HB1.out hb2))
  have hx2 : Box3 (w2.alloc (.cells #[.int .u8 K, .string P, .int .i64 Z] 28)) w1.heap.size 24 (.int .u8 K) (.string P) (.int .i64 Z) := (heap_alloc_old w2 _ (Nat.lt_of_lt_of_le HX1.out.lt hb2.size)).trans ((hb2.block _ HX1.out.lt).trans HX1.out)
  have y2 := Box3.new w2 28 (.int .u8 K) (.string P) (.int .i64 Z)
  have x0 := hx2.c0
  have x1 := hx2.c1
  have x2 := hx2.c2
  have z0 := y2.c0
  have z1 := y2.c1
  have z2 := y2.c2
  clear hb2 hx2 y2
  go_wp2_with fail
  refine (same_true K P Z _).mono ?_
  rintro e w3 ⟨rfl, hb3⟩
  have HB3 := Lib.hid (below_chain HB2.out hb3)
  clear hb3 x0 x1 x2 z0 z1 z2
  go_wp2_with fail
  refine (S2.out _).mono ?_
  rintro e w4 ⟨v, rfl, ho, hb4⟩
  have HB4 := Lib.hid (below_chain HB3.out hb4)
  have HV := Lib.hid ho.at
  obtain ⟨va, vc, hv⟩ := ho.shape
  subst hv
  clear hb4 ho
  obtain ⟨L, hL⟩ : ∃ L, l.length = L := ⟨_, rfl⟩
  rw [hL] at HV
  rw [hL]
  have HL := Lib.hid hL
  clear hL
  go_wp2_with fail
  go_loopw [15] (fun x wr => ∃ (r : Nat), r ≤ 2 ∧ x = .int .i64 (r : Int) ∧ Hid (Below w.heap.size w wr) ∧ Hid (At3 wr (.slice va L vc) l)) (fun x _ => 2 - (intOf x).toNat)
  case atStart => exact ⟨0, by omega, rfl, HB4, HV⟩
  case round =>
    clear HB4 HV HB3 HB2 HB1 HX1 R1 R2 S2
    obtain ⟨r, hr, rfl, HB, HV⟩ := hrel
    obtain ⟨wo, hwo⟩ : ∃ wo, wo = wr := ⟨_, rfl⟩
    subst hwo
    by_cases hlt : r < 2
    · go_wp2_with fail
      refine (S1.out _ (hT.out.below HB.out)).mono ?_
      rintro e w5 ⟨v, rfl, ho, hb5⟩
      have HB5 := Lib.hid (below_chain HB.out hb5)
      have HV5 := Lib.hid (HV.out.below hb5 (Nat.le_refl _))
      have HO5 := Lib.hid ho
      have HW5 := Lib.hid hb5
      clear hb5
      have hshape : (L = 0 ∧ v = .slice none 0 0) ∨ ∃ g c, v = .slice (some ⟨g, 0, none⟩) L c ∧ wo.heap.size ≤ g ∧ g < w5.heap.size := by
        have h := ho
        unfold O3 at h
        rcases h.2 with ⟨e, h0⟩ | ⟨g, cap, cur, e, hg, hh, _⟩
        · exact .inl ⟨by rw [← HL.out]; exact h0, e⟩
        · exact .inr ⟨g, cap, by rw [← HL.out]; exact e, hg, (Array.getElem?_eq_some_iff.1 hh).1⟩
      clear ho
      rcases hshape with ⟨h0, rfl⟩ | ⟨g, c, rfl, hg1, hg2⟩
      · have H0 := Lib.hid h0
        clear h0
        go_wp2_with fail
        refine (HAT.out _ _ _ HO5.out.at HV5.out).mono ?_
        rintro e w6 ⟨rfl, hb6⟩
        have HB6 := Lib.hid (below_chain HB5.out hb6)
        have HV6 := Lib.hid (HV5.out.below hb6 (Nat.le_refl _))
        clear hb6
        go_wp2
        go_loopw [18] (fun x wr => x = .int .i64 0 ∧ wr = w6) (fun _ _ => 0)
        case atStart => exact ⟨rfl, rfl⟩
        case round =>
          obtain ⟨rfl, rfl⟩ := hrel
          go_wp2
          go_roundw
          case rel => exact ⟨r + 1, by omega, by go_num, HB6, HV6⟩
          case measure => simp [intOf]; omega
      · go_wp2_with fail
        refine (HAT.out _ _ _ HO5.out.at HV5.out).mono ?_
        rintro e w6 ⟨rfl, hb6⟩
        have HB6 := Lib.hid (below_chain HB5.out hb6)
        have HV6 := Lib.hid (HV5.out.below hb6 (Nat.le_refl _))
        have ho6 := HO5.out.below hb6 (Nat.le_refl _)
        rw [← HL.out] at ho6
        obtain ⟨N, hN, hsp⟩ := Sp.of ho6
        rw [HL.out] at hN
        have HS6 := Lib.hid hsp
        have HW6 := Lib.hid (below_chain HW5.out hb6)
        have hg6 : Hid (wo.heap.size ≤ g ∧ g < w6.heap.size) := Lib.hid ⟨hg1, Nat.lt_of_lt_of_le hg2 hb6.size⟩
        clear hb6 ho6 hsp hg1 hg2
        have hL6 : L ≤ 1000000 := by rw [← HL.out]; exact HLn.out
        go_wp2
        go_loopw [18] (fun x wr => ∃ i : Nat, i ≤ L ∧ x = .int .i64 (i : Int) ∧ Hid (Sp w6 g N wr)) (fun x _ => L - (intOf x).toNat)
        case atStart => exact ⟨0, by omega, rfl, HS6⟩
        case round =>
          clear HS6
          obtain ⟨i, hi, rfl, HS⟩ := hrel
          by_cases hil : i < L
          · obtain ⟨v0, c0, f0⟩ := HS.out.cell (i * 3) (by omega)
            obtain ⟨v1, c1, f1⟩ := HS.out.cell (i * 3 + 1) (by omega)
            obtain ⟨v2, c2, f2⟩ := HS.out.cell (i * 3 + 2) (by omega)
            have HS2 := Lib.hid (((HS.out.set (i * 3) (.int .u8 0)).set (i * 3 + 1) (.string ⟨#[]⟩)).set (i * 3 + 2) (.int .i64 (-1)))
            go_wp2
            go_roundw
            case rel => exact ⟨i + 1, by omega, by go_num, HS2⟩
            case measure => simp [intOf]; omega
          · obtain rfl : i = L := by omega
            have HBn : Hid (Below w.heap.size w wr) := Lib.hid (HB6.out.grown HS.out.kept HB6.out.size (fun k e => by cases e; have := HB.out.size; have := hg6.out.1; omega))
            have HVn : Hid (At3 wr (.slice va i vc) l) := Lib.hid (HV.out.same (fun q hq _ => (HS.out.kept.block q (Nat.lt_of_lt_of_le hq HW6.out.size) (fun e => by have := Option.some.inj e; have := hg6.out.1; omega)).trans (HW6.out.block q hq)))
            go_wp2
            go_roundw
            case rel => exact ⟨r + 1, by omega, by go_num, HBn, HVn⟩
            case measure => simp [intOf]; omega
    · obtain rfl : r = 2 := by omega
      go_wp2_with fail
      refine (O1.out _ (hT.out.below HB.out)).mono ?_
      rintro e w5 ⟨rfl, hb5⟩
      have HB5 := Lib.hid (below_chain HB.out hb5)
      clear hb5
      go_wp2_with fail
      refine (O2.out _).mono ?_
      rintro e w6 ⟨rfl, hb6⟩
      have HB6 := Lib.hid (below_chain HB5.out hb6)
      clear hb6
      go_wp2_with fail
      refine (awake_any _ (Lib.hid (hT.out.below HB6.out))).mono ?_
      rintro e w7 ⟨rfl, hb7⟩
      have HB7 := Lib.hid (below_chain HB6.out hb7)
      clear hb7
      go_wp2
      go_ret
      exact ⟨rfl, HB7.out⟩
theorem core (s : ByteArray) (a1 : Int) (a2 : Int) (w0 : s.size ≤ maxLen) (w1 : (Lit.int .i64 a1).wf = true) (w2 : (Lit.int .u8 a2).wf = true) (w : World) (hT : Hid (Tab w)) :
    Calls Tryd.prog 3 #[.string s, .int .i64 a1, .int .u8 a2] w fun e w' => e = .returned (.bool true) ∧ Below w.heap.size w w' := by
  unfold maxLen at w0
  obtain ⟨n0, n1⟩ := bounds_u8 w2
  by_cases h : 20000 < s.size
  · exact long s a1 a2 h (by omega) w hT
  · have h2 := main s a1 (UInt8.ofNat a2.toNat) (by omega) w hT
    rw [Bt.ofNat_toNat (by omega), Int.toNat_of_nonneg n0] at h2
    exact h2
set_option maxRecDepth 100000 in
theorem lifted (os : Os) (started : os.Started) (H : Type) (enc : TypeId × Value → H) :
    ReturnsInHanded {} Tryd.checked os 3 .any (fun w args => (Rows.frameReadsSpec.pre enc Tryd.prog Tryd.f3 [] false w args ∧ laidMetH Tryd.prog laid w) ∧ sizedMet enc Tryd.prog Tryd.f3 (OpenSpec.ofChange Rows.frameReadsSpec) false w args)
      (Rows.frameReadsSpec.post enc Tryd.prog Tryd.f3 false true false false) := by
  refine returnsInHanded_of_change_and (C := Tryd.checked) (X := fun w _ => laidMetH Tryd.prog laid w) (fun _ _ _ hh h => h.of_heap hh) own started (by kernel_rfl) Tryd.func3
    (ChangeSpec.witness_shaped (enc := enc) (C := Tryd.checked) (os := os) (X := fun w _ => laidMetH Tryd.prog laid w) false (World.doorLaid Tryd.prog doorSteps os) #[.string ByteArray.empty, .int .i64 0, .int .u8 0] 8 rfl (World.shaped_of_RefB (by kernel_rfl) (by kernel_rfl)) (by kernel_rfl) (by kernel_rfl) (by kernel_rfl) (door_met os _)) ?_
  intro W base args ds gs before hval0 hW hcnd _ hL _
  have hval : ∀ (j : Nat) t v, Tryd.f3.params[j]? = some t → args[j]? = some v → Value.okWide Tryd.prog W .any base t v := hval0
  have hW' := hW
  obtain ⟨p, q, hA0, hV, rfl, hfz, hnd⟩ := hW
  have hA : DataW.TrodAll enc Tryd.prog W 0 (fun _ => true) true Tryd.f3.params.toList args.toList ds p := hA0
  rw [Tryd.params3] at hA hval
  obtain ⟨v0, vs0, d0, ds0, p0, q0, hargs, rfl, rfl, h0, r0⟩ := trodAll_cons hA
  obtain ⟨v1, vs1, d1, ds1, p1, q1, rfl, rfl, rfl, h1, r1⟩ := trodAll_cons r0
  obtain ⟨v2, vs2, d2, ds2, p2, q2, rfl, rfl, rfl, h2, r2⟩ := trodAll_cons r1
  obtain ⟨rfl, rfl, rfl⟩ := trodAll_nil r2
  obtain rfl : args = #[v0, v1, v2] := by cases args; simp_all
  obtain ⟨rfl, rfl⟩ := trodVars_none hV
  have k0 := h0
  have lt0 : ∀ x ∈ p0, x.block < W.heap.size := by obtain ⟨m, hm⟩ := k0; exact DataW.trod_lt m _ _ _ hm
  have k1 := h1
  have lt1 : ∀ x ∈ p1, x.block < W.heap.size := by obtain ⟨m, hm⟩ := k1; exact DataW.trod_lt m _ _ _ hm
  have k2 := h2
  have lt2 : ∀ x ∈ p2, x.block < W.heap.size := by obtain ⟨m, hm⟩ := k2; exact DataW.trod_lt m _ _ _ hm
  obtain ⟨a0, rfl, rfl, rfl, w0⟩ := open_string Tryd.underlying9 (hval 0 9 v0 rfl rfl) h0
  obtain ⟨a1, rfl, rfl, rfl, w1⟩ := open_int Tryd.underlying3 (hval 1 3 v1 rfl rfl) h1
  obtain ⟨a2, rfl, rfl, rfl, w2⟩ := open_int Tryd.underlying5 (hval 2 5 v2 rfl rfl) h2
  clear hA0 hval0
  refine (core a0 a1 a2 w0 w1 w2 W (Lib.hid (of_laid hL))).mono fun e W' ⟨he, bel⟩ => ?_
  subst he
  exact ⟨_, rfl, _, _, _, [], _, [], hW', trodAll_mk1 (shut_bool Tryd.underlying4 _), (trodAll_cons_mk (Below.trod laidOut (by kernel_rfl) (of_decide_eq_true (by kernel_rfl)) k0 bel lt0) (trodAll_cons_mk (Below.trod laidOut (by kernel_rfl) (of_decide_eq_true (by kernel_rfl)) k1 bel lt1) (trodAll_cons_mk (Below.trod laidOut (by kernel_rfl) (of_decide_eq_true (by kernel_rfl)) k2 bel lt2) trodAll_mk0))), rfl, bel.frame _, fun h => by cases h⟩
theorem over : Rows.frameReadsRow.holds Tryd.pinned (OpenSpec.ofChange Rows.frameReadsSpec) :=
  OpenClaim.holds_of_wide 3 Tryd.f3 rfl rfl rfl rfl rfl rfl rfl ⟨rfl, rfl, rfl, rfl, rfl⟩ rfl rfl rfl rfl rfl (by kernel_rfl) Tryd.func3 (by kernel_rfl)
    (of_decide_eq_true (by kernel_rfl)) (by unfold Func.isWrapper; first | (rw [if_pos (by decide +kernel)]; kernel_rfl) | (rw [if_neg (by decide +kernel)]; exact ⟨rfl, rfl⟩))
    (fun os started H enc _ => lifted os started H enc)
theorem proved : Rows.FrameReadsCardSaid :=
  Claim7.holds_tied_plain_at .later [] [.data] true (true, "528f451f71a3945e035b345f81124441f1a1f31a8451669a6375411dc09c6830") false
    over (fun _ h => by cases h) (by kernel_rfl) (fun _ h => by cases h) frameReads_row_tie rfl ⟨rfl, rfl⟩ (by kernel_rfl) rfl
    (fun f fn hf hfn => by
      obtain rfl : f = 3 := Option.some.inj ((show Tryd.prog.funcNamed "baton/batonlaw08.FrameReads" = some 3 by kernel_rfl).symm.trans hf) |>.symm
      obtain rfl : fn = Tryd.f3 := (Option.some.inj (Tryd.func3.symm.trans hfn)).symm
      exact ⟨by kernel_rfl, fun j t ht => by
        rw [Tryd.params3] at ht
        have hm : t ∈ [9, 3, 5] := by simpa using Array.mem_of_getElem? ht
        have hall : ([9, 3, 5].all fun u => !Tryd.prog.wantsStandIn u) = true := by kernel_rfl
        exact (show Tryd.prog.wantsStandIn t = false by simpa using List.all_eq_true.1 hall t hm)⟩)
    (by kernel_rfl)
end Go.Proofs.YtkbifmgddbilmaaDoor.frameReads
