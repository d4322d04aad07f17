/- FrameTorn: for any parts and any place the law answers true. Condition: the table of package sum reads as its initialiser lays it (tied to the program's text by the card). -/
import Derived.Test.YtkbifmgddbilmaaDoorCards
import Derived.Test.YtkbifmgddbilmaaDoorTie
import Derived.Test.YtkbifmgddbilmaaDoorSf
import Derived.Test.YtkbifmgddbilmaaDoorRo
import Derived.SevenTiedAt
namespace Go.Proofs.YtkbifmgddbilmaaDoor.frameTorn
open Go Go.ChangeShapes Go.WideShapes Go.ChangeAt Go.RowKit
open Go.ChangeMaps (open_string shut_string)
set_option linter.unusedVariables false
set_option maxRecDepth 100000
theorem pq_take (l : List Prt) (j : Nat) : pq (l.take j) = (pq l).take j := by unfold pq; rw [List.map_take]
theorem want_take (l : List Prt) (j : Nat) : want (l.take j) = (want l).take j := by
  unfold want
  rw [pq_take, ← List.map_take]
  congr 1
  rcases Nat.lt_or_ge j (pq l).length with h | h
  · have e := Fr.wnt_append ((pq l).take j) ((pq l).drop j) 0
    rw [List.take_append_drop] at e
    rw [e, List.take_left' (by rw [Fr.wnt_length, List.length_take]; omega)]
  · rw [List.take_of_length_le h, List.take_of_length_le (by rw [Fr.wnt_length]; exact h)]
theorem torn (l : List Prt) (h6 : lgn l < 6000) (S T : ByteArray) (hS : S = bs (Fr.row (pq l))) (k : Nat) (hT : S.extract 0 k = T) (j : Nat) (h1 : (Fr.row (pq (l.take j))).length ≤ k) (h2 : (j = l.length ∧ k ≤ S.size) ∨ ∃ hj : j < l.length, k < (Fr.row (pq (l.take j))).length + (9 + l[j].p.size)) :
    scq T 0 = (want l).take j ∧ sce T 0 = (Fr.row (pq (l.take j))).length := by
  have e : bh T 0 = (Fr.row (pq l)).take k := by
    show T.data.toList = _
    rw [← hT, ext_toList, hS, bs_data, List.drop_zero]
  have hs := Fr.scn_torn (pq l) (pq_ok l h6) j k (by rw [← pq_take]; exact h1) (by
    rcases h2 with ⟨rfl, h2⟩ | ⟨hj, h2⟩
    · left
      refine ⟨by unfold pq; rw [List.length_map], ?_⟩
      rw [hS, bs_size] at h2; exact h2
    · right
      refine ⟨by unfold pq; rw [List.length_map]; exact hj, ?_⟩
      rw [← pq_take]
      unfold pq pq1 at *
      simpa using h2)
  unfold scq sce
  rw [e, hs, ← pq_take]
  refine ⟨?_, rfl⟩
  rw [← want_take]; rfl
theorem At3.take {w : World} {a : Option Addr} {L c j : Nat} {l : List Fq} (h : At3 w (.slice a L c) l) (hL : l.length = L) (hj : j ≤ L) (c' : Nat) : At3 w (.slice a j c') (l.take j) := by
  subst hL
  rcases h with ⟨rfl, b, d, e⟩ | ⟨g, o, d, e, h⟩
  · simp at hj
    subst hj
    exact .inl ⟨rfl, _, _, rfl⟩
  · injection e with e1 _ _
    subst e1
    refine .inr ⟨g, o, c', by rw [List.length_take, Nat.min_eq_left hj], fun i hi => ?_⟩
    rw [List.length_take] at hi
    rw [List.getElem_take]
    exact h i (by omega)
theorem want_at (l : List Prt) (j : Nat) (h : j < l.length) (h2 : j < (want l).length) : (want l)[j].p = l[j].p ∧ (want l)[j].a = ((Fr.row (pq (l.take j))).length : Int) := by
  have e := want_take1 l j h
  rw [want_take, want_take] at e
  rw [List.take_succ_eq_append_getElem h2] at e
  have e2 := List.append_cancel_left e
  injection e2 with e3 _
  rw [e3]
  exact ⟨rfl, rfl⟩
set_option maxHeartbeats 2000000 in
theorem longA (l : List Prt) (v : Value) (n : Int) (w : World) (h : Arg w v l) (hl : 6000 ≤ lgn l) (hT : Hid (Tab w)) : Calls Tryd.prog 8 #[v, .int .i64 n] w (Ret w (.bool true)) := by
  have C := long_any l v w h
  rw [decide_eq_true hl] at C
  have HC := Lib.hid C
  clear C h hl
  go_enter Tryd.func8, Tryd.ntmps8
  go_wp2_with fail
  refine HC.out.mono ?_
  rintro e w' ⟨rfl, rfl⟩
  go_wp2_with fail
  refine (awake_any _ hT).mono ?_
  rintro e w1 ⟨rfl, hb1⟩
  have HB1 := Lib.hid hb1
  clear hb1
  go_wp2
  go_ret
  exact ⟨rfl, HB1.out⟩
set_option maxHeartbeats 2000000 in
theorem main (l : List Prt) (v : Value) (n : Int) (w : World) (h : Arg w v l) (hl : lgn l < 6000) (hT : Hid (Tab w)) : Calls Tryd.prog 8 #[v, .int .i64 n] w (Ret w (.bool true)) := by
  have C := long_any l v w h
  rw [decide_eq_false (by omega)] at C
  have HC := Lib.hid C
  have hrows := fun W (hW : Tab W) (hA : PAt W v l) => rows_any l hl v W hA (Lib.hid hW)
  have hrl := row_len l hl
  obtain ⟨S, hS⟩ : ∃ S, bs (Fr.row (pq l)) = S := ⟨_, rfl⟩
  have hS6 : S.size ≤ 6000 := by rw [← hS, bs_size]; omega
  obtain ⟨N, hN⟩ := Int.eq_ofNat_of_zero_le (a := IntKind.u64.wrap n) (by rw [IntKind.wrap_u64]; omega)
  have hs1 : (0 : Int) < (S.size : Int) + 1 := by omega
  obtain ⟨k, hk⟩ : ∃ k : Nat, (N : Int) % ((S.size : Int) + 1) = (k : Int) := Int.eq_ofNat_of_zero_le (Int.emod_nonneg _ (by omega))
  have hk2 : k ≤ S.size := by have := Int.emod_lt_of_pos (N : Int) hs1; omega
  have htorn := torn l hl S (S.extract 0 k) hS.symm k rfl
  obtain ⟨T, hTx⟩ : ∃ T, S.extract 0 k = T := ⟨_, rfl⟩
  rw [hTx] at htorn
  have hTz : T.size ≤ 6000 := by rw [← hTx, ByteArray.size_extract]; omega
  have hsc := fun (W : World) (hW : Tab W) => scan_any T 0 (by omega) W (by omega) (Lib.hid hW)
  unfold Rows at hrows
  rw [hS] at hrows
  have hcnt := lgn_count l
  have hwl := want_len l
  have hlen : l.length ≤ 150 := by omega
  have hstep : Hid (∀ j (h : j < l.length) (h2 : j < (want l).length), (Fr.row (pq (l.take (j + 1)))).length = (Fr.row (pq (l.take j))).length + (9 + l[j].p.size) ∧ (want l)[j].p = l[j].p ∧ l[j].p.size ≤ 6000) := by
    refine Lib.hid fun j hj hj2 => ?_
    have e := row_take1 l j hj
    have e1 := congrArg List.length e
    rw [List.length_append, Fr.frm_length] at e1
    have hp : l[j].p.data.toList.length = l[j].p.size := by simp
    rw [hp] at e1
    refine ⟨e1, (want_at l j hj hj2).1, ?_⟩
    have := row_len (l.take (j + 1)) (by have := lgn_take_le l (j + 1); omega)
    have := lgn_take_le l (j + 1)
    omega
  have HALL : Hid (∀ j v v' W, At3 W v ((want l).take j) → At3 W v' ((want l).take j) → Calls Tryd.prog 17 #[v, v'] W (Ret W (.bool true))) := Lib.hid fun j v v' W h1 h2 => all_true _ (by rw [List.length_take]; omega) v v' W h1 h2
  have HP := Lib.hid h.at'
  have HRW := Lib.hid hrows
  have HTN := Lib.hid htorn
  have HSC := Lib.hid hsc
  obtain ⟨L, hL⟩ : ∃ L, l.length = L := ⟨_, rfl⟩
  have HL := Lib.hid hL
  rw [hL] at hwl hlen
  have HWL := Lib.hid hwl
  clear C h hrows hrl hS hcnt hwl hL hl htorn hsc
  go_enter Tryd.func8, Tryd.ntmps8
  go_wp2_with fail
  refine HC.out.mono ?_
  rintro e w' ⟨rfl, rfl⟩
  go_wp2_with fail
  refine (awake_any _ hT).mono ?_
  rintro e w1 ⟨rfl, hb1⟩
  have HB1 := Lib.hid hb1
  clear hb1
  go_wp2_with fail
  refine (HRW.out _ (hT.out.below HB1.out) (HP.out.below HB1.out (Nat.le_refl _))).mono ?_
  rintro e w2 ⟨v2, rfl, ho2, hb2⟩
  have HB2 := Lib.hid (below_chain HB1.out hb2)
  have ho := ho2.at
  have hvc : ∃ va vc, v2 = .slice va L vc ∧ L ≤ vc ∧ vc ≤ 9223372036854775807 := by
    have h := ho2
    unfold O3 at h
    rw [HWL.out] at h
    rcases h.2 with ⟨e, h0⟩ | ⟨g, cap, cur, e, hg, hh, hcap, hm, _⟩
    · exact ⟨_, _, by rw [e, h0], by omega, by omega⟩
    · exact ⟨_, _, e, hcap, by unfold maxLen at hm; omega⟩
  obtain ⟨va, vc, hv, hvc1, hvc2⟩ := hvc
  subst hv
  have HO2 := Lib.hid ho
  have hshape : (L = 0) ∨ ∃ g o, va = some ⟨g, o, none⟩ ∧
      Hid (∀ j (h : j < (want l).length), w2.cell? ⟨g, o + j * 3, none⟩ = some (.int .u8 (want l)[j].k) ∧ w2.cell? ⟨g, o + j * 3 + 1, none⟩ = some (.string (want l)[j].p) ∧ w2.cell? ⟨g, o + j * 3 + 2, none⟩ = some (.int .i64 (want l)[j].a)) := by
    rcases ho with ⟨h0, b, c, hv⟩ | ⟨g, o, c, hv, h⟩
    · exact .inl (by rw [← HWL.out, h0]; rfl)
    · injection hv with e1 _ _
      exact .inr ⟨g, o, e1, Lib.hid h⟩
  clear hb2 ho2 ho
  rcases hshape with h0 | ⟨g, o, rfl, HC⟩
  · have H0 := Lib.hid h0
    clear h0
    go_wp2_with fail
    go_loop [8, 9] (fun x y => x = .int .i64 (L : Int) ∧ y = .int .i64 0) (fun _ _ => 0)
    case atStart => exact ⟨by rw [H0.out]; rfl, rfl⟩
    case round =>
      clear hk
      obtain ⟨rfl, rfl⟩ := hrel
      obtain ⟨j, hjL⟩ : ∃ j, j = L := ⟨_, rfl⟩
      have HA : Hid ((0 : Nat) = (Fr.row (pq (l.take j))).length) := Lib.hid (by rw [hjL, H0.out]; rfl)
      have hAk : 0 ≤ k := by omega
      have hj : j ≤ L := by omega
      subst hjL
      obtain ⟨q1, q2⟩ := HTN.out j (by rw [← HA.out]; exact hAk) (.inl ⟨HL.out.symm, hk2⟩)
      have sc := HSC.out
      rw [q1, q2, ← HA.out] at sc
      have SC := Lib.hid sc
      have HT2 := Lib.hid (At3.take HO2.out HWL.out hj vc)
      have hjv : j ≤ vc := by omega
      have hAA : ((0 : Int) == (0 : Int)) = true := by simp
      clear q1 q2 sc
      go_wp2_with fail
      refine (SC.out _ (hT.out.below HB2.out)).mono ?_
      rintro e w3 ⟨v3, rfl, ho3, hb3⟩
      have HB3 := Lib.hid (below_chain HB2.out hb3)
      have HO3 := Lib.hid ho3.at
      have HT3 := Lib.hid (HT2.out.below hb3 (Nat.le_refl _))
      clear hb3 ho3
      go_wp2_with fail
      refine (HALL.out j _ _ _ HO3.out HT3.out).mono ?_
      rintro e w4 ⟨rfl, hb4⟩
      have HB4 := Lib.hid (below_chain HB3.out hb4)
      clear hb4
      go_wp2
      go_ret
      exact ⟨rfl, HB4.out⟩
  · go_wp2_with fail
    go_loop [8, 9] (fun x y => ∃ (j A : Nat), j ≤ L ∧ A ≤ k ∧ x = .int .i64 (j : Int) ∧ y = .int .i64 (A : Int) ∧ Hid (A = (Fr.row (pq (l.take j))).length)) (fun x _ => L - (intOf x).toNat)
    case atStart => exact ⟨0, 0, by omega, by omega, rfl, rfl, Lib.hid rfl⟩
    case round =>
      clear hk
      obtain ⟨j, A, hj, hAk, rfl, rfl, HA⟩ := hrel
      by_cases hlt : j < L
      · have hjl : j < l.length := by rw [HL.out]; exact hlt
        have hjw : j < (want l).length := by rw [HWL.out]; exact hlt
        obtain ⟨e1, e2, e3⟩ := hstep.out j hjl hjw
        obtain ⟨x0, x1, x2⟩ := HC.out j hjw
        rw [e2] at x1
        rw [← HA.out] at e1
        have HE1 := Lib.hid e1
        have HTJ := HTN.out j (by rw [← HA.out]; exact hAk)
        have HTJ2 := Lib.hid (fun (hlt2 : k < A + (9 + l[j].p.size)) => HTJ (.inr ⟨hjl, by rw [← HA.out]; exact hlt2⟩))
        clear x0 x2 e1 e2 HTJ
        generalize l[j].p = P at *
        have hz := size_any (P.size : Int) w2
        rw [show fsz (P.size : Int) = ((P.size + 9 : Nat) : Int) by unfold fsz; rw [if_neg (by omega)]; omega] at hz
        have HZ := Lib.hid hz
        clear hz
        by_cases hle : A + (P.size + 9) ≤ k
        · go_wp2_with fail
          refine HZ.out.mono ?_
          rintro e w' ⟨rfl, rfl⟩
          go_wp2_with fail
          refine HZ.out.mono ?_
          rintro e w' ⟨rfl, rfl⟩
          go_wp2
          go_round
          case rel => exact ⟨j + 1, A + (P.size + 9), by omega, hle, by go_num, by go_num, Lib.hid (by rw [HE1.out]; omega)⟩
          case measure => simp [intOf]; omega
        · have hgt : k < A + (9 + P.size) := by omega
          go_wp2_with fail
          refine HZ.out.mono ?_
          rintro e w' ⟨rfl, rfl⟩
          obtain ⟨q1, q2⟩ := HTJ2.out hgt
          have sc := HSC.out
          rw [q1, q2, ← HA.out] at sc
          have SC := Lib.hid sc
          have HT2 := Lib.hid (At3.take HO2.out HWL.out hj vc)
          have hjv : j ≤ vc := by omega
          have hAA : ((A : Int) == (A : Int)) = true := by simp
          clear q1 q2 sc
          go_wp2_with fail
          refine (SC.out _ (hT.out.below HB2.out)).mono ?_
          rintro e w3 ⟨v3, rfl, ho3, hb3⟩
          have HB3 := Lib.hid (below_chain HB2.out hb3)
          have HO3 := Lib.hid ho3.at
          have HT3 := Lib.hid (HT2.out.below hb3 (Nat.le_refl _))
          clear hb3 ho3
          go_wp2_with fail
          refine (HALL.out j _ _ _ HO3.out HT3.out).mono ?_
          rintro e w4 ⟨rfl, hb4⟩
          have HB4 := Lib.hid (below_chain HB3.out hb4)
          clear hb4
          go_wp2
          go_ret
          exact ⟨rfl, HB4.out⟩
      · obtain rfl : j = L := by omega
        obtain ⟨q1, q2⟩ := HTN.out j (by rw [← HA.out]; exact hAk) (.inl ⟨HL.out.symm, hk2⟩)
        have sc := HSC.out
        rw [q1, q2, ← HA.out] at sc
        have SC := Lib.hid sc
        have HT2 := Lib.hid (At3.take HO2.out HWL.out hj vc)
        have hjv : j ≤ vc := by omega
        have hAA : ((A : Int) == (A : Int)) = true := by simp
        clear q1 q2 sc
        go_wp2_with fail
        refine (SC.out _ (hT.out.below HB2.out)).mono ?_
        rintro e w3 ⟨v3, rfl, ho3, hb3⟩
        have HB3 := Lib.hid (below_chain HB2.out hb3)
        have HO3 := Lib.hid ho3.at
        have HT3 := Lib.hid (HT2.out.below hb3 (Nat.le_refl _))
        clear hb3 ho3
        go_wp2_with fail
        refine (HALL.out j _ _ _ HO3.out HT3.out).mono ?_
        rintro e w4 ⟨rfl, hb4⟩
        have HB4 := Lib.hid (below_chain HB3.out hb4)
        clear hb4
        go_wp2
        go_ret
        exact ⟨rfl, HB4.out⟩
theorem core (v : Value) (l : List Prt) (n : Int) (w : World) (h : Arg w v l) (w1 : (Lit.int .i64 n).wf = true) (hT : Hid (Tab w)) :
    Calls Tryd.prog 8 #[v, .int .i64 n] w fun e w' => e = .returned (.bool true) ∧ Below w.heap.size w w' := by
  by_cases hl : 6000 ≤ lgn l
  · exact longA l v n w h hl hT
  · exact main l v n w h (by omega) hT
set_option maxRecDepth 100000 in
theorem lifted (os : Os) (started : os.Started) (H : Type) (enc : TypeId × Value → H) :
    ReturnsInHanded {} Tryd.checked os 8 .any (fun w args => (Rows.frameTornSpec.pre enc Tryd.prog Tryd.f8 [] false w args ∧ laidMetH Tryd.prog laid w) ∧ sizedMet enc Tryd.prog Tryd.f8 (OpenSpec.ofChange Rows.frameTornSpec) false w args)
      (Rows.frameTornSpec.post enc Tryd.prog Tryd.f8 false true false false) := by
  refine returnsInHanded_of_change_and (C := Tryd.checked) (X := fun w _ => laidMetH Tryd.prog laid w) (fun _ _ _ hh h => h.of_heap hh) own started (by kernel_rfl) Tryd.func8
    (ChangeSpec.witness_shaped (enc := enc) (C := Tryd.checked) (os := os) (X := fun w _ => laidMetH Tryd.prog laid w) false (World.doorLaid Tryd.prog doorSteps os) #[.slice none 0 0, .int .i64 0] 8 rfl (World.shaped_of_RefB (by kernel_rfl) (by kernel_rfl)) (by kernel_rfl) (by kernel_rfl) (by kernel_rfl) (door_met os _)) ?_
  intro W base args ds gs before hval0 hW hcnd _ hL _
  have hval : ∀ (j : Nat) t v, Tryd.f8.params[j]? = some t → args[j]? = some v → Value.okWide Tryd.prog W .any base t v := hval0
  have hW' := hW
  obtain ⟨p, q, hA0, hV, rfl, hfz, hnd⟩ := hW
  have hA : DataW.TrodAll enc Tryd.prog W 0 (fun _ => true) true Tryd.f8.params.toList args.toList ds p := hA0
  rw [Tryd.params8] at hA hval
  obtain ⟨v0, vs0, d0, ds0, p0, q0, hargs, rfl, rfl, h0, r0⟩ := trodAll_cons hA
  obtain ⟨v1, vs1, d1, ds1, p1, q1, rfl, rfl, rfl, h1, r1⟩ := trodAll_cons r0
  obtain ⟨rfl, rfl, rfl⟩ := trodAll_nil r1
  obtain rfl : args = #[v0, v1] := by cases args; simp_all
  obtain ⟨rfl, rfl⟩ := trodVars_none hV
  have k0 := h0
  have lt0 : ∀ x ∈ p0, x.block < W.heap.size := by obtain ⟨m, hm⟩ := k0; exact DataW.trod_lt m _ _ _ hm
  have k1 := h1
  have lt1 : ∀ x ∈ p1, x.block < W.heap.size := by obtain ⟨m, hm⟩ := k1; exact DataW.trod_lt m _ _ _ hm
  obtain ⟨a0, w0⟩ := open_parts (hval 0 50 v0 rfl rfl) h0
  obtain ⟨a1, rfl, rfl, rfl, w1⟩ := open_int Tryd.underlying3 (hval 1 3 v1 rfl rfl) h1
  clear hA0 hval0
  refine (core v0 a0 a1 W w0 w1 (Lib.hid (of_laid hL))).mono fun e W' ⟨he, bel⟩ => ?_
  subst he
  exact ⟨_, rfl, _, _, _, [], _, [], hW', trodAll_mk1 (shut_bool Tryd.underlying4 _), (trodAll_cons_mk (Below.trod laidOut (by kernel_rfl) (of_decide_eq_true (by kernel_rfl)) k0 bel lt0) (trodAll_cons_mk (Below.trod laidOut (by kernel_rfl) (of_decide_eq_true (by kernel_rfl)) k1 bel lt1) trodAll_mk0)), rfl, bel.frame _, fun h => by cases h⟩
theorem over : Rows.frameTornRow.holds Tryd.pinned (OpenSpec.ofChange Rows.frameTornSpec) :=
  OpenClaim.holds_of_wide 8 Tryd.f8 rfl rfl rfl rfl rfl rfl rfl ⟨rfl, rfl, rfl, rfl, rfl⟩ rfl rfl rfl rfl rfl (by kernel_rfl) Tryd.func8 (by kernel_rfl)
    (of_decide_eq_true (by kernel_rfl)) (by unfold Func.isWrapper; first | (rw [if_pos (by decide +kernel)]; kernel_rfl) | (rw [if_neg (by decide +kernel)]; exact ⟨rfl, rfl⟩))
    (fun os started H enc _ => lifted os started H enc)
theorem proved : Rows.FrameTornCardSaid :=
  Claim7.holds_tied_plain_at .later [] [.data] true (true, "528f451f71a3945e035b345f81124441f1a1f31a8451669a6375411dc09c6830") false
    over (fun _ h => by cases h) (by kernel_rfl) (fun _ h => by cases h) frameTorn_row_tie rfl ⟨rfl, rfl⟩ (by kernel_rfl) rfl
    (fun f fn hf hfn => by
      obtain rfl : f = 8 := Option.some.inj ((show Tryd.prog.funcNamed "baton/batonlaw08.FrameTorn" = some 8 by kernel_rfl).symm.trans hf) |>.symm
      obtain rfl : fn = Tryd.f8 := (Option.some.inj (Tryd.func8.symm.trans hfn)).symm
      exact ⟨by kernel_rfl, fun j t ht => by
        rw [Tryd.params8] at ht
        have hm : t ∈ [50, 3] := by simpa using Array.mem_of_getElem? ht
        have hall : ([50, 3].all fun u => !Tryd.prog.wantsStandIn u) = true := by kernel_rfl
        exact (show Tryd.prog.wantsStandIn t = false by simpa using List.all_eq_true.1 hall t hm)⟩)
    (by kernel_rfl)
end Go.Proofs.YtkbifmgddbilmaaDoor.frameTorn
