/- HeadParted: for any head the law answers true. Condition: the table of package sum reads as its initialiser lays it (tied to the program's text by the card). -/
import Derived.Test.YtpcpbdcdapmlnaaDoorCards
import Derived.Test.YtpcpbdcdapmlnaaDoorTie
import Derived.Test.YtpcpbdcdapmlnaaDoorSf
import Derived.Test.YtpcpbdcdapmlnaaDoorOx
import Derived.SevenTiedAt
namespace Go.Proofs.YtpcpbdcdapmlnaaDoor.headParted
open Go Go.ChangeShapes Go.WideShapes Go.ChangeAt Go.RowKit
open Go.ChangeMaps (open_string shut_string)
set_option linter.unusedVariables false
set_option maxRecDepth 100000
theorem frL_prefix (h : He) (t : Nat) : ∀ n, t ≤ n → ∃ r, frL h n = frL h t ++ r
  | 0, hn => ⟨[], by have e : t = 0 := by omega
                     rw [e, List.append_nil]⟩
  | n + 1, hn => by
    by_cases e : t = n + 1
    · subst e; exact ⟨[], by simp⟩
    · obtain ⟨r, hr⟩ := frL_prefix h t n (by omega)
      show ∃ r, (if 2 ≤ n ∧ usB h (n : Int) = false then frL h n ++ [(n : Int)] else frL h n) = _
      split
      · exact ⟨r ++ [(n : Int)], by rw [hr, List.append_assoc]⟩
      · exact ⟨r, hr⟩
theorem frL_at (h : He) (t : Nat) (h2 : 2 ≤ t) (ht : t < 32) (hu : usB h (t : Int) = false) : ∃ hl : (frL h t).length < (frL h 32).length, (frL h 32)[(frL h t).length] = (t : Int) := by
  obtain ⟨r, hr⟩ := frL_prefix h (t + 1) 32 (by omega)
  have e : frL h (t + 1) = frL h t ++ [(t : Int)] := if_pos ⟨h2, hu⟩
  rw [e] at hr
  have hlen : (frL h t).length < (frL h 32).length := by rw [hr]; simp
  refine ⟨hlen, ?_⟩
  have : (frL h 32)[(frL h t).length]? = some (t : Int) := by
    rw [hr, List.append_assoc, List.getElem?_append_right (Nat.le_refl _), Nat.sub_self]; rfl
  rw [List.getElem?_eq_getElem hlen] at this
  exact Option.some.inj this
theorem frL_succ (h : He) (t : Nat) (h2 : 2 ≤ t) : (frL h (t + 1)).length = (frL h t).length + (if usB h (t : Int) = false then 1 else 0) := by
  show (if 2 ≤ t ∧ usB h (t : Int) = false then frL h t ++ [(t : Int)] else frL h t).length = _
  by_cases hu : usB h (t : Int) = false
  · rw [if_pos ⟨h2, hu⟩, if_pos hu, List.length_append]; rfl
  · rw [if_neg (fun e => hu e.2), if_neg hu]; rfl
theorem frL_two (h : He) : frL h 2 = [] := by
  show (if 2 ≤ 1 ∧ _ then _ else (if 2 ≤ 0 ∧ _ then _ else [])) = _
  rw [if_neg (by omega), if_neg (by omega)]
/-- All tapes of a row, marked. -/
def marks (S : Nat → Bool) : List Int → Nat → Bool
  | [] => S
  | t :: r => marks (mark S t.toNat) r
theorem marks_at : ∀ (l : List Int) (S : Nat → Bool) (j : Nat), (∀ t ∈ l, 2 ≤ t) → marks S l j = (S j || decide ((j : Int) ∈ l))
  | [], S, j, _ => by show S j = _; simp
  | t :: r, S, j, h => by
    show marks (mark S t.toNat) r j = _
    rw [marks_at r _ j (fun u hu => h u (by simp [hu]))]
    have ht := h t (by simp)
    have e : mark S t.toNat j = (S j || decide ((j : Int) = t)) := by
      unfold mark
      by_cases e : j = t.toNat
      · rw [if_pos e, decide_eq_true (show (j : Int) = t by omega), Bool.or_true]
      · rw [if_neg e, decide_eq_false (show ¬ (j : Int) = t by omega), Bool.or_false]
    have e2 : decide ((j : Int) ∈ t :: r) = (decide ((j : Int) = t) || decide ((j : Int) ∈ r)) := by
      rw [decide_eq_decide.2 List.mem_cons, Bool.decide_or]
    rw [e, e2, Bool.or_assoc]
theorem marks_fr : ∀ (l : List Int) (S : Nat → Bool), dis S l = true → fr (marks S l) 32 + l.length = fr S 32
  | [], S, _ => rfl
  | t :: r, S, h => by
    obtain ⟨h1, h2⟩ := dis_cons h
    obtain ⟨h3, h4⟩ := ad_iff.1 h1
    have ih := marks_fr r _ h2
    have := fr_mark S t.toNat (by omega) h4 32
    rw [if_pos (by omega)] at this
    show fr (marks (mark S t.toNat) r) 32 + (r.length + 1) = _
    omega
theorem frL_fr (h : He) (U : Nat → Bool) : ∀ n, n ≤ 32 → (∀ j, 2 ≤ j → j < 32 → U j = usB h (j : Int)) → (frL h n).length = fr U n
  | 0, _, _ => rfl
  | n + 1, hn, hU => by
    have ih := frL_fr h U n (by omega) hU
    show (if 2 ≤ n ∧ usB h (n : Int) = false then frL h n ++ [(n : Int)] else frL h n).length = fr U n + (if 2 ≤ n ∧ U n = false then 1 else 0)
    by_cases h2 : 2 ≤ n
    · rw [hU n h2 (by omega)]
      by_cases hu : usB h (n : Int) = false
      · rw [if_pos ⟨h2, hu⟩, if_pos ⟨h2, hu⟩, List.length_append, ih]; rfl
      · rw [if_neg (fun e => hu e.2), if_neg (fun e => hu e.2), ih]; rfl
    · rw [if_neg (fun e => h2 e.1), if_neg (fun e => h2 e.1), ih]; rfl
theorem parted {h : He} (hm : mayB h = true) : h.log.length + (if h.snap ≠ 0 then 1 else 0) + (frL h 32).length = 30 := by
  have ok := mayB_ok hm
  unfold mayB gtop at hm
  have h1 := ok.g1; have h2 := ok.g2; have h3 := ok.b1; have h4 := ok.b2
  rw [if_neg (by omega), if_neg (by omega), if_neg (by omega), if_neg (by omega), if_neg ok.ne] at hm
  have hl2 : ∀ t ∈ h.log, 2 ≤ t := fun t ht => (ok.mem t ht).1
  by_cases h6 : h.snap = 0
  · rw [if_pos h6] at hm
    by_cases h7 : h.base ≠ 0
    · rw [if_pos h7] at hm; cases hm
    rw [if_neg h7] at hm
    have hf := marks_fr _ _ hm
    rw [fr_no32] at hf
    have := frL_fr h (marks no32 h.log) 32 (Nat.le_refl _) (fun j _ _ => by
      rw [marks_at _ _ _ hl2]
      unfold usB
      rw [decide_eq_false (show ¬ h.snap ≠ 0 from fun e => e h6)]
      rfl)
    rw [if_neg (fun e => e h6)]
    omega
  · rw [if_neg h6] at hm
    cases h7 : ad no32 h.snap
    · rw [h7] at hm; simp at hm
    · rw [h7, if_pos rfl] at hm
      obtain ⟨h8, h9⟩ := ad_iff.1 h7
      have hf := marks_fr _ _ hm
      have hk := fr_mark no32 h.snap.toNat (by omega) h9 32
      rw [fr_no32, if_pos (by omega)] at hk
      have := frL_fr h (marks (mark no32 h.snap.toNat) h.log) 32 (Nat.le_refl _) (fun j _ _ => by
        rw [marks_at _ _ _ hl2]
        unfold usB mark no32
        rw [decide_eq_true (show h.snap ≠ 0 from h6)]
        by_cases e : j = h.snap.toNat
        · rw [if_pos e, decide_eq_true (show h.snap = (j : Int) by omega)]; rfl
        · rw [if_neg e, decide_eq_false (show ¬ h.snap = (j : Int) by omega)]; rfl)
      rw [if_pos h6]
      omega
set_option maxHeartbeats 1000000 in
theorem long (h : He) (u : Value) (w : World) (hf : HFit w h u) (hl : 100 < h.log.length) (hT : Hid (Tab w)) : Calls Tryd.prog 8 #[hval h u] w (Ret w (.bool true)) := by
  obtain ⟨a, c, hu⟩ := hf.k.slice
  subst hu
  have hl2 := hf.l
  have HA := Lib.hid (awake_any (w.alloc (.cells #[.int .i64 h.gen, .int .i64 h.base, .int .i64 h.snap, .slice a h.log.length c] 26)) (Lib.hid (hT.out.below (below_one w _))))
  have HB := Lib.hid (below_one w (.cells #[.int .i64 h.gen, .int .i64 h.base, .int .i64 h.snap, .slice a h.log.length c] 26))
  clear hf
  unfold hval
  go_enter Tryd.func8, Tryd.ntmps8
  go_wp2_with fail
  refine HA.out.mono ?_
  rintro e w1 ⟨rfl, hb⟩
  have HB1 := Lib.hid (below_trans' HB.out hb)
  clear hb
  go_wp2
  go_ret
  exact ⟨rfl, HB1.out⟩
/-- How it lies in the midst of the law: the head's box, the row of the free tapes. -/
structure Px (w W : World) (h : He) (u v : Value) : Prop where
  X : Box4 W w.heap.size (.int .i64 h.gen) (.int .i64 h.base) (.int .i64 h.snap) u
  B : Below w.heap.size w W
  V : Own W (w.heap.size + 1) v ((frL h 32).map iv)
theorem Px.belowAll {w W W' : World} {h : He} {u v : Value} (p : Px w W h u v) (hb : Below W.heap.size W W') : Px w W' h u v := ⟨p.X.below hb p.X.lt, below_trans' p.B hb, p.V.belowAll hb⟩
set_option maxHeartbeats 2000000 in
theorem short (h : He) (u : Value) (w : World) (hf : HFit w h u) (hl : h.log.length ≤ 100) (hT : Hid (Tab w)) : Calls Tryd.prog 8 #[hval h u] w (Ret w (.bool true)) := by
  have HK := Lib.hid hf.k
  have HU := Lib.hid (fun t W (hW : Below w.heap.size w W) => uses_any h t u W (hf.k.below hW (Nat.le_refl _)) hf.l)
  have HF := Lib.hid (fun W (hW : Below w.heap.size w W) => free_any h u W (hf.k.below hW (Nat.le_refl _)) hf.l)
  have HM := Lib.hid (fun W (hW : Below w.heap.size w W) => may_any h u W (hf.k.below hW (Nat.le_refl _)) hf.l)
  have HA := Lib.hid (fun W (hW : Below w.heap.size w W) => awake_any W (Lib.hid (hT.out.below hW)))
  have HB := Lib.hid (below_one w (.cells #[.int .i64 h.gen, .int .i64 h.base, .int .i64 h.snap, u] 26))
  have X0 := Lib.hid (Box4.new w (.int .i64 h.gen) (.int .i64 h.base) (.int .i64 h.snap) u)
  obtain ⟨a, c, hu⟩ := hf.k.slice
  clear hf
  unfold hval at *
  subst hu
  go_enter Tryd.func8, Tryd.ntmps8
  go_wp2_with fail
  refine (HA.out _ HB.out).mono ?_
  rintro e w1 ⟨rfl, hb⟩
  have X1 := Lib.hid (X0.out.below hb X0.out.lt)
  have B1 := Lib.hid (below_trans' HB.out hb)
  clear hb X0 HB
  have q0 := X1.out.c0; have q1 := X1.out.c1; have q2 := X1.out.c2; have q3 := X1.out.c3
  go_wp2_with fail
  refine (HF.out _ B1.out).mono ?_
  rintro e w2 ⟨v, rfl, ho, hb⟩
  have P2 : Hid (Px w w2 h (.slice a h.log.length c) v) := Lib.hid ⟨X1.out.below hb X1.out.lt, below_trans' B1.out hb, ho.mono X1.out.lt⟩
  obtain ⟨va, vc, hv⟩ := ho.shape
  rw [List.length_map] at hv
  obtain ⟨N, hN⟩ : ∃ N, N = (frL h 32).length := ⟨_, rfl⟩
  rw [← hN] at hv
  subst hv
  clear ho hb q0 q1 q2 q3 X1 B1
  have hfl : N ≤ 32 := by rw [hN]; exact frL_len h 32
  have HN := Lib.hid hN
  clear hN
  go_wp2
  go_loopw [4, 5] (fun k i wl => ∃ t : Nat, i = .int .i64 (t : Int) ∧ 2 ≤ t ∧ t ≤ 32 ∧ k = .int .i64 ((frL h t).length : Int) ∧ Hid (Px w wl h (.slice a h.log.length c) (.slice va N vc))) (fun _ i _ => 32 - (intOf i).toNat)
  case atStart => exact ⟨2, rfl, by omega, by omega, by rw [frL_two]; rfl, P2⟩
  case round =>
    obtain ⟨t, rfl, ht2, ht, rfl, P⟩ := hrel
    have q0 := P.out.X.c0; have q1 := P.out.X.c1; have q2 := P.out.X.c2; have q3 := P.out.X.c3
    by_cases hlt : t < 32
    · have HC := Lib.hid (HU.out (t : Int) wr P.out.B)
      have hs := frL_succ h t ht2
      cases hu : usB h (t : Int)
      · obtain ⟨hk, he⟩ := frL_at h t ht2 hlt hu
        rw [hu] at HC hs
        rw [if_pos rfl] at hs
        have HS : Hid (((frL h t).length : Int) + 1 = ((frL h (t + 1)).length : Int)) := Lib.hid (by omega)
        clear hs hu
        go_wp2_with fail
        refine HC.out.mono ?_
        rintro e w3 ⟨rfl, hb⟩
        have P3 := Lib.hid (P.out.belowAll hb)
        clear hb q0 q1 q2 q3 P
        obtain ⟨g, o, c', e1, hc⟩ := P3.out.V.kat.pos (fun e => by rw [e] at hk; simp at hk)
        rw [← HN.out] at e1 hc hk
        cases e1
        have hcell := P3.out.V.kat.at (frL h t).length (by rw [← HN.out]; exact hk)
        rw [he] at hcell
        have hkl : ((frL h t).length : Int) < (N : Int) := by omega
        have hkn : ¬ ((N : Int) ≤ ((frL h t).length : Int)) := by omega
        have htt : ((t : Int) != (t : Int)) = false := by simp
        clear he
        generalize (frL h t).length = K at *
        go_wp2
        go_roundw
        case rel => exact ⟨t + 1, by go_num, by omega, by omega, by rw [← HS.out], P3⟩
        case measure => simp [intOf]; omega
      · rw [hu] at HC hs
        rw [if_neg (by simp)] at hs
        have HS : Hid ((frL h (t + 1)).length = (frL h t).length) := Lib.hid hs
        clear hs hu
        go_wp2_with fail
        refine HC.out.mono ?_
        rintro e w3 ⟨rfl, hb⟩
        have P3 := Lib.hid (P.out.belowAll hb)
        clear hb q0 q1 q2 q3 P
        go_wp2
        go_roundw
        case rel => exact ⟨t + 1, by go_num, by omega, by omega, by rw [HS.out], P3⟩
        case measure => simp [intOf]; omega
    · obtain rfl : t = 32 := by omega
      have HM1 := Lib.hid (HM.out wr P.out.B)
      rw [← HN.out]
      have hll : h.log.length ≤ 100 := hl
      by_cases hs : h.snap = 0
      · have e1 : (h.snap != 0) = false := by rw [bne_eq_false_iff_eq]; exact hs
        have HS0 := Lib.hid hs
        clear hs
        cases hm : mayB h
        · rw [hm] at HM1
          go_wp2_with fail
          refine HM1.out.mono ?_
          rintro e w3 ⟨rfl, hb⟩
          have B3 := Lib.hid (below_trans' P.out.B hb)
          clear hb
          go_wp2
          go_ret
          exact ⟨rfl, B3.out⟩
        · have hp := parted hm
          rw [if_neg (fun e => e HS0.out), ← HN.out] at hp
          rw [hm] at HM1
          have e2 : ((h.log.length : Int) + (N : Int) == 30) = true := by rw [beq_iff_eq]; omega
          go_wp2_with fail
          refine HM1.out.mono ?_
          rintro e w3 ⟨rfl, hb⟩
          have B3 := Lib.hid (below_trans' P.out.B hb)
          clear hb
          go_wp2
          go_ret
          exact ⟨rfl, B3.out⟩
      · have e1 : (h.snap != 0) = true := by rw [bne_iff_ne]; exact hs
        have HS0 := Lib.hid hs
        clear hs
        cases hm : mayB h
        · rw [hm] at HM1
          go_wp2_with fail
          refine HM1.out.mono ?_
          rintro e w3 ⟨rfl, hb⟩
          have B3 := Lib.hid (below_trans' P.out.B hb)
          clear hb
          go_wp2
          go_ret
          exact ⟨rfl, B3.out⟩
        · have hp := parted hm
          rw [if_pos HS0.out, ← HN.out] at hp
          rw [hm] at HM1
          have e2 : ((h.log.length : Int) + 1 + (N : Int) == 30) = true := by rw [beq_iff_eq]; omega
          go_wp2_with fail
          refine HM1.out.mono ?_
          rintro e w3 ⟨rfl, hb⟩
          have B3 := Lib.hid (below_trans' P.out.B hb)
          clear hb
          go_wp2
          go_ret
          exact ⟨rfl, B3.out⟩
theorem core (h : He) (u : Value) (w : World) (hf : HFit w h u) (hT : Hid (Tab w)) : Calls Tryd.prog 8 #[hval h u] w fun e w' => e = .returned (.bool true) ∧ Below w.heap.size w w' := by
  by_cases hl : 100 < h.log.length
  · exact long h u w hf hl hT
  · exact short h u w hf (by omega) hT
set_option maxRecDepth 100000 in
theorem lifted (os : Os) (started : os.Started) (H : Type) (enc : TypeId × Value → H) :
    ReturnsInHanded {} Tryd.checked os 8 .any (fun w args => (Rows.headPartedSpec.pre enc Tryd.prog Tryd.f8 [] false w args ∧ laidMetH Tryd.prog laid w) ∧ sizedMet enc Tryd.prog Tryd.f8 (OpenSpec.ofChange Rows.headPartedSpec) false w args)
      (Rows.headPartedSpec.post enc Tryd.prog Tryd.f8 false true false false) := by
  refine returnsInHanded_of_change_and (C := Tryd.checked) (X := fun w _ => laidMetH Tryd.prog laid w) (fun _ _ _ hh h => h.of_heap hh) own started (by kernel_rfl) Tryd.func8
    (ChangeSpec.witness_shaped (enc := enc) (C := Tryd.checked) (os := os) (X := fun w _ => laidMetH Tryd.prog laid w) false (World.doorLaid Tryd.prog doorSteps os) #[.agg #[.int .i64 0, .int .i64 0, .int .i64 0, .slice none 0 0]] 8 rfl (World.shaped_of_RefB (by kernel_rfl) (by kernel_rfl)) (by kernel_rfl) (by kernel_rfl) (by kernel_rfl) (door_met os _)) ?_
  intro W base args ds gs before hval0 hW hcnd _ hL _
  have hval : ∀ (j : Nat) t v, Tryd.f8.params[j]? = some t → args[j]? = some v → Value.okWide Tryd.prog W .any base t v := hval0
  have hW' := hW
  obtain ⟨p, q, hA0, hV, rfl, hfz, hnd⟩ := hW
  have hA : DataW.TrodAll enc Tryd.prog W 0 (fun _ => true) true Tryd.f8.params.toList args.toList ds p := hA0
  rw [Tryd.params8] at hA hval
  obtain ⟨v0, vs0, d0, ds0, p0, q0, hargs, rfl, rfl, h0, r0⟩ := trodAll_cons hA
  obtain ⟨rfl, rfl, rfl⟩ := trodAll_nil r0
  obtain rfl : args = #[v0] := by cases args; simp_all
  obtain ⟨rfl, rfl⟩ := trodVars_none hV
  have k0 := h0
  have lt0 : ∀ x ∈ p0, x.block < W.heap.size := by obtain ⟨m, hm⟩ := k0; exact DataW.trod_lt m _ _ _ hm
  obtain ⟨a0, u0, rfl, w0⟩ := open_head (hval 0 26 v0 rfl rfl) h0
  clear hA0 hval0
  refine (core a0 u0 W w0 (Lib.hid (of_laid hL))).mono fun e W' ⟨he, bel⟩ => ?_
  subst he
  exact ⟨_, rfl, _, _, _, [], _, [], hW', trodAll_mk1 (shut_bool Tryd.underlying4 _), (trodAll_cons_mk (Below.trod laidOut (by kernel_rfl) (of_decide_eq_true (by kernel_rfl)) k0 bel lt0) trodAll_mk0), rfl, bel.frame _, fun h => by cases h⟩
theorem over : Rows.headPartedRow.holds Tryd.pinned (OpenSpec.ofChange Rows.headPartedSpec) :=
  OpenClaim.holds_of_wide 8 Tryd.f8 rfl rfl rfl rfl rfl rfl rfl ⟨rfl, rfl, rfl, rfl, rfl⟩ rfl rfl rfl rfl rfl (by kernel_rfl) Tryd.func8 (by kernel_rfl)
    (of_decide_eq_true (by kernel_rfl)) (by unfold Func.isWrapper; first | (rw [if_pos (by decide +kernel)]; kernel_rfl) | (rw [if_neg (by decide +kernel)]; exact ⟨rfl, rfl⟩))
    (fun os started H enc _ => lifted os started H enc)
theorem proved : Rows.HeadPartedCardSaid :=
  Claim7.holds_tied_plain_at .later [] [.data] true (true, "fa333dfdddc382f694442b4cc08e4f2c22340b87e27345508ae927b0c2bc7496") false
    over (fun _ h => by cases h) (by kernel_rfl) (fun _ h => by cases h) headParted_row_tie rfl ⟨rfl, rfl⟩ (by kernel_rfl) rfl
    (fun f fn hf hfn => by
      obtain rfl : f = 8 := Option.some.inj ((show Tryd.prog.funcNamed "baton/batonlaw09.HeadParted" = some 8 by kernel_rfl).symm.trans hf) |>.symm
      obtain rfl : fn = Tryd.f8 := (Option.some.inj (Tryd.func8.symm.trans hfn)).symm
      exact ⟨by kernel_rfl, fun j t ht => by
        rw [Tryd.params8] at ht
        have hm : t ∈ [26] := by simpa using Array.mem_of_getElem? ht
        have hall : ([26].all fun u => !Tryd.prog.wantsStandIn u) = true := by kernel_rfl
        exact (show Tryd.prog.wantsStandIn t = false by simpa using List.all_eq_true.1 hall t hm)⟩)
    (by kernel_rfl)
end Go.Proofs.YtpcpbdcdapmlnaaDoor.headParted
