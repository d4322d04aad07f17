/- SnappyRuns: for any text and any two numbers the law answers true. No condition. -/
import Derived.Test.YtnnogjojoeajnaaRows
import Derived.Test.YtnnogjojoeajnaaAw
import Derived.WalkKit
import Derived.ProofKit
import Derived.OpenShut
import Derived.ShutString
import Derived.BigQuiet
namespace Go.Proofs.Ytnnogjojoeajnaa.snappyRuns
open Go.ChangeShapes Go.WideShapes Go.ChangeAt Go.RowKit
open Go.ChangeMaps (open_string shut_string)
set_option linter.unusedVariables false
theorem rep_pre : ∀ (n : Nat) (l : List UInt8) (o : Nat), ∃ r, rep l o n = l ++ r ∧ r.length = n
  | 0, l, o => ⟨[], by rw [rep, List.append_nil], rfl⟩
  | n + 1, l, o => by
    obtain ⟨r, h1, h2⟩ := rep_pre n (l ++ [l.getD (l.length - o) 0]) o
    refine ⟨l.getD (l.length - o) 0 :: r, ?_, by rw [List.length_cons, h2]⟩
    rw [rep, h1, List.append_assoc]
    rfl
theorem rep_at : ∀ (n : Nat) (l : List UInt8) (o : Nat), 1 ≤ o → o ≤ l.length → ∀ i, l.length ≤ i → i < l.length + n → (rep l o n)[i]? = (rep l o n)[i - o]?
  | 0, l, o, h1, h2, i, h3, h4 => by omega
  | n + 1, l, o, h1, h2, i, h3, h4 => by
    rw [rep]
    by_cases hi : i = l.length
    · subst hi
      obtain ⟨r, e1, e2⟩ := rep_pre n (l ++ [l.getD (l.length - o) 0]) o
      rw [e1, List.getElem?_append_left (by simp), List.getElem?_append_right (Nat.le_refl _), Nat.sub_self, List.getElem?_append_left (by simp; omega), List.getElem?_append_left (by omega), List.getD_eq_getElem?_getD]
      have : l.length - o < l.length := by omega
      rw [List.getElem?_eq_getElem this]
      rfl
    · refine rep_at n _ o h1 (by simp; omega) i (by simp; omega) (by simp; omega)
/-- The two parts, as memory holds them. -/
def two (s : ByteArray) (o l : Int) : List Pt := [⟨false, s, 0, 0⟩, ⟨true, ⟨#[]⟩, o, l⟩]
theorem two_at (w : World) (s : ByteArray) (o l : Int) (t : TypeId) : PartsAt (w.alloc (.cells #[.bool false, .string s, .int .i64 0, .int .i64 0, .bool true, .string ⟨#[]⟩, .int .i64 o, .int .i64 l] t)) (.slice (some ⟨w.heap.size, 0, none⟩) 2 2) (two s o l) := by
  refine .inr ⟨w.heap.size, 2, rfl, fun j hj => ?_⟩
  have hc : ∀ k, (w.alloc (.cells #[.bool false, .string s, .int .i64 0, .int .i64 0, .bool true, .string ⟨#[]⟩, .int .i64 o, .int .i64 l] t)).cell? ⟨w.heap.size, k, none⟩ = _ := fun k => World.cell?_alloc_mark w _ t (0, 0) k
  rw [hc, hc, hc, hc]
  have hj2 : j < 2 := hj
  match j, hj2, hj with
  | 0, _, _ => exact ⟨rfl, rfl, rfl, rfl⟩
  | 1, _, _ => exact ⟨rfl, rfl, rfl, rfl⟩
theorem expand_lit (s : ByteArray) (hs : s.size ≤ 2000) (h0 : 0 < s.size) (r : List Pt) : expand 65536 (⟨false, s, 0, 0⟩ :: r) [] = expand 65536 r s.data.toList := by
  rw [expand_step (may_lit (by omega) (by omega)) (by simp [here]) (by unfold cnt; dsimp only; rw [if_neg (by simp)]; simp; omega)]
  rfl
theorem expand_bad (s : ByteArray) (o l : Int) (hs : s.size ≤ 2000) (h : s.size = 0 ∨ o < 1 ∨ (s.size : Int) < o ∨ l < 1 ∨ 64 < l) : expand 65536 (two s o l) [] = ([], 4) := by
  have hl : s.data.toList.length = s.size := by simp
  unfold two
  by_cases h0 : s.size = 0
  · have hm : may ⟨false, s, 0, 0⟩ = false := by unfold may; simp only [h0]; rfl
    rw [expand, hm]
    rfl
  · rw [expand_lit s hs (by omega), expand]
    have hm : (!may ⟨true, ⟨#[]⟩, o, l⟩ || !here ⟨true, ⟨#[]⟩, o, l⟩ s.data.toList.length) = true := by
      unfold may here
      rw [hl]
      simp only [if_true, Bool.not_true, Bool.false_or, Bool.or_eq_true, Bool.not_eq_true', Bool.and_eq_false_iff, decide_eq_false_iff_not]
      by_cases hx : 1 ≤ o ∧ o ≤ (s.size : Int)
      · exact .inl (.inr (by omega))
      · exact .inr hx
    rw [hm, if_pos rfl]
theorem expand_good (s : ByteArray) (o n : Nat) (hs : s.size ≤ 2000) (h0 : 0 < s.size) (h1 : 1 ≤ o) (h2 : o ≤ s.size) (h3 : 1 ≤ n) (h4 : n ≤ 64) : expand 65536 (two s o n) [] = (rep s.data.toList o n, 0) := by
  have hl : s.data.toList.length = s.size := by simp
  unfold two
  rw [expand_lit s hs h0]
  show expand 65536 [⟨true, bs [], o, n⟩] _ = _
  rw [expand_step (may_copy h3 h4 h1 (by omega)) (by unfold here; rw [hl]; simp; omega) (by unfold cnt; rw [hl]; simp; omega), expand]
  unfold gro
  simp
set_option maxRecDepth 100000 in
set_option maxHeartbeats 2000000 in
theorem good (s : ByteArray) (O n : Nat) (hs : s.size ≤ 2000) (hsi : ¬ (2000 : Int) < (s.size : Int)) (g0 : 0 < s.size) (g1 : 1 ≤ O) (g2 : O ≤ s.size) (g3 : 1 ≤ n) (g4 : n ≤ 64)
    (HE : ∀ W : World, Hid (Calls Try.prog 17 #[.slice (some ⟨W.heap.size, 0, none⟩) 2 2, .int .i64 65536] (W.alloc (.cells #[.bool false, .string s, .int .i64 0, .int .i64 0, .bool true, .string ⟨#[]⟩, .int .i64 (O : Int), .int .i64 (n : Int)] 35)) (Told (W.alloc (.cells #[.bool false, .string s, .int .i64 0, .int .i64 0, .bool true, .string ⟨#[]⟩, .int .i64 (O : Int), .int .i64 (n : Int)] 35)) (expand 65536 (two s O n) [])))) (w : World) :
    Calls Try.prog 9 #[.string s, .int .i64 (O : Int), .int .i64 (n : Int)] w fun e w' => e = .returned (.bool true) ∧ Below w.heap.size w w' := by
  have hl0 : s.data.toList.length = s.size := by simp
  rw [expand_good s O n (by omega) g0 g1 g2 g3 g4] at HE
  have hls : s.toList.length = s.size := by rw [toList_eq]; exact hl0
  have hf : s.toList.isEmpty = false := by
    rw [Bool.eq_false_iff]
    intro h
    rw [List.isEmpty_iff] at h
    rw [h] at hls
    simp at hls
    omega
  have hRl : (rep s.data.toList O n).length = s.size + n := by rw [rep_length, hl0]
  have hRt : (bs (rep s.data.toList O n)).extract 0 s.size = s := by
    obtain ⟨r, e1, e2⟩ := rep_pre n s.data.toList O
    rw [extract_bs, List.drop_zero, Nat.sub_zero, bs_data, e1, List.take_append_of_le_length (by omega), List.take_of_length_le (by omega)]
    rfl
  have HAT : Hid (∀ (i : Nat) (h1 : i < (bs (rep s.data.toList O n)).size) (h2 : i - O < (bs (rep s.data.toList O n)).size), s.size ≤ i → (bs (rep s.data.toList O n))[i] = (bs (rep s.data.toList O n))[i - O]) := Lib.hid (by
    intro i h1 h2 h3
    have hb1 : (bs (rep s.data.toList O n)).size = (rep s.data.toList O n).length := rfl
    have := rep_at n s.data.toList O g1 (by omega) i (by omega) (by omega)
    rw [List.getElem?_eq_getElem (by omega), List.getElem?_eq_getElem (by omega)] at this
    exact Option.some.inj this)
  have hTs : (bs (rep s.data.toList O n)).size = s.size + n := hRl
  unfold Told at HE
  dsimp only at HE
  generalize bs (rep s.data.toList O n) = T at *
  have HRT := Lib.hid hRt
  clear hRt hRl hls hl0
  have d1 : ¬ (O : Int) < 1 := by omega
  have d2 : ¬ (s.size : Int) < (O : Int) := by omega
  have d3 : ¬ (n : Int) < 1 := by omega
  have d4 : ¬ (64 : Int) < (n : Int) := by omega
  have hTi : (T.size : Int) = (s.size : Int) + (n : Int) := by omega
  go_enter Try.func9, Try.ntmps9
  go_wp2_with fail
  refine (awake_any _).mono ?_
  rintro e w1 ⟨rfl, hb1⟩
  have HB1 := Lib.hid hb1
  clear hb1
  go_wp2_with fail
  refine (HE _).out.mono ?_
  rintro e w2 ⟨rfl, hb2⟩
  have HB2 : Hid (Below w.heap.size w w2) := Lib.hid ((HB1.out.alloc HB1.out.size _).trans (hb2.mono (Nat.le_trans HB1.out.size (by simp))))
  clear hb2
  have hRt := HRT.out
  go_wp2
  clear hRt hTi
  have HTS := Lib.hid hTs
  have hst : s.size ≤ T.size := by omega
  have hT5 : T.size ≤ 5000 := by omega
  clear hTs
  go_loopw [9] (fun i wr => ∃ k : Nat, i = .int .i64 (k : Int) ∧ s.size ≤ k ∧ k ≤ T.size ∧ Hid (Below w.heap.size w wr)) (fun i _ => T.size - (intOf i).toNat)
  case atStart => exact ⟨s.size, rfl, by omega, by omega, HB2⟩
  case round =>
    obtain ⟨k, rfl, hk1, hk2, HB⟩ := hrel
    by_cases hlt : k < T.size
    · obtain ⟨X, hX⟩ : ∃ X, X = k - O := ⟨_, rfl⟩
      have h1 : k < T.size := by omega
      have h2 : X < T.size := by omega
      have h1i : (k : Int) < (T.size : Int) := by omega
      have h2i : (X : Int) < (T.size : Int) := by omega
      have w1 : (k : Int) - (O : Int) = (X : Int) := by omega
      have w2 : IntKind.i64.wrap ((k : Int) - (O : Int)) = (X : Int) := by rw [Bt.wrap_i64]; omega
      have he : T[k] = T[X] := by
        have := HAT.out k h1 (by omega) hk1
        rw [this]
        congr 1
        exact hX.symm
      have HX := Lib.hid hX
      clear hX
      generalize hx : T[k] = x at *
      have hy : T[X] = x := he.symm
      clear he
      have hxx : (x.toNat != x.toNat) = false := by simp
      go_wp2
      go_big_quiet (fail)
      go_wp2
      go_roundw
      case rel => exact ⟨k + 1, by go_num, by omega, by omega, Lib.hid (below_drewN HB.out _)⟩
      case measure => simp [intOf]; omega
    · obtain rfl : k = T.size := by omega
      go_wp2
      go_ret
      exact ⟨rfl, HB.out⟩
set_option maxRecDepth 100000 in
set_option maxHeartbeats 2000000 in
theorem core (s : ByteArray) (o l : Int) (hs : s.size ≤ maxLen) (wo : (Lit.int .i64 o).wf = true) (wl : (Lit.int .i64 l).wf = true) (w : World) :
    Calls Try.prog 9 #[.string s, .int .i64 o, .int .i64 l] w fun e w' => e = .returned (.bool true) ∧ Below w.heap.size w w' := by
  by_cases hb : 2000 < s.size
  · have hsi : (2000 : Int) < (s.size : Int) := by omega
    go_enter Try.func9, Try.ntmps9
    go_wp2_with fail
    refine (awake_any _).mono ?_
    rintro e w1 ⟨rfl, hb1⟩
    have HB1 := Lib.hid hb1
    clear hb1
    go_wp2
    go_ret
    exact ⟨rfl, HB1.out⟩
  · have hl0 : s.data.toList.length = s.size := by simp
    have hsi : ¬ (2000 : Int) < (s.size : Int) := by omega
    obtain ⟨o0, o1⟩ := bounds_i64 wo
    obtain ⟨l0, l1⟩ := bounds_i64 wl
    have hok : ∀ p ∈ two s o l, p.ok := by
      intro p hp
      unfold two at hp
      simp only [List.mem_cons, List.not_mem_nil, or_false] at hp
      rcases hp with rfl | rfl
      · exact ⟨by dsimp only; omega, by dsimp only; omega, by dsimp only; omega, by dsimp only; omega, by dsimp only; omega⟩
      · exact ⟨by show (0 : Nat) ≤ _; omega, o0, o1, l0, l1⟩
    have HE := fun W => Lib.hid (expand_any (two s o l) (by unfold two; simp) hok 65536 (by omega) (by omega) _ _ (two_at W s o l 35))
    clear hok
    have hnil : (bs []).toList.isEmpty = true := by rw [bs_toList]; rfl
    by_cases hbad : s.size = 0 ∨ o < 1 ∨ (s.size : Int) < o ∨ l < 1 ∨ 64 < l
    · have e1 := expand_bad s o l (by omega) hbad
      rw [e1] at HE
      clear e1
      have key : (s.toList.isEmpty = true ∧ s.size = 0) ∨ (s.toList.isEmpty = false ∧ o < 1) ∨ (s.toList.isEmpty = false ∧ ¬ o < 1 ∧ (s.size : Int) < o) ∨ (s.toList.isEmpty = false ∧ ¬ o < 1 ∧ ¬ (s.size : Int) < o ∧ l < 1) ∨ (s.toList.isEmpty = false ∧ ¬ o < 1 ∧ ¬ (s.size : Int) < o ∧ ¬ l < 1 ∧ 64 < l) := by
        have hls : s.toList.length = s.size := by rw [toList_eq]; exact hl0
        by_cases h0 : s.size = 0
        · exact .inl ⟨by rw [List.isEmpty_iff]; exact List.eq_nil_of_length_eq_zero (by omega), h0⟩
        · have hf : s.toList.isEmpty = false := by
            rw [Bool.eq_false_iff]
            intro h
            rw [List.isEmpty_iff] at h
            rw [h] at hls
            simp at hls
            omega
          simp only [hf, true_and]
          omega
      clear hbad
      rcases key with ⟨k0, k1⟩ | ⟨k0, k1⟩ | ⟨k0, k1, k2⟩ | ⟨k0, k1, k2, k3⟩ | ⟨k0, k1, k2, k3, k4⟩
      all_goals
        go_enter Try.func9, Try.ntmps9
        go_wp2_with fail
        refine (awake_any _).mono ?_
        rintro e w1 ⟨rfl, hb1⟩
        have HB1 := Lib.hid hb1
        clear hb1
        go_wp2_with fail
        refine (HE _).out.mono ?_
        rintro e w2 ⟨rfl, hb2⟩
        have HB2 := Lib.hid hb2
        clear hb2
        go_wp2
        go_ret
        exact ⟨rfl, (HB1.out.alloc HB1.out.size _).trans (HB2.out.mono (Nat.le_trans HB1.out.size (by simp)))⟩
    · obtain ⟨O, rfl⟩ := Int.eq_ofNat_of_zero_le (show 0 ≤ o by omega)
      obtain ⟨n, rfl⟩ := Int.eq_ofNat_of_zero_le (show 0 ≤ l by omega)
      exact good s O n (by omega) hsi (by omega) (by omega) (by omega) (by omega) (by omega) HE w
theorem own : ownKnob Try.prog.godebug = none := by kernel_rfl
theorem laidOut : laidOutB Try.prog = true := by kernel_rfl
set_option maxRecDepth 100000 in
theorem lifted (os : Os) (started : os.Started) (H : Type) (enc : TypeId × Value → H) :
    ReturnsInHanded {} Try.checked os 9 .any (Rows.snappyRunsSpec.pre6 enc Try.prog Try.f9 Rows.snappyRunsRow.domain false) (Rows.snappyRunsSpec.post enc Try.prog Try.f9 false true false false) := by
  refine returnsInHanded_of_change (C := Try.checked) own started (by kernel_rfl) Try.func9
    (ChangeSpec.witness6 (enc := enc) (C := Try.checked) false ⟨#[], #[.string ByteArray.empty, .int .i64 0, .int .i64 0], []⟩ 8 (by kernel_rfl) (by kernel_rfl) (by kernel_rfl) (by kernel_rfl)) ?_
  intro W base args ds gs before hval0 hW hcnd _
  have hval : ∀ (j : Nat) t v, Try.f9.params[j]? = some t → args[j]? = some v → Value.okWide Try.prog W .any base t v := hval0
  have hW' := hW
  obtain ⟨p, q, hA0, hV, rfl, hfz, hnd⟩ := hW
  have hA : DataW.TrodAll enc Try.prog W 0 (fun _ => true) true Try.f9.params.toList args.toList ds p := hA0
  rw [Try.params9] at hA hval
  obtain ⟨v0, vs0, d0, ds0, p0, q0, hargs, rfl, rfl, h0, r0⟩ := trodAll_cons hA
  obtain ⟨v1, vs1, d1, ds1, p1, q1, rfl, rfl, rfl, h1, r1⟩ := trodAll_cons r0
  obtain ⟨v2, vs2, d2, ds2, p2, q2, rfl, rfl, rfl, h2, r2⟩ := trodAll_cons r1
  obtain ⟨rfl, rfl, rfl⟩ := trodAll_nil r2
  obtain rfl : args = #[v0, v1, v2] := by cases args; simp_all
  obtain ⟨rfl, rfl⟩ := trodVars_none hV
  have k0 := h0
  have lt0 : ∀ x ∈ p0, x.block < W.heap.size := by obtain ⟨m, hm⟩ := k0; exact DataW.trod_lt m _ _ _ hm
  have k1 := h1
  have lt1 : ∀ x ∈ p1, x.block < W.heap.size := by obtain ⟨m, hm⟩ := k1; exact DataW.trod_lt m _ _ _ hm
  have k2 := h2
  have lt2 : ∀ x ∈ p2, x.block < W.heap.size := by obtain ⟨m, hm⟩ := k2; exact DataW.trod_lt m _ _ _ hm
  obtain ⟨a0, rfl, rfl, rfl, w0⟩ := open_string Try.underlying9 (hval 0 9 v0 rfl rfl) h0
  obtain ⟨a1, rfl, rfl, rfl, w1⟩ := open_int Try.underlying3 (hval 1 3 v1 rfl rfl) h1
  obtain ⟨a2, rfl, rfl, rfl, w2⟩ := open_int Try.underlying3 (hval 2 3 v2 rfl rfl) h2
  clear hA0 hval0
  refine (core a0 a1 a2 w0 w1 w2 W).mono fun e W' ⟨he, bel⟩ => ?_
  subst he
  exact ⟨_, rfl, _, _, _, [], _, [], hW', trodAll_mk1 (shut_bool Try.underlying4 _), (trodAll_cons_mk (Below.trod laidOut (by kernel_rfl) (of_decide_eq_true (by kernel_rfl)) k0 bel lt0) (trodAll_cons_mk (Below.trod laidOut (by kernel_rfl) (of_decide_eq_true (by kernel_rfl)) k1 bel lt1) (trodAll_cons_mk (Below.trod laidOut (by kernel_rfl) (of_decide_eq_true (by kernel_rfl)) k2 bel lt2) trodAll_mk0))), rfl, bel.frame _, fun h => by cases h⟩
theorem over : Rows.snappyRunsRow.holds Try.pinned (OpenSpec.ofChange Rows.snappyRunsSpec) :=
  OpenClaim.holds_of_wide 9 Try.f9 rfl rfl rfl rfl rfl rfl rfl ⟨rfl, rfl, rfl, rfl, rfl⟩ rfl rfl rfl rfl rfl (by kernel_rfl) Try.func9 (by kernel_rfl)
    (of_decide_eq_true (by kernel_rfl)) (by unfold Func.isWrapper; first | (rw [if_pos (by decide +kernel)]; kernel_rfl) | (rw [if_neg (by decide +kernel)]; exact ⟨rfl, rfl⟩))
    (fun os started H enc _ => lifted os started H enc)
theorem proved : Rows.SnappyRunsSaid := over
end Go.Proofs.Ytnnogjojoeajnaa.snappyRuns
