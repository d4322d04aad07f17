/- Same, Uses, Free; New. -/
import Derived.Test.YtpcpbdcdapmlnaaDoorHn
namespace Go.Proofs.YtpcpbdcdapmlnaaDoor
open Go Go.RowKit
set_option maxRecDepth 100000
theorem drop_eq_cons (l m : List Int) (k : Nat) (h1 : k < l.length) (h2 : k < m.length) : decide (l.drop k = m.drop k) = (decide (l[k] = m[k]) && decide (l.drop (k + 1) = m.drop (k + 1))) := by
  have h : (l.drop k = m.drop k) ↔ (l[k] = m[k] ∧ l.drop (k + 1) = m.drop (k + 1)) := by rw [List.drop_eq_getElem_cons h1, List.drop_eq_getElem_cons h2, List.cons.injEq]
  rw [decide_eq_decide.2 h, Bool.decide_and]
set_option maxHeartbeats 1000000 in
theorem equal_any (l m : List Int) (u v : Value) (w : World) (hu : KAt w u l) (hv : KAt w v m) (hl : l.length ≤ 9223372036854775807) (hm : m.length ≤ 9223372036854775807) : Calls Tryd.prog 58 #[u, v] w (Ret w (.bool (decide (l = m)))) := by
  by_cases hlen : l.length = m.length
  · obtain ⟨a, c, rfl⟩ := hu.slice
    obtain ⟨a2, c2, rfl⟩ := hv.slice
    have hne : ((l.length : Int) != (m.length : Int)) = false := by rw [bne_eq_false_iff_eq]; omega
    have HU := Lib.hid hu
    have HV := Lib.hid hv
    clear hu hv
    go_enter Tryd.func58, Tryd.ntmps58
    go_wp2
    go_loopw [13] (fun i wl => ∃ k : Nat, i = .int .i64 (k : Int) ∧ k ≤ l.length ∧ Hid (Below w.heap.size w wl) ∧ Hid (decide (l.drop k = m.drop k) = decide (l = m))) (fun i _ => l.length - (intOf i).toNat)
    case atStart => exact ⟨0, rfl, by omega, Lib.hid (Below.refl _ _), Lib.hid rfl⟩
    case round =>
      obtain ⟨k, rfl, hk, HB, HE⟩ := hrel
      by_cases hlt : k < l.length
      · have hlt2 : k < m.length := by omega
        have hd := drop_eq_cons l m k hlt hlt2
        rw [HE.out] at hd
        have K1 := HU.out.below HB.out (Nat.le_refl _)
        have K2 := HV.out.below HB.out (Nat.le_refl _)
        obtain ⟨g, o, c', e1, hc⟩ := K1.pos (fun e => by rw [e] at hlt; simp at hlt)
        obtain ⟨g2, o2, c2', e2, hc2⟩ := K2.pos (fun e => by rw [e] at hlt2; simp at hlt2)
        cases e1
        cases e2
        have p1 := K1.at k hlt
        have p2 := K2.at k hlt2
        have HD := Lib.hid hd
        clear hd K1 K2
        generalize l[k] = x at *
        generalize m[k] = y at *
        by_cases hxy : x = y
        · have hb : (x != y) = false := by rw [bne_eq_false_iff_eq]; exact hxy
          have HD2 : Hid (decide (l.drop (k + 1) = m.drop (k + 1)) = decide (l = m)) := Lib.hid (by rw [HD.out, decide_eq_true hxy]; rfl)
          clear hxy
          go_wp2
          go_quiet (fail)
          rename_i nq
          go_wp2
          go_roundw
          case rel => exact ⟨k + 1, by go_num, by omega, Lib.hid (below_drewN HB.out _), HD2⟩
          case measure => simp [intOf]; omega
        · have hb : (x != y) = true := by rw [bne_iff_ne]; exact hxy
          have HD2 : Hid (decide (l = m) = false) := Lib.hid (by rw [HD.out, decide_eq_false hxy]; rfl)
          clear hxy
          go_wp2
          go_quiet (fail)
          go_wp2
          go_ret
          exact ⟨by rw [HD2.out]; rfl, below_drewN HB.out _⟩
      · have he : decide (l = m) = true := by rw [← HE.out, List.drop_of_length_le (by omega), List.drop_of_length_le (by omega)]; rfl
        have HD2 := Lib.hid he
        clear he
        go_wp2
        go_ret
        exact ⟨by rw [HD2.out]; rfl, HB.out⟩
  · obtain ⟨a, c, rfl⟩ := hu.slice
    obtain ⟨a2, c2, rfl⟩ := hv.slice
    have hne : ((l.length : Int) != (m.length : Int)) = true := by rw [bne_iff_ne]; omega
    have HE := Lib.hid (decide_eq_false (show ¬ l = m from fun e => hlen (by rw [e])))
    clear hu hv
    go_enter Tryd.func58, Tryd.ntmps58
    go_wp2
    go_ret
    exact ⟨by rw [HE.out]; rfl, Below.refl _ _⟩
set_option maxHeartbeats 1000000 in
theorem index_any' (l : List Int) (t : Int) (v : Value) (w : World) (hv : KAt w v l) (hl : l.length ≤ 9223372036854775807) : Calls Tryd.prog 79 #[v, .int .i64 t] w fun e w' => ∃ n : Int, e = .returned (.int .i64 n) ∧ (decide (0 ≤ n) = decide (t ∈ l)) ∧ w = w' := by
  obtain ⟨a, c, rfl⟩ := hv.slice
  have HV := Lib.hid hv
  clear hv
  go_enter Tryd.func79, Tryd.ntmps79
  go_wp2
  go_loopw [8] (fun i wl => ∃ k : Nat, i = .int .i64 (k : Int) ∧ k ≤ l.length ∧ wl = w ∧ Hid (decide (t ∈ l.drop k) = decide (t ∈ l))) (fun i _ => l.length - (intOf i).toNat)
  case atStart => exact ⟨0, rfl, by omega, rfl, Lib.hid rfl⟩
  case round =>
    obtain ⟨k, rfl, hk, rfl, HE⟩ := hrel
    by_cases hlt : k < l.length
    · obtain ⟨g, o, c', e1, hc⟩ := HV.out.pos (fun e => by rw [e] at hlt; simp at hlt)
      cases e1
      have p1 := HV.out.at k hlt
      have hd : decide (t ∈ l.drop k) = (decide (t = l[k]) || decide (t ∈ l.drop (k + 1))) := by
        have h : t ∈ l.drop k ↔ (t = l[k] ∨ t ∈ l.drop (k + 1)) := by rw [List.drop_eq_getElem_cons hlt]; exact List.mem_cons
        rw [decide_eq_decide.2 h, Bool.decide_or]
      rw [HE.out] at hd
      have HD := Lib.hid hd
      clear hd
      generalize l[k] = x at *
      by_cases hxy : t = x
      · have hb : (t == x) = true := by rw [beq_iff_eq]; exact hxy
        have HD2 : Hid (decide (t ∈ l) = true) := Lib.hid (by rw [HD.out, decide_eq_true hxy]; rfl)
        clear hxy
        go_wp2
        go_ret
        exact ⟨k, rfl, by rw [HD2.out]; simp, by first | rfl | trivial⟩
      · have hb : (t == x) = false := by rw [beq_eq_false_iff_ne]; exact hxy
        have HD2 : Hid (decide (t ∈ l.drop (k + 1)) = decide (t ∈ l)) := Lib.hid (by rw [HD.out, decide_eq_false hxy]; rfl)
        clear hxy
        go_wp2
        go_roundw
        case rel => exact ⟨k + 1, by go_num, by omega, by first | rfl | trivial, HD2⟩
        case measure => simp [intOf]; omega
    · have he : decide (t ∈ l) = false := by rw [← HE.out, List.drop_of_length_le (by omega)]; simp
      have HD2 := Lib.hid he
      clear he
      go_wp2
      go_ret
      exact ⟨-1, rfl, by rw [HD2.out]; rfl, by first | rfl | trivial⟩
end Go.Proofs.YtpcpbdcdapmlnaaDoor
namespace Go.Proofs.YtpcpbdcdapmlnaaDoor
open Go Go.RowKit
set_option maxRecDepth 100000
set_option maxHeartbeats 400000 in
theorem contains_any (l : List Int) (t : Int) (v : Value) (w : World) (hv : KAt w v l) (hl : l.length ≤ 9223372036854775807) : Calls Tryd.prog 56 #[v, .int .i64 t] w fun e w' => e = .returned (.bool (decide (t ∈ l))) ∧ w = w' := by
  have H := Lib.hid (index_any' l t v w hv hl)
  clear hv
  go_enter Tryd.func56, Tryd.ntmps56
  go_wp2_with fail
  refine H.out.mono ?_
  rintro e w1 ⟨n, rfl, hn, rfl⟩
  have HN := Lib.hid hn
  clear hn
  go_wp2
  go_ret
  exact ⟨by rw [← HN.out]; rfl, by first | rfl | trivial⟩
def sameB (x y : He) : Bool := decide (x.gen = y.gen) && (decide (x.base = y.base) && (decide (x.snap = y.snap) && decide (x.log = y.log)))
theorem beq_dec (a b : Int) : (a == b) = decide (a = b) := by by_cases h : a = b <;> simp [h]
set_option maxHeartbeats 1000000 in
theorem same_any' (x y : He) (u v : Value) (w : World) (hu : KAt w u x.log) (hv : KAt w v y.log) (hl : x.log.length ≤ 9223372036854775807) (hm : y.log.length ≤ 9223372036854775807) : Calls Tryd.prog 24 #[hval x u, hval y v] w (Ret w (.bool (sameB x y))) := by
  have HA : Hid (Below w.heap.size w ((w.alloc (.cells #[.int .i64 x.gen, .int .i64 x.base, .int .i64 x.snap, u] 26)).alloc (.cells #[.int .i64 y.gen, .int .i64 y.base, .int .i64 y.snap, v] 26))) := Lib.hid (below_two _ _ _)
  have HE := Lib.hid (equal_any x.log y.log u v _ (hu.below HA.out (Nat.le_refl _)) (hv.below HA.out (Nat.le_refl _)) hl hm)
  have HB : Hid (sameB x y = (decide (x.gen = y.gen) && (decide (x.base = y.base) && (decide (x.snap = y.snap) && decide (x.log = y.log))))) := Lib.hid rfl
  clear hu hv hl hm
  unfold hval
  generalize sameB x y = R at *
  generalize decide (x.log = y.log) = L at *
  by_cases h1 : x.gen = y.gen
  · have e1 : (x.gen == y.gen) = true := by rw [beq_iff_eq]; exact h1
    rw [decide_eq_true h1] at HB
    by_cases h2 : x.base = y.base
    · have e2 : (x.base == y.base) = true := by rw [beq_iff_eq]; exact h2
      rw [decide_eq_true h2] at HB
      by_cases h3 : x.snap = y.snap
      · have e3 : (x.snap == y.snap) = true := by rw [beq_iff_eq]; exact h3
        rw [decide_eq_true h3] at HB
        clear h1 h2 h3
        go_enter Tryd.func24, Tryd.ntmps24
        go_wp2_with fail
        refine HE.out.mono ?_
        rintro e w1 ⟨rfl, hb⟩
        have HB1 := Lib.hid (HA.out.trans (hb.mono HA.out.size))
        clear hb
        go_wp2
        go_ret
        exact ⟨by rw [HB.out]; rfl, HB1.out⟩
      · have e3 : (x.snap == y.snap) = false := by rw [beq_eq_false_iff_ne]; exact h3
        rw [decide_eq_false h3] at HB
        clear h1 h2 h3 HE
        go_enter Tryd.func24, Tryd.ntmps24
        go_wp2
        go_ret
        exact ⟨by rw [HB.out]; rfl, HA.out⟩
    · have e2 : (x.base == y.base) = false := by rw [beq_eq_false_iff_ne]; exact h2
      rw [decide_eq_false h2] at HB
      clear h1 h2 HE
      go_enter Tryd.func24, Tryd.ntmps24
      go_wp2
      go_ret
      exact ⟨by rw [HB.out]; rfl, HA.out⟩
  · have e1 : (x.gen == y.gen) = false := by rw [beq_eq_false_iff_ne]; exact h1
    rw [decide_eq_false h1] at HB
    clear h1 HE
    go_enter Tryd.func24, Tryd.ntmps24
    go_wp2
    go_ret
    exact ⟨by rw [HB.out]; rfl, HA.out⟩
def usB (h : He) (t : Int) : Bool := (decide (h.snap ≠ 0) && decide (h.snap = t)) || decide (t ∈ h.log)
set_option maxHeartbeats 1000000 in
theorem uses_any (h : He) (t : Int) (v : Value) (w : World) (hv : KAt w v h.log) (hl : h.log.length ≤ 9223372036854775807) : Calls Tryd.prog 19 #[hval h v, .int .i64 t] w (Ret w (.bool (usB h t))) := by
  have HA : Hid (Below w.heap.size w (w.alloc (.cells #[.int .i64 h.gen, .int .i64 h.base, .int .i64 h.snap, v] 26))) := Lib.hid (below_one _ _)
  have HE := Lib.hid (contains_any h.log t v _ (hv.below HA.out (Nat.le_refl _)) hl)
  have HB : Hid (usB h t = ((decide (h.snap ≠ 0) && decide (h.snap = t)) || decide (t ∈ h.log))) := Lib.hid rfl
  clear hv hl
  unfold hval
  generalize usB h t = R at *
  generalize decide (t ∈ h.log) = L at *
  by_cases h0 : h.snap = 0
  · have e1 : (h.snap != 0) = false := by rw [bne_eq_false_iff_eq]; exact h0
    rw [decide_eq_false (show ¬ h.snap ≠ 0 from fun e => e h0)] at HB
    clear h0
    go_enter Tryd.func19, Tryd.ntmps19
    go_wp2_with fail
    refine HE.out.mono ?_
    rintro e w1 ⟨rfl, rfl⟩
    go_wp2
    go_ret
    exact ⟨by rw [HB.out]; rfl, HA.out⟩
  · have e1 : (h.snap != 0) = true := by rw [bne_iff_ne]; exact h0
    rw [decide_eq_true (show h.snap ≠ 0 from h0)] at HB
    by_cases h1 : h.snap = t
    · have e2 : (h.snap == t) = true := by rw [beq_iff_eq]; exact h1
      rw [decide_eq_true h1] at HB
      clear h0 h1 HE
      go_enter Tryd.func19, Tryd.ntmps19
      go_wp2
      go_ret
      exact ⟨by rw [HB.out]; rfl, HA.out⟩
    · have e2 : (h.snap == t) = false := by rw [beq_eq_false_iff_ne]; exact h1
      rw [decide_eq_false h1] at HB
      clear h0 h1
      go_enter Tryd.func19, Tryd.ntmps19
      go_wp2_with fail
      refine HE.out.mono ?_
      rintro e w1 ⟨rfl, rfl⟩
      go_wp2
      go_ret
      exact ⟨by rw [HB.out]; rfl, HA.out⟩
/-- The free tapes below n. -/
def frL (h : He) : Nat → List Int
  | 0 => []
  | n + 1 => if 2 ≤ n ∧ usB h (n : Int) = false then frL h n ++ [(n : Int)] else frL h n
theorem frL_len (h : He) : ∀ n, (frL h n).length ≤ n
  | 0 => Nat.le_refl _
  | n + 1 => by
    have := frL_len h n
    unfold frL
    split
    · rw [List.length_append]; simp only [List.length_cons, List.length_nil]; omega
    · omega
/-- What is told in new memory: a row of numbers. -/
def NRet (w : World) (l : List Int) (e : Ending) (w' : World) : Prop := ∃ v, e = .returned v ∧ Own w' w.heap.size v (l.map iv) ∧ Below w.heap.size w w'
set_option maxHeartbeats 2000000 in
theorem free_any (h : He) (v : Value) (w : World) (hv : KAt w v h.log) (hl : h.log.length ≤ 9223372036854775807) : Calls Tryd.prog 20 #[hval h v] w (NRet w (frL h 32)) := by
  have HU := Lib.hid (fun t W (hW : Below w.heap.size w W) => uses_any h t v W (hv.below hW (Nat.le_refl _)) hl)
  have X0 := Lib.hid (Box4.new w (.int .i64 h.gen) (.int .i64 h.base) (.int .i64 h.snap) v)
  have HFL := Lib.hid (frL_len h)
  clear hv hl
  obtain ⟨i0, hi, hz0, hz1, hz2⟩ := info_parts Tryd.info3
  unfold hval at *
  go_enter Tryd.func20, Tryd.ntmps20
  go_wp2
  go_loopw [3, 4] (fun u i wl => ∃ k : Nat, i = .int .i64 (k : Int) ∧ 2 ≤ k ∧ k ≤ 32 ∧ Hid (Box4 wl w.heap.size (.int .i64 h.gen) (.int .i64 h.base) (.int .i64 h.snap) v) ∧ Hid (Below w.heap.size w wl) ∧ Hid (Own wl (w.heap.size + 1) u ((frL h k).map iv)) ∧ Hid (w.heap.size + 1 ≤ wl.heap.size)) (fun _ i _ => 32 - (intOf i).toNat)
  case atStart => exact ⟨2, rfl, by omega, by omega, X0, Lib.hid (below_one w _), Lib.hid (Own.nil _ _), Lib.hid (by simp)⟩
  case round =>
    obtain ⟨k, rfl, hk2, hk, HX, HB, HO, HZ⟩ := hrel
    by_cases hlt : k < 32
    · have q0 := HX.out.c0; have q1 := HX.out.c1; have q2 := HX.out.c2; have q3 := HX.out.c3
      have HF : Hid (frL h (k + 1) = if 2 ≤ k ∧ usB h (k : Int) = false then frL h k ++ [(k : Int)] else frL h k) := Lib.hid rfl
      have hlen := HFL.out k
      have HC := Lib.hid (HU.out (k : Int) wr HB.out)
      cases hu : usB h (k : Int)
      · rw [hu] at HC
        have HF2 : Hid (frL h (k + 1) = frL h k ++ [(k : Int)]) := Lib.hid (by rw [HF.out, if_pos ⟨hk2, hu⟩])
        clear HF hu
        have hll : ((frL h k).map iv).length ≤ 32 := by rw [List.length_map]; omega
        clear hlen
        go_wp2_with fail
        refine HC.out.mono ?_
        rintro e w1 ⟨rfl, hb⟩
        have HX1 := Lib.hid (HX.out.below hb HX.out.lt)
        have HB1 := Lib.hid (below_trans' HB.out hb)
        have HO1 := Lib.hid (HO.out.belowAll hb)
        have HZ1 := Lib.hid (Nat.le_trans HZ.out hb.size)
        clear hb q0 q1 q2 q3 HX HB HO HZ
        go_wp2_with (at_builtin; refine wpList_append_Own _ rfl (.tmp 13) (.tmp 15) 24 24 rfl (w.heap.size + 1) 3 i0 (.int .i64 0) 8 Tryd.underlying24 hi hz0 hz1 hz2 rfl _ ((frL h k).map iv) rfl (HO1.out.alloc _) _ 1 [iv (k : Int)] rfl (Src.one w1 Tryd.underlying24 _ _ rfl) ?c1 ?c2 ?c3 ?_; rotate_right; intro v' w2 hown1 hgr hwh; have HO2 := Lib.hid hown1; have HG := Lib.hid hgr; have HH := Lib.hid hwh; clear hown1 hgr hwh)
        case c1 => omega
        case c2 => omega
        case c3 => exact Nat.le_trans HZ1.out (by simp)
        have HX2 := Lib.hid ((HX1.out.alloc _).kept HG.out (fun e => by have := (HO1.out.lt _ e.symm).1; omega))
        have HB2 := Lib.hid ((HB1.out.alloc HB1.out.size _).grown HG.out (Nat.le_trans (Nat.le_of_succ_le HZ1.out) (by simp)) (fun q hq => by have := (HO1.out.lt q hq).1; omega))
        have HZ2 := Lib.hid (Nat.le_trans HZ1.out (Nat.le_trans (by simp) HG.out.size))
        go_wp2
        go_roundw
        case rel => exact ⟨k + 1, by go_num, by omega, by omega, HX2, HB2, Lib.hid (by rw [HF2.out, List.map_append]; exact HO2.out), HZ2⟩
        case measure => simp [intOf]; omega
      · rw [hu] at HC
        have HF2 : Hid (frL h (k + 1) = frL h k) := Lib.hid (by rw [HF.out, if_neg (by simp [hu])])
        clear HF hu
        go_wp2_with fail
        refine HC.out.mono ?_
        rintro e w1 ⟨rfl, hb⟩
        have HX1 := Lib.hid (HX.out.below hb HX.out.lt)
        have HB1 := Lib.hid (below_trans' HB.out hb)
        have HO1 := Lib.hid (HO.out.belowAll hb)
        have HZ1 := Lib.hid (Nat.le_trans HZ.out hb.size)
        clear hb q0 q1 q2 q3 HX HB HO HZ
        go_wp2
        go_roundw
        case rel => exact ⟨k + 1, by go_num, by omega, by omega, HX1, HB1, Lib.hid (by rw [HF2.out]; exact HO1.out), HZ1⟩
        case measure => simp [intOf]; omega
    · obtain rfl : k = 32 := by omega
      go_wp2
      go_ret
      exact ⟨_, rfl, HO.out.mono (Nat.le_succ _), HB.out⟩
end Go.Proofs.YtpcpbdcdapmlnaaDoor
