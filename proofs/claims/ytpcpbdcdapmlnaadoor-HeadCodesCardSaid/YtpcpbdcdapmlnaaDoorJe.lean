/- The document's Same, Free. -/
import Derived.Test.YtpcpbdcdapmlnaaDoorJd
namespace Go.Proofs.YtpcpbdcdapmlnaaDoor
open Go Go.RowKit BigFrame
set_option maxRecDepth 100000
set_option maxHeartbeats 1000000 in
theorem rsame_in (g b s : Int) (l m : List Int) (u v : Value) (w : World) (hu : KAt w u l) (hv : KAt w v m) (hl : l.length ≤ 9223372036854775807) (hlm : l.length = m.length) : Calls Tryd.prog 25 #[hval ⟨g, b, s, l⟩ u, hval ⟨g, b, s, m⟩ v] w (Ret w (.bool (decide (l = m)))) := by
  obtain ⟨a1, c1, rfl⟩ := hu.slice
  obtain ⟨a2, c2, rfl⟩ := hv.slice
  have HU := Lib.hid hu
  have HVV := Lib.hid hv
  clear hu hv
  have HN := Lib.hid (fun (k : Nat) (h1 : k < l.length) (h2 : k < m.length) (e : l[k] = m[k]) (et : l.take k = m.take k) => show l.take (k + 1) = m.take (k + 1) from by
    rw [List.take_succ_eq_append_getElem h1, List.take_succ_eq_append_getElem h2, e, et])
  have HNE := Lib.hid (fun (k : Nat) (h1 : k < l.length) (h2 : k < m.length) (e : ¬ l[k] = m[k]) => show decide (l = m) = false from decide_eq_false (fun eq => e (by subst eq; rfl)))
  have HEQ := Lib.hid (fun (k : Nat) (h1 : k = l.length) (et : l.take k = m.take k) => show decide (l = m) = true from decide_eq_true (by
    rw [List.take_of_length_le (by omega), List.take_of_length_le (by omega)] at et; exact et))
  have HB0 : Hid (Below w.heap.size w ((w.alloc (.cells #[.int .i64 g, .int .i64 b, .int .i64 s, .slice a1 l.length c1] 26)).alloc (.cells #[.int .i64 g, .int .i64 b, .int .i64 s, .slice a2 m.length c2] 26))) := Lib.hid (below_two _ _ _)
  have X0 : Hid (Box4 ((w.alloc (.cells #[.int .i64 g, .int .i64 b, .int .i64 s, .slice a1 l.length c1] 26)).alloc (.cells #[.int .i64 g, .int .i64 b, .int .i64 s, .slice a2 m.length c2] 26)) w.heap.size (.int .i64 g) (.int .i64 b) (.int .i64 s) (.slice a1 l.length c1)) := Lib.hid ((Box4.new w _ _ _ _).alloc _)
  have Y0 : Hid (Box4 ((w.alloc (.cells #[.int .i64 g, .int .i64 b, .int .i64 s, .slice a1 l.length c1] 26)).alloc (.cells #[.int .i64 g, .int .i64 b, .int .i64 s, .slice a2 m.length c2] 26)) (w.heap.size + 1) (.int .i64 g) (.int .i64 b) (.int .i64 s) (.slice a2 m.length c2)) := Lib.hid (by
    have := Box4.new (w.alloc (.cells #[.int .i64 g, .int .i64 b, .int .i64 s, .slice a1 l.length c1] 26)) (.int .i64 g) (.int .i64 b) (.int .i64 s) (.slice a2 m.length c2)
    rw [World.size_alloc] at this; exact this)
  unfold hval
  dsimp only
  obtain ⟨N, hN⟩ : ∃ N, N = l.length := ⟨_, rfl⟩
  have HNl := Lib.hid hN
  have HNm := Lib.hid (hN.trans hlm)
  rw [← hlm] at HB0 X0 Y0 HVV ⊢
  rw [← hN] at HB0 X0 Y0 HVV ⊢
  rw [← hN] at HU hl
  clear hN hlm
  generalize decide (l = m) = D at *
  have eg : (g != g) = false := by simp
  have eb : (b != b) = false := by simp
  have es : (s != s) = false := by simp
  have el : ((N : Int) != (N : Int)) = false := by simp
  go_enter Tryd.func25, Tryd.ntmps25
  go_wp2
  go_loopw [5] (fun i wl => ∃ k : Nat, i = .int .i64 (k : Int) ∧ k ≤ N ∧ Hid (l.take k = m.take k) ∧ Hid (Box4 wl w.heap.size (.int .i64 g) (.int .i64 b) (.int .i64 s) (.slice a1 N c1)) ∧ Hid (Box4 wl (w.heap.size + 1) (.int .i64 g) (.int .i64 b) (.int .i64 s) (.slice a2 N c2)) ∧ Hid (Below w.heap.size w wl)) (fun i _ => N - (intOf i).toNat)
  case atStart => exact ⟨0, rfl, by omega, Lib.hid (by simp), X0, Y0, HB0⟩
  case round =>
    obtain ⟨k, rfl, hk, HT, HX, HY, HB⟩ := hrel
    have q3 := HX.out.c3
    have p3 := HY.out.c3
    by_cases hltN : k < N
    · have hlt : k < l.length := by rw [← HNl.out]; exact hltN
      have hlt2 : k < m.length := by rw [← HNm.out]; exact hltN
      obtain ⟨G, o, c', ee, hc⟩ := HU.out.pos (fun e => by rw [e] at hlt; exact absurd hlt (by simp))
      injection ee with ea en ec
      clear en
      subst ea ec
      obtain ⟨G2, o2, c2', ee, hc2⟩ := HVV.out.pos (fun e => by rw [e] at hlt2; exact absurd hlt2 (by simp))
      injection ee with ea en ec
      clear en
      subst ea ec
      have hx := (HU.out.below HB.out (Nat.le_refl _)).at k hlt
      have hy := ((show KAt w (.slice (some ⟨G2, o2, none⟩) N c2) m from HVV.out).below HB.out (Nat.le_refl _)).at k hlt2
      have HN1 := Lib.hid (HN.out k hlt hlt2)
      have HNE1 := Lib.hid (HNE.out k hlt hlt2)
      have hkc : k < c1 := by have := HNl.out; omega
      have hkc2 : k < c2 := by have := HNm.out; omega
      have hdw := Lib.hid (fun nq => below_drewN (Below.refl wr.heap.size wr) nq)
      generalize l[k] = x at *
      generalize m[k] = y at *
      clear hlt hlt2 hc hc2
      by_cases hxy : x = y
      · have e4 : (x != y) = false := by rw [bne_eq_false_iff_eq]; exact hxy
        have HT2 := Lib.hid (HN1.out hxy HT.out)
        have HX4 := Lib.hid (fun nq => HX.out.below (hdw.out nq) HX.out.lt)
        have HY4 := Lib.hid (fun nq => HY.out.below (hdw.out nq) HY.out.lt)
        clear hxy
        go_wp2
        go_big_quiet (fail)
        go_wp2
        go_roundw
        case rel => exact ⟨k + 1, by go_num, by omega, HT2, Lib.hid (HX4.out _), Lib.hid (HY4.out _), Lib.hid (below_drewN HB.out _)⟩
        case measure => simp [intOf]; omega
      · have e4 : (x != y) = true := by rw [bne_iff_ne]; exact hxy
        have HD : Hid (D = false) := Lib.hid (HNE1.out hxy)
        clear hxy
        go_wp2
        go_big_quiet (fail)
        go_wp2
        go_ret
        exact ⟨by rw [HD.out]; rfl, below_drewN HB.out _⟩
    · have HD : Hid (D = true) := Lib.hid (HEQ.out k (by have := HNl.out; omega) HT.out)
      go_wp2
      go_ret
      exact ⟨by rw [HD.out]; rfl, HB.out⟩
set_option maxHeartbeats 1000000 in
theorem rsame_any (x y : He) (u v : Value) (w : World) (hu : KAt w u x.log) (hv : KAt w v y.log) (hl : x.log.length ≤ 9223372036854775807) (hm : y.log.length ≤ 9223372036854775807) : Calls Tryd.prog 25 #[hval x u, hval y v] w (Ret w (.bool (sameB x y))) := by
  obtain ⟨g, b, s, l⟩ := x
  obtain ⟨g', b', s', m⟩ := y
  dsimp only at *
  by_cases h1 : g = g'
  · by_cases h2 : b = b'
    · by_cases h3 : s = s'
      · by_cases h4 : l.length = m.length
        · subst h1 h2 h3
          have := rsame_in g b s l m u v w hu hv hl h4
          have e : sameB ⟨g, b, s, l⟩ ⟨g, b, s, m⟩ = decide (l = m) := by unfold sameB; simp
          rw [e]; exact this
        · have e : sameB ⟨g, b, s, l⟩ ⟨g', b', s', m⟩ = false := by
            unfold sameB
            dsimp only
            rw [decide_eq_false (fun e => h4 (by rw [e]) : ¬ l = m)]; simp
          rw [e]
          obtain ⟨a1, c1, rfl⟩ := hu.slice
          obtain ⟨a2, c2, rfl⟩ := hv.slice
          subst h1 h2 h3
          have eg : (g != g) = false := by simp
          have eb : (b != b) = false := by simp
          have es : (s != s) = false := by simp
          have el : ((l.length : Int) != (m.length : Int)) = true := by rw [bne_iff_ne]; omega
          unfold hval
          dsimp only
          clear hu hv e h4
          go_enter Tryd.func25, Tryd.ntmps25
          go_wp2
          go_ret
          exact ⟨rfl, below_two _ _ _⟩
      · have e : sameB ⟨g, b, s, l⟩ ⟨g', b', s', m⟩ = false := by
          unfold sameB
          dsimp only
          rw [decide_eq_false h3]; simp
        rw [e]
        subst h1 h2
        have eg : (g != g) = false := by simp
        have eb : (b != b) = false := by simp
        have es : (s != s') = true := by rw [bne_iff_ne]; exact h3
        unfold hval
        dsimp only
        clear hu hv e h3
        go_enter Tryd.func25, Tryd.ntmps25
        go_wp2
        go_ret
        exact ⟨rfl, below_two _ _ _⟩
    · have e : sameB ⟨g, b, s, l⟩ ⟨g', b', s', m⟩ = false := by
        unfold sameB
        dsimp only
        rw [decide_eq_false h2]; simp
      rw [e]
      subst h1
      have eg : (g != g) = false := by simp
      have eb : (b != b') = true := by rw [bne_iff_ne]; exact h2
      unfold hval
      dsimp only
      clear hu hv e h2
      go_enter Tryd.func25, Tryd.ntmps25
      go_wp2
      go_ret
      exact ⟨rfl, below_two _ _ _⟩
  · have e : sameB ⟨g, b, s, l⟩ ⟨g', b', s', m⟩ = false := by
      unfold sameB
      dsimp only
      rw [decide_eq_false h1]; simp
    rw [e]
    have eg : (g != g') = true := by rw [bne_iff_ne]; exact h1
    unfold hval
    dsimp only
    clear hu hv e h1
    go_enter Tryd.func25, Tryd.ntmps25
    go_wp2
    go_ret
    exact ⟨rfl, below_two _ _ _⟩
set_option maxHeartbeats 2000000 in
theorem rfree_any (h : He) (v : Value) (w : World) (hv : KAt w v h.log) (hl : h.log.length ≤ 9223372036854775807) : Calls Tryd.prog 30 #[hval h v] w (NRet w (frL h 32)) := by
  have HU := Lib.hid (fun t W (hW : Below w.heap.size w W) => ruses_any h t v W (hv.below hW (Nat.le_refl _)) hl)
  have X0 := Lib.hid (Box4.new w (.int .i64 h.gen) (.int .i64 h.base) (.int .i64 h.snap) v)
  have HFL := Lib.hid (frL_len h)
  clear hv hl
  obtain ⟨i0, hi, hz0, hz1, hz2⟩ := info_parts Tryd.info3
  unfold hval at *
  go_enter Tryd.func30, Tryd.ntmps30
  go_wp2
  go_loopw [3, 4] (fun u i wl => ∃ k : Nat, i = .int .i64 (k : Int) ∧ 2 ≤ k ∧ k ≤ 32 ∧ Hid (Box4 wl w.heap.size (.int .i64 h.gen) (.int .i64 h.base) (.int .i64 h.snap) v) ∧ Hid (Below w.heap.size w wl) ∧ Hid (Own wl (w.heap.size + 1) u ((frL h k).map iv)) ∧ Hid (w.heap.size + 1 ≤ wl.heap.size)) (fun _ i _ => 32 - (intOf i).toNat)
  case atStart => exact ⟨2, rfl, by omega, by omega, X0, Lib.hid (below_one w _), Lib.hid (Own.nil _ _), Lib.hid (by simp)⟩
  case round =>
    obtain ⟨k, rfl, hk2, hk, HX, HB, HO, HZ⟩ := hrel
    by_cases hlt : k < 32
    · have q0 := HX.out.c0; have q1 := HX.out.c1; have q2 := HX.out.c2; have q3 := HX.out.c3
      have HF : Hid (frL h (k + 1) = if 2 ≤ k ∧ usB h (k : Int) = false then frL h k ++ [(k : Int)] else frL h k) := Lib.hid rfl
      have hlen := HFL.out k
      have HC := Lib.hid (HU.out (k : Int) wr HB.out)
      cases hu : usB h (k : Int)
      · rw [hu] at HC
        have HF2 : Hid (frL h (k + 1) = frL h k ++ [(k : Int)]) := Lib.hid (by rw [HF.out, if_pos ⟨hk2, hu⟩])
        clear HF hu
        have hll : ((frL h k).map iv).length ≤ 32 := by rw [List.length_map]; omega
        clear hlen
        go_wp2_with fail
        refine HC.out.mono ?_
        rintro e w1 ⟨rfl, hb⟩
        have HX1 := Lib.hid (HX.out.below hb HX.out.lt)
        have HB1 := Lib.hid (below_trans' HB.out hb)
        have HO1 := Lib.hid (HO.out.belowAll hb)
        have HZ1 := Lib.hid (Nat.le_trans HZ.out hb.size)
        clear hb q0 q1 q2 q3 HX HB HO HZ
        go_wp2_with (at_builtin; refine wpList_append_Own _ rfl (.tmp 13) (.tmp 15) 24 24 rfl (w.heap.size + 1) 3 i0 (.int .i64 0) 8 Tryd.underlying24 hi hz0 hz1 hz2 rfl _ ((frL h k).map iv) rfl (HO1.out.alloc _) _ 1 [iv (k : Int)] rfl (Src.one w1 Tryd.underlying24 _ _ rfl) ?c1 ?c2 ?c3 ?_; rotate_right; intro v' w2 hown1 hgr hwh; have HO2 := Lib.hid hown1; have HG := Lib.hid hgr; have HH := Lib.hid hwh; clear hown1 hgr hwh)
        case c1 => omega
        case c2 => omega
        case c3 => exact Nat.le_trans HZ1.out (by simp)
        have HX2 := Lib.hid ((HX1.out.alloc _).kept HG.out (fun e => by have := (HO1.out.lt _ e.symm).1; omega))
        have HB2 := Lib.hid ((HB1.out.alloc HB1.out.size _).grown HG.out (Nat.le_trans (Nat.le_of_succ_le HZ1.out) (by simp)) (fun q hq => by have := (HO1.out.lt q hq).1; omega))
        have HZ2 := Lib.hid (Nat.le_trans HZ1.out (Nat.le_trans (by simp) HG.out.size))
        go_wp2
        go_roundw
        case rel => exact ⟨k + 1, by go_num, by omega, by omega, HX2, HB2, Lib.hid (by rw [HF2.out, List.map_append]; exact HO2.out), HZ2⟩
        case measure => simp [intOf]; omega
      · rw [hu] at HC
        have HF2 : Hid (frL h (k + 1) = frL h k) := Lib.hid (by rw [HF.out, if_neg (by simp [hu])])
        clear HF hu
        go_wp2_with fail
        refine HC.out.mono ?_
        rintro e w1 ⟨rfl, hb⟩
        have HX1 := Lib.hid (HX.out.below hb HX.out.lt)
        have HB1 := Lib.hid (below_trans' HB.out hb)
        have HO1 := Lib.hid (HO.out.belowAll hb)
        have HZ1 := Lib.hid (Nat.le_trans HZ.out hb.size)
        clear hb q0 q1 q2 q3 HX HB HO HZ
        go_wp2
        go_roundw
        case rel => exact ⟨k + 1, by go_num, by omega, by omega, HX1, HB1, Lib.hid (by rw [HF2.out]; exact HO1.out), HZ1⟩
        case measure => simp [intOf]; omega
    · obtain rfl : k = 32 := by omega
      go_wp2
      go_ret
      exact ⟨_, rfl, HO.out.mono (Nat.le_succ _), HB.out⟩
end Go.Proofs.YtpcpbdcdapmlnaaDoor
