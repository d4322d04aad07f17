/- The contract of the document's Alike. -/
import Derived.Test.YtioflicmpnkfeaaGreatQf
namespace Go.Proofs.YtioflicmpnkfeaaGreat
open Go Go.RowKit
set_option maxRecDepth 100000
open Classical in
set_option maxHeartbeats 2000000 in
theorem alike_any (x y : Sr) (hx : x.ls.length ≤ 1000000000000 ∧ x.ss.length ≤ 1000000000000) (hy : y.ls.length ≤ 1000000000000 ∧ y.ss.length ≤ 1000000000000) (a b c d : Value) (w : World) (hA : LAt w a x.ls) (hB : MAt w b x.ss) (hC : LAt w c y.ls) (hD : MAt w d y.ss) :
    Calls Tryz.prog 23 #[.agg #[a, b], .agg #[c, d]] w (Ret w (.bool (decide (x = y)))) := by
  obtain ⟨a1, a2, ha⟩ := At2.slice hA
  obtain ⟨b1, b2, hb⟩ := At2.slice hB
  obtain ⟨c1, c2, hc⟩ := At2.slice hC
  obtain ⟨d1, d2, hd⟩ := At2.slice hD
  rw [List.length_map] at ha hb hc hd
  have HA := Lib.hid hA
  have HB := Lib.hid hB
  have HC := Lib.hid hC
  have HD := Lib.hid hD
  clear hA hB hC hD
  obtain ⟨hx1, hx2⟩ := hx
  obtain ⟨hy1, hy2⟩ := hy
  by_cases h1 : x.ls.length = y.ls.length
  · by_cases h2 : x.ss.length = y.ss.length
    · rw [← h1] at hc
      rw [← h2] at hd
      have H1 := Lib.hid h1
      have H2 := Lib.hid h2
      generalize hL : x.ls.length = L at *
      generalize hM : x.ss.length = M at *
      have HL := Lib.hid hL
      have HM := Lib.hid hM
      clear h1 h2 hL hM
      subst ha hb hc hd
      have eL : (L != L) = false := by simp
      have eM : (M != M) = false := by simp
      have HX0 : Hid (Box2 ((w.alloc (.cells #[.slice a1 L a2, .slice b1 M b2] 29)).alloc (.cells #[.slice c1 L c2, .slice d1 M d2] 29)) w.heap.size 29 (.slice a1 L a2) (.slice b1 M b2)) := Lib.hid (heap_alloc2_old _ _ _)
      have HY0 : Hid (Box2 ((w.alloc (.cells #[.slice a1 L a2, .slice b1 M b2] 29)).alloc (.cells #[.slice c1 L c2, .slice d1 M d2] 29)) (w.heap.size + 1) 29 (.slice c1 L c2) (.slice d1 M d2)) := Lib.hid (two_at _ _ _)
      have HB0 : Hid (Below w.heap.size w ((w.alloc (.cells #[.slice a1 L a2, .slice b1 M b2] 29)).alloc (.cells #[.slice c1 L c2, .slice d1 M d2] 29))) := Lib.hid (below_two _ _ _)
      go_enter Tryz.func23, Tryz.ntmps23
      go_wp2
      go_loopw [5] (fun i wr => ∃ k : Nat, i = .int .i64 (k : Int) ∧ k ≤ L ∧ Hid (x.ls.take k = y.ls.take k) ∧ Hid (Box2 wr w.heap.size 29 (.slice a1 L a2) (.slice b1 M b2)) ∧ Hid (Box2 wr (w.heap.size + 1) 29 (.slice c1 L c2) (.slice d1 M d2)) ∧ Hid (Below w.heap.size w wr)) (fun i _ => L - (intOf i).toNat)
      case atStart => exact ⟨0, rfl, by omega, Lib.hid rfl, HX0, HY0, HB0⟩
      case round =>
        obtain ⟨k, rfl, hk, HE, HX, HY, HBL⟩ := hrel
        have x0 := HX.out.c0
        have y0 := HY.out.c0
        by_cases hlt : k < L
        · have hk1 : k < x.ls.length := by have := HL.out; omega
          have hk2 : k < y.ls.length := by have := HL.out; have := H1.out; omega
          rcases At2.below HA.out HBL.out (Nat.le_refl _) with ⟨h0, _⟩ | ⟨g, o, e, hg, hcs⟩
          · have := congrArg List.length h0; rw [List.length_map, List.length_nil] at this; omega
          rcases At2.below HC.out HBL.out (Nat.le_refl _) with ⟨h0, _⟩ | ⟨g2, o2, e2, hg2, hcs2⟩
          · have := congrArg List.length h0; rw [List.length_map, List.length_nil] at this; omega
          obtain ⟨q0, q1⟩ := hcs k (by rw [List.length_map]; exact hk1)
          obtain ⟨r0, r1⟩ := hcs2 k (by rw [List.length_map]; exact hk2)
          rw [List.getElem_map] at q0 q1 r0 r1
          rw [List.length_map, HL.out] at hg
          rw [List.length_map, ← H1.out] at hg2
          clear hcs hcs2
          have htk1 : x.ls.take (k + 1) = x.ls.take k ++ [x.ls[k]] := List.take_succ_eq_append_getElem hk1
          have htk2 : y.ls.take (k + 1) = y.ls.take k ++ [y.ls[k]] := List.take_succ_eq_append_getElem hk2
          have hne : x.ls[k] ≠ y.ls[k] → x ≠ y := fun h e => h (by subst e; rfl)
          have HT1 := Lib.hid htk1
          have HT2 := Lib.hid htk2
          have HNE := Lib.hid hne
          clear htk1 htk2 hne
          generalize x.ls[k] = P at *
          generalize y.ls[k] = Q at *
          obtain ⟨pn, pv⟩ := P
          obtain ⟨qn, qv⟩ := Q
          unfold lp at q0 q1 r0 r1
          dsimp only at q0 q1 r0 r1
          cases hg
          cases hg2
          by_cases hpq : (⟨pn, pv⟩ : Lb) = ⟨qn, qv⟩
          · cases hpq
            have e0 : (pn.toList != pn.toList) = false := by simp
            have e1 : (pv.toList != pv.toList) = false := by simp
            go_wp2
            go_big_quiet (fail)
            go_wp2
            go_roundw
            case rel => exact ⟨k + 1, by go_num, by omega, Lib.hid (by rw [HT1.out, HT2.out, HE.out]), HX, HY, Lib.hid (below_drewN HBL.out _)⟩
            case measure => simp [intOf]; omega
          · by_cases hn : pn = qn
            · subst hn
              have hv : pv ≠ qv := fun e => hpq (by rw [e])
              have e0 : (pn.toList != pn.toList) = false := by simp
              have e1 : ¬ (pv.toList = qv.toList) := fun e => hv (by rw [← bs_of pv, ← bs_of qv, ← toList_eq, ← toList_eq, e])
              go_wp2
              go_big_quiet (fail)
              go_wp2
              go_ret
              exact ⟨by rw [decide_eq_false (HNE.out hpq)]; rfl, below_drewN HBL.out _⟩
            · have e0 : ¬ (pn.toList = qn.toList) := fun e => hn (by rw [← bs_of pn, ← bs_of qn, ← toList_eq, ← toList_eq, e])
              go_wp2
              go_big_quiet (fail)
              go_wp2
              go_ret
              exact ⟨by rw [decide_eq_false (HNE.out hpq)]; rfl, below_drewN HBL.out _⟩
        · obtain rfl : k = L := by omega
          have hls : x.ls = y.ls := by
            have := HE.out
            rwa [List.take_of_length_le (by have := HL.out; omega), List.take_of_length_le (by have := H1.out; omega)] at this
          have HLS := Lib.hid hls
          clear hls
          go_wp2
          go_loopw [6] (fun i wr => ∃ j : Nat, i = .int .i64 (j : Int) ∧ j ≤ M ∧ Hid (x.ss.take j = y.ss.take j) ∧ Hid (Box2 wr w.heap.size 29 (.slice a1 k a2) (.slice b1 M b2)) ∧ Hid (Box2 wr (w.heap.size + 1) 29 (.slice c1 k c2) (.slice d1 M d2)) ∧ Hid (Below w.heap.size w wr)) (fun i _ => M - (intOf i).toNat)
          case atStart => exact ⟨0, rfl, by omega, Lib.hid rfl, HX, HY, HBL⟩
          case round =>
            clear x0 y0 HX HY HBL
            obtain ⟨j, rfl, hj, HE2, HX, HY, HBL⟩ := hrel
            have x1 := HX.out.c1
            have y1 := HY.out.c1
            by_cases hltj : j < M
            · have hk1 : j < x.ss.length := by have := HM.out; omega
              have hk2 : j < y.ss.length := by have := HM.out; have := H2.out; omega
              rcases At2.below HB.out HBL.out (Nat.le_refl _) with ⟨h0, _⟩ | ⟨g, o, e, hg, hcs⟩
              · have := congrArg List.length h0; rw [List.length_map, List.length_nil] at this; omega
              rcases At2.below HD.out HBL.out (Nat.le_refl _) with ⟨h0, _⟩ | ⟨g2, o2, e2, hg2, hcs2⟩
              · have := congrArg List.length h0; rw [List.length_map, List.length_nil] at this; omega
              obtain ⟨q0, q1⟩ := hcs j (by rw [List.length_map]; exact hk1)
              obtain ⟨r0, r1⟩ := hcs2 j (by rw [List.length_map]; exact hk2)
              rw [List.getElem_map] at q0 q1 r0 r1
              rw [List.length_map, HM.out] at hg
              rw [List.length_map, ← H2.out] at hg2
              clear hcs hcs2
              have htk1 : x.ss.take (j + 1) = x.ss.take j ++ [x.ss[j]] := List.take_succ_eq_append_getElem hk1
              have htk2 : y.ss.take (j + 1) = y.ss.take j ++ [y.ss[j]] := List.take_succ_eq_append_getElem hk2
              have hne : x.ss[j] ≠ y.ss[j] → x ≠ y := fun h e => h (by subst e; rfl)
              have HT1 := Lib.hid htk1
              have HT2 := Lib.hid htk2
              have HNE := Lib.hid hne
              clear htk1 htk2 hne
              generalize x.ss[j] = P at *
              generalize y.ss[j] = Q at *
              obtain ⟨pn, pv⟩ := P
              obtain ⟨qn, qv⟩ := Q
              unfold sp at q0 q1 r0 r1
              dsimp only at q0 q1 r0 r1
              cases hg
              cases hg2
              by_cases hpq : (⟨pn, pv⟩ : Sm) = ⟨qn, qv⟩
              · cases hpq
                generalize (pv : Int) = pV at *
                go_wp2
                go_big_quiet (fail)
                go_wp2
                go_roundw
                case rel => exact ⟨j + 1, by go_num, by omega, Lib.hid (by rw [HT1.out, HT2.out, HE2.out]), HX, HY, Lib.hid (below_drewN HBL.out _)⟩
                case measure => simp [intOf]; omega
              · by_cases hn : pn = qn
                · subst hn
                  have e1 : ¬ ((pv : Int) = (qv : Int)) := fun e => hpq (by rw [Int.ofNat_inj.1 e])
                  generalize (pv : Int) = pV at *
                  generalize (qv : Int) = qV at *
                  go_wp2
                  go_big_quiet (fail)
                  go_wp2
                  go_ret
                  exact ⟨by rw [decide_eq_false (HNE.out hpq)]; rfl, below_drewN HBL.out _⟩
                · generalize (pv : Int) = pV at *
                  generalize (qv : Int) = qV at *
                  go_wp2
                  go_big_quiet (fail)
                  go_wp2
                  go_ret
                  exact ⟨by rw [decide_eq_false (HNE.out hpq)]; rfl, below_drewN HBL.out _⟩
            · obtain rfl : j = M := by omega
              have hss : x.ss = y.ss := by
                have := HE2.out
                rwa [List.take_of_length_le (by have := HM.out; omega), List.take_of_length_le (by have := H2.out; omega)] at this
              go_wp2
              go_ret
              exact ⟨by rw [decide_eq_true (show x = y by obtain ⟨xl, xs⟩ := x; obtain ⟨yl, ys⟩ := y; have h1 := HLS.out; dsimp only at h1 hss; rw [h1, hss])]; rfl, HBL.out⟩
    · have hne : x ≠ y := fun e => h2 (by rw [e])
      rw [decide_eq_false hne]
      rw [← h1] at hc
      have eM : ((x.ss.length : Int) != (y.ss.length : Int)) = true := by rw [bne_iff_ne]; omega
      generalize x.ls.length = L at *
      generalize x.ss.length = M at *
      generalize y.ss.length = M2 at *
      clear h1 h2 hne HA HB HC HD
      subst ha hb hc hd
      go_enter Tryz.func23, Tryz.ntmps23
      go_wp2
      go_ret
      exact ⟨rfl, below_two _ _ _⟩
  · have hne : x ≠ y := fun e => h1 (by rw [e])
    rw [decide_eq_false hne]
    have eL : ((x.ls.length : Int) != (y.ls.length : Int)) = true := by rw [bne_iff_ne]; omega
    generalize x.ls.length = L at *
    generalize x.ss.length = M at *
    generalize y.ls.length = L2 at *
    generalize y.ss.length = M2 at *
    clear h1 hne HA HB HC HD
    subst ha hb hc hd
    go_enter Tryz.func23, Tryz.ntmps23
    go_wp2
    go_ret
    exact ⟨rfl, below_two _ _ _⟩
end Go.Proofs.YtioflicmpnkfeaaGreat
