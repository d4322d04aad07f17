/- The library's Equal of two rows of labels, of two rows of samples: 33, 34. -/
/- sameSeries 22. -/
/- Count 7. -/
/- EqualFunc 21 with sameSeries; Same 10. -/
import Derived.Test.YtioflicmpnkfeaaGreatSb
namespace Go.Proofs.YtioflicmpnkfeaaGreat
open Go Go.RowKit
set_option maxRecDepth 100000
open Classical in
set_option maxHeartbeats 2000000 in
theorem eq33_any (xs ys : List Lb) (hx : xs.length ≤ 1000000000000) (hy : ys.length ≤ 1000000000000) (a c : Value) (w : World) (hA : LAt w a xs) (hC : LAt w c ys) :
    Calls Tryz.prog 33 #[a, c] w (Ret w (.bool (decide (xs = ys)))) := by
  obtain ⟨a1, a2, ha⟩ := At2.slice hA
  obtain ⟨c1, c2, hc⟩ := At2.slice hC
  rw [List.length_map] at ha hc
  have HA := Lib.hid hA
  have HC := Lib.hid hC
  clear hA hC
  by_cases h1 : xs.length = ys.length
  · rw [← h1] at hc
    have H1 := Lib.hid h1
    generalize hL : xs.length = L at *
    have HL := Lib.hid hL
    clear h1 hL hy
    subst ha hc
    have eL : (L != L) = false := by simp
    go_enter Tryz.func33, Tryz.ntmps33
    go_wp2
    go_loopw [13] (fun i wr => ∃ k : Nat, i = .int .i64 (k : Int) ∧ k ≤ L ∧ Hid (xs.take k = ys.take k) ∧ Hid (Below w.heap.size w wr)) (fun i _ => L - (intOf i).toNat)
    case atStart => exact ⟨0, rfl, by omega, Lib.hid rfl, Lib.hid (Below.refl _ _)⟩
    case round =>
      obtain ⟨k, rfl, hk, HE, HBL⟩ := hrel
      by_cases hlt : k < L
      · have hk1 : k < xs.length := by have := HL.out; omega
        have hk2 : k < ys.length := by have := HL.out; have := H1.out; omega
        rcases At2.below HA.out HBL.out (Nat.le_refl _) with ⟨h0, _⟩ | ⟨g, o, e, hg, hcs⟩
        · have := congrArg List.length h0; rw [List.length_map, List.length_nil] at this; omega
        rcases At2.below HC.out HBL.out (Nat.le_refl _) with ⟨h0, _⟩ | ⟨g2, o2, e2, hg2, hcs2⟩
        · have := congrArg List.length h0; rw [List.length_map, List.length_nil] at this; omega
        obtain ⟨q0, q1⟩ := hcs k (by rw [List.length_map]; exact hk1)
        obtain ⟨r0, r1⟩ := hcs2 k (by rw [List.length_map]; exact hk2)
        rw [List.getElem_map] at q0 q1 r0 r1
        rw [List.length_map, HL.out] at hg
        rw [List.length_map, ← H1.out] at hg2
        clear hcs hcs2
        have htk1 : xs.take (k + 1) = xs.take k ++ [xs[k]] := List.take_succ_eq_append_getElem hk1
        have htk2 : ys.take (k + 1) = ys.take k ++ [ys[k]] := List.take_succ_eq_append_getElem hk2
        have hne : xs[k] ≠ ys[k] → xs ≠ ys := fun h e => h (by subst e; rfl)
        have HT1 := Lib.hid htk1
        have HT2 := Lib.hid htk2
        have HNE := Lib.hid hne
        clear htk1 htk2 hne
        generalize xs[k] = P at *
        generalize ys[k] = Q at *
        obtain ⟨pn, pv⟩ := P
        obtain ⟨qn, qv⟩ := Q
        unfold lp at q0 q1 r0 r1
        dsimp only at q0 q1 r0 r1
        cases hg
        cases hg2
        by_cases hpq : (⟨pn, pv⟩ : Lb) = ⟨qn, qv⟩
        · cases hpq
          have e0 : (pn.toList != pn.toList) = false := by simp
          have e1 : (pv.toList != pv.toList) = false := by simp
          go_wp2
          go_big_quiet (fail)
          go_wp2
          go_roundw
          case rel => exact ⟨k + 1, by go_num, by omega, Lib.hid (by rw [HT1.out, HT2.out, HE.out]), Lib.hid (below_drewN HBL.out _)⟩
          case measure => simp [intOf]; omega
        · by_cases hn : pn = qn
          · subst hn
            have hv : pv ≠ qv := fun e => hpq (by rw [e])
            have e0 : (pn.toList != pn.toList) = false := by simp
            have e1 : ¬ (pv.toList = qv.toList) := fun e => hv (by rw [← bs_of pv, ← bs_of qv, ← toList_eq, ← toList_eq, e])
            go_wp2
            go_big_quiet (fail)
            go_wp2
            go_ret
            exact ⟨by rw [decide_eq_false (HNE.out hpq)]; rfl, below_drewN HBL.out _⟩
          · have e0 : ¬ (pn.toList = qn.toList) := fun e => hn (by rw [← bs_of pn, ← bs_of qn, ← toList_eq, ← toList_eq, e])
            go_wp2
            go_big_quiet (fail)
            go_wp2
            go_ret
            exact ⟨by rw [decide_eq_false (HNE.out hpq)]; rfl, below_drewN HBL.out _⟩
      · obtain rfl : k = L := by omega
        have hls : xs = ys := by
          have := HE.out
          rwa [List.take_of_length_le (by have := HL.out; omega), List.take_of_length_le (by have := H1.out; omega)] at this
        go_wp2
        go_ret
        exact ⟨by rw [decide_eq_true hls]; rfl, HBL.out⟩
  · have hne : xs ≠ ys := fun e => h1 (by rw [e])
    rw [decide_eq_false hne]
    have eL : ((xs.length : Int) != (ys.length : Int)) = true := by rw [bne_iff_ne]; omega
    generalize xs.length = L at *
    generalize ys.length = L2 at *
    clear h1 hne HA HC
    subst ha hc
    go_enter Tryz.func33, Tryz.ntmps33
    go_wp2
    go_ret
    exact ⟨rfl, Below.refl _ _⟩
open Classical in
set_option maxHeartbeats 2000000 in
theorem eq34_any (xs ys : List Sm) (hx : xs.length ≤ 1000000000000) (hy : ys.length ≤ 1000000000000) (a c : Value) (w : World) (hA : MAt w a xs) (hC : MAt w c ys) :
    Calls Tryz.prog 34 #[a, c] w (Ret w (.bool (decide (xs = ys)))) := by
  obtain ⟨a1, a2, ha⟩ := At2.slice hA
  obtain ⟨c1, c2, hc⟩ := At2.slice hC
  rw [List.length_map] at ha hc
  have HA := Lib.hid hA
  have HC := Lib.hid hC
  clear hA hC
  by_cases h1 : xs.length = ys.length
  · rw [← h1] at hc
    have H1 := Lib.hid h1
    generalize hL : xs.length = L at *
    have HL := Lib.hid hL
    clear h1 hL hy
    subst ha hc
    have eL : (L != L) = false := by simp
    go_enter Tryz.func34, Tryz.ntmps34
    go_wp2
    go_loopw [13] (fun i wr => ∃ k : Nat, i = .int .i64 (k : Int) ∧ k ≤ L ∧ Hid (xs.take k = ys.take k) ∧ Hid (Below w.heap.size w wr)) (fun i _ => L - (intOf i).toNat)
    case atStart => exact ⟨0, rfl, by omega, Lib.hid rfl, Lib.hid (Below.refl _ _)⟩
    case round =>
      obtain ⟨k, rfl, hk, HE, HBL⟩ := hrel
      by_cases hlt : k < L
      · have hk1 : k < xs.length := by have := HL.out; omega
        have hk2 : k < ys.length := by have := HL.out; have := H1.out; omega
        rcases At2.below HA.out HBL.out (Nat.le_refl _) with ⟨h0, _⟩ | ⟨g, o, e, hg, hcs⟩
        · have := congrArg List.length h0; rw [List.length_map, List.length_nil] at this; omega
        rcases At2.below HC.out HBL.out (Nat.le_refl _) with ⟨h0, _⟩ | ⟨g2, o2, e2, hg2, hcs2⟩
        · have := congrArg List.length h0; rw [List.length_map, List.length_nil] at this; omega
        obtain ⟨q0, q1⟩ := hcs k (by rw [List.length_map]; exact hk1)
        obtain ⟨r0, r1⟩ := hcs2 k (by rw [List.length_map]; exact hk2)
        rw [List.getElem_map] at q0 q1 r0 r1
        rw [List.length_map, HL.out] at hg
        rw [List.length_map, ← H1.out] at hg2
        clear hcs hcs2
        have htk1 : xs.take (k + 1) = xs.take k ++ [xs[k]] := List.take_succ_eq_append_getElem hk1
        have htk2 : ys.take (k + 1) = ys.take k ++ [ys[k]] := List.take_succ_eq_append_getElem hk2
        have hne : xs[k] ≠ ys[k] → xs ≠ ys := fun h e => h (by subst e; rfl)
        have HT1 := Lib.hid htk1
        have HT2 := Lib.hid htk2
        have HNE := Lib.hid hne
        clear htk1 htk2 hne
        generalize xs[k] = P at *
        generalize ys[k] = Q at *
        obtain ⟨pn, pv⟩ := P
        obtain ⟨qn, qv⟩ := Q
        unfold sp at q0 q1 r0 r1
        dsimp only at q0 q1 r0 r1
        cases hg
        cases hg2
        by_cases hpq : (⟨pn, pv⟩ : Sm) = ⟨qn, qv⟩
        · cases hpq
          generalize (pv : Int) = pV at *
          go_wp2
          go_big_quiet (fail)
          go_wp2
          go_roundw
          case rel => exact ⟨k + 1, by go_num, by omega, Lib.hid (by rw [HT1.out, HT2.out, HE.out]), Lib.hid (below_drewN HBL.out _)⟩
          case measure => simp [intOf]; omega
        · by_cases hn : pn = qn
          · subst hn
            have e1 : ¬ ((pv : Int) = (qv : Int)) := fun e => hpq (by rw [Int.ofNat_inj.1 e])
            generalize (pv : Int) = pV at *
            generalize (qv : Int) = qV at *
            go_wp2
            go_big_quiet (fail)
            go_wp2
            go_ret
            exact ⟨by rw [decide_eq_false (HNE.out hpq)]; rfl, below_drewN HBL.out _⟩
          · generalize (pv : Int) = pV at *
            generalize (qv : Int) = qV at *
            go_wp2
            go_big_quiet (fail)
            go_wp2
            go_ret
            exact ⟨by rw [decide_eq_false (HNE.out hpq)]; rfl, below_drewN HBL.out _⟩
      · obtain rfl : k = L := by omega
        have hls : xs = ys := by
          have := HE.out
          rwa [List.take_of_length_le (by have := HL.out; omega), List.take_of_length_le (by have := H1.out; omega)] at this
        go_wp2
        go_ret
        exact ⟨by rw [decide_eq_true hls]; rfl, HBL.out⟩
  · have hne : xs ≠ ys := fun e => h1 (by rw [e])
    rw [decide_eq_false hne]
    have eL : ((xs.length : Int) != (ys.length : Int)) = true := by rw [bne_iff_ne]; omega
    generalize xs.length = L at *
    generalize ys.length = L2 at *
    clear h1 hne HA HC
    subst ha hc
    go_enter Tryz.func34, Tryz.ntmps34
    go_wp2
    go_ret
    exact ⟨rfl, Below.refl _ _⟩
end Go.Proofs.YtioflicmpnkfeaaGreat

namespace Go.Proofs.YtioflicmpnkfeaaGreat
open Go Go.RowKit
set_option maxRecDepth 100000
open Classical in
set_option maxHeartbeats 1000000 in
theorem ss22_any (x y : Sr) (hx : x.ls.length ≤ 1000000000000 ∧ x.ss.length ≤ 1000000000000) (hy : y.ls.length ≤ 1000000000000 ∧ y.ss.length ≤ 1000000000000) (a b c d : Value) (w : World) (hA : LAt w a x.ls) (hB : MAt w b x.ss) (hC : LAt w c y.ls) (hD : MAt w d y.ss) :
    Calls Tryz.prog 22 #[.agg #[a, b], .agg #[c, d]] w (Ret w (.bool (decide (x = y)))) := by
  have H33 := Lib.hid (fun W (hW : Below w.heap.size w W) => eq33_any x.ls y.ls hx.1 hy.1 a c W (At2.below hA hW (Nat.le_refl _)) (At2.below hC hW (Nat.le_refl _)))
  have H34 := Lib.hid (fun W (hW : Below w.heap.size w W) => eq34_any x.ss y.ss hx.2 hy.2 b d W (At2.below hB hW (Nat.le_refl _)) (At2.below hD hW (Nat.le_refl _)))
  have HX0 : Hid (Box2 ((w.alloc (.cells #[a, b] 29)).alloc (.cells #[c, d] 29)) w.heap.size 29 a b) := Lib.hid (heap_alloc2_old _ _ _)
  have HY0 : Hid (Box2 ((w.alloc (.cells #[a, b] 29)).alloc (.cells #[c, d] 29)) (w.heap.size + 1) 29 c d) := Lib.hid (two_at _ _ _)
  have HB0 : Hid (Below w.heap.size w ((w.alloc (.cells #[a, b] 29)).alloc (.cells #[c, d] 29))) := Lib.hid (below_two _ _ _)
  have HS : Hid (((w.alloc (.cells #[a, b] 29)).alloc (.cells #[c, d] 29)).heap.size = w.heap.size + 2) := Lib.hid (by simp)
  clear hA hB hC hD hx hy
  have x0 := HX0.out.c0
  have y0 := HY0.out.c0
  by_cases h1 : x.ls = y.ls
  · rw [decide_eq_true h1] at H33
    have H1 := Lib.hid h1
    clear h1
    go_enter Tryz.func22, Tryz.ntmps22
    go_wp2_with fail
    refine (H33.out _ HB0.out).mono ?_
    rintro e w1 ⟨rfl, hb1⟩
    have x1 := (Box2.below HX0.out hb1 (by rw [HS.out]; omega)).c1
    have y1 := (Box2.below HY0.out hb1 (by rw [HS.out]; omega)).c1
    have HB1 := Lib.hid (below_trans' HB0.out hb1)
    clear hb1 x0 y0
    go_wp2_with fail
    refine (H34.out _ HB1.out).mono ?_
    rintro e w2 ⟨rfl, hb2⟩
    have HB2 := Lib.hid (below_trans' HB1.out hb2)
    clear hb2 x1 y1
    have he : decide (x.ss = y.ss) = decide (x = y) := by
      congr 1
      obtain ⟨xl, xs⟩ := x; obtain ⟨yl, ys⟩ := y; have h1 := H1.out; dsimp only at h1; subst h1; simp
    generalize decide (x.ss = y.ss) = B at *
    generalize decide (x = y) = B' at *
    subst he
    go_wp2
    go_ret
    exact ⟨rfl, HB2.out⟩
  · rw [decide_eq_false h1] at H33
    have hne : x ≠ y := fun e => h1 (by rw [e])
    rw [decide_eq_false hne]
    clear h1 hne
    go_enter Tryz.func22, Tryz.ntmps22
    go_wp2_with fail
    refine (H33.out _ HB0.out).mono ?_
    rintro e w1 ⟨rfl, hb1⟩
    have HB1 := Lib.hid (below_trans' HB0.out hb1)
    clear hb1 x0 y0
    go_wp2
    go_ret
    exact ⟨rfl, HB1.out⟩
end Go.Proofs.YtioflicmpnkfeaaGreat

namespace Go.Proofs.YtioflicmpnkfeaaGreat
open Go Go.RowKit
set_option maxRecDepth 100000
def cnL : List Sr → Nat
  | [] => 0
  | x :: r => x.ls.length + cnL r
def cnS : List Sr → Nat
  | [] => 0
  | x :: r => x.ss.length + cnS r
set_option maxHeartbeats 1000000 in
theorem count_any (zs : List Zr) (hl : zs.length ≤ 1000000000000) (hc1 : cnL (zs.map Zr.x) ≤ 1000000000000000000) (hc2 : cnS (zs.map Zr.x) ≤ 1000000000000000000) (v : Value) (w : World) (hv : SAt w v zs) :
    Calls Tryz.prog 7 #[v] w (Ret w (.tuple #[.int .i64 (cnL (zs.map Zr.x) : Int), .int .i64 (cnS (zs.map Zr.x) : Int)])) := by
  have HV := Lib.hid hv
  obtain ⟨va, vc, hv2⟩ := hv.slice
  clear hv
  generalize hL : zs.length = L at *
  have HL := Lib.hid hL
  clear hL
  subst hv2
  obtain ⟨P, hP⟩ : ∃ P, cnL (zs.map Zr.x) = P := ⟨_, rfl⟩
  obtain ⟨Q, hQ⟩ : ∃ Q, cnS (zs.map Zr.x) = Q := ⟨_, rfl⟩
  rw [hP, hQ]
  rw [hP] at hc1
  rw [hQ] at hc2
  have HP := Lib.hid hP
  have HQ := Lib.hid hQ
  clear hP hQ
  go_enter Tryz.func7, Tryz.ntmps7
  go_wp2
  go_loopw [2, 3, 8] (fun n m i wr => ∃ (k N M : Nat), n = .int .i64 (N : Int) ∧ m = .int .i64 (M : Int) ∧ i = .int .i64 (k : Int) ∧ k ≤ L ∧ Hid (N + cnL ((zs.drop k).map Zr.x) = P) ∧ Hid (M + cnS ((zs.drop k).map Zr.x) = Q) ∧ Hid (Below w.heap.size w wr)) (fun _ _ i _ => L - (intOf i).toNat)
  case atStart => exact ⟨0, 0, 0, rfl, rfl, rfl, by omega, Lib.hid (by rw [List.drop_zero]; have := HP.out; omega), Lib.hid (by rw [List.drop_zero]; have := HQ.out; omega), Lib.hid (Below.refl _ _)⟩
  case round =>
    obtain ⟨k, N, M, rfl, rfl, rfl, hk, HE, HF, HB⟩ := hrel
    obtain ⟨wo, hwo⟩ : ∃ wo, wo = wr := ⟨_, rfl⟩
    subst hwo
    by_cases hlt : k < L
    · have hkl : k < zs.length := by have := HL.out; omega
      have HV2 := Lib.hid (HV.out.below HB.out (Nat.le_refl _))
      rcases HV2.out.row with ⟨h0, _⟩ | ⟨g, o, c, hg, hcs⟩
      · have := congrArg List.length h0; rw [List.length_map, List.length_nil] at this; omega
      obtain ⟨q0, q1⟩ := hcs k (by rw [List.length_map]; exact hkl)
      rw [List.getElem_map] at q0 q1
      rw [List.length_map, HL.out] at hg
      clear hcs
      have hdr : (zs.drop k).map Zr.x = zs[k].x :: (zs.drop (k + 1)).map Zr.x := by rw [List.drop_eq_getElem_cons hkl]; rfl
      have hE := HE.out
      have hF := HF.out
      rw [hdr] at hE hF
      rw [cnL] at hE
      rw [cnS] at hF
      have hA := HV2.out.ls zs[k] (List.getElem_mem hkl)
      have hM2 := HV2.out.ss zs[k] (List.getElem_mem hkl)
      clear hdr HV2
      generalize zs[k] = Z at *
      obtain ⟨⟨ls, ss⟩, za, zb⟩ := Z
      unfold zp at q0 q1
      dsimp only at q0 q1 hE hF hA hM2
      obtain ⟨a1, a2, ha⟩ := At2.slice hA
      obtain ⟨m1, m2, hm⟩ := At2.slice hM2
      rw [List.length_map] at ha hm
      subst ha hm
      clear hA hM2
      cases hg
      have hNA : N + ls.length ≤ 1000000000000000000 := by omega
      have hMS : M + ss.length ≤ 1000000000000000000 := by omega
      have HE2 := Lib.hid ((Nat.add_assoc _ _ _).trans hE)
      have HF2 := Lib.hid ((Nat.add_assoc _ _ _).trans hF)
      clear hE hF
      generalize ls.length = A at *
      generalize ss.length = S at *
      go_wp2
      go_roundw
      case rel => exact ⟨k + 1, N + A, M + S, by go_num, by go_num, by go_num, by omega, HE2, HF2, Lib.hid (HB.out.alloc HB.out.size _)⟩
      case measure => simp [intOf]; omega
    · obtain rfl : k = L := by omega
      have h1 : N = P := by
        have := HE.out
        rw [List.drop_of_length_le (by have := HL.out; omega), List.map_nil, cnL] at this
        omega
      have h2 : M = Q := by
        have := HF.out
        rw [List.drop_of_length_le (by have := HL.out; omega), List.map_nil, cnS] at this
        omega
      subst h1 h2
      go_wp2
      go_ret2
      exact ⟨rfl, HB.out⟩
end Go.Proofs.YtioflicmpnkfeaaGreat

namespace Go.Proofs.YtioflicmpnkfeaaGreat
open Go Go.RowKit
set_option maxRecDepth 100000
open Classical in
set_option maxHeartbeats 2000000 in
theorem ef21_any (xs ys : List Zr) (hx : Fin0 xs) (hy : Fin0 ys) (v u : Value) (w : World) (hv : SAt w v xs) (hu : SAt w u ys) :
    Calls Tryz.prog 21 #[v, u, .func (.func 22) #[] #[]] w (Ret w (.bool (decide (xs.map Zr.x = ys.map Zr.x)))) := by
  obtain ⟨a1, a2, ha⟩ := hv.slice
  obtain ⟨b1, b2, hb⟩ := hu.slice
  have HV := Lib.hid hv
  have HU := Lib.hid hu
  have HFX := Lib.hid hx.l
  have HFY := Lib.hid hy.l
  have hl1 := hx.len
  have hl2 := hy.len
  clear hv hu hx hy
  by_cases h1 : xs.length = ys.length
  · rw [← h1] at hb
    have H1 := Lib.hid h1
    generalize hL : xs.length = L at *
    have HL := Lib.hid hL
    clear h1 hL
    subst ha hb
    have eL : (L != L) = false := by simp
    go_enter Tryz.func21, Tryz.ntmps21
    go_wp2
    go_loopw [17] (fun i wr => ∃ k : Nat, i = .int .i64 (k : Int) ∧ k ≤ L ∧ Hid ((xs.take k).map Zr.x = (ys.take k).map Zr.x) ∧ Hid (Below w.heap.size w wr)) (fun i _ => L - (intOf i).toNat)
    case atStart => exact ⟨0, rfl, by omega, Lib.hid rfl, Lib.hid (Below.refl _ _)⟩
    case round =>
      obtain ⟨k, rfl, hk, HE, HBL⟩ := hrel
      by_cases hlt : k < L
      · have hk1 : k < xs.length := by have := HL.out; omega
        have hk2 : k < ys.length := by have := HL.out; have := H1.out; omega
        have HV2 := Lib.hid (HV.out.below HBL.out (Nat.le_refl _))
        have HU2 := Lib.hid (HU.out.below HBL.out (Nat.le_refl _))
        rcases HV2.out.row with ⟨h0, _⟩ | ⟨g, o, e, hg, hcs⟩
        · have := congrArg List.length h0; rw [List.length_map, List.length_nil] at this; omega
        rcases HU2.out.row with ⟨h0, _⟩ | ⟨g2, o2, e2, hg2, hcs2⟩
        · have := congrArg List.length h0; rw [List.length_map, List.length_nil] at this; omega
        obtain ⟨q0, q1⟩ := hcs k (by rw [List.length_map]; exact hk1)
        obtain ⟨r0, r1⟩ := hcs2 k (by rw [List.length_map]; exact hk2)
        rw [List.getElem_map] at q0 q1 r0 r1
        rw [List.length_map, HL.out] at hg
        rw [List.length_map, ← H1.out] at hg2
        clear hcs hcs2
        have htk1 : (xs.take (k + 1)).map Zr.x = (xs.take k).map Zr.x ++ [xs[k].x] := by rw [List.take_succ_eq_append_getElem hk1, List.map_append]; rfl
        have htk2 : (ys.take (k + 1)).map Zr.x = (ys.take k).map Zr.x ++ [ys[k].x] := by rw [List.take_succ_eq_append_getElem hk2, List.map_append]; rfl
        have hne : xs[k].x ≠ ys[k].x → xs.map Zr.x ≠ ys.map Zr.x := fun h e => h (by
          have e1 := congrArg (fun l => l[k]?) e
          simp only [List.getElem?_map, List.getElem?_eq_getElem hk1, List.getElem?_eq_getElem hk2, Option.map_some, Option.some.injEq] at e1
          exact e1)
        have hm1 := List.getElem_mem hk1
        have hm2 := List.getElem_mem hk2
        have HC := Lib.hid (fun W (hW : Below wr.heap.size wr W) => ss22_any xs[k].x ys[k].x (HFX.out _ hm1) (HFY.out _ hm2) _ _ _ _ W (At2.below (HV2.out.ls _ hm1) hW (Nat.le_refl _)) (At2.below (HV2.out.ss _ hm1) hW (Nat.le_refl _)) (At2.below (HU2.out.ls _ hm2) hW (Nat.le_refl _)) (At2.below (HU2.out.ss _ hm2) hW (Nat.le_refl _)))
        have hs1 : ∃ a n c, xs[k].a = .slice a n c := by obtain ⟨_, _, h⟩ := At2.slice (HV2.out.ls _ hm1); exact ⟨_, _, _, h⟩
        have hs2 : ∃ a n c, xs[k].b = .slice a n c := by obtain ⟨_, _, h⟩ := At2.slice (HV2.out.ss _ hm1); exact ⟨_, _, _, h⟩
        have hs3 : ∃ a n c, ys[k].a = .slice a n c := by obtain ⟨_, _, h⟩ := At2.slice (HU2.out.ls _ hm2); exact ⟨_, _, _, h⟩
        have hs4 : ∃ a n c, ys[k].b = .slice a n c := by obtain ⟨_, _, h⟩ := At2.slice (HU2.out.ss _ hm2); exact ⟨_, _, _, h⟩
        have HT1 := Lib.hid htk1
        have HT2 := Lib.hid htk2
        have HNE := Lib.hid hne
        clear htk1 htk2 hne hm1 hm2 HV2 HU2
        generalize xs[k] = P at *
        generalize ys[k] = Q at *
        obtain ⟨X, p0, p1⟩ := P
        obtain ⟨Y, u0, u1⟩ := Q
        unfold zp at q0 q1 r0 r1
        dsimp only at q0 q1 r0 r1 HC HT1 HT2 HNE hs1 hs2 hs3 hs4
        obtain ⟨a3, n3, c3, h3⟩ := hs1
        obtain ⟨a4, n4, c4, h4⟩ := hs2
        obtain ⟨a5, n5, c5, h5⟩ := hs3
        obtain ⟨a6, n6, c6, h6⟩ := hs4
        subst h3 h4 h5 h6
        cases hg
        cases hg2
        have hA1 : Below wr.heap.size wr (wr.alloc (.cells #[.slice a3 n3 c3, .slice a4 n4 c4] 29)) := (Below.refl _ _).alloc (Nat.le_refl _) _
        have r2 := (hA1.cell (World.block_lt_of_cell? wr _ r0)).trans r0
        have r3 := (hA1.cell (World.block_lt_of_cell? wr _ r1)).trans r1
        clear hA1
        by_cases hpq : X = Y
        · subst hpq
          rw [decide_eq_true rfl] at HC
          go_wp2_with fail
          refine (HC.out _ (below_two _ _ _)).mono ?_
          rintro e w2 ⟨rfl, hb2⟩
          have HB2 : Hid (Below wr.heap.size wr w2) := Lib.hid (below_trans' (below_two _ _ _) hb2)
          clear hb2
          go_wp2
          go_roundw
          case rel => exact ⟨k + 1, by go_num, by omega, Lib.hid (by rw [HT1.out, HT2.out, HE.out]), Lib.hid (HBL.out.trans (HB2.out.mono HBL.out.size))⟩
          case measure => simp [intOf]; omega
        · rw [decide_eq_false hpq] at HC
          go_wp2_with fail
          refine (HC.out _ (below_two _ _ _)).mono ?_
          rintro e w2 ⟨rfl, hb2⟩
          have HB2 : Hid (Below wr.heap.size wr w2) := Lib.hid (below_trans' (below_two _ _ _) hb2)
          clear hb2
          go_wp2
          go_ret
          exact ⟨by rw [decide_eq_false (HNE.out hpq)]; rfl, HBL.out.trans (HB2.out.mono HBL.out.size)⟩
      · obtain rfl : k = L := by omega
        have hls : xs.map Zr.x = ys.map Zr.x := by
          have := HE.out
          rwa [List.take_of_length_le (by have := HL.out; omega), List.take_of_length_le (by have := H1.out; omega)] at this
        go_wp2
        go_ret
        exact ⟨by rw [decide_eq_true hls]; rfl, HBL.out⟩
  · have hne : xs.map Zr.x ≠ ys.map Zr.x := fun e => h1 (by have := congrArg List.length e; rwa [List.length_map, List.length_map] at this)
    rw [decide_eq_false hne]
    have eL : ((xs.length : Int) != (ys.length : Int)) = true := by rw [bne_iff_ne]; omega
    generalize xs.length = L at *
    generalize ys.length = M at *
    clear h1 hne HV HU HFX HFY
    subst ha hb
    go_enter Tryz.func21, Tryz.ntmps21
    go_wp2
    go_ret
    exact ⟨rfl, Below.refl _ _⟩
open Classical in
theorem same10_any (xs ys : List Zr) (hx : Fin0 xs) (hy : Fin0 ys) (v u : Value) (w : World) (hv : SAt w v xs) (hu : SAt w u ys) :
    Calls Tryz.prog 10 #[v, u] w (Ret w (.bool (decide (xs.map Zr.x = ys.map Zr.x)))) := by
  have HE := Lib.hid (ef21_any xs ys hx hy v u w hv hu)
  clear hv hu hx hy
  generalize decide (xs.map Zr.x = ys.map Zr.x) = B at *
  go_enter Tryz.func10, Tryz.ntmps10
  go_wp2_with fail
  refine HE.out.mono ?_
  rintro e w1 ⟨rfl, hb⟩
  go_wp2
  go_ret
  exact ⟨rfl, hb⟩
end Go.Proofs.YtioflicmpnkfeaaGreat
