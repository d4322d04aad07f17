/- The law's 'large': what it counts; the bytes of series that are not large. -/
/- The contract of the law's 'large'. -/
import Derived.Test.YtioflicmpnkfeaaGreatSd
import Derived.Lib.Strings
namespace Go.Proofs.YtioflicmpnkfeaaGreat
open Go Go.RowKit
set_option maxRecDepth 100000
def lgL : List Lb → Nat → Nat
  | [], n => n
  | x :: r, n => if n < 4000 then lgL r (n + 10 + min 4000 x.n.size + min 4000 x.v.size) else n
def lg : List Sr → Nat → Nat
  | [], n => n
  | x :: r, n => if n < 4000 then lg r (lgL x.ls (n + 10 + min 4000 (20 * x.ss.length))) else n
theorem lgL_le : ∀ (l : List Lb) (n : Nat), n ≤ lgL l n
  | [], n => Nat.le_refl _
  | x :: r, n => by
    rw [lgL]
    split
    · have := lgL_le r (n + 10 + min 4000 x.n.size + min 4000 x.v.size); omega
    · exact Nat.le_refl _
theorem lg_le : ∀ (l : List Sr) (n : Nat), n ≤ lg l n
  | [], n => Nat.le_refl _
  | x :: r, n => by
    rw [lg]
    split
    · have h1 := lg_le r (lgL x.ls (n + 10 + min 4000 (20 * x.ss.length)))
      have h2 := lgL_le x.ls (n + 10 + min 4000 (20 * x.ss.length))
      omega
    · exact Nat.le_refl _
theorem lgL_top : ∀ (l : List Lb) (n : Nat), n ≤ 12010 → lgL l n ≤ 12010
  | [], n, h => h
  | x :: r, n, h => by
    rw [lgL]
    split
    · exact lgL_top r _ (by omega)
    · exact h
/-- Bytes of labels, of series, as counted. -/
theorem lgL_len : ∀ (l : List Lb) (n : Nat), lgL l n < 4000 → (eM (l.map fun y => part 1 (eLb y))).length + 4 * n ≤ 4 * lgL l n
  | [], n, h => by simp [lgL, eM]
  | x :: r, n, h => by
    rw [lgL] at h ⊢
    by_cases hn : n < 4000
    · rw [if_pos hn] at h ⊢
      have ih := lgL_len r _ h
      have hle := lgL_le r (n + 10 + min 4000 x.n.size + min 4000 x.v.size)
      have h4 := eLb_len x
      have e1 : x.n.data.toList.length = x.n.size := by simp
      have e2 : x.v.data.toList.length = x.v.size := by simp
      have h5 : nLen x ≤ x.n.size + 11 := by
        unfold nLen
        split
        · omega
        · rw [part_len, e1]
          have a1 := Bt.vlen_u64 (n := x.n.size) (by omega)
          have a2 : Bt.vlen (1 * 8 + 2) = 1 := by rw [← Bt.vint_length, vint8 (by decide)]; rfl
          omega
      have h6 : vLen x ≤ x.v.size + 11 := by
        unfold vLen
        split
        · omega
        · rw [part_len, e2]
          have a1 := Bt.vlen_u64 (n := x.v.size) (by omega)
          have a2 : Bt.vlen (2 * 8 + 2) = 1 := by rw [← Bt.vint_length, vint8 (by decide)]; rfl
          omega
      rw [List.map_cons, eM_cons, List.length_append, part_len]
      have a1 := Bt.vlen_u64 (n := (eLb x).length) (by omega)
      have a2 : Bt.vlen (1 * 8 + 2) = 1 := by rw [← Bt.vint_length, vint8 (by decide)]; rfl
      omega
    · rw [if_neg hn] at h; omega
theorem eSm_le (y : Sm) (h : y.ok) : (eSm y).length ≤ 20 := by
  rw [eSm_len]
  have h1 : bLen y ≤ 9 := by
    unfold bLen
    split
    · omega
    · unfold fby vby
      rw [List.length_append, if_neg (by simp), if_pos (by simp), vint8 (show (1 : Nat) * 8 + 1 < 128 by decide)]
      have := Bt.fx_length 8 y.b
      simp [this]
  have h2 : tLen y ≤ 11 := by
    unfold tLen
    split
    · omega
    · unfold fby vby
      rw [List.length_append, if_pos (by simp), vint8 (show (2 : Nat) * 8 + 0 < 128 by decide), Bt.vint_length]
      have := Bt.vlen_u64 (n := tn y.t) (tn_lt _)
      simp only [List.length_cons, List.length_nil]
      omega
  omega
theorem ss_len : ∀ (l : List Sm), (∀ y ∈ l, y.ok) → (eM (l.map fun y => part 2 (eSm y))).length ≤ 22 * l.length
  | [], _ => by simp [eM]
  | y :: r, h => by
    have ih := ss_len r (fun z hz => h z (by simp [hz]))
    have hy := eSm_le y (h y (by simp))
    rw [List.map_cons, eM_cons, List.length_append, part_len, List.length_cons]
    have a1 : Bt.vlen (eSm y).length = 1 := by rw [← Bt.vint_length, vint8 (by omega)]; rfl
    have a2 : Bt.vlen (2 * 8 + 2) = 1 := by rw [← Bt.vint_length, vint8 (by decide)]; rfl
    omega
theorem lg_len : ∀ (l : List Sr) (n : Nat), (∀ x ∈ l, ∀ y ∈ x.ss, y.ok) → lg l n < 4000 → (eRq l).length + 4 * n ≤ 4 * lg l n
  | [], n, _, h => by simp [lg, eRq, fRq, eM]
  | x :: r, n, ho, h => by
    rw [lg] at h ⊢
    by_cases hn : n < 4000
    · rw [if_pos hn] at h ⊢
      have ih := lg_len r _ (fun z hz => ho z (by simp [hz])) h
      have hle := lg_le r (lgL x.ls (n + 10 + min 4000 (20 * x.ss.length)))
      have hL := lgL_len x.ls (n + 10 + min 4000 (20 * x.ss.length)) (by omega)
      have hle2 := lgL_le x.ls (n + 10 + min 4000 (20 * x.ss.length))
      have hS := ss_len x.ss (ho x (by simp))
      have e : eRq (x :: r) = fby (part 1 (eSr x)) ++ eRq r := rfl
      have e2 : (eSr x).length = (eM (x.ls.map fun y => part 1 (eLb y))).length + (eM (x.ss.map fun y => part 2 (eSm y))).length := by
        unfold eSr fSr
        rw [eM_app, List.length_append]
      rw [e, List.length_append, part_len]
      have a1 := Bt.vlen_u64 (n := (eSr x).length) (by omega)
      have a2 : Bt.vlen (1 * 8 + 2) = 1 := by rw [← Bt.vint_length, vint8 (by decide)]; rfl
      omega
    · rw [if_neg hn] at h; omega
/-- Series that a call was handed. -/
structure WideZ (z : Zr) : Prop where
  l : z.x.ls.length ≤ maxLen
  s : z.x.ss.length ≤ 8796093022208
  w : ∀ y ∈ z.x.ls, y.n.size ≤ maxLen ∧ y.v.size ≤ maxLen
  o : ∀ y ∈ z.x.ss, y.ok
end Go.Proofs.YtioflicmpnkfeaaGreat

namespace Go.Proofs.YtioflicmpnkfeaaGreat
open Go Go.RowKit
set_option maxRecDepth 100000
set_option maxHeartbeats 2000000 in
theorem large_any (zs : List Zr) (hl : zs.length ≤ maxLen) (hw : ∀ z ∈ zs, WideZ z) (v : Value) (w : World) (hv : SAt w v zs) :
    Calls Tryz.prog 4 #[v] w (Ret w (.bool (decide (4000 ≤ lg (zs.map Zr.x) 0)))) := by
  have HV := Lib.hid hv
  have HW := Lib.hid hw
  obtain ⟨va, vc, hv2⟩ := hv.slice
  clear hv hw
  have hl2 : (zs.length : Int) ≤ 9223372036854775807 := by have := hl; unfold maxLen at this; omega
  generalize hL : zs.length = L at *
  have HL := Lib.hid hL
  clear hL hl
  subst hv2
  go_enter Tryz.func4, Tryz.ntmps4
  go_wp2
  go_loopw [3, 4] (fun n i wr => ∃ (k N : Nat), n = .int .i64 (N : Int) ∧ i = .int .i64 (k : Int) ∧ k ≤ L ∧ N ≤ 12010 ∧ Hid (lg ((zs.drop k).map Zr.x) N = lg (zs.map Zr.x) 0) ∧ Hid (Below w.heap.size w wr)) (fun _ i _ => L - (intOf i).toNat)
  case atStart => exact ⟨0, 0, rfl, rfl, by omega, by omega, Lib.hid rfl, Lib.hid (Below.refl _ _)⟩
  case round =>
    obtain ⟨k, N, rfl, rfl, hk, hN, HE, HB⟩ := hrel
    obtain ⟨wo, hwo⟩ : ∃ wo, wo = wr := ⟨_, rfl⟩
    subst hwo
    by_cases hlt : k < L
    · have hkl : k < zs.length := by have := HL.out; omega
      by_cases hN4 : N < 4000
      · have HV2 := Lib.hid (HV.out.below HB.out (Nat.le_refl _))
        rcases HV2.out.row with ⟨h0, _⟩ | ⟨g, o, c, hg, hcs⟩
        · have := congrArg List.length h0; rw [List.length_map, List.length_nil] at this; omega
        obtain ⟨q0, q1⟩ := hcs k (by rw [List.length_map]; exact hkl)
        rw [List.getElem_map] at q0 q1
        rw [List.length_map, HL.out] at hg
        clear hcs
        have hdr : (zs.drop k).map Zr.x = zs[k].x :: (zs.drop (k + 1)).map Zr.x := by rw [List.drop_eq_getElem_cons hkl]; rfl
        have hrun := HE.out
        rw [hdr, lg, if_pos hN4] at hrun
        have hz := HW.out zs[k] (List.getElem_mem hkl)
        have hA := HV2.out.ls zs[k] (List.getElem_mem hkl)
        have hM := HV2.out.ss zs[k] (List.getElem_mem hkl)
        clear hdr HV2
        generalize zs[k] = Z at *
        obtain ⟨⟨ls, ss⟩, za, zb⟩ := Z
        unfold zp at q0 q1
        dsimp only at q0 q1 hrun hA hM
        obtain ⟨a1, a2, ha⟩ := At2.slice hA
        obtain ⟨m1, m2, hm⟩ := At2.slice hM
        rw [List.length_map] at ha hm
        subst ha hm
        have hs := hz.s
        have hll := hz.l
        dsimp only at hs hll
        have HZW := Lib.hid hz.w
        have HA := Lib.hid hA
        clear hz hA hM
        cases hg
        have hs2 : (ss.length : Int) ≤ 140737488355328 := by omega
        have hll2 : (ls.length : Int) ≤ 9223372036854775807 := by unfold maxLen at hll; omega
        obtain ⟨m, hm⟩ : ∃ m, min 4000 (20 * ss.length) = m := ⟨_, rfl⟩
        rw [hm] at hrun
        have hmi : min 4000 (20 * (ss.length : Int)) = (m : Int) := by omega
        have hm4 : m ≤ 4000 := by omega
        obtain ⟨N0, hN0⟩ : ∃ N0, N + 10 + m = N0 := ⟨_, rfl⟩
        rw [hN0] at hrun
        have hN0i : (N : Int) + 10 + (m : Int) = (N0 : Int) := by omega
        have hN08 : N0 ≤ 8009 := by omega
        obtain ⟨R, hR⟩ : ∃ R, lgL ls N0 = R := ⟨_, rfl⟩
        rw [hR] at hrun
        have HRN := Lib.hid hrun
        have HR := Lib.hid hR
        obtain ⟨T, hT⟩ : ∃ T, 20 * ss.length = T := ⟨_, rfl⟩
        have hTi : 20 * (ss.length : Int) = (T : Int) := by omega
        have hT4 : (T : Int) ≤ 175921860444160 := by omega
        rw [hTi] at hmi
        generalize hSS : ss.length = SS at *
        generalize hLS : ls.length = LS at *
        have HLS := Lib.hid hLS
        have hRt : R ≤ 12010 := by rw [← hR]; exact lgL_top ls N0 (by omega)
        clear hm hs hll hrun hSS hLS hR hN0 hT
        go_wp2
        go_loopw [3, 5] (fun n i wi => ∃ (j M : Nat), n = .int .i64 (M : Int) ∧ i = .int .i64 (j : Int) ∧ j ≤ LS ∧ M ≤ 12010 ∧ Hid (lgL (ls.drop j) M = R) ∧ Hid (Below w.heap.size w wi) ∧ Hid (Below wo.heap.size wo wi)) (fun _ i _ => LS - (intOf i).toNat)
        case atStart => exact ⟨0, N0, rfl, rfl, by omega, by omega, HR, HB, Lib.hid (Below.refl _ _)⟩
        case round =>
          obtain ⟨j, M, rfl, rfl, hj, hM, HE2, HB2, HBo⟩ := hrel
          have p0 := (HBo.out.cell (World.block_lt_of_cell? wo _ q0)).trans q0
          by_cases hjl : j < LS
          · have hjk : j < ls.length := by have := HLS.out; omega
            by_cases hM4 : M < 4000
            · rcases At2.below HA.out HBo.out (Nat.le_refl _) with ⟨h0, _⟩ | ⟨g2, o2, c2, hg2, hcs2⟩
              · have := congrArg List.length h0; rw [List.length_map, List.length_nil] at this; omega
              obtain ⟨r0, r1⟩ := hcs2 j (by rw [List.length_map]; exact hjk)
              rw [List.getElem_map] at r0 r1
              rw [List.length_map, HLS.out] at hg2
              clear hcs2
              have hrun := HE2.out
              rw [List.drop_eq_getElem_cons hjk, lgL, if_pos hM4] at hrun
              have hyw := HZW.out ls[j] (List.getElem_mem hjk)
              generalize ls[j] = Y at *
              obtain ⟨yn, yv⟩ := Y
              unfold lp at r0 r1
              dsimp only at r0 r1 hrun hyw
              cases hg2
              have hyn : (yn.size : Int) ≤ 9223372036854775807 := by have := hyw.1; unfold maxLen at this; omega
              have hyv : (yv.size : Int) ≤ 9223372036854775807 := by have := hyw.2; unfold maxLen at this; omega
              obtain ⟨mn, hmn⟩ : ∃ mn, min 4000 yn.size = mn := ⟨_, rfl⟩
              obtain ⟨mv, hmv⟩ : ∃ mv, min 4000 yv.size = mv := ⟨_, rfl⟩
              rw [hmn, hmv] at hrun
              have hmni : min 4000 (yn.size : Int) = (mn : Int) := by omega
              have hmvi : min 4000 (yv.size : Int) = (mv : Int) := by omega
              have hmn4 : mn ≤ 4000 := by omega
              have hmv4 : mv ≤ 4000 := by omega
              have HRN2 := Lib.hid hrun
              clear hrun hyw hmn hmv
              generalize hYN : (yn.size : Int) = YN at *
              generalize hYV : (yv.size : Int) = YV at *
              go_wp2
              go_big_quiet (fail)
              go_wp2
              go_roundw
              case rel => exact ⟨j + 1, M + 10 + mn + mv, by go_num, by go_num, by omega, by omega, HRN2, Lib.hid (below_drewN HB2.out _), Lib.hid (below_drewN HBo.out _)⟩
              case measure => simp [intOf]; omega
            · have hMR : M = R := by
                have := HE2.out
                rw [List.drop_eq_getElem_cons hjk, lgL, if_neg hM4] at this
                exact this
              subst hMR
              go_wp2
              go_roundw
              case rel => exact ⟨k + 1, M, rfl, by go_num, by omega, hM, HRN, HB2⟩
              case measure => simp [intOf]; omega
          · obtain rfl : j = LS := by omega
            have hMR : M = R := by
              have := HE2.out
              rw [List.drop_of_length_le (by have := HLS.out; omega), lgL] at this
              exact this
            subst hMR
            go_wp2
            go_roundw
            case rel => exact ⟨k + 1, M, rfl, by go_num, by omega, hM, HRN, HB2⟩
            case measure => simp [intOf]; omega
      · have HR : Hid (N = lg (zs.map Zr.x) 0) := Lib.hid (by
          have := HE.out
          rw [show (zs.drop k).map Zr.x = zs[k].x :: (zs.drop (k + 1)).map Zr.x by rw [List.drop_eq_getElem_cons hkl]; rfl, lg, if_neg hN4] at this
          exact this)
        go_wp2
        go_ret
        refine ⟨?_, HB.out⟩
        rw [← HR.out]
        simp
        omega
    · obtain rfl : k = L := by omega
      have HR : Hid (N = lg (zs.map Zr.x) 0) := Lib.hid (by
        have := HE.out
        rw [List.drop_of_length_le (by have := HL.out; omega), List.map_nil, lg] at this
        exact this)
      go_wp2
      go_ret
      refine ⟨?_, HB.out⟩
      rw [← HR.out]
      simp
      omega
end Go.Proofs.YtioflicmpnkfeaaGreat
