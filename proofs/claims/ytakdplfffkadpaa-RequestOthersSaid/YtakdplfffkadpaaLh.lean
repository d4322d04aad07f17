/- The contract of the law's 'large'. -/
import Derived.Test.YtakdplfffkadpaaLg
namespace Go.Proofs.Ytakdplfffkadpaa
open Go Go.RowKit
set_option maxRecDepth 100000
set_option maxHeartbeats 2000000 in
theorem large_any (zs : List Zr) (hl : zs.length ≤ maxLen) (hw : ∀ z ∈ zs, WideZ z) (v : Value) (w : World) (hv : SAt w v zs) :
    Calls Try.prog 22 #[v] w (Ret w (.bool (decide (4000 ≤ lg (zs.map Zr.x) 0)))) := by
  have HV := Lib.hid hv
  have HW := Lib.hid hw
  obtain ⟨va, vc, hv2⟩ := hv.slice
  clear hv hw
  have hl2 : (zs.length : Int) ≤ 9223372036854775807 := by have := hl; unfold maxLen at this; omega
  generalize hL : zs.length = L at *
  have HL := Lib.hid hL
  clear hL hl
  subst hv2
  go_enter Try.func22, Try.ntmps22
  go_wp2
  go_loopw [3, 4] (fun n i wr => ∃ (k N : Nat), n = .int .i64 (N : Int) ∧ i = .int .i64 (k : Int) ∧ k ≤ L ∧ N ≤ 12010 ∧ Hid (lg ((zs.drop k).map Zr.x) N = lg (zs.map Zr.x) 0) ∧ Hid (Below w.heap.size w wr)) (fun _ i _ => L - (intOf i).toNat)
  case atStart => exact ⟨0, 0, rfl, rfl, by omega, by omega, Lib.hid rfl, Lib.hid (Below.refl _ _)⟩
  case round =>
    obtain ⟨k, N, rfl, rfl, hk, hN, HE, HB⟩ := hrel
    obtain ⟨wo, hwo⟩ : ∃ wo, wo = wr := ⟨_, rfl⟩
    subst hwo
    by_cases hlt : k < L
    · have hkl : k < zs.length := by have := HL.out; omega
      by_cases hN4 : N < 4000
      · have HV2 := Lib.hid (HV.out.below HB.out (Nat.le_refl _))
        rcases HV2.out.row with ⟨h0, _⟩ | ⟨g, o, c, hg, hcs⟩
        · have := congrArg List.length h0; rw [List.length_map, List.length_nil] at this; omega
        obtain ⟨q0, q1⟩ := hcs k (by rw [List.length_map]; exact hkl)
        rw [List.getElem_map] at q0 q1
        rw [List.length_map, HL.out] at hg
        clear hcs
        have hdr : (zs.drop k).map Zr.x = zs[k].x :: (zs.drop (k + 1)).map Zr.x := by rw [List.drop_eq_getElem_cons hkl]; rfl
        have hrun := HE.out
        rw [hdr, lg, if_pos hN4] at hrun
        have hz := HW.out zs[k] (List.getElem_mem hkl)
        have hA := HV2.out.ls zs[k] (List.getElem_mem hkl)
        have hM := HV2.out.ss zs[k] (List.getElem_mem hkl)
        clear hdr HV2
        generalize zs[k] = Z at *
        obtain ⟨⟨ls, ss⟩, za, zb⟩ := Z
        unfold zp at q0 q1
        dsimp only at q0 q1 hrun hA hM
        obtain ⟨a1, a2, ha⟩ := At2.slice hA
        obtain ⟨m1, m2, hm⟩ := At2.slice hM
        rw [List.length_map] at ha hm
        subst ha hm
        have hs := hz.s
        have hll := hz.l
        dsimp only at hs hll
        have HZW := Lib.hid hz.w
        have HA := Lib.hid hA
        clear hz hA hM
        cases hg
        have hs2 : (ss.length : Int) ≤ 140737488355328 := by omega
        have hll2 : (ls.length : Int) ≤ 9223372036854775807 := by unfold maxLen at hll; omega
        obtain ⟨m, hm⟩ : ∃ m, min 4000 (20 * ss.length) = m := ⟨_, rfl⟩
        rw [hm] at hrun
        have hmi : min 4000 (20 * (ss.length : Int)) = (m : Int) := by omega
        have hm4 : m ≤ 4000 := by omega
        obtain ⟨N0, hN0⟩ : ∃ N0, N + 10 + m = N0 := ⟨_, rfl⟩
        rw [hN0] at hrun
        have hN0i : (N : Int) + 10 + (m : Int) = (N0 : Int) := by omega
        have hN08 : N0 ≤ 8009 := by omega
        obtain ⟨R, hR⟩ : ∃ R, lgL ls N0 = R := ⟨_, rfl⟩
        rw [hR] at hrun
        have HRN := Lib.hid hrun
        have HR := Lib.hid hR
        obtain ⟨T, hT⟩ : ∃ T, 20 * ss.length = T := ⟨_, rfl⟩
        have hTi : 20 * (ss.length : Int) = (T : Int) := by omega
        have hT4 : (T : Int) ≤ 175921860444160 := by omega
        rw [hTi] at hmi
        generalize hSS : ss.length = SS at *
        generalize hLS : ls.length = LS at *
        have HLS := Lib.hid hLS
        have hRt : R ≤ 12010 := by rw [← hR]; exact lgL_top ls N0 (by omega)
        clear hm hs hll hrun hSS hLS hR hN0 hT
        go_wp2
        go_loopw [3, 5] (fun n i wi => ∃ (j M : Nat), n = .int .i64 (M : Int) ∧ i = .int .i64 (j : Int) ∧ j ≤ LS ∧ M ≤ 12010 ∧ Hid (lgL (ls.drop j) M = R) ∧ Hid (Below w.heap.size w wi) ∧ Hid (Below wo.heap.size wo wi)) (fun _ i _ => LS - (intOf i).toNat)
        case atStart => exact ⟨0, N0, rfl, rfl, by omega, by omega, HR, HB, Lib.hid (Below.refl _ _)⟩
        case round =>
          obtain ⟨j, M, rfl, rfl, hj, hM, HE2, HB2, HBo⟩ := hrel
          have p0 := (HBo.out.cell (World.block_lt_of_cell? wo _ q0)).trans q0
          by_cases hjl : j < LS
          · have hjk : j < ls.length := by have := HLS.out; omega
            by_cases hM4 : M < 4000
            · rcases At2.below HA.out HBo.out (Nat.le_refl _) with ⟨h0, _⟩ | ⟨g2, o2, c2, hg2, hcs2⟩
              · have := congrArg List.length h0; rw [List.length_map, List.length_nil] at this; omega
              obtain ⟨r0, r1⟩ := hcs2 j (by rw [List.length_map]; exact hjk)
              rw [List.getElem_map] at r0 r1
              rw [List.length_map, HLS.out] at hg2
              clear hcs2
              have hrun := HE2.out
              rw [List.drop_eq_getElem_cons hjk, lgL, if_pos hM4] at hrun
              have hyw := HZW.out ls[j] (List.getElem_mem hjk)
              generalize ls[j] = Y at *
              obtain ⟨yn, yv⟩ := Y
              unfold lp at r0 r1
              dsimp only at r0 r1 hrun hyw
              cases hg2
              have hyn : (yn.size : Int) ≤ 9223372036854775807 := by have := hyw.1; unfold maxLen at this; omega
              have hyv : (yv.size : Int) ≤ 9223372036854775807 := by have := hyw.2; unfold maxLen at this; omega
              obtain ⟨mn, hmn⟩ : ∃ mn, min 4000 yn.size = mn := ⟨_, rfl⟩
              obtain ⟨mv, hmv⟩ : ∃ mv, min 4000 yv.size = mv := ⟨_, rfl⟩
              rw [hmn, hmv] at hrun
              have hmni : min 4000 (yn.size : Int) = (mn : Int) := by omega
              have hmvi : min 4000 (yv.size : Int) = (mv : Int) := by omega
              have hmn4 : mn ≤ 4000 := by omega
              have hmv4 : mv ≤ 4000 := by omega
              have HRN2 := Lib.hid hrun
              clear hrun hyw hmn hmv
              generalize hYN : (yn.size : Int) = YN at *
              generalize hYV : (yv.size : Int) = YV at *
              go_wp2
              go_big_quiet (fail)
              go_wp2
              go_roundw
              case rel => exact ⟨j + 1, M + 10 + mn + mv, by go_num, by go_num, by omega, by omega, HRN2, Lib.hid (below_drewN HB2.out _), Lib.hid (below_drewN HBo.out _)⟩
              case measure => simp [intOf]; omega
            · have hMR : M = R := by
                have := HE2.out
                rw [List.drop_eq_getElem_cons hjk, lgL, if_neg hM4] at this
                exact this
              subst hMR
              go_wp2
              go_roundw
              case rel => exact ⟨k + 1, M, rfl, by go_num, by omega, hM, HRN, HB2⟩
              case measure => simp [intOf]; omega
          · obtain rfl : j = LS := by omega
            have hMR : M = R := by
              have := HE2.out
              rw [List.drop_of_length_le (by have := HLS.out; omega), lgL] at this
              exact this
            subst hMR
            go_wp2
            go_roundw
            case rel => exact ⟨k + 1, M, rfl, by go_num, by omega, hM, HRN, HB2⟩
            case measure => simp [intOf]; omega
      · have HR : Hid (N = lg (zs.map Zr.x) 0) := Lib.hid (by
          have := HE.out
          rw [show (zs.drop k).map Zr.x = zs[k].x :: (zs.drop (k + 1)).map Zr.x by rw [List.drop_eq_getElem_cons hkl]; rfl, lg, if_neg hN4] at this
          exact this)
        go_wp2
        go_ret
        refine ⟨?_, HB.out⟩
        rw [← HR.out]
        simp
        omega
    · obtain rfl : k = L := by omega
      have HR : Hid (N = lg (zs.map Zr.x) 0) := Lib.hid (by
        have := HE.out
        rw [List.drop_of_length_le (by have := HL.out; omega), List.map_nil, lg] at this
        exact this)
      go_wp2
      go_ret
      refine ⟨?_, HB.out⟩
      rw [← HR.out]
      simp
      omega
end Go.Proofs.Ytakdplfffkadpaa
