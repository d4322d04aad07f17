/- Decode. -/
import Derived.Test.YtpcpbdcdapmlnaaDoorHe
namespace Go.Proofs.YtpcpbdcdapmlnaaDoor
open Go Go.RowKit
set_option maxRecDepth 100000
set_option maxHeartbeats 2000000 in
theorem decode_any (s : ByteArray) (hs : s.size ≤ 140737488351232) (w : World) : Calls Tryd.prog 16 #[.string s] w (DcRet w (dcR s).1 (.int .i64 ((dcR s).2 : Int))) := by
  have HV := Lib.hid (fun b a e most W h ha => varint_any b s a e most W h ha hs)
  have HW := Lib.hid (fun b a e W h ha => below_any b s a e 32 W h ha hs (by decide) (by decide))
  have f1 := vr_facts s 1099511627776 0 0 (Nat.zero_le _)
  have f2 := vr_facts s 1099511627776 (r1 s).2.1 (r1 s).2.2 f1.2.1
  have f3 := vr_facts s 31 (r2 s).2.1 (r2 s).2.2 f2.2.1
  have f4 := vr_facts s 31 (r3 s).2.1 (r3 s).2.2 f3.2.1
  have F5 := Lib.hid (fun k => vrs_facts s k (r4 s).2.1 (r4 s).2.2 f4.2.1)
  have G2 : Hid (vr s 1099511627776 (r1 s).2.1 (r1 s).2.2 = r2 s) := Lib.hid rfl
  have G3 : Hid (vr s 31 (r2 s).2.1 (r2 s).2.2 = r3 s) := Lib.hid rfl
  have G4 : Hid (vr s 31 (r3 s).2.1 (r3 s).2.2 = r4 s) := Lib.hid rfl
  have G1 : Hid (vr s 1099511627776 0 0 = r1 s) := Lib.hid rfl
  rw [G1.out] at f1
  rw [G2.out] at f2
  rw [G3.out] at f3
  rw [G4.out] at f4
  have D0 : Hid (Dm w (((w.alloc (.cells #[.int .i64 0, .int .i64 0, .int .i64 0, .slice none 0 0] 26)).alloc (.cells #[.string s, .int .i64 0, .int .i64 0] 110)).alloc (.cells #[.int .i64 0, .int .i64 0, .int .i64 0, .slice none 0 0] 26)) s 0 0 0 0 0 (.slice none 0 0)) := by
    refine Lib.hid ⟨?_, ?_, ?_, ?_, ?_⟩
    · have := (RdAt.new s (w.alloc (.cells #[.int .i64 0, .int .i64 0, .int .i64 0, .slice none 0 0] 26))).alloc (.cells #[.int .i64 0, .int .i64 0, .int .i64 0, .slice none 0 0] 26)
      rw [World.size_alloc] at this; exact this
    · have := Box4.new ((w.alloc (.cells #[.int .i64 0, .int .i64 0, .int .i64 0, .slice none 0 0] 26)).alloc (.cells #[.string s, .int .i64 0, .int .i64 0] 110)) (.int .i64 0) (.int .i64 0) (.int .i64 0) (.slice none 0 0)
      rw [World.size_alloc, World.size_alloc] at this; exact this
    · exact ((Box4.new w _ _ _ _).alloc _).alloc _
    · exact (below_two w _ _).alloc (by simp; omega) _
    · simp
  have hw1 : IntKind.i64.wrap ((r1 s).1 : Int) = ((r1 s).1 : Int) := by rw [Bt.wrap_i64]; omega
  have hw2 : IntKind.i64.wrap ((r2 s).1 : Int) = ((r2 s).1 : Int) := by rw [Bt.wrap_i64]; omega
  go_enter Tryd.func16, Tryd.ntmps16
  go_wp2_with fail
  refine (rnew_any s _).mono ?_
  rintro e w1 ⟨rfl, rfl⟩
  go_wp2_with fail
  refine (HV.out (w.heap.size + 1) 0 0 1099511627776 _ D0.out.R (Nat.zero_le _)).mono ?_
  rw [G1.out]
  rintro e w2 ⟨rfl, hR, hg⟩
  have D1 := Lib.hid (D0.out.read hR hg)
  clear hR hg D0
  have a0 := D1.out.H.c0
  have b0 := D1.out.H.free 0
  go_wp2_with fail
  have D2 := Lib.hid (D1.out.st 0 _ (D1.out.H.set0 (.int .i64 ((r1 s).1 : Int))))
  clear D1 a0 b0
  generalize w2.setCell ⟨w.heap.size + 1 + 1, 0, none⟩ (.int .i64 ((r1 s).1 : Int)) = w3 at *
  refine (HV.out (w.heap.size + 1) (r1 s).2.1 (r1 s).2.2 1099511627776 _ D2.out.R f1.2.1).mono ?_
  rw [G2.out]
  rintro e w4 ⟨rfl, hR, hg⟩
  have D3 := Lib.hid (D2.out.read hR hg)
  clear hR hg D2
  have a0 := D3.out.H.c1
  have b0 := D3.out.H.free 1
  go_wp2_with fail
  have D4 := Lib.hid (D3.out.st 1 _ (D3.out.H.set1 (.int .i64 ((r2 s).1 : Int))))
  clear D3 a0 b0
  generalize w4.setCell ⟨w.heap.size + 1 + 1, 1, none⟩ (.int .i64 ((r2 s).1 : Int)) = w5 at *
  refine (HW.out (w.heap.size + 1) (r2 s).2.1 (r2 s).2.2 _ D4.out.R f2.2.1).mono ?_
  rw [show 32 - 1 = 31 from rfl, G3.out]
  rintro e w6 ⟨rfl, hR, hg⟩
  have D5 := Lib.hid (D4.out.read hR hg)
  clear hR hg D4
  have a0 := D5.out.H.c2
  have b0 := D5.out.H.free 2
  go_wp2_with fail
  have D6 := Lib.hid (D5.out.st 2 _ (D5.out.H.set2 (.int .i64 ((r3 s).1 : Int))))
  clear D5 a0 b0
  generalize w6.setCell ⟨w.heap.size + 1 + 1, 2, none⟩ (.int .i64 ((r3 s).1 : Int)) = w7 at *
  refine (HW.out (w.heap.size + 1) (r3 s).2.1 (r3 s).2.2 _ D6.out.R f3.2.1).mono ?_
  rw [show 32 - 1 = 31 from rfl, G4.out]
  rintro e w8 ⟨rfl, hR, hg⟩
  have D7 := Lib.hid (D6.out.read hR hg)
  clear hR hg D6
  have hn := f4.1
  have H5 : Hid (rdH s = ⟨(r1 s).1, (r2 s).1, (r3 s).1, nat2 (r5 s).1⟩) := Lib.hid rfl
  have H6 : Hid (r5 s = vrs s (r4 s).1 (r4 s).2.1 (r4 s).2.2) := Lib.hid rfl
  have H7 : Hid (rdE s = endE s (r5 s).2.1 (r5 s).2.2) := Lib.hid rfl
  have H8 : Hid (dcR s = if rdE s ≠ 0 then (he0, rdE s) else if mayB (rdH s) = true then (rdH s, 0) else (he0, 4)) := Lib.hid rfl
  clear f1 f2 f3 f4 G1 G2 G3 G4 hw1 hw2 HV
  generalize dcR s = DC at *
  generalize rdH s = RH at *
  generalize rdE s = RE at *
  generalize r5 s = R5 at *
  generalize (r1 s).1 = g at *
  generalize (r2 s).1 = b at *
  generalize (r3 s).1 = p at *
  generalize (r4 s).1 = N at *
  generalize (r4 s).2.1 = A at *
  generalize (r4 s).2.2 = E at *
  obtain ⟨i0, hi, hz0, hz1, hz2⟩ := info_parts Tryd.info3
  go_wp2
  go_loopw [22] (fun i wl => ∃ (k : Nat) (u : Value), i = .int .i64 (k : Int) ∧ k ≤ N ∧ Hid (Dm w wl s (vrs s k A E).2.1 (vrs s k A E).2.2 g b p u) ∧ Hid (Own wl (w.heap.size + 3) u ((nat2 (vrs s k A E).1).map iv))) (fun i _ => N - (intOf i).toNat)
  case atStart => exact ⟨0, _, rfl, Nat.zero_le _, D7, Lib.hid (Own.nil _ _)⟩
  case round =>
    obtain ⟨k, u, rfl, hk, HD, HO⟩ := hrel
    by_cases hlt : k < N
    · have F := F5.out k
      have HY : Hid (vrs s (k + 1) A E = ((vrs s k A E).1 ++ [(vr s 31 (vrs s k A E).2.1 (vrs s k A E).2.2).1], (vr s 31 (vrs s k A E).2.1 (vrs s k A E).2.2).2)) := Lib.hid rfl
      have HC := Lib.hid (HW.out (w.heap.size + 1) (vrs s k A E).2.1 (vrs s k A E).2.2 _ (HD.out.R.congr (w' := wr.drew) rfl) F.2.1)
      rw [show 32 - 1 = 31 from rfl] at HC
      generalize vr s 31 (vrs s k A E).2.1 (vrs s k A E).2.2 = V at *
      generalize vrs s k A E = X at *
      obtain ⟨V1, V2, V3⟩ := V
      obtain ⟨X1, X2, X3⟩ := X
      dsimp only at *
      have hX := F.1
      obtain ⟨ua, uc, rfl⟩ := HO.out.shape
      have hln : ((nat2 X1).map iv).length = k := by unfold nat2; rw [List.length_map, List.length_map, hX]
      rw [hln] at HO HD
      have a3 := HD.out.H.c3
      have b3 := HD.out.H.free 3
      have HS : Hid (Dm w wr.drew s X2 X3 g b p (.slice ua k uc)) := Lib.hid (HD.out.grown (grown_drewN wr 1 (w.heap.size + 3)) (fun k hk => by cases hk; exact Nat.le_refl _))
      have k0 := HS.out.H.c3
      go_wp2_with fail
      go_region_law (first
        | (rw [if_pos (by rfl)]; go_simp; go_at_call 51; refine HC.out.mono ?_; rintro e w9 ⟨rfl, hR, hg⟩; dsimp only; have S1 := Lib.hid (HS.out.read hR hg); have O1 := Lib.hid (HO.out.drew.kept hg (Or.inr (fun e => by have := (HO.out.lt _ e).1; omega))); have k1 := S1.out.H.c3; have k1b := (S1.out.H.alloc (.cells #[.int .i64 (V1 : Int)] 3)).c3; clear hR hg)
        | (refine step_append_Own rfl (.tmp 25) (.tmp 28) 24 24 rfl (w.heap.size + 3) 3 i0 (.int .i64 0) 8 Tryd.underlying24 hi hz0 hz1 hz2 rfl _ ((nat2 X1).map iv) rfl (O1.out.alloc _) _ 1 [iv (V1 : Int)] rfl (Src.one w9 Tryd.underlying24 _ _ rfl) (by rw [hln]; omega) (by rw [hln]; omega) (Nat.le_trans S1.out.Z (by simp)) ?_; intro v' w10 ho hs; have O2 := Lib.hid ho; have T2 := Lib.hid hs; have S2 := Lib.hid ((S1.out.grown (World.grownBy_alloc w9 _ none) (fun k hk => by cases hk)).grown hs.grown (fun k hk => (O1.out.lt k hk).1)); have k2 := S2.out.H.c3; have f2 := S2.out.H.free 3; obtain ⟨va, vc, hv'⟩ := ho.shape; subst hv'; clear ho hs)
        | (trace_state; fail))
      all_goals
        have S3 := Lib.hid (S2.out.st 3 _ (S2.out.H.set3 (.slice va ((nat2 X1).map iv ++ [iv (V1 : Int)]).length vc)))
        have O3 := Lib.hid (O2.out.kept (grown_setCell w10 (w.heap.size + 1 + 1) 3 (.slice va ((nat2 X1).map iv ++ [iv (V1 : Int)]).length vc)) (Or.inr (fun e => by have := (O2.out.lt _ e).1; omega)))
        have hl3 : ((nat2 X1).map iv ++ [iv (V1 : Int)]).length = k + 1 := by rw [List.length_append, hln]; rfl
        rw [hl3] at S3 O3
        have hn3 : (nat2 X1).map iv ++ [iv (V1 : Int)] = (nat2 (X1 ++ [V1])).map iv := by unfold nat2; simp
        rw [hn3] at O3
        clear k1 k1b k2 f2 a3 b3
        go_wp2
        go_roundw
        case rel => exact ⟨k + 1, _, by go_num, by omega, by rw [HY.out]; exact S3, by rw [HY.out]; exact O3⟩
        case measure => simp [intOf]; omega
    · obtain rfl : k = N := by omega
      have F := F5.out k
      rw [← H6.out] at HD HO F
      obtain ⟨L5, A5, E5⟩ := R5
      dsimp only at *
      have HEnd := Lib.hid (end_any (w.heap.size + 1) s A5 E5 wr HD.out.R F.2.1 hs)
      rw [← H7.out] at HEnd
      have hL := F.1
      obtain ⟨ua, uc, rfl⟩ := HO.out.shape
      have hln : ((nat2 L5).map iv).length = k := by unfold nat2; rw [List.length_map, List.length_map, hL]
      rw [hln] at HO HD
      have HNL : Hid ((nat2 L5).length = k) := Lib.hid (by unfold nat2; rw [List.length_map, hL])
      clear H6 H7 F5 F HW D7 hL hln
      by_cases hE : RE = 0
      · have hE0 : ((RE : Int) != 0) = false := by rw [hE]; rfl
        have HM : Hid (∀ W, KAt W (.slice ua k uc) (nat2 L5) → Calls Tryd.prog 10 #[.agg #[.int .i64 (g : Int), .int .i64 (b : Int), .int .i64 (p : Int), .slice ua k uc]] W (Ret W (.bool (mayB RH)))) :=
          Lib.hid (fun W hW => by rw [H5.out]; exact may_any ⟨(g : Int), (b : Int), (p : Int), nat2 L5⟩ (.slice ua k uc) W hW (by show (nat2 L5).length ≤ _; rw [HNL.out]; omega))
        cases hmy : mayB RH
        · have HDC : Hid (DC = (he0, 4)) := Lib.hid (by rw [H8.out, if_neg (by omega), hmy, if_neg (by simp)])
          rw [hmy] at HM
          clear H5 H8
          go_wp2_with fail
          refine HEnd.out.mono ?_
          rintro e w11 ⟨rfl, m, rfl⟩
          have HD2 := Lib.hid (HD.out.grown (grown_drewN wr m (w.heap.size + 3)) (fun k hk => by cases hk; exact Nat.le_refl _))
          have HO2 : Hid (Own (wr.drewN m) (w.heap.size + 3) (.slice ua k uc) ((nat2 L5).map iv)) := Lib.hid HO.out
          generalize wr.drewN m = wq at *
          clear HD HO
          have a0 := HD2.out.H.c0; have a1 := HD2.out.H.c1; have a2 := HD2.out.H.c2; have a3 := HD2.out.H.c3
          go_wp2_with fail
          refine (HM.out _ HO2.out.kat).mono ?_
          rintro e w12 ⟨rfl, hb⟩
          have HD3 := Lib.hid (HD2.out.grown (r := none) (grown_below hb none) (fun k hk => by cases hk))
          clear hb a0 a1 a2 a3
          have q0 := HD3.out.Q.c0; have q1 := HD3.out.Q.c1; have q2 := HD3.out.Q.c2; have q3 := HD3.out.Q.c3
          have z0 := HD3.out.Q.free 0; have z1 := HD3.out.Q.free 1; have z2 := HD3.out.Q.free 2; have z3 := HD3.out.Q.free 3
          go_wp2
          exact ret4 Tryd.results16 w.heap.size rfl rfl rfl (HD3.out.Q.setAll _ _ _ _) (by rw [HDC.out]; exact ⟨.slice none 0 0, rfl, Own.nil _ _, below_set4 HD3.out.B (Nat.le_refl _) _ _ _ _⟩)
        · have HDC : Hid (DC = (RH, 0)) := Lib.hid (by rw [H8.out, if_neg (by omega), hmy, if_pos rfl])
          have HRV : Hid (hval RH (.slice ua k uc) = .agg #[.int .i64 (g : Int), .int .i64 (b : Int), .int .i64 (p : Int), .slice ua k uc]) := Lib.hid (by rw [H5.out]; rfl)
          have HRL : Hid (RH.log = nat2 L5) := Lib.hid (by rw [H5.out])
          rw [hmy] at HM
          clear H5 H8
          go_wp2_with fail
          refine HEnd.out.mono ?_
          rintro e w11 ⟨rfl, m, rfl⟩
          have HD2 := Lib.hid (HD.out.grown (grown_drewN wr m (w.heap.size + 3)) (fun k hk => by cases hk; exact Nat.le_refl _))
          have HO2 : Hid (Own (wr.drewN m) (w.heap.size + 3) (.slice ua k uc) ((nat2 L5).map iv)) := Lib.hid HO.out
          generalize wr.drewN m = wq at *
          clear HD HO
          have a0 := HD2.out.H.c0; have a1 := HD2.out.H.c1; have a2 := HD2.out.H.c2; have a3 := HD2.out.H.c3
          go_wp2_with fail
          refine (HM.out _ HO2.out.kat).mono ?_
          rintro e w12 ⟨rfl, hb⟩
          have HD3 := Lib.hid (HD2.out.grown (r := none) (grown_below hb none) (fun k hk => by cases hk))
          have HO3 := Lib.hid (HO2.out.belowAll hb)
          clear hb a0 a1 a2 a3
          have q0 := HD3.out.Q.c0; have q1 := HD3.out.Q.c1; have q2 := HD3.out.Q.c2; have q3 := HD3.out.Q.c3
          have z0 := HD3.out.Q.free 0; have z1 := HD3.out.Q.free 1; have z2 := HD3.out.Q.free 2; have z3 := HD3.out.Q.free 3
          have a0 := HD3.out.H.c0; have a1 := HD3.out.H.c1; have a2 := HD3.out.H.c2; have a3 := HD3.out.H.c3
          go_wp2
          exact ret4 Tryd.results16 w.heap.size rfl rfl rfl (HD3.out.Q.setAll _ _ _ _) (by rw [HDC.out]; exact ⟨.slice ua k uc, by rw [HRV.out]; rfl, by rw [HRL.out]; exact (HO3.out.set4 (by omega) _ _ _ _).mono (by omega), below_set4 HD3.out.B (Nat.le_refl _) _ _ _ _⟩)
      · have hE0 : ((RE : Int) != 0) = true := ne0 hE
        have HDC : Hid (DC = (he0, RE)) := Lib.hid (by rw [H8.out, if_pos hE])
        clear H5 H8
        go_wp2_with fail
        refine HEnd.out.mono ?_
        rintro e w11 ⟨rfl, m, rfl⟩
        have HD2 := Lib.hid (HD.out.grown (grown_drewN wr m (w.heap.size + 3)) (fun k hk => by cases hk; exact Nat.le_refl _))
        generalize wr.drewN m = wq at *
        clear HD HO
        have q0 := HD2.out.Q.c0; have q1 := HD2.out.Q.c1; have q2 := HD2.out.Q.c2; have q3 := HD2.out.Q.c3
        have z0 := HD2.out.Q.free 0; have z1 := HD2.out.Q.free 1; have z2 := HD2.out.Q.free 2; have z3 := HD2.out.Q.free 3
        go_wp2
        exact ret4 Tryd.results16 w.heap.size rfl rfl rfl (HD2.out.Q.setAll _ _ _ _) (by rw [HDC.out]; exact ⟨.slice none 0 0, rfl, Own.nil _ _, below_set4 HD2.out.B (Nat.le_refl _) _ _ _ _⟩)
end Go.Proofs.YtpcpbdcdapmlnaaDoor
