/- Decode. -/
import Derived.Test.YtieemdcoomilaaaGreatDoorHd
set_option linter.unusedVariables false
set_option linter.unusedSimpArgs false
namespace Go.Proofs.YtieemdcoomilaaaGreatDoor
open Go Go.RowKit
set_option maxRecDepth 100000
set_option maxHeartbeats 2000000 in
theorem decode_any (s : ByteArray) (hs : s.size ≤ 140737488351232) (w : World) : Calls Tryz.prog 150 #[.string s] w (DcRet w (dcR s).1 (.int .i64 ((dcR s).2 : Int))) := by
  have HV := Lib.hid (fun b a e most W h ha => varint_any b s a e most W h ha hs)
  have HW := Lib.hid (fun b a e W h ha => below_any b s a e 32 W h ha hs (by decide) (by decide))
  have f1 := vr_facts s 1099511627776 0 0 (Nat.zero_le _)
  have f2 := vr_facts s 1099511627776 (r1 s).2.1 (r1 s).2.2 f1.2.1
  have f3 := vr_facts s 31 (r2 s).2.1 (r2 s).2.2 f2.2.1
  have f4 := vr_facts s 31 (r3 s).2.1 (r3 s).2.2 f3.2.1
  have F5 := Lib.hid (fun k => vrs_facts s k (r4 s).2.1 (r4 s).2.2 f4.2.1)
  have G2 : Hid (vr s 1099511627776 (r1 s).2.1 (r1 s).2.2 = r2 s) := Lib.hid rfl
  have G3 : Hid (vr s 31 (r2 s).2.1 (r2 s).2.2 = r3 s) := Lib.hid rfl
  have G4 : Hid (vr s 31 (r3 s).2.1 (r3 s).2.2 = r4 s) := Lib.hid rfl
  have G1 : Hid (vr s 1099511627776 0 0 = r1 s) := Lib.hid rfl
  rw [G1.out] at f1
  rw [G2.out] at f2
  rw [G3.out] at f3
  rw [G4.out] at f4
  have D0 : Hid (Dm w (((w.alloc (.cells #[.int .i64 0, .int .i64 0, .int .i64 0, .slice none 0 0] 40)).alloc (.cells #[.string s, .int .i64 0, .int .i64 0] 205)).alloc (.cells #[.int .i64 0, .int .i64 0, .int .i64 0, .slice none 0 0] 40)) s 0 0 0 0 0 (.slice none 0 0)) := by
    refine Lib.hid ⟨?_, ?_, ?_, ?_, ?_⟩
    · have := (RdAt.new s (w.alloc (.cells #[.int .i64 0, .int .i64 0, .int .i64 0, .slice none 0 0] 40))).alloc (.cells #[.int .i64 0, .int .i64 0, .int .i64 0, .slice none 0 0] 40)
      rw [World.size_alloc] at this; exact this
    · have := Box4.new ((w.alloc (.cells #[.int .i64 0, .int .i64 0, .int .i64 0, .slice none 0 0] 40)).alloc (.cells #[.string s, .int .i64 0, .int .i64 0] 205)) (.int .i64 0) (.int .i64 0) (.int .i64 0) (.slice none 0 0)
      rw [World.size_alloc, World.size_alloc] at this; exact this
    · exact ((Box4.new w _ _ _ _).alloc _).alloc _
    · exact (below_two w _ _).alloc (by simp; omega) _
    · simp
  have hw1 : IntKind.i64.wrap ((r1 s).1 : Int) = ((r1 s).1 : Int) := by rw [Bt.wrap_i64]; omega
  have hw2 : IntKind.i64.wrap ((r2 s).1 : Int) = ((r2 s).1 : Int) := by rw [Bt.wrap_i64]; omega
  go_enter Tryz.func150, Tryz.ntmps150
  go_wp2_with fail
  refine (rnew_any s _).mono ?_
  rintro e w1 ⟨rfl, rfl⟩
  go_wp2_with fail
  refine (HV.out (w.heap.size + 1) 0 0 1099511627776 _ D0.out.R (Nat.zero_le _)).mono ?_
  rw [G1.out]
  rintro e w2 ⟨rfl, hR, hg⟩
  have D1 := Lib.hid (D0.out.read hR hg)
  clear hR hg D0
  have a0 := D1.out.H.c0
  have b0 := D1.out.H.free 0
  go_wp2_with fail
  have D2 := Lib.hid (D1.out.st 0 _ (D1.out.H.set0 (.int .i64 ((r1 s).1 : Int))))
  clear D1 a0 b0
  generalize w2.setCell ⟨w.heap.size + 1 + 1, 0, none⟩ (.int .i64 ((r1 s).1 : Int)) = w3 at *
  refine (HV.out (w.heap.size + 1) (r1 s).2.1 (r1 s).2.2 1099511627776 _ D2.out.R f1.2.1).mono ?_
  rw [G2.out]
  rintro e w4 ⟨rfl, hR, hg⟩
  have D3 := Lib.hid (D2.out.read hR hg)
  clear hR hg D2
  have a0 := D3.out.H.c1
  have b0 := D3.out.H.free 1
  go_wp2_with fail
  have D4 := Lib.hid (D3.out.st 1 _ (D3.out.H.set1 (.int .i64 ((r2 s).1 : Int))))
  clear D3 a0 b0
  generalize w4.setCell ⟨w.heap.size + 1 + 1, 1, none⟩ (.int .i64 ((r2 s).1 : Int)) = w5 at *
  refine (HW.out (w.heap.size + 1) (r2 s).2.1 (r2 s).2.2 _ D4.out.R f2.2.1).mono ?_
  rw [show 32 - 1 = 31 from rfl, G3.out]
  rintro e w6 ⟨rfl, hR, hg⟩
  have D5 := Lib.hid (D4.out.read hR hg)
  clear hR hg D4
  have a0 := D5.out.H.c2
  have b0 := D5.out.H.free 2
  go_wp2_with fail
  have D6 := Lib.hid (D5.out.st 2 _ (D5.out.H.set2 (.int .i64 ((r3 s).1 : Int))))
  clear D5 a0 b0
  generalize w6.setCell ⟨w.heap.size + 1 + 1, 2, none⟩ (.int .i64 ((r3 s).1 : Int)) = w7 at *
  refine (HW.out (w.heap.size + 1) (r3 s).2.1 (r3 s).2.2 _ D6.out.R f3.2.1).mono ?_
  rw [show 32 - 1 = 31 from rfl, G4.out]
  rintro e w8 ⟨rfl, hR, hg⟩
  have D7 := Lib.hid (D6.out.read hR hg)
  clear hR hg D6
  have hn := f4.1
  have H5 : Hid (rdH s = ⟨(r1 s).1, (r2 s).1, (r3 s).1, nat2 (r5 s).1⟩) := Lib.hid rfl
  have H6 : Hid (r5 s = vrs s (r4 s).1 (r4 s).2.1 (r4 s).2.2) := Lib.hid rfl
  have H7 : Hid (rdE s = endE s (r5 s).2.1 (r5 s).2.2) := Lib.hid rfl
  have H8 : Hid (dcR s = if rdE s ≠ 0 then (he0, rdE s) else if mayB (rdH s) = true then (rdH s, 0) else (he0, 4)) := Lib.hid rfl
  clear f1 f2 f3 f4 G1 G2 G3 G4 hw1 hw2 HV
  generalize dcR s = DC at *
  generalize rdH s = RH at *
  generalize rdE s = RE at *
  generalize r5 s = R5 at *
  generalize (r1 s).1 = g at *
  generalize (r2 s).1 = b at *
  generalize (r3 s).1 = p at *
  generalize (r4 s).1 = N at *
  generalize (r4 s).2.1 = A at *
  generalize (r4 s).2.2 = E at *
  obtain ⟨i0, hi, hz0, hz1, hz2⟩ := info_parts Tryz.info3
  go_wp2
  go_loopw [22] (fun i wl => ∃ (k : Nat) (u : Value), i = .int .i64 (k : Int) ∧ k ≤ N ∧ Hid (Dm w wl s (vrs s k A E).2.1 (vrs s k A E).2.2 g b p u) ∧ Hid (Own wl (w.heap.size + 3) u ((nat2 (vrs s k A E).1).map iv))) (fun i _ => N - (intOf i).toNat)
  case atStart => exact ⟨0, _, rfl, Nat.zero_le _, D7, Lib.hid (Own.nil _ _)⟩
  case round =>
    obtain ⟨k, u, rfl, hk, HD, HO⟩ := hrel
    by_cases hlt : k < N
    · have F := F5.out k
      have HY : Hid (vrs s (k + 1) A E = ((vrs s k A E).1 ++ [(vr s 31 (vrs s k A E).2.1 (vrs s k A E).2.2).1], (vr s 31 (vrs s k A E).2.1 (vrs s k A E).2.2).2)) := Lib.hid rfl
      have HC := Lib.hid (HW.out (w.heap.size + 1) (vrs s k A E).2.1 (vrs s k A E).2.2 _ (HD.out.R.congr (w' := wr.drew) rfl) F.2.1)
      rw [show 32 - 1 = 31 from rfl] at HC
      generalize vr s 31 (vrs s k A E).2.1 (vrs s k A E).2.2 = V at *
      generalize vrs s k A E = X at *
      obtain ⟨V1, V2, V3⟩ := V
      obtain ⟨X1, X2, X3⟩ := X
      dsimp only at *
      have hX := F.1
      obtain ⟨ua, uc, rfl⟩ := HO.out.shape
      have hln : ((nat2 X1).map iv).length = k := by unfold nat2; rw [List.length_map, List.length_map, hX]
      rw [hln] at HO HD
      have a3 := HD.out.H.c3
      have b3 := HD.out.H.free 3
      have HS : Hid (Dm w wr.drew s X2 X3 g b p (.slice ua k uc)) := Lib.hid (HD.out.grown (grown_drewN wr 1 (w.heap.size + 3)) (fun k hk => by cases hk; exact Nat.le_refl _))
      have k0 := HS.out.H.c3
      go_wp2_with fail
      go_region_law (first
        | (rw [if_pos (by rfl)]; go_simp; go_at_call 162; refine HC.out.mono ?_; rintro e w9 ⟨rfl, hR, hg⟩; dsimp only; have S1 := Lib.hid (HS.out.read hR hg); have O1 := Lib.hid (HO.out.drew.kept hg (Or.inr (fun e => by have := (HO.out.lt _ e).1; omega))); have k1 := S1.out.H.c3; have k1b := (S1.out.H.alloc (.cells #[.int .i64 (V1 : Int)] 3)).c3; clear hR hg)
        | (refine step_append_Own rfl (.tmp 25) (.tmp 28) 38 38 rfl (w.heap.size + 3) 3 i0 (.int .i64 0) 8 Tryz.underlying38 hi hz0 hz1 hz2 rfl _ ((nat2 X1).map iv) rfl (O1.out.alloc _) _ 1 [iv (V1 : Int)] rfl (Src.one w9 Tryz.underlying38 _ _ rfl) (by rw [hln]; omega) (by rw [hln]; omega) (Nat.le_trans S1.out.Z (by simp)) ?_; intro v' w10 ho hs; have O2 := Lib.hid ho; have T2 := Lib.hid hs; have S2 := Lib.hid ((S1.out.grown (World.grownBy_alloc w9 _ none) (fun k hk => by cases hk)).grown hs.grown (fun k hk => (O1.out.lt k hk).1)); have k2 := S2.out.H.c3; have f2 := S2.out.H.free 3; obtain ⟨va, vc, hv'⟩ := ho.shape; subst hv'; clear ho hs)
        | (trace_state; fail))
      all_goals
        have S3 := Lib.hid (S2.out.st 3 _ (S2.out.H.set3 (.slice va ((nat2 X1).map iv ++ [iv (V1 : Int)]).length vc)))
        have O3 := Lib.hid (O2.out.kept (grown_setCell w10 (w.heap.size + 1 + 1) 3 (.slice va ((nat2 X1).map iv ++ [iv (V1 : Int)]).length vc)) (Or.inr (fun e => by have := (O2.out.lt _ e).1; omega)))
        have hl3 : ((nat2 X1).map iv ++ [iv (V1 : Int)]).length = k + 1 := by rw [List.length_append, hln]; rfl
        rw [hl3] at S3 O3
        have hn3 : (nat2 X1).map iv ++ [iv (V1 : Int)] = (nat2 (X1 ++ [V1])).map iv := by unfold nat2; simp
        rw [hn3] at O3
        clear k1 k1b k2 f2 a3 b3
        go_wp2
        go_roundw
        case rel => exact ⟨k + 1, _, by go_num, by omega, by rw [HY.out]; exact S3, by rw [HY.out]; exact O3⟩
        case measure => simp [intOf]; omega
    · obtain rfl : k = N := by omega
      have F := F5.out k
      rw [← H6.out] at HD HO F
      obtain ⟨L5, A5, E5⟩ := R5
      dsimp only at *
      have HEnd := Lib.hid (end_any (w.heap.size + 1) s A5 E5 wr HD.out.R F.2.1 hs)
      rw [← H7.out] at HEnd
      have hL := F.1
      obtain ⟨ua, uc, rfl⟩ := HO.out.shape
      have hln : ((nat2 L5).map iv).length = k := by unfold nat2; rw [List.length_map, List.length_map, hL]
      rw [hln] at HO HD
      have HNL : Hid ((nat2 L5).length = k) := Lib.hid (by unfold nat2; rw [List.length_map, hL])
      clear H6 H7 F5 F HW D7 hL hln
      by_cases hE : RE = 0
      · have hE0 : ((RE : Int) != 0) = false := by rw [hE]; rfl
        have HM : Hid (∀ W, KAt W (.slice ua k uc) (nat2 L5) → Calls Tryz.prog 148 #[.agg #[.int .i64 (g : Int), .int .i64 (b : Int), .int .i64 (p : Int), .slice ua k uc]] W (Ret W (.bool (mayB RH)))) :=
          Lib.hid (fun W hW => by rw [H5.out]; exact may_any ⟨(g : Int), (b : Int), (p : Int), nat2 L5⟩ (.slice ua k uc) W hW (by show (nat2 L5).length ≤ _; rw [HNL.out]; omega))
        cases hmy : mayB RH
        · have HDC : Hid (DC = (he0, 4)) := Lib.hid (by rw [H8.out, if_neg (by omega), hmy, if_neg (by simp)])
          rw [hmy] at HM
          clear H5 H8
          go_wp2_with fail
          refine HEnd.out.mono ?_
          rintro e w11 ⟨rfl, m, rfl⟩
          have HD2 := Lib.hid (HD.out.grown (grown_drewN wr m (w.heap.size + 3)) (fun k hk => by cases hk; exact Nat.le_refl _))
          have HO2 : Hid (Own (wr.drewN m) (w.heap.size + 3) (.slice ua k uc) ((nat2 L5).map iv)) := Lib.hid HO.out
          generalize wr.drewN m = wq at *
          clear HD HO
          have a0 := HD2.out.H.c0; have a1 := HD2.out.H.c1; have a2 := HD2.out.H.c2; have a3 := HD2.out.H.c3
          go_wp2_with fail
          refine (HM.out _ HO2.out.kat).mono ?_
          rintro e w12 ⟨rfl, hb⟩
          have HD3 := Lib.hid (HD2.out.grown (r := none) (grown_below hb none) (fun k hk => by cases hk))
          clear hb a0 a1 a2 a3
          have q0 := HD3.out.Q.c0; have q1 := HD3.out.Q.c1; have q2 := HD3.out.Q.c2; have q3 := HD3.out.Q.c3
          have z0 := HD3.out.Q.free 0; have z1 := HD3.out.Q.free 1; have z2 := HD3.out.Q.free 2; have z3 := HD3.out.Q.free 3
          go_wp2
          exact ret4 Tryz.results150 w.heap.size rfl rfl rfl (HD3.out.Q.setAll _ _ _ _) (by rw [HDC.out]; exact ⟨.slice none 0 0, rfl, Own.nil _ _, below_set4 HD3.out.B (Nat.le_refl _) _ _ _ _⟩)
        · have HDC : Hid (DC = (RH, 0)) := Lib.hid (by rw [H8.out, if_neg (by omega), hmy, if_pos rfl])
          have HRV : Hid (hval RH (.slice ua k uc) = .agg #[.int .i64 (g : Int), .int .i64 (b : Int), .int .i64 (p : Int), .slice ua k uc]) := Lib.hid (by rw [H5.out]; rfl)
          have HRL : Hid (RH.log = nat2 L5) := Lib.hid (by rw [H5.out])
          rw [hmy] at HM
          clear H5 H8
          go_wp2_with fail
          refine HEnd.out.mono ?_
          rintro e w11 ⟨rfl, m, rfl⟩
          have HD2 := Lib.hid (HD.out.grown (grown_drewN wr m (w.heap.size + 3)) (fun k hk => by cases hk; exact Nat.le_refl _))
          have HO2 : Hid (Own (wr.drewN m) (w.heap.size + 3) (.slice ua k uc) ((nat2 L5).map iv)) := Lib.hid HO.out
          generalize wr.drewN m = wq at *
          clear HD HO
          have a0 := HD2.out.H.c0; have a1 := HD2.out.H.c1; have a2 := HD2.out.H.c2; have a3 := HD2.out.H.c3
          go_wp2_with fail
          refine (HM.out _ HO2.out.kat).mono ?_
          rintro e w12 ⟨rfl, hb⟩
          have HD3 := Lib.hid (HD2.out.grown (r := none) (grown_below hb none) (fun k hk => by cases hk))
          have HO3 := Lib.hid (HO2.out.belowAll hb)
          clear hb a0 a1 a2 a3
          have q0 := HD3.out.Q.c0; have q1 := HD3.out.Q.c1; have q2 := HD3.out.Q.c2; have q3 := HD3.out.Q.c3
          have z0 := HD3.out.Q.free 0; have z1 := HD3.out.Q.free 1; have z2 := HD3.out.Q.free 2; have z3 := HD3.out.Q.free 3
          have a0 := HD3.out.H.c0; have a1 := HD3.out.H.c1; have a2 := HD3.out.H.c2; have a3 := HD3.out.H.c3
          go_wp2
          exact ret4 Tryz.results150 w.heap.size rfl rfl rfl (HD3.out.Q.setAll _ _ _ _) (by rw [HDC.out]; exact ⟨.slice ua k uc, by rw [HRV.out]; rfl, by rw [HRL.out]; exact (HO3.out.set4 (by omega) _ _ _ _).mono (by omega), below_set4 HD3.out.B (Nat.le_refl _) _ _ _ _⟩)
      · have hE0 : ((RE : Int) != 0) = true := ne0 hE
        have HDC : Hid (DC = (he0, RE)) := Lib.hid (by rw [H8.out, if_pos hE])
        clear H5 H8
        go_wp2_with fail
        refine HEnd.out.mono ?_
        rintro e w11 ⟨rfl, m, rfl⟩
        have HD2 := Lib.hid (HD.out.grown (grown_drewN wr m (w.heap.size + 3)) (fun k hk => by cases hk; exact Nat.le_refl _))
        generalize wr.drewN m = wq at *
        clear HD HO
        have q0 := HD2.out.Q.c0; have q1 := HD2.out.Q.c1; have q2 := HD2.out.Q.c2; have q3 := HD2.out.Q.c3
        have z0 := HD2.out.Q.free 0; have z1 := HD2.out.Q.free 1; have z2 := HD2.out.Q.free 2; have z3 := HD2.out.Q.free 3
        go_wp2
        exact ret4 Tryz.results150 w.heap.size rfl rfl rfl (HD2.out.Q.setAll _ _ _ _) (by rw [HDC.out]; exact ⟨.slice none 0 0, rfl, Own.nil _ _, below_set4 HD2.out.B (Nat.le_refl _) _ _ _ _⟩)
end Go.Proofs.YtieemdcoomilaaaGreatDoor
namespace Go.Proofs.YtieemdcoomilaaaGreatDoor
open Go Go.RowKit
set_option maxRecDepth 100000
/-- The head of a tape's bytes. -/
def ofB (s : ByteArray) : He × Bool :=
  if Fr.er s.data.toList ≠ 0 then (he0, false) else if (Fr.kd s.data.toList).toNat ≠ 3 then (he0, false)
  else ((dcR (bs (Fr.pl s.data.toList))).1, decide ((dcR (bs (Fr.pl s.data.toList))).2 = 0))
theorem bh0 (s : ByteArray) : bh s 0 = s.data.toList := rfl
theorem er1_0 (s : ByteArray) : er1 s 0 = Fr.er s.data.toList := er1_at s 0 (Nat.zero_le _)
set_option maxHeartbeats 1000000 in
theorem of_any' (s : ByteArray) (hs : s.size ≤ 140737488351232) (w : World) (hT : Hid (Tab w)) : Calls Tryz.prog 129 #[.string s] w (DcRet w (ofB s).1 (.bool (ofB s).2)) := by
  have HT1 : Hid (Tab (w.alloc (.cells #[.int .i64 0, .int .i64 0, .int .i64 0, .slice none 0 0] 40))) := Lib.hid (hT.out.below (below_one w _))
  have X0 := Lib.hid (Box4.new w (.int .i64 0) (.int .i64 0) (.int .i64 0) (.slice none 0 0))
  by_cases he : Fr.er s.data.toList ≠ 0
  · have HD : Hid (ofB s = (he0, false)) := Lib.hid (by unfold ofB; rw [if_pos he])
    have HR := Lib.hid (read_bad s 0 _ (er1_0 s) he _ hs HT1)
    have he2 := ne0 he
    generalize Fr.er s.data.toList = E at *
    generalize ofB s = D at *
    go_enter Tryz.func129, Tryz.ntmps129
    go_wp2_with fail
    refine HR.out.mono ?_
    rintro e w1 ⟨rfl, hb⟩
    have HB := Lib.hid (below_trans' (below_one w _) hb)
    have X1 := Lib.hid (X0.out.below hb X0.out.lt)
    clear hb
    have hlt := X1.out.lt
    have hne : w.heap.size ≠ w1.heap.size := by omega
    have q0 := X1.out.c0; have q1 := X1.out.c1; have q2 := X1.out.c2; have q3 := X1.out.c3
    have z0 := X1.out.free 0; have z1 := X1.out.free 1; have z2 := X1.out.free 2; have z3 := X1.out.free 3
    go_wp2
    exact ret4 Tryz.results129 w.heap.size rfl rfl rfl ((X1.out.setAll _ _ _ _).alloc _) (by rw [HD.out]; exact ⟨.slice none 0 0, rfl, Own.nil _ _, (below_set4 HB.out (Nat.le_refl _) _ _ _ _).alloc (below_set4 HB.out (Nat.le_refl _) _ _ _ _).size _⟩)
  · have he0 : Fr.er s.data.toList = 0 := by omega
    have HR := Lib.hid (read_ok s 0 (Fr.er_good.1 he0) _ hs HT1)
    have hpl : (Fr.pl s.data.toList).length ≤ 262144 := (Fr.good_ok (Fr.er_good.1 he0)).2
    have HR : Hid (Calls Tryz.prog 111 #[.string s, .int .i64 0] (w.alloc (.cells #[.int .i64 0, .int .i64 0, .int .i64 0, .slice none 0 0] 40)) (Ret _ (.tuple #[fv ((Fr.kd s.data.toList).toNat : Nat) (bs (Fr.pl s.data.toList)) 0, .int .i64 ((0 + 9 + Fr.ln s.data.toList : Nat) : Int), .int .i64 0]))) := HR
    unfold fv at HR
    generalize ((0 + 9 + Fr.ln s.data.toList : Nat) : Int) = NX at *
    by_cases hk : (Fr.kd s.data.toList).toNat ≠ 3
    · have HD : Hid (ofB s = (_root_.Go.Proofs.YtieemdcoomilaaaGreatDoor.he0, false)) := Lib.hid (by unfold ofB; rw [if_neg he, if_pos hk])
      have hk2 : (((Fr.kd s.data.toList).toNat : Int) != 3) = true := by rw [bne_iff_ne]; omega
      generalize bs (Fr.pl s.data.toList) = PL at *
      generalize (Fr.kd s.data.toList).toNat = KD at *
      generalize ofB s = D at *
      clear he he0
      go_enter Tryz.func129, Tryz.ntmps129
      go_wp2_with fail
      refine HR.out.mono ?_
      rintro e w1 ⟨rfl, hb⟩
      have HB := Lib.hid (below_trans' (below_one w _) hb)
      have X1 := Lib.hid (X0.out.below hb X0.out.lt)
      clear hb
      have hlt := X1.out.lt
      have hne : w.heap.size ≠ w1.heap.size := by omega
      have q0 := X1.out.c0; have q1 := X1.out.c1; have q2 := X1.out.c2; have q3 := X1.out.c3
      have z0 := X1.out.free 0; have z1 := X1.out.free 1; have z2 := X1.out.free 2; have z3 := X1.out.free 3
      go_wp2
      exact ret4 Tryz.results129 w.heap.size rfl rfl rfl ((X1.out.setAll _ _ _ _).alloc _) (by rw [HD.out]; exact ⟨.slice none 0 0, rfl, Own.nil _ _, (below_set4 HB.out (Nat.le_refl _) _ _ _ _).alloc (below_set4 HB.out (Nat.le_refl _) _ _ _ _).size _⟩)
    · have HD : Hid (ofB s = ((dcR (bs (Fr.pl s.data.toList))).1, decide ((dcR (bs (Fr.pl s.data.toList))).2 = 0))) := Lib.hid (by unfold ofB; rw [if_neg he, if_neg hk])
      have hk2 : (((Fr.kd s.data.toList).toNat : Int) != 3) = false := by rw [bne_eq_false_iff_eq]; omega
      have HDC := Lib.hid (decode_any (bs (Fr.pl s.data.toList)) (by rw [bs_size]; omega))
      have hd2 : decide ((dcR (bs (Fr.pl s.data.toList))).2 = 0) = (((dcR (bs (Fr.pl s.data.toList))).2 : Int) == 0) := by
        by_cases h : (dcR (bs (Fr.pl s.data.toList))).2 = 0
        · rw [h]; rfl
        · rw [decide_eq_false h, eq0 h]
      rw [hd2] at HD
      clear hd2 hpl
      generalize bs (Fr.pl s.data.toList) = PL at *
      generalize (Fr.kd s.data.toList).toNat = KD at *
      generalize ofB s = D at *
      generalize dcR PL = DR at *
      obtain ⟨DH, DE⟩ := DR
      dsimp only at HD HDC
      clear he he0
      go_enter Tryz.func129, Tryz.ntmps129
      go_wp2_with fail
      refine HR.out.mono ?_
      rintro e w1 ⟨rfl, hb⟩
      have HB := Lib.hid (below_trans' (below_one w _) hb)
      have X1 := Lib.hid (X0.out.below hb X0.out.lt)
      clear hb
      have hlt := X1.out.lt
      have hne : w.heap.size ≠ w1.heap.size := by omega
      go_wp2_with fail
      refine (HDC.out _).mono ?_
      rintro e w2 ⟨v, rfl, ho, hb⟩
      have HB2 := Lib.hid (below_trans' (HB.out.alloc HB.out.size (.cells #[.int .u8 (KD : Int), .string PL, .int .i64 0] 145)) hb)
      have X2 := Lib.hid ((X1.out.alloc (.cells #[.int .u8 (KD : Int), .string PL, .int .i64 0] 145)).below hb (by simp; omega))
      have HO := Lib.hid (ho.mono (show w.heap.size + 1 ≤ (w1.alloc (.cells #[.int .u8 (KD : Int), .string PL, .int .i64 0] 145)).heap.size by simp; omega))
      obtain ⟨va, vc, rfl⟩ := ho.shape
      rw [List.length_map] at HO ho ⊢
      have HV : Hid (hval DH (.slice va DH.log.length vc) = .agg #[.int .i64 DH.gen, .int .i64 DH.base, .int .i64 DH.snap, .slice va DH.log.length vc]) := Lib.hid rfl
      rw [HV.out]
      clear hb ho
      have hlt2 := X2.out.lt
      have hne2 : w.heap.size ≠ w2.heap.size := by omega
      have q0 := X2.out.c0; have q1 := X2.out.c1; have q2 := X2.out.c2; have q3 := X2.out.c3
      have z0 := X2.out.free 0; have z1 := X2.out.free 1; have z2 := X2.out.free 2; have z3 := X2.out.free 3
      generalize DH.log.length = NL at *
      go_wp2
      have HO2 : Hid (Own w2 (w.heap.size + 1) (.slice va NL vc) (DH.log.map iv)) := HO
      exact ret4 Tryz.results129 w.heap.size rfl rfl rfl ((X2.out.setAll _ _ _ _).alloc _) (by rw [HD.out]; exact ⟨.slice va NL vc, rfl, ((HO2.out.set4 (by omega) _ _ _ _).alloc _).mono (by omega), (below_set4 HB2.out (Nat.le_refl _) _ _ _ _).alloc (below_set4 HB2.out (Nat.le_refl _) _ _ _ _).size _⟩)
end Go.Proofs.YtieemdcoomilaaaGreatDoor
namespace Go.Proofs.YtieemdcoomilaaaGreatDoor
open Go Go.RowKit
set_option maxRecDepth 100000
theorem index84_0 (a0 a1 a2 a3 b0 b1 b2 b3 : Value) (W : World) : (Instr.index 140 (.agg #[a0, a1, a2, a3, b0, b1, b2, b3]) (.int .i64 0)).run Tryz.prog W = .ok (.agg #[a0, a1, a2, a3]) W := by kernel_rfl
theorem index84_1 (a0 a1 a2 a3 b0 b1 b2 b3 : Value) (W : World) : (Instr.index 140 (.agg #[a0, a1, a2, a3, b0, b1, b2, b3]) (.int .i64 1)).run Tryz.prog W = .ok (.agg #[b0, b1, b2, b3]) W := by kernel_rfl
/-- A block of two heads' cells. -/
def Box8 (W : World) (B : Nat) (a0 a1 a2 a3 b0 b1 b2 b3 : Value) : Prop := W.heap[B]? = some (.cells #[a0, a1, a2, a3, b0, b1, b2, b3] 140 (0, 0))
section
variable {W W' : World} {B m : Nat} {a0 a1 a2 a3 b0 b1 b2 b3 : Value}
theorem Box8.lt (h : Box8 W B a0 a1 a2 a3 b0 b1 b2 b3) : B < W.heap.size := (Array.getElem?_eq_some_iff.1 h).1
theorem Box8.c0 (h : Box8 W B a0 a1 a2 a3 b0 b1 b2 b3) : W.cell? ⟨B, 0, none⟩ = some a0 := by simp [World.cell?, show W.heap[B]? = _ from h]
theorem Box8.c1 (h : Box8 W B a0 a1 a2 a3 b0 b1 b2 b3) : W.cell? ⟨B, 1, none⟩ = some a1 := by simp [World.cell?, show W.heap[B]? = _ from h]
theorem Box8.c2 (h : Box8 W B a0 a1 a2 a3 b0 b1 b2 b3) : W.cell? ⟨B, 2, none⟩ = some a2 := by simp [World.cell?, show W.heap[B]? = _ from h]
theorem Box8.c3 (h : Box8 W B a0 a1 a2 a3 b0 b1 b2 b3) : W.cell? ⟨B, 3, none⟩ = some a3 := by simp [World.cell?, show W.heap[B]? = _ from h]
theorem Box8.c4 (h : Box8 W B a0 a1 a2 a3 b0 b1 b2 b3) : W.cell? ⟨B, 4, none⟩ = some b0 := by simp [World.cell?, show W.heap[B]? = _ from h]
theorem Box8.c5 (h : Box8 W B a0 a1 a2 a3 b0 b1 b2 b3) : W.cell? ⟨B, 5, none⟩ = some b1 := by simp [World.cell?, show W.heap[B]? = _ from h]
theorem Box8.c6 (h : Box8 W B a0 a1 a2 a3 b0 b1 b2 b3) : W.cell? ⟨B, 6, none⟩ = some b2 := by simp [World.cell?, show W.heap[B]? = _ from h]
theorem Box8.c7 (h : Box8 W B a0 a1 a2 a3 b0 b1 b2 b3) : W.cell? ⟨B, 7, none⟩ = some b3 := by simp [World.cell?, show W.heap[B]? = _ from h]
theorem Box8.free (h : Box8 W B a0 a1 a2 a3 b0 b1 b2 b3) (j : Nat) : W.frozen? ⟨B, j, none⟩ = false := by simp [World.frozen?, show W.heap[B]? = _ from h]
theorem Box8.below (h : Box8 W B a0 a1 a2 a3 b0 b1 b2 b3) (hb : Below m W W') (hm : B < m) : Box8 W' B a0 a1 a2 a3 b0 b1 b2 b3 := (hb.block B hm).trans h
theorem Box8.kept {row : Option Nat} (h : Box8 W B a0 a1 a2 a3 b0 b1 b2 b3) (hg : W.grownBy W' row) (hne : some B ≠ row) : Box8 W' B a0 a1 a2 a3 b0 b1 b2 b3 := (hg.block B h.lt hne).trans h
theorem Box8.alloc (h : Box8 W B a0 a1 a2 a3 b0 b1 b2 b3) (o : Obj) : Box8 (W.alloc o) B a0 a1 a2 a3 b0 b1 b2 b3 := (Below.heap_alloc W o B h.lt).trans h
theorem Box8.new (W : World) (a0 a1 a2 a3 b0 b1 b2 b3 : Value) : Box8 (W.alloc (.cells #[a0, a1, a2, a3, b0, b1, b2, b3] 140)) W.heap.size a0 a1 a2 a3 b0 b1 b2 b3 := heap_alloc_new W _
theorem Box8.apart {a : Addr} (h : Box8 W B a0 a1 a2 a3 b0 b1 b2 b3) (ha : B ≠ a.block) (v : Value) : Box8 (W.setCell a v) B a0 a1 a2 a3 b0 b1 b2 b3 := (Below.heap_setCell W a v B ha).trans h
theorem Box8.lo (h : Box8 W B a0 a1 a2 a3 b0 b1 b2 b3) (x y z u : Value) : Box8 ((((W.setCell ⟨B, 0, none⟩ x).setCell ⟨B, 1, none⟩ y).setCell ⟨B, 2, none⟩ z).setCell ⟨B, 3, none⟩ u) B x y z u b0 b1 b2 b3 := by unfold Box8 at *; simp [World.setCell, Array.getElem?_modify, h]
theorem Box8.hi (h : Box8 W B a0 a1 a2 a3 b0 b1 b2 b3) (x y z u : Value) : Box8 ((((W.setCell ⟨B, 4, none⟩ x).setCell ⟨B, 5, none⟩ y).setCell ⟨B, 6, none⟩ z).setCell ⟨B, 7, none⟩ u) B a0 a1 a2 a3 x y z u := by unfold Box8 at *; simp [World.setCell, Array.getElem?_modify, h]
theorem Box8.all (h : Box8 W B a0 a1 a2 a3 b0 b1 b2 b3) (x0 x1 x2 x3 x4 x5 x6 x7 : Value) : Box8 ((((((((W.setCell ⟨B, 0, none⟩ x0).setCell ⟨B, 1, none⟩ x1).setCell ⟨B, 2, none⟩ x2).setCell ⟨B, 3, none⟩ x3).setCell ⟨B, 4, none⟩ x4).setCell ⟨B, 5, none⟩ x5).setCell ⟨B, 6, none⟩ x6).setCell ⟨B, 7, none⟩ x7) B x0 x1 x2 x3 x4 x5 x6 x7 := (h.lo x0 x1 x2 x3).hi x4 x5 x6 x7
end
/-- The tape of the head that counts, of two generations; is there one? -/
def cTape (g0 g1 : Int) : Nat := if g0 < g1 then 1 else 0
def cIs (g0 g1 : Int) : Bool := decide (0 < (if g0 < g1 then g1 else g0))
set_option maxHeartbeats 1000000 in
theorem counting_any (g0 b0 p0 g1 b1 p1 : Int) (a0 : Option Addr) (n0 c0 : Nat) (a1 : Option Addr) (n1 c1 : Nat) (w : World) : Calls Tryz.prog 110 #[.agg #[.int .i64 g0, .int .i64 b0, .int .i64 p0, .slice a0 n0 c0, .int .i64 g1, .int .i64 b1, .int .i64 p1, .slice a1 n1 c1]] w (Ret w (.tuple #[.int .i64 (cTape g0 g1 : Int), .bool (cIs g0 g1)])) := by
  have hx0 := index84_0 (.int .i64 g0) (.int .i64 b0) (.int .i64 p0) (.slice a0 n0 c0) (.int .i64 g1) (.int .i64 b1) (.int .i64 p1) (.slice a1 n1 c1)
  have hx1 := index84_1 (.int .i64 g0) (.int .i64 b0) (.int .i64 p0) (.slice a0 n0 c0) (.int .i64 g1) (.int .i64 b1) (.int .i64 p1) (.slice a1 n1 c1)
  have X0 := Lib.hid (Box8.new w (.int .i64 g0) (.int .i64 b0) (.int .i64 p0) (.slice a0 n0 c0) (.int .i64 g1) (.int .i64 b1) (.int .i64 p1) (.slice a1 n1 c1))
  have hlt0 : ¬ (g0 < g0) := by omega
  go_enter Tryz.func110, Tryz.ntmps110
  go_wp2
  go_loopw [2, 7] (fun t i wl => ∃ k T : Nat, i = .int .i64 (k : Int) ∧ t = .int .i64 (T : Int) ∧ k ≤ 2 ∧ (k < 2 → T = 0) ∧ (k = 2 → T = cTape g0 g1) ∧ Hid (Box8 wl w.heap.size (.int .i64 g0) (.int .i64 b0) (.int .i64 p0) (.slice a0 n0 c0) (.int .i64 g1) (.int .i64 b1) (.int .i64 p1) (.slice a1 n1 c1)) ∧ Hid (Below w.heap.size w wl)) (fun _ i _ => 2 - (intOf i).toNat)
  case atStart => exact ⟨0, 0, rfl, rfl, by omega, fun _ => rfl, fun h => (by omega), X0, Lib.hid (below_one w _)⟩
  case round =>
    obtain ⟨k, T, rfl, rfl, hk, h1, h2, HX, HB⟩ := hrel
    have q0 := HX.out.c0
    have q4 := HX.out.c4
    have hl := HX.out.lt
    have hne : w.heap.size ≠ wr.heap.size := by omega
    by_cases hlt : k < 2
    · obtain rfl := h1 hlt
      by_cases h0 : k = 0
      · subst h0
        go_wp2
        go_quiet (fail)
        have Y1 := Lib.hid (HX.out.alloc (.cells #[.int .i64 g0, .int .i64 b0, .int .i64 p0, .slice a0 n0 c0] 40))
        have B1 := Lib.hid (HB.out.alloc HB.out.size (.cells #[.int .i64 g0, .int .i64 b0, .int .i64 p0, .slice a0 n0 c0] 40))
        go_wp2
        go_roundw
        case rel => exact ⟨1, 0, rfl, rfl, by omega, fun _ => rfl, fun h => (by omega), Lib.hid Y1.out, Lib.hid (below_drewN B1.out _)⟩
        case measure => simp [intOf]
      · obtain rfl : k = 1 := by omega
        have Y1 := Lib.hid (HX.out.alloc (.cells #[.int .i64 g1, .int .i64 b1, .int .i64 p1, .slice a1 n1 c1] 40))
        have B1 := Lib.hid (HB.out.alloc HB.out.size (.cells #[.int .i64 g1, .int .i64 b1, .int .i64 p1, .slice a1 n1 c1] 40))
        by_cases hg : g0 < g1
        · have hc : cTape g0 g1 = 1 := if_pos hg
          go_wp2
          go_quiet (fail)
          go_wp2
          go_roundw
          case rel => exact ⟨2, 1, rfl, rfl, by omega, fun h => (by omega), fun _ => hc.symm, Lib.hid Y1.out, Lib.hid (below_drewN B1.out _)⟩
          case measure => simp [intOf]
        · have hc : cTape g0 g1 = 0 := if_neg hg
          go_wp2
          go_quiet (fail)
          go_wp2
          go_roundw
          case rel => exact ⟨2, 0, rfl, rfl, by omega, fun h => (by omega), fun _ => hc.symm, Lib.hid Y1.out, Lib.hid (below_drewN B1.out _)⟩
          case measure => simp [intOf]
    · obtain rfl : k = 2 := by omega
      have hT := h2 rfl
      clear h1 h2
      by_cases hg : g0 < g1
      · have hc : cTape g0 g1 = 1 := if_pos hg
        have hi : cIs g0 g1 = decide (0 < g1) := by unfold cIs; rw [if_pos hg]
        rw [hc] at hT
        subst hT
        go_wp2
        go_quiet (fail)
        go_wp2
        go_ret2
        exact ⟨by rw [hc, hi]; rfl, below_drewN HB.out _⟩
      · have hc : cTape g0 g1 = 0 := if_neg hg
        have hi : cIs g0 g1 = decide (0 < g0) := by unfold cIs; rw [if_neg hg]
        rw [hc] at hT
        subst hT
        go_wp2
        go_quiet (fail)
        go_wp2
        go_ret2
        exact ⟨by rw [hc, hi]; rfl, below_drewN HB.out _⟩
end Go.Proofs.YtieemdcoomilaaaGreatDoor
