/- The document's Decode. -/
import Derived.Test.YtpcpbdcdapmlnaaDoorJe
namespace Go.Proofs.YtpcpbdcdapmlnaaDoor
open Go Go.RowKit
set_option maxRecDepth 100000
/-- How it lies ahead of the head's own memory. -/
structure Dp (w W : World) (s : ByteArray) (a e : Nat) : Prop where
  R : RdAt W (w.heap.size + 1) s a e
  Q : Box4 W w.heap.size (.int .i64 0) (.int .i64 0) (.int .i64 0) (.slice none 0 0)
  B : Below w.heap.size w W
  Z : w.heap.size + 2 ≤ W.heap.size
theorem Dp.read {w W W' : World} {s : ByteArray} {a e a' e' : Nat} (h : Dp w W s a e) (hR : RdAt W' (w.heap.size + 1) s a' e') (hg : W.grownBy W' (some (w.heap.size + 1))) : Dp w W' s a' e' :=
  ⟨hR, h.Q.kept hg (by simp), below_grown h.B hg h.B.size (by omega), Nat.le_trans h.Z hg.size⟩
structure Dn (w W : World) (hb : Nat) (s : ByteArray) (a e : Nat) (x y z : Int) (u : Value) : Prop where
  R : RdAt W (w.heap.size + 1) s a e
  H : Box4 W hb (.int .i64 x) (.int .i64 y) (.int .i64 z) u
  Q : Box4 W w.heap.size (.int .i64 0) (.int .i64 0) (.int .i64 0) (.slice none 0 0)
  B : Below w.heap.size w W
  L : w.heap.size + 2 ≤ hb
  Z : hb + 1 ≤ W.heap.size
theorem Dp.head {w W : World} {s : ByteArray} {a e : Nat} (h : Dp w W s a e) (x y z : Int) (u : Value) : Dn w (W.alloc (.cells #[.int .i64 x, .int .i64 y, .int .i64 z, u] 26)) W.heap.size s a e x y z u :=
  ⟨h.R.alloc _, Box4.new _ _ _ _ _, h.Q.alloc _, h.B.alloc h.B.size _, h.Z, by simp⟩
theorem Dn.read {w W W' : World} {hb : Nat} {s : ByteArray} {a e a' e' : Nat} {x y z : Int} {u : Value} (h : Dn w W hb s a e x y z u) (hR : RdAt W' (w.heap.size + 1) s a' e') (hg : W.grownBy W' (some (w.heap.size + 1))) : Dn w W' hb s a' e' x y z u :=
  ⟨hR, h.H.kept hg (fun e => by have := h.L; injection e with e; omega), h.Q.kept hg (by simp), below_grown h.B hg h.B.size (by omega), h.L, Nat.le_trans h.Z hg.size⟩
theorem Dn.grown {w W W' : World} {hb : Nat} {s : ByteArray} {a e : Nat} {x y z : Int} {u : Value} (h : Dn w W hb s a e x y z u) {r : Option Nat} (hg : W.grownBy W' r) (hr : ∀ k, r = some k → hb + 1 ≤ k) : Dn w W' hb s a e x y z u :=
  have hL := h.L
  have n0 : some w.heap.size ≠ r := fun e => by have := hr _ e.symm; omega
  have n1 : some (w.heap.size + 1) ≠ r := fun e => by have := hr _ e.symm; omega
  have n2 : some hb ≠ r := fun e => by have := hr _ e.symm; omega
  ⟨h.R.congr (hg.block _ h.R.lt n1), h.H.kept hg n2, h.Q.kept hg n0, h.B.grown hg h.B.size (fun k hk => by have := hr k hk; omega), h.L, Nat.le_trans h.Z hg.size⟩
theorem Dn.st {w W : World} {hb : Nat} {s : ByteArray} {a e : Nat} {x y z x' y' z' : Int} {u u' : Value} (h : Dn w W hb s a e x y z u) (j : Nat) (v : Value) (hH : Box4 (W.setCell ⟨hb, j, none⟩ v) hb (.int .i64 x') (.int .i64 y') (.int .i64 z') u') : Dn w (W.setCell ⟨hb, j, none⟩ v) hb s a e x' y' z' u' :=
  have hL := h.L
  ⟨h.R.congr (Below.heap_setCell _ _ _ _ (by simp; omega)), hH, h.Q.apart (by simp; omega) _, below_setD h.B (by omega) _ _, h.L, by simp [World.setCell]; exact h.Z⟩
theorem RdAt.new98 (s : ByteArray) (w : World) : RdAt (w.alloc (.cells #[.string s, .int .i64 0, .int .i64 0] 98)) w.heap.size s 0 0 := by
  have hb : (w.alloc (.cells #[.string s, .int .i64 0, .int .i64 0] 98)).heap[w.heap.size]? = some (.cells #[.string s, .int .i64 0, .int .i64 0] 98 (0, 0)) := heap_alloc_new w _
  generalize w.alloc (.cells #[.string s, .int .i64 0, .int .i64 0] 98) = W at *
  exact ⟨by simp [World.cell?, hb], by simp [World.cell?, hb], by simp [World.cell?, hb], by simp [World.frozen?, hb], by simp [World.frozen?, hb]⟩
set_option maxHeartbeats 2000000 in
theorem rdecode_any (s : ByteArray) (hs : s.size ≤ 140737488351232) (w : World) : Calls Tryd.prog 28 #[.string s] w (DcRet w (dcR s).1 (.int .i64 ((dcR s).2 : Int))) := by
  have HV := Lib.hid (fun b a e most W h ha => rvarint_any b s a e most W h ha hs)
  have f1 := vr_facts s 1099511627776 0 0 (Nat.zero_le _)
  have f2 := vr_facts s 1099511627776 (r1 s).2.1 (r1 s).2.2 f1.2.1
  have f3 := vr_facts s 31 (r2 s).2.1 (r2 s).2.2 f2.2.1
  have f4 := vr_facts s 31 (r3 s).2.1 (r3 s).2.2 f3.2.1
  have F5 := Lib.hid (fun k => vrs_facts s k (r4 s).2.1 (r4 s).2.2 f4.2.1)
  have G2 : Hid (vr s 1099511627776 (r1 s).2.1 (r1 s).2.2 = r2 s) := Lib.hid rfl
  have G3 : Hid (vr s 31 (r2 s).2.1 (r2 s).2.2 = r3 s) := Lib.hid rfl
  have G4 : Hid (vr s 31 (r3 s).2.1 (r3 s).2.2 = r4 s) := Lib.hid rfl
  have G1 : Hid (vr s 1099511627776 0 0 = r1 s) := Lib.hid rfl
  rw [G1.out] at f1
  rw [G2.out] at f2
  rw [G3.out] at f3
  rw [G4.out] at f4
  have D0 : Hid (Dp w ((w.alloc (.cells #[.int .i64 0, .int .i64 0, .int .i64 0, .slice none 0 0] 26)).alloc (.cells #[.string s, .int .i64 0, .int .i64 0] 98)) s 0 0) := by
    refine Lib.hid ⟨?_, ?_, ?_, ?_⟩
    · have := RdAt.new98 s (w.alloc (.cells #[.int .i64 0, .int .i64 0, .int .i64 0, .slice none 0 0] 26))
      rw [World.size_alloc] at this; exact this
    · exact (Box4.new w _ _ _ _).alloc _
    · exact below_two w _ _
    · simp
  have hw1 : IntKind.i64.wrap ((r1 s).1 : Int) = ((r1 s).1 : Int) := by rw [Bt.wrap_i64]; omega
  have hw2 : IntKind.i64.wrap ((r2 s).1 : Int) = ((r2 s).1 : Int) := by rw [Bt.wrap_i64]; omega
  have hw3 : IntKind.i64.wrap ((r3 s).1 : Int) = ((r3 s).1 : Int) := by rw [Bt.wrap_i64]; omega
  go_enter Tryd.func28, Tryd.ntmps28
  go_wp2_with fail
  refine (HV.out (w.heap.size + 1) 0 0 1099511627776 _ D0.out.R (Nat.zero_le _)).mono ?_
  rw [G1.out]
  rintro e w2 ⟨rfl, hR, hg⟩
  have D1 := Lib.hid (D0.out.read hR hg)
  clear hR hg D0
  go_wp2_with fail
  refine (HV.out (w.heap.size + 1) (r1 s).2.1 (r1 s).2.2 1099511627776 _ D1.out.R f1.2.1).mono ?_
  rw [G2.out]
  rintro e w4 ⟨rfl, hR, hg⟩
  have D3 := Lib.hid (D1.out.read hR hg)
  clear hR hg D1
  go_wp2_with fail
  refine (HV.out (w.heap.size + 1) (r2 s).2.1 (r2 s).2.2 31 _ D3.out.R f2.2.1).mono ?_
  rw [G3.out]
  rintro e w6 ⟨rfl, hR, hg⟩
  have D5 := Lib.hid (D3.out.read hR hg)
  clear hR hg D3
  go_wp2_with fail
  refine (HV.out (w.heap.size + 1) (r3 s).2.1 (r3 s).2.2 31 _ D5.out.R f3.2.1).mono ?_
  rw [G4.out]
  rintro e w8 ⟨rfl, hR, hg⟩
  have D6 := Lib.hid (D5.out.read hR hg)
  clear hR hg D5
  have D7 := Lib.hid (D6.out.head ((r1 s).1 : Int) ((r2 s).1 : Int) ((r3 s).1 : Int) (.slice none 0 0))
  have hn := f4.1
  have H5 : Hid (rdH s = ⟨(r1 s).1, (r2 s).1, (r3 s).1, nat2 (r5 s).1⟩) := Lib.hid rfl
  have H6 : Hid (r5 s = vrs s (r4 s).1 (r4 s).2.1 (r4 s).2.2) := Lib.hid rfl
  have H7 : Hid (rdE s = endE s (r5 s).2.1 (r5 s).2.2) := Lib.hid rfl
  have H8 : Hid (dcR s = if rdE s ≠ 0 then (he0, rdE s) else if mayB (rdH s) = true then (rdH s, 0) else (he0, 4)) := Lib.hid rfl
  clear f1 f2 f3 f4 G1 G2 G3 G4 D6
  generalize dcR s = DC at *
  generalize rdH s = RH at *
  generalize rdE s = RE at *
  generalize r5 s = R5 at *
  generalize (r1 s).1 = g at *
  generalize (r2 s).1 = b at *
  generalize (r3 s).1 = p at *
  generalize (r4 s).1 = N at *
  generalize (r4 s).2.1 = A at *
  generalize (r4 s).2.2 = E at *
  obtain ⟨i0, hi, hz0, hz1, hz2⟩ := info_parts Tryd.info3
  go_wp2
  clear hw1 hw2 hw3
  generalize w8.heap.size = hb at *
  go_loopw [10] (fun i wl => ∃ (k : Nat) (u : Value), i = .int .u64 (k : Int) ∧ k ≤ N ∧ Hid (Dn w wl hb s (vrs s k A E).2.1 (vrs s k A E).2.2 g b p u) ∧ Hid (Own wl (hb + 1) u ((nat2 (vrs s k A E).1).map iv))) (fun i _ => N - (intOf i).toNat)
  case atStart => exact ⟨0, _, rfl, Nat.zero_le _, D7, Lib.hid (Own.nil _ _)⟩
  case round =>
    obtain ⟨k, u, rfl, hk, HD, HO⟩ := hrel
    by_cases hlt : k < N
    · have F := F5.out k
      have HY : Hid (vrs s (k + 1) A E = ((vrs s k A E).1 ++ [(vr s 31 (vrs s k A E).2.1 (vrs s k A E).2.2).1], (vr s 31 (vrs s k A E).2.1 (vrs s k A E).2.2).2)) := Lib.hid rfl
      have HC := Lib.hid (HV.out (w.heap.size + 1) (vrs s k A E).2.1 (vrs s k A E).2.2 31 _ (HD.out.R.congr (w' := wr.drew) rfl) F.2.1)
      have hv31 := (vr_facts s 31 (vrs s k A E).2.1 (vrs s k A E).2.2 F.2.1).1
      generalize vr s 31 (vrs s k A E).2.1 (vrs s k A E).2.2 = V at *
      generalize vrs s k A E = X at *
      obtain ⟨V1, V2, V3⟩ := V
      obtain ⟨X1, X2, X3⟩ := X
      dsimp only at *
      have hwv : IntKind.i64.wrap (V1 : Int) = (V1 : Int) := by rw [Bt.wrap_i64]; omega
      have hX := F.1
      obtain ⟨ua, uc, rfl⟩ := HO.out.shape
      have hln : ((nat2 X1).map iv).length = k := by unfold nat2; rw [List.length_map, List.length_map, hX]
      rw [hln] at HO HD
      have a3 := HD.out.H.c3
      have b3 := HD.out.H.free 3
      have HS : Hid (Dn w wr.drew hb s X2 X3 g b p (.slice ua k uc)) := Lib.hid (HD.out.grown (grown_drewN wr 1 (hb + 1)) (fun k hk => by cases hk; exact Nat.le_refl _))
      have k0 := HS.out.H.c3
      go_wp2_with fail
      go_region_law (first
        | (rw [if_pos (by rfl)]; go_simp; go_at_call 59; refine HC.out.mono ?_; rintro e w9 ⟨rfl, hR, hg⟩; dsimp only; have S1 := Lib.hid (HS.out.read hR hg); have O1 := Lib.hid (HO.out.drew.kept hg (Or.inr (fun e => by have := (HO.out.lt _ e).1; have := HS.out.L; omega))); have k1 := S1.out.H.c3; have k1b := (S1.out.H.alloc (.cells #[.int .i64 (V1 : Int)] 3)).c3; clear hR hg)
        | (refine step_append_Own rfl (.tmp 35) (.tmp 39) 24 24 rfl (hb + 1) 3 i0 (.int .i64 0) 8 Tryd.underlying24 hi hz0 hz1 hz2 rfl _ ((nat2 X1).map iv) rfl (O1.out.alloc _) _ 1 [iv (V1 : Int)] rfl (Src.one w9 Tryd.underlying24 _ _ rfl) (by rw [hln]; omega) (by rw [hln]; omega) (Nat.le_trans S1.out.Z (by simp)) ?_; intro v' w10 ho hs; have O2 := Lib.hid ho; have T2 := Lib.hid hs; have S2 := Lib.hid ((S1.out.grown (World.grownBy_alloc w9 _ none) (fun k hk => by cases hk)).grown hs.grown (fun k hk => (O1.out.lt k hk).1)); have k2 := S2.out.H.c3; have f2 := S2.out.H.free 3; obtain ⟨va, vc, hv'⟩ := ho.shape; subst hv'; clear ho hs)
        | (trace_state; fail))
      all_goals
        have S3 := Lib.hid (S2.out.st 3 _ (S2.out.H.set3 (.slice va ((nat2 X1).map iv ++ [iv (V1 : Int)]).length vc)))
        have O3 := Lib.hid (O2.out.kept (grown_setCell w10 hb 3 (.slice va ((nat2 X1).map iv ++ [iv (V1 : Int)]).length vc)) (Or.inr (fun e => by have := (O2.out.lt _ e).1; omega)))
        have hl3 : ((nat2 X1).map iv ++ [iv (V1 : Int)]).length = k + 1 := by rw [List.length_append, hln]; rfl
        rw [hl3] at S3 O3
        have hn3 : (nat2 X1).map iv ++ [iv (V1 : Int)] = (nat2 (X1 ++ [V1])).map iv := by unfold nat2; simp
        rw [hn3] at O3
        clear k1 k1b k2 f2 a3 b3 hwv
        have hku : IntKind.u64.wrap ((k : Int) + 1) = (k : Int) + 1 := by rw [IntKind.wrap_u64]; omega
        go_wp2
        go_roundw
        case rel => exact ⟨k + 1, _, by go_num, by omega, by rw [HY.out]; exact S3, by rw [HY.out]; exact O3⟩
        case measure => simp [intOf]; omega
    · obtain rfl : k = N := by omega
      have F := F5.out k
      rw [← H6.out] at HD HO F
      obtain ⟨L5, A5, E5⟩ := R5
      dsimp only at *
      have hL := F.1
      have hA5 := F.2.1
      obtain ⟨ua, uc, rfl⟩ := HO.out.shape
      have hln : ((nat2 L5).map iv).length = k := by unfold nat2; rw [List.length_map, List.length_map, hL]
      rw [hln] at HO HD
      have HNL : Hid ((nat2 L5).length = k) := Lib.hid (by unfold nat2; rw [List.length_map, hL])
      have hLB := HD.out.L
      have hZB := HD.out.Z
      have q0 := HD.out.Q.c0; have q1 := HD.out.Q.c1; have q2 := HD.out.Q.c2; have q3 := HD.out.Q.c3
      have z0 := HD.out.Q.free 0; have z1 := HD.out.Q.free 1; have z2 := HD.out.Q.free 2; have z3 := HD.out.Q.free 3
      have t0 := HD.out.R.c0; have t1 := HD.out.R.c1; have t2 := HD.out.R.c2
      clear H6 F5 F D7 hL hln HV
      by_cases hE5 : E5 = 0
      · have hE0 : ((E5 : Int) != 0) = false := by rw [hE5]; rfl
        by_cases hAs : A5 < s.size
        · have HRE : Hid (RE = 4) := Lib.hid (by rw [H7.out]; unfold endE; rw [if_neg (by omega), if_pos hAs])
          have HDC : Hid (DC = (he0, 4)) := Lib.hid (by rw [H8.out, HRE.out]; rfl)
          have hdA : decide ((A5 : Int) < (s.size : Int)) = true := decide_eq_true (by omega)
          clear H5 H7 H8 hE5
          go_wp2
          exact ret4 Tryd.results28 w.heap.size rfl rfl rfl (HD.out.Q.setAll _ _ _ _) (by rw [HDC.out]; exact ⟨.slice none 0 0, rfl, Own.nil _ _, below_set4 HD.out.B (Nat.le_refl _) _ _ _ _⟩)
        · have HRE : Hid (RE = 0) := Lib.hid (by rw [H7.out]; unfold endE; rw [if_neg (by omega), if_neg hAs])
          have hdA : decide ((A5 : Int) < (s.size : Int)) = false := decide_eq_false (by omega)
          have HM : Hid (∀ W, KAt W (.slice ua k uc) (nat2 L5) → Calls Tryd.prog 23 #[.agg #[.int .i64 (g : Int), .int .i64 (b : Int), .int .i64 (p : Int), .slice ua k uc]] W (Ret W (.bool (mayB RH)))) :=
            Lib.hid (fun W hW => by rw [H5.out]; exact rmay_any ⟨(g : Int), (b : Int), (p : Int), nat2 L5⟩ (.slice ua k uc) W hW (by show (nat2 L5).length ≤ _; rw [HNL.out]; omega))
          have a0 := HD.out.H.c0; have a1 := HD.out.H.c1; have a2 := HD.out.H.c2; have a3 := HD.out.H.c3
          cases hmy : mayB RH
          · have HDC : Hid (DC = (he0, 4)) := Lib.hid (by rw [H8.out, HRE.out, hmy]; rfl)
            rw [hmy] at HM
            clear H5 H7 H8 hE5 hmy
            go_wp2_with fail
            refine (HM.out _ HO.out.kat).mono ?_
            rintro e w12 ⟨rfl, hb9⟩
            have HD3 := Lib.hid (HD.out.grown (r := none) (grown_below hb9 none) (fun k hk => by cases hk))
            clear hb9 a0 a1 a2 a3 q0 q1 q2 q3 z0 z1 z2 z3 t0 t1 t2
            have q0 := HD3.out.Q.c0; have q1 := HD3.out.Q.c1; have q2 := HD3.out.Q.c2; have q3 := HD3.out.Q.c3
            have z0 := HD3.out.Q.free 0; have z1 := HD3.out.Q.free 1; have z2 := HD3.out.Q.free 2; have z3 := HD3.out.Q.free 3
            go_wp2
            exact ret4 Tryd.results28 w.heap.size rfl rfl rfl (HD3.out.Q.setAll _ _ _ _) (by rw [HDC.out]; exact ⟨.slice none 0 0, rfl, Own.nil _ _, below_set4 HD3.out.B (Nat.le_refl _) _ _ _ _⟩)
          · have HDC : Hid (DC = (RH, 0)) := Lib.hid (by rw [H8.out, HRE.out, hmy]; rfl)
            have HRV : Hid (hval RH (.slice ua k uc) = .agg #[.int .i64 (g : Int), .int .i64 (b : Int), .int .i64 (p : Int), .slice ua k uc]) := Lib.hid (by rw [H5.out]; rfl)
            have HRL : Hid (RH.log = nat2 L5) := Lib.hid (by rw [H5.out])
            rw [hmy] at HM
            clear H5 H7 H8 hE5 hmy
            go_wp2_with fail
            refine (HM.out _ HO.out.kat).mono ?_
            rintro e w12 ⟨rfl, hb9⟩
            have HD3 := Lib.hid (HD.out.grown (r := none) (grown_below hb9 none) (fun k hk => by cases hk))
            have HO3 := Lib.hid (HO.out.belowAll hb9)
            clear hb9 a0 a1 a2 a3 q0 q1 q2 q3 z0 z1 z2 z3 t0 t1 t2
            have q0 := HD3.out.Q.c0; have q1 := HD3.out.Q.c1; have q2 := HD3.out.Q.c2; have q3 := HD3.out.Q.c3
            have z0 := HD3.out.Q.free 0; have z1 := HD3.out.Q.free 1; have z2 := HD3.out.Q.free 2; have z3 := HD3.out.Q.free 3
            have a0 := HD3.out.H.c0; have a1 := HD3.out.H.c1; have a2 := HD3.out.H.c2; have a3 := HD3.out.H.c3
            go_wp2
            exact ret4 Tryd.results28 w.heap.size rfl rfl rfl (HD3.out.Q.setAll _ _ _ _) (by rw [HDC.out]; exact ⟨.slice ua k uc, by rw [HRV.out]; rfl, by rw [HRL.out]; exact (HO3.out.set4 (by omega) _ _ _ _).mono (by omega), below_set4 HD3.out.B (Nat.le_refl _) _ _ _ _⟩)
      · have hE0 : ((E5 : Int) != 0) = true := ne0 hE5
        have HRE : Hid (RE = E5) := Lib.hid (by rw [H7.out]; unfold endE; rw [if_pos hE5])
        have HDC : Hid (DC = (he0, E5)) := Lib.hid (by rw [H8.out, HRE.out, if_pos hE5])
        clear H5 H7 H8 hE5
        go_wp2_with fail
        go_region
        all_goals
          go_wp2
          exact ret4 Tryd.results28 w.heap.size rfl rfl rfl (HD.out.Q.setAll _ _ _ _) (by rw [HDC.out]; exact ⟨.slice none 0 0, rfl, Own.nil _ _, (below_set4 HD.out.B (Nat.le_refl _) _ _ _ _).drew⟩)
end Go.Proofs.YtpcpbdcdapmlnaaDoor
