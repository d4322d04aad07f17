/- The heads of both tapes. -/
import Derived.Test.YtpcpbdcdapmlnaaDoorHh
namespace Go.Proofs.YtpcpbdcdapmlnaaDoor
open Go Go.RowKit
set_option maxRecDepth 100000
theorem load84 {w : World} (B : Nat) (a0 a1 a2 a3 b0 b1 b2 b3 : Value) (hB : Box8 w B a0 a1 a2 a3 b0 b1 b2 b3) : (loadVar 84 ⟨B, 0, none⟩).run Tryd.prog w = .ok (.agg #[a0, a1, a2, a3, b0, b1, b2, b3]) w :=
  run_loadVar_row (P := Tryd.prog) w B 84 84 #[a0, a1, a2, a3, b0, b1, b2, b3] (0, 0) _ hB Tryd.underlying84 rfl (by kernel_rfl)
theorem ret8 {fn : Func} {R : Ending → World → Prop} {a : Act} {w : World} {a0 a1 a2 a3 b0 b1 b2 b3 r : Value} {p q : Tmp} (hr : fn.results = #[.cell p 84, .tmp q]) (B : Nat) (h2 : a.tmps.getD p undef = .pointer (some ⟨B, 0, none⟩)) (h3 : a.tmps.getD q undef = r) (hd : a.defers = [])
    (hB : Box8 w B a0 a1 a2 a3 b0 b1 b2 b3) (hR : R (.returned (.tuple #[.agg #[a0, a1, a2, a3, b0, b1, b2, b3], r])) w) : bodyPost Tryd.prog fn R .ret a w :=
  bodyPost_ret (by
    have hl := load84 B a0 a1 a2 a3 b0 b1 b2 b3 hB
    rw [results_cell_tmp hr, h2, h3]
    simp [asAddr, hl, Result.andThen]) hd hR
/-- Two heads, as a pair's value. -/
def pval (x y : He) (v u : Value) : Value := .agg #[.int .i64 x.gen, .int .i64 x.base, .int .i64 x.snap, v, .int .i64 y.gen, .int .i64 y.base, .int .i64 y.snap, u]
structure Hb (w W : World) (x y : He) (v u : Value) : Prop where
  P : Box8 W (w.heap.size + 1) (.int .i64 x.gen) (.int .i64 x.base) (.int .i64 x.snap) v (.int .i64 y.gen) (.int .i64 y.base) (.int .i64 y.snap) u
  Q : Box8 W w.heap.size (.int .i64 0) (.int .i64 0) (.int .i64 0) (.slice none 0 0) (.int .i64 0) (.int .i64 0) (.int .i64 0) (.slice none 0 0)
  O0 : Own W (w.heap.size + 2) v (x.log.map iv)
  O1 : Own W (w.heap.size + 2) u (y.log.map iv)
  B : Below w.heap.size w W
  Z : w.heap.size + 2 ≤ W.heap.size
theorem Hb.belowAll {w W W' : World} {x y : He} {v u : Value} (h : Hb w W x y v u) (hb : Below W.heap.size W W') : Hb w W' x y v u :=
  ⟨h.P.below hb h.P.lt, h.Q.below hb h.Q.lt, h.O0.belowAll hb, h.O1.belowAll hb, below_trans' h.B hb, Nat.le_trans h.Z hb.size⟩
theorem grown_set4h (w : World) (B : Nat) (a b c d : Value) : w.grownBy ((((w.setCell ⟨B, 4, none⟩ a).setCell ⟨B, 5, none⟩ b).setCell ⟨B, 6, none⟩ c).setCell ⟨B, 7, none⟩ d) (some B) :=
  grown_trans (grown_trans (grown_trans (grown_setCell _ _ _ _) (grown_setCell _ _ _ _)) (grown_setCell _ _ _ _)) (grown_setCell _ _ _ _)
theorem Own.grownAt {w W : World} {base B : Nat} {v : Value} {xs : List Value} (h : Own w base v xs) (hg : w.grownBy W (some B)) (hB : B < base) : Own W base v xs := h.kept hg (Or.inr (fun e => by have := (h.lt _ e).1; omega))
theorem Hb.lo {w W : World} {x y z : He} {v u t : Value} (h : Hb w W x y v u) (ht : Own W (w.heap.size + 2) t (z.log.map iv)) :
    Hb w ((((W.setCell ⟨w.heap.size + 1, 0, none⟩ (.int .i64 z.gen)).setCell ⟨w.heap.size + 1, 1, none⟩ (.int .i64 z.base)).setCell ⟨w.heap.size + 1, 2, none⟩ (.int .i64 z.snap)).setCell ⟨w.heap.size + 1, 3, none⟩ t) z y t u :=
  have hg := grown_set4 W (w.heap.size + 1) (.int .i64 z.gen) (.int .i64 z.base) (.int .i64 z.snap) t
  ⟨h.P.lo _ _ _ _, h.Q.kept hg (by simp), ht.grownAt hg (by omega), h.O1.grownAt hg (by omega), below_grown h.B hg h.B.size (by omega), Nat.le_trans h.Z hg.size⟩
theorem Hb.hi {w W : World} {x y z : He} {v u t : Value} (h : Hb w W x y v u) (ht : Own W (w.heap.size + 2) t (z.log.map iv)) :
    Hb w ((((W.setCell ⟨w.heap.size + 1, 4, none⟩ (.int .i64 z.gen)).setCell ⟨w.heap.size + 1, 5, none⟩ (.int .i64 z.base)).setCell ⟨w.heap.size + 1, 6, none⟩ (.int .i64 z.snap)).setCell ⟨w.heap.size + 1, 7, none⟩ t) x z v t :=
  have hg := grown_set4h W (w.heap.size + 1) (.int .i64 z.gen) (.int .i64 z.base) (.int .i64 z.snap) t
  ⟨h.P.hi _ _ _ _, h.Q.kept hg (by simp), h.O0.grownAt hg (by omega), ht.grownAt hg (by omega), below_grown h.B hg h.B.size (by omega), Nat.le_trans h.Z hg.size⟩
/-- What is told of both. -/
def PrRet (w : World) (x y : He) (r : Value) (e : Ending) (w' : World) : Prop := ∃ v u, e = .returned (.tuple #[pval x y v u, r]) ∧ Own w' w.heap.size v (x.log.map iv) ∧ Own w' w.heap.size u (y.log.map iv) ∧ Below w.heap.size w w'
set_option maxHeartbeats 1000000 in
theorem heads_dn (B : Nat) (d : Dk) (w : World) (h : DAt w B d) (hd : d.dn = true) : Calls Tryd.prog 53 #[.pointer (some ⟨B, 0, none⟩)] w (PrRet w he0 he0 (.int .i64 45)) := by
  have HR := Lib.hid (fun W (hW : DAt W B d) => dread_any B d 0 W hW)
  have hr : readD d 0 = (⟨#[]⟩, 45) := by unfold readD; rw [if_pos hd]
  rw [hr] at HR
  have X0 := Lib.hid ((Box8.new w (.int .i64 0) (.int .i64 0) (.int .i64 0) (.slice none 0 0) (.int .i64 0) (.int .i64 0) (.int .i64 0) (.slice none 0 0)).alloc (.cells #[.int .i64 0, .int .i64 0, .int .i64 0, .slice none 0 0, .int .i64 0, .int .i64 0, .int .i64 0, .slice none 0 0] 84))
  have HB := Lib.hid (below_two w (.cells #[.int .i64 0, .int .i64 0, .int .i64 0, .slice none 0 0, .int .i64 0, .int .i64 0, .int .i64 0, .slice none 0 0] 84) (.cells #[.int .i64 0, .int .i64 0, .int .i64 0, .slice none 0 0, .int .i64 0, .int .i64 0, .int .i64 0, .slice none 0 0] 84))
  have HD := Lib.hid (h.below HB.out h.lt)
  clear h
  go_enter Tryd.func53, Tryd.ntmps53
  go_wp2
  go_loopw [8] (fun i wl => i = .int .i64 0 ∧ Hid (Box8 wl w.heap.size (.int .i64 0) (.int .i64 0) (.int .i64 0) (.slice none 0 0) (.int .i64 0) (.int .i64 0) (.int .i64 0) (.slice none 0 0)) ∧ Hid (Below w.heap.size w wl) ∧ Hid (DAt wl B d)) (fun _ _ => 0)
  case atStart => exact ⟨rfl, X0, HB, HD⟩
  case round =>
    obtain ⟨rfl, HX, HW, HE⟩ := hrel
    go_wp2_with fail
    refine (HR.out _ HE.out).mono ?_
    rintro e w1 ⟨rfl, rfl⟩
    have q0 := HX.out.c0; have q1 := HX.out.c1; have q2 := HX.out.c2; have q3 := HX.out.c3
    have q4 := HX.out.c4; have q5 := HX.out.c5; have q6 := HX.out.c6; have q7 := HX.out.c7
    have z0 := HX.out.free 0; have z1 := HX.out.free 1; have z2 := HX.out.free 2; have z3 := HX.out.free 3
    have z4 := HX.out.free 4; have z5 := HX.out.free 5; have z6 := HX.out.free 6; have z7 := HX.out.free 7
    go_wp2
    have hg := grown_set4 wr w.heap.size (.int .i64 0) (.int .i64 0) (.int .i64 0) (.slice none 0 0)
    have hg2 := grown_trans hg (grown_set4h _ w.heap.size (.int .i64 0) (.int .i64 0) (.int .i64 0) (.slice none 0 0))
    exact ret8 Tryd.results53 w.heap.size rfl rfl rfl (HX.out.all _ _ _ _ _ _ _ _) ⟨.slice none 0 0, .slice none 0 0, rfl, Own.nil _ _, Own.nil _ _, below_grown HW.out hg2 HW.out.size (Nat.le_refl _)⟩
set_option maxHeartbeats 2000000 in
theorem heads_up (B : Nat) (d : Dk) (w : World) (h : DAt w B d) (hd : d.dn = false) (hs0 : (d.T 0).s.size ≤ 1048576) (hs1 : (d.T 1).s.size ≤ 1048576) (hT : Hid (Tab w)) : Calls Tryd.prog 53 #[.pointer (some ⟨B, 0, none⟩)] w (PrRet w (ofB (d.T 0).s).1 (ofB (d.T 1).s).1 (.int .i64 0)) := by
  have HR0 := Lib.hid (fun W (hW : DAt W B d) => dread_any B d 0 W hW)
  have HR1 := Lib.hid (fun W (hW : DAt W B d) => dread_any B d 1 W hW)
  have hr : readD d 0 = ((d.T 0).s, 0) := by unfold readD; rw [hd]; rfl
  have hr1 : readD d 1 = ((d.T 1).s, 0) := by unfold readD; rw [hd]; rfl
  rw [hr] at HR0
  rw [hr1] at HR1
  have HO0 := Lib.hid (fun W hW => of_any' (d.T 0).s (by omega) W (Lib.hid hW))
  have HO1 := Lib.hid (fun W hW => of_any' (d.T 1).s (by omega) W (Lib.hid hW))
  have HA := Lib.hid (below_two w (.cells #[.int .i64 0, .int .i64 0, .int .i64 0, .slice none 0 0, .int .i64 0, .int .i64 0, .int .i64 0, .slice none 0 0] 84) (.cells #[.int .i64 0, .int .i64 0, .int .i64 0, .slice none 0 0, .int .i64 0, .int .i64 0, .int .i64 0, .slice none 0 0] 84))
  have H0 : Hid (Hb w ((w.alloc (.cells #[.int .i64 0, .int .i64 0, .int .i64 0, .slice none 0 0, .int .i64 0, .int .i64 0, .int .i64 0, .slice none 0 0] 84)).alloc (.cells #[.int .i64 0, .int .i64 0, .int .i64 0, .slice none 0 0, .int .i64 0, .int .i64 0, .int .i64 0, .slice none 0 0] 84)) he0 he0 (.slice none 0 0) (.slice none 0 0)) := by
    refine Lib.hid ⟨?_, (Box8.new w _ _ _ _ _ _ _ _).alloc _, Own.nil _ _, Own.nil _ _, HA.out, by simp⟩
    have := Box8.new (w.alloc (.cells #[.int .i64 0, .int .i64 0, .int .i64 0, .slice none 0 0, .int .i64 0, .int .i64 0, .int .i64 0, .slice none 0 0] 84)) (.int .i64 0) (.int .i64 0) (.int .i64 0) (.slice none 0 0) (.int .i64 0) (.int .i64 0) (.int .i64 0) (.slice none 0 0)
    rw [World.size_alloc] at this; exact this
  have HD := Lib.hid h
  have hlt := h.lt
  clear h hr hr1 hs0 hs1
  generalize (d.T 0).s = s0 at *
  generalize (d.T 1).s = s1 at *
  generalize hx0 : ofB s0 = x0 at *
  generalize hx1 : ofB s1 = x1 at *
  clear hx0 hx1
  obtain ⟨x0, i0⟩ := x0
  obtain ⟨x1, i1⟩ := x1
  dsimp only at *
  go_enter Tryd.func53, Tryd.ntmps53
  go_wp2
  go_loopw [8] (fun i wl => ∃ (k : Nat) (v u : Value), i = .int .i64 (k : Int) ∧ k ≤ 2 ∧ Hid (Hb w wl (if k = 0 then he0 else x0) (if k = 2 then x1 else he0) v u)) (fun i _ => 2 - (intOf i).toNat)
  case atStart => exact ⟨0, _, _, rfl, by omega, H0⟩
  case round =>
    obtain ⟨k, v, u, rfl, hk, HB⟩ := hrel
    by_cases h0 : k = 0
    · subst h0
      have HB : Hid (Hb w wr he0 he0 v u) := HB
      obtain ⟨va, vc, hv⟩ := HB.out.O0.shape
      obtain ⟨ua, uc, hu⟩ := HB.out.O1.shape
      rw [List.length_map] at hv hu
      subst hv hu
      go_wp2_with fail
      refine (HR0.out _ (HD.out.below HB.out.B hlt)).mono ?_
      rintro e w1 ⟨rfl, rfl⟩
      go_wp2_with fail
      refine (HO0.out _ (hT.out.below HB.out.B)).mono ?_
      rintro e w2 ⟨t, rfl, ho, hb⟩
      have HB2 := Lib.hid (HB.out.belowAll hb)
      have HO := Lib.hid (ho.mono HB.out.Z)
      obtain ⟨ta, tc, ht⟩ := ho.shape
      rw [List.length_map] at ht
      subst ht
      clear ho hb
      have HV : Hid (hval x0 (.slice ta x0.log.length tc) = .agg #[.int .i64 x0.gen, .int .i64 x0.base, .int .i64 x0.snap, .slice ta x0.log.length tc]) := Lib.hid rfl
      rw [HV.out]
      have q0 := HB2.out.P.c0; have q1 := HB2.out.P.c1; have q2 := HB2.out.P.c2; have q3 := HB2.out.P.c3
      have z0 := HB2.out.P.free 0; have z1 := HB2.out.P.free 1; have z2 := HB2.out.P.free 2; have z3 := HB2.out.P.free 3
      have HB3 := Lib.hid (HB2.out.lo HO.out)
      go_wp2
      go_roundw
      case rel => exact ⟨1, _, _, rfl, by omega, HB3⟩
      case measure => simp [intOf]
    · by_cases h1 : k = 1
      · subst h1
        have HB : Hid (Hb w wr x0 he0 v u) := HB
        obtain ⟨va, vc, hv⟩ := HB.out.O0.shape
        obtain ⟨ua, uc, hu⟩ := HB.out.O1.shape
        rw [List.length_map] at hv hu
        subst hv hu
        go_wp2_with fail
        refine (HR1.out _ (HD.out.below HB.out.B hlt)).mono ?_
        rintro e w1 ⟨rfl, rfl⟩
        go_wp2_with fail
        refine (HO1.out _ (hT.out.below HB.out.B)).mono ?_
        rintro e w2 ⟨t, rfl, ho, hb⟩
        have HB2 := Lib.hid (HB.out.belowAll hb)
        have HO := Lib.hid (ho.mono HB.out.Z)
        obtain ⟨ta, tc, ht⟩ := ho.shape
        rw [List.length_map] at ht
        subst ht
        clear ho hb
        have HV : Hid (hval x1 (.slice ta x1.log.length tc) = .agg #[.int .i64 x1.gen, .int .i64 x1.base, .int .i64 x1.snap, .slice ta x1.log.length tc]) := Lib.hid rfl
        rw [HV.out]
        have q0 := HB2.out.P.c4; have q1 := HB2.out.P.c5; have q2 := HB2.out.P.c6; have q3 := HB2.out.P.c7
        have z0 := HB2.out.P.free 4; have z1 := HB2.out.P.free 5; have z2 := HB2.out.P.free 6; have z3 := HB2.out.P.free 7
        have HB3 := Lib.hid (HB2.out.hi HO.out)
        go_wp2
        go_roundw
        case rel => exact ⟨2, _, _, rfl, by omega, HB3⟩
        case measure => simp [intOf]
      · obtain rfl : k = 2 := by omega
        have HB : Hid (Hb w wr x0 x1 v u) := HB
        obtain ⟨va, vc, hv⟩ := HB.out.O0.shape
        obtain ⟨ua, uc, hu⟩ := HB.out.O1.shape
        rw [List.length_map] at hv hu
        subst hv hu
        have q0 := HB.out.P.c0; have q1 := HB.out.P.c1; have q2 := HB.out.P.c2; have q3 := HB.out.P.c3
        have q4 := HB.out.P.c4; have q5 := HB.out.P.c5; have q6 := HB.out.P.c6; have q7 := HB.out.P.c7
        have r0 := HB.out.Q.c0; have r1 := HB.out.Q.c1; have r2 := HB.out.Q.c2; have r3 := HB.out.Q.c3
        have r4 := HB.out.Q.c4; have r5 := HB.out.Q.c5; have r6 := HB.out.Q.c6; have r7 := HB.out.Q.c7
        have z0 := HB.out.Q.free 0; have z1 := HB.out.Q.free 1; have z2 := HB.out.Q.free 2; have z3 := HB.out.Q.free 3
        have z4 := HB.out.Q.free 4; have z5 := HB.out.Q.free 5; have z6 := HB.out.Q.free 6; have z7 := HB.out.Q.free 7
        go_wp2
        have hg := grown_set4 wr w.heap.size (.int .i64 x0.gen) (.int .i64 x0.base) (.int .i64 x0.snap) (.slice va x0.log.length vc)
        have hg2 := grown_trans hg (grown_set4h _ w.heap.size (.int .i64 x1.gen) (.int .i64 x1.base) (.int .i64 x1.snap) (.slice ua x1.log.length uc))
        exact ret8 Tryd.results53 w.heap.size rfl rfl rfl (HB.out.Q.all _ _ _ _ _ _ _ _) ⟨_, _, rfl, (HB.out.O0.grownAt hg2 (by omega)).mono (by omega), (HB.out.O1.grownAt hg2 (by omega)).mono (by omega), below_grown HB.out.B hg2 HB.out.B.size (Nat.le_refl _)⟩
end Go.Proofs.YtpcpbdcdapmlnaaDoor
