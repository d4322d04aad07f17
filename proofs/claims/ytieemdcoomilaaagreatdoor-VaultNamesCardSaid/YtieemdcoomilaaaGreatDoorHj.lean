/- The heads of both tapes. -/
import Derived.Test.YtieemdcoomilaaaGreatDoorHg
set_option linter.unusedVariables false
set_option linter.unusedSimpArgs false
namespace Go.Proofs.YtieemdcoomilaaaGreatDoor
open Go Go.RowKit
set_option maxRecDepth 100000
theorem load84 {w : World} (B : Nat) (a0 a1 a2 a3 b0 b1 b2 b3 : Value) (hB : Box8 w B a0 a1 a2 a3 b0 b1 b2 b3) : (loadVar 140 ⟨B, 0, none⟩).run Tryz.prog w = .ok (.agg #[a0, a1, a2, a3, b0, b1, b2, b3]) w :=
  run_loadVar_row (P := Tryz.prog) w B 140 140 #[a0, a1, a2, a3, b0, b1, b2, b3] (0, 0) _ hB Tryz.underlying140 rfl (by kernel_rfl)
theorem ret8 {fn : Func} {R : Ending → World → Prop} {a : Act} {w : World} {a0 a1 a2 a3 b0 b1 b2 b3 r : Value} {p q : Tmp} (hr : fn.results = #[.cell p 140, .tmp q]) (B : Nat) (h2 : a.tmps.getD p undef = .pointer (some ⟨B, 0, none⟩)) (h3 : a.tmps.getD q undef = r) (hd : a.defers = [])
    (hB : Box8 w B a0 a1 a2 a3 b0 b1 b2 b3) (hR : R (.returned (.tuple #[.agg #[a0, a1, a2, a3, b0, b1, b2, b3], r])) w) : bodyPost Tryz.prog fn R .ret a w :=
  bodyPost_ret (by
    have hl := load84 B a0 a1 a2 a3 b0 b1 b2 b3 hB
    rw [results_cell_tmp hr, h2, h3]
    simp [asAddr, hl, Result.andThen]) hd hR
/-- Two heads, as a pair's value. -/
def pval (x y : He) (v u : Value) : Value := .agg #[.int .i64 x.gen, .int .i64 x.base, .int .i64 x.snap, v, .int .i64 y.gen, .int .i64 y.base, .int .i64 y.snap, u]
structure Hb (w W : World) (x y : He) (v u : Value) : Prop where
  P : Box8 W (w.heap.size + 1) (.int .i64 x.gen) (.int .i64 x.base) (.int .i64 x.snap) v (.int .i64 y.gen) (.int .i64 y.base) (.int .i64 y.snap) u
  Q : Box8 W w.heap.size (.int .i64 0) (.int .i64 0) (.int .i64 0) (.slice none 0 0) (.int .i64 0) (.int .i64 0) (.int .i64 0) (.slice none 0 0)
  O0 : Own W (w.heap.size + 2) v (x.log.map iv)
  O1 : Own W (w.heap.size + 2) u (y.log.map iv)
  B : Below w.heap.size w W
  Z : w.heap.size + 2 ≤ W.heap.size
theorem Hb.belowAll {w W W' : World} {x y : He} {v u : Value} (h : Hb w W x y v u) (hb : Below W.heap.size W W') : Hb w W' x y v u :=
  ⟨h.P.below hb h.P.lt, h.Q.below hb h.Q.lt, h.O0.belowAll hb, h.O1.belowAll hb, below_trans' h.B hb, Nat.le_trans h.Z hb.size⟩
theorem grown_set4h (w : World) (B : Nat) (a b c d : Value) : w.grownBy ((((w.setCell ⟨B, 4, none⟩ a).setCell ⟨B, 5, none⟩ b).setCell ⟨B, 6, none⟩ c).setCell ⟨B, 7, none⟩ d) (some B) :=
  grown_trans (grown_trans (grown_trans (grown_setCell _ _ _ _) (grown_setCell _ _ _ _)) (grown_setCell _ _ _ _)) (grown_setCell _ _ _ _)
theorem Own.grownAt {w W : World} {base B : Nat} {v : Value} {xs : List Value} (h : Own w base v xs) (hg : w.grownBy W (some B)) (hB : B < base) : Own W base v xs := h.kept hg (Or.inr (fun e => by have := (h.lt _ e).1; omega))
theorem Hb.lo {w W : World} {x y z : He} {v u t : Value} (h : Hb w W x y v u) (ht : Own W (w.heap.size + 2) t (z.log.map iv)) :
    Hb w ((((W.setCell ⟨w.heap.size + 1, 0, none⟩ (.int .i64 z.gen)).setCell ⟨w.heap.size + 1, 1, none⟩ (.int .i64 z.base)).setCell ⟨w.heap.size + 1, 2, none⟩ (.int .i64 z.snap)).setCell ⟨w.heap.size + 1, 3, none⟩ t) z y t u :=
  have hg := grown_set4 W (w.heap.size + 1) (.int .i64 z.gen) (.int .i64 z.base) (.int .i64 z.snap) t
  ⟨h.P.lo _ _ _ _, h.Q.kept hg (by simp), ht.grownAt hg (by omega), h.O1.grownAt hg (by omega), below_grown h.B hg h.B.size (by omega), Nat.le_trans h.Z hg.size⟩
theorem Hb.hi {w W : World} {x y z : He} {v u t : Value} (h : Hb w W x y v u) (ht : Own W (w.heap.size + 2) t (z.log.map iv)) :
    Hb w ((((W.setCell ⟨w.heap.size + 1, 4, none⟩ (.int .i64 z.gen)).setCell ⟨w.heap.size + 1, 5, none⟩ (.int .i64 z.base)).setCell ⟨w.heap.size + 1, 6, none⟩ (.int .i64 z.snap)).setCell ⟨w.heap.size + 1, 7, none⟩ t) x z v t :=
  have hg := grown_set4h W (w.heap.size + 1) (.int .i64 z.gen) (.int .i64 z.base) (.int .i64 z.snap) t
  ⟨h.P.hi _ _ _ _, h.Q.kept hg (by simp), h.O0.grownAt hg (by omega), ht.grownAt hg (by omega), below_grown h.B hg h.B.size (by omega), Nat.le_trans h.Z hg.size⟩
/-- What is told of both. -/
def PrRet (w : World) (x y : He) (r : Value) (e : Ending) (w' : World) : Prop := ∃ v u, e = .returned (.tuple #[pval x y v u, r]) ∧ Own w' w.heap.size v (x.log.map iv) ∧ Own w' w.heap.size u (y.log.map iv) ∧ Below w.heap.size w w'
set_option maxHeartbeats 1000000 in
theorem heads_dn (B : Nat) (d : Dk) (w : World) (h : DAt w B d) (hd : d.dn = true) : Calls Tryz.prog 109 #[.pointer (some ⟨B, 0, none⟩)] w (PrRet w he0 he0 (.int .i64 45)) := by
  have HR := Lib.hid (fun W (hW : DAt W B d) => dread_any B d 0 W hW)
  have hr : readD d 0 = (⟨#[]⟩, 45) := by unfold readD; rw [if_pos hd]
  rw [hr] at HR
  have X0 := Lib.hid ((Box8.new w (.int .i64 0) (.int .i64 0) (.int .i64 0) (.slice none 0 0) (.int .i64 0) (.int .i64 0) (.int .i64 0) (.slice none 0 0)).alloc (.cells #[.int .i64 0, .int .i64 0, .int .i64 0, .slice none 0 0, .int .i64 0, .int .i64 0, .int .i64 0, .slice none 0 0] 140))
  have HB := Lib.hid (below_two w (.cells #[.int .i64 0, .int .i64 0, .int .i64 0, .slice none 0 0, .int .i64 0, .int .i64 0, .int .i64 0, .slice none 0 0] 140) (.cells #[.int .i64 0, .int .i64 0, .int .i64 0, .slice none 0 0, .int .i64 0, .int .i64 0, .int .i64 0, .slice none 0 0] 140))
  have HD := Lib.hid (h.below HB.out h.lt)
  clear h
  go_enter Tryz.func109, Tryz.ntmps109
  go_wp2
  go_loopw [8] (fun i wl => i = .int .i64 0 ∧ Hid (Box8 wl w.heap.size (.int .i64 0) (.int .i64 0) (.int .i64 0) (.slice none 0 0) (.int .i64 0) (.int .i64 0) (.int .i64 0) (.slice none 0 0)) ∧ Hid (Below w.heap.size w wl) ∧ Hid (DAt wl B d)) (fun _ _ => 0)
  case atStart => exact ⟨rfl, X0, HB, HD⟩
  case round =>
    obtain ⟨rfl, HX, HW, HE⟩ := hrel
    go_wp2_with fail
    refine (HR.out _ HE.out).mono ?_
    rintro e w1 ⟨rfl, rfl⟩
    have q0 := HX.out.c0; have q1 := HX.out.c1; have q2 := HX.out.c2; have q3 := HX.out.c3
    have q4 := HX.out.c4; have q5 := HX.out.c5; have q6 := HX.out.c6; have q7 := HX.out.c7
    have z0 := HX.out.free 0; have z1 := HX.out.free 1; have z2 := HX.out.free 2; have z3 := HX.out.free 3
    have z4 := HX.out.free 4; have z5 := HX.out.free 5; have z6 := HX.out.free 6; have z7 := HX.out.free 7
    go_wp2
    have hg := grown_set4 wr w.heap.size (.int .i64 0) (.int .i64 0) (.int .i64 0) (.slice none 0 0)
    have hg2 := grown_trans hg (grown_set4h _ w.heap.size (.int .i64 0) (.int .i64 0) (.int .i64 0) (.slice none 0 0))
    exact ret8 Tryz.results109 w.heap.size rfl rfl rfl (HX.out.all _ _ _ _ _ _ _ _) ⟨.slice none 0 0, .slice none 0 0, rfl, Own.nil _ _, Own.nil _ _, below_grown HW.out hg2 HW.out.size (Nat.le_refl _)⟩
set_option maxHeartbeats 2000000 in
theorem heads_up (B : Nat) (d : Dk) (w : World) (h : DAt w B d) (hd : d.dn = false) (hs0 : (d.T 0).s.size ≤ 1048576) (hs1 : (d.T 1).s.size ≤ 1048576) (hT : Hid (Tab w)) : Calls Tryz.prog 109 #[.pointer (some ⟨B, 0, none⟩)] w (PrRet w (ofB (d.T 0).s).1 (ofB (d.T 1).s).1 (.int .i64 0)) := by
  have HR0 := Lib.hid (fun W (hW : DAt W B d) => dread_any B d 0 W hW)
  have HR1 := Lib.hid (fun W (hW : DAt W B d) => dread_any B d 1 W hW)
  have hr : readD d 0 = ((d.T 0).s, 0) := by unfold readD; rw [hd]; rfl
  have hr1 : readD d 1 = ((d.T 1).s, 0) := by unfold readD; rw [hd]; rfl
  rw [hr] at HR0
  rw [hr1] at HR1
  have HO0 := Lib.hid (fun W hW => of_any' (d.T 0).s (by omega) W (Lib.hid hW))
  have HO1 := Lib.hid (fun W hW => of_any' (d.T 1).s (by omega) W (Lib.hid hW))
  have HA := Lib.hid (below_two w (.cells #[.int .i64 0, .int .i64 0, .int .i64 0, .slice none 0 0, .int .i64 0, .int .i64 0, .int .i64 0, .slice none 0 0] 140) (.cells #[.int .i64 0, .int .i64 0, .int .i64 0, .slice none 0 0, .int .i64 0, .int .i64 0, .int .i64 0, .slice none 0 0] 140))
  have H0 : Hid (Hb w ((w.alloc (.cells #[.int .i64 0, .int .i64 0, .int .i64 0, .slice none 0 0, .int .i64 0, .int .i64 0, .int .i64 0, .slice none 0 0] 140)).alloc (.cells #[.int .i64 0, .int .i64 0, .int .i64 0, .slice none 0 0, .int .i64 0, .int .i64 0, .int .i64 0, .slice none 0 0] 140)) he0 he0 (.slice none 0 0) (.slice none 0 0)) := by
    refine Lib.hid ⟨?_, (Box8.new w _ _ _ _ _ _ _ _).alloc _, Own.nil _ _, Own.nil _ _, HA.out, by simp⟩
    have := Box8.new (w.alloc (.cells #[.int .i64 0, .int .i64 0, .int .i64 0, .slice none 0 0, .int .i64 0, .int .i64 0, .int .i64 0, .slice none 0 0] 140)) (.int .i64 0) (.int .i64 0) (.int .i64 0) (.slice none 0 0) (.int .i64 0) (.int .i64 0) (.int .i64 0) (.slice none 0 0)
    rw [World.size_alloc] at this; exact this
  have HD := Lib.hid h
  have hlt := h.lt
  clear h hr hr1 hs0 hs1
  generalize (d.T 0).s = s0 at *
  generalize (d.T 1).s = s1 at *
  generalize hx0 : ofB s0 = x0 at *
  generalize hx1 : ofB s1 = x1 at *
  clear hx0 hx1
  obtain ⟨x0, i0⟩ := x0
  obtain ⟨x1, i1⟩ := x1
  dsimp only at *
  go_enter Tryz.func109, Tryz.ntmps109
  go_wp2
  go_loopw [8] (fun i wl => ∃ (k : Nat) (v u : Value), i = .int .i64 (k : Int) ∧ k ≤ 2 ∧ Hid (Hb w wl (if k = 0 then he0 else x0) (if k = 2 then x1 else he0) v u)) (fun i _ => 2 - (intOf i).toNat)
  case atStart => exact ⟨0, _, _, rfl, by omega, H0⟩
  case round =>
    obtain ⟨k, v, u, rfl, hk, HB⟩ := hrel
    by_cases h0 : k = 0
    · subst h0
      have HB : Hid (Hb w wr he0 he0 v u) := HB
      obtain ⟨va, vc, hv⟩ := HB.out.O0.shape
      obtain ⟨ua, uc, hu⟩ := HB.out.O1.shape
      rw [List.length_map] at hv hu
      subst hv hu
      go_wp2_with fail
      refine (HR0.out _ (HD.out.below HB.out.B hlt)).mono ?_
      rintro e w1 ⟨rfl, rfl⟩
      go_wp2_with fail
      refine (HO0.out _ (hT.out.below HB.out.B)).mono ?_
      rintro e w2 ⟨t, rfl, ho, hb⟩
      have HB2 := Lib.hid (HB.out.belowAll hb)
      have HO := Lib.hid (ho.mono HB.out.Z)
      obtain ⟨ta, tc, ht⟩ := ho.shape
      rw [List.length_map] at ht
      subst ht
      clear ho hb
      have HV : Hid (hval x0 (.slice ta x0.log.length tc) = .agg #[.int .i64 x0.gen, .int .i64 x0.base, .int .i64 x0.snap, .slice ta x0.log.length tc]) := Lib.hid rfl
      rw [HV.out]
      have q0 := HB2.out.P.c0; have q1 := HB2.out.P.c1; have q2 := HB2.out.P.c2; have q3 := HB2.out.P.c3
      have z0 := HB2.out.P.free 0; have z1 := HB2.out.P.free 1; have z2 := HB2.out.P.free 2; have z3 := HB2.out.P.free 3
      have HB3 := Lib.hid (HB2.out.lo HO.out)
      go_wp2
      go_roundw
      case rel => exact ⟨1, _, _, rfl, by omega, HB3⟩
      case measure => simp [intOf]
    · by_cases h1 : k = 1
      · subst h1
        have HB : Hid (Hb w wr x0 he0 v u) := HB
        obtain ⟨va, vc, hv⟩ := HB.out.O0.shape
        obtain ⟨ua, uc, hu⟩ := HB.out.O1.shape
        rw [List.length_map] at hv hu
        subst hv hu
        go_wp2_with fail
        refine (HR1.out _ (HD.out.below HB.out.B hlt)).mono ?_
        rintro e w1 ⟨rfl, rfl⟩
        go_wp2_with fail
        refine (HO1.out _ (hT.out.below HB.out.B)).mono ?_
        rintro e w2 ⟨t, rfl, ho, hb⟩
        have HB2 := Lib.hid (HB.out.belowAll hb)
        have HO := Lib.hid (ho.mono HB.out.Z)
        obtain ⟨ta, tc, ht⟩ := ho.shape
        rw [List.length_map] at ht
        subst ht
        clear ho hb
        have HV : Hid (hval x1 (.slice ta x1.log.length tc) = .agg #[.int .i64 x1.gen, .int .i64 x1.base, .int .i64 x1.snap, .slice ta x1.log.length tc]) := Lib.hid rfl
        rw [HV.out]
        have q0 := HB2.out.P.c4; have q1 := HB2.out.P.c5; have q2 := HB2.out.P.c6; have q3 := HB2.out.P.c7
        have z0 := HB2.out.P.free 4; have z1 := HB2.out.P.free 5; have z2 := HB2.out.P.free 6; have z3 := HB2.out.P.free 7
        have HB3 := Lib.hid (HB2.out.hi HO.out)
        go_wp2
        go_roundw
        case rel => exact ⟨2, _, _, rfl, by omega, HB3⟩
        case measure => simp [intOf]
      · obtain rfl : k = 2 := by omega
        have HB : Hid (Hb w wr x0 x1 v u) := HB
        obtain ⟨va, vc, hv⟩ := HB.out.O0.shape
        obtain ⟨ua, uc, hu⟩ := HB.out.O1.shape
        rw [List.length_map] at hv hu
        subst hv hu
        have q0 := HB.out.P.c0; have q1 := HB.out.P.c1; have q2 := HB.out.P.c2; have q3 := HB.out.P.c3
        have q4 := HB.out.P.c4; have q5 := HB.out.P.c5; have q6 := HB.out.P.c6; have q7 := HB.out.P.c7
        have r0 := HB.out.Q.c0; have r1 := HB.out.Q.c1; have r2 := HB.out.Q.c2; have r3 := HB.out.Q.c3
        have r4 := HB.out.Q.c4; have r5 := HB.out.Q.c5; have r6 := HB.out.Q.c6; have r7 := HB.out.Q.c7
        have z0 := HB.out.Q.free 0; have z1 := HB.out.Q.free 1; have z2 := HB.out.Q.free 2; have z3 := HB.out.Q.free 3
        have z4 := HB.out.Q.free 4; have z5 := HB.out.Q.free 5; have z6 := HB.out.Q.free 6; have z7 := HB.out.Q.free 7
        go_wp2
        have hg := grown_set4 wr w.heap.size (.int .i64 x0.gen) (.int .i64 x0.base) (.int .i64 x0.snap) (.slice va x0.log.length vc)
        have hg2 := grown_trans hg (grown_set4h _ w.heap.size (.int .i64 x1.gen) (.int .i64 x1.base) (.int .i64 x1.snap) (.slice ua x1.log.length uc))
        exact ret8 Tryz.results109 w.heap.size rfl rfl rfl (HB.out.Q.all _ _ _ _ _ _ _ _) ⟨_, _, rfl, (HB.out.O0.grownAt hg2 (by omega)).mono (by omega), (HB.out.O1.grownAt hg2 (by omega)).mono (by omega), below_grown HB.out.B hg2 HB.out.B.size (Nat.le_refl _)⟩
end Go.Proofs.YtieemdcoomilaaaGreatDoor
namespace Go.Proofs.YtieemdcoomilaaaGreatDoor
open Go Go.RowKit
set_option maxRecDepth 100000
theorem results_cell_three {fn : Func} {p u v x : Tmp} {ty : TypeId} (h : fn.results = #[.cell p ty, .tmp u, .tmp v, .tmp x]) (tmps : Array Value) (P : Program) (w : World) :
    (results fn tmps).run P w =
      ((asAddr (tmps.getD p undef)).run P w).andThen fun a w₁ => ((loadVar ty a).run P w₁).andThen fun y w₂ => .ok (.tuple #[y, tmps.getD u undef, tmps.getD v undef, tmps.getD x undef]) w₂ := by
  simp only [results, h]
  simp [Sem.run_bind, Result.andThen]
theorem ret4q {fn : Func} {R : Ending → World → Prop} {a : Act} {w : World} {x y z u r s t : Value} {p q q2 q3 : Tmp} (hr : fn.results = #[.cell p 40, .tmp q, .tmp q2, .tmp q3]) (B : Nat) (h2 : a.tmps.getD p undef = .pointer (some ⟨B, 0, none⟩)) (h3 : a.tmps.getD q undef = r) (h4 : a.tmps.getD q2 undef = s) (h5 : a.tmps.getD q3 undef = t) (hd : a.defers = [])
    (hB : Box4 w B x y z u) (hR : R (.returned (.tuple #[.agg #[x, y, z, u], r, s, t])) w) : bodyPost Tryz.prog fn R .ret a w :=
  bodyPost_ret (by
    have hl := load26 B x y z u hB
    rw [results_cell_three hr, h2, h3, h4, h5]
    simp [asAddr, hl, Result.andThen]) hd hR
/-- What Load tells. -/
def LdRet (w : World) (h : He) (t : Int) (b : Bool) (r : Int) (e : Ending) (w' : World) : Prop :=
  ∃ v, e = .returned (.tuple #[hval h v, .int .i64 t, .bool b, .int .i64 r]) ∧ Own w' w.heap.size v (h.log.map iv) ∧ Below w.heap.size w w'
/-- The head that counts of two. -/
def cHead (x y : He) : He := if x.gen < y.gen then y else x
set_option maxHeartbeats 1000000 in
theorem load_fail (p : Value) (E : Nat) (hE : E ≠ 0) (w : World) (H : ∀ W, Below w.heap.size w W → Calls Tryz.prog 109 #[p] W (PrRet W he0 he0 (.int .i64 (E : Int)))) : Calls Tryz.prog 83 #[p] w (LdRet w he0 0 false (E : Int)) := by
  have X0 := Lib.hid (Box4.new w (.int .i64 0) (.int .i64 0) (.int .i64 0) (.slice none 0 0))
  have HH := Lib.hid (H _ (below_one w (.cells #[.int .i64 0, .int .i64 0, .int .i64 0, .slice none 0 0] 40)))
  have hE2 := ne0 hE
  clear H
  go_enter Tryz.func83, Tryz.ntmps83
  go_wp2_with fail
  refine HH.out.mono ?_
  rintro e w1 ⟨v, u, rfl, ho, ho2, hb⟩
  have HB := Lib.hid (below_trans' (below_one w _) hb)
  have X1 := Lib.hid (X0.out.below hb X0.out.lt)
  obtain ⟨va, vc, hv⟩ := ho.shape
  obtain ⟨ua, uc, hu⟩ := ho2.shape
  rw [List.length_map] at hv hu
  subst hv hu
  have HV : Hid (pval he0 he0 (.slice va he0.log.length vc) (.slice ua he0.log.length uc) = .agg #[.int .i64 0, .int .i64 0, .int .i64 0, .slice va 0 vc, .int .i64 0, .int .i64 0, .int .i64 0, .slice ua 0 uc]) := Lib.hid rfl
  rw [HV.out]
  clear ho ho2 hb
  have hlt := X1.out.lt
  have hne : w.heap.size ≠ w1.heap.size := by omega
  have q0 := X1.out.c0; have q1 := X1.out.c1; have q2 := X1.out.c2; have q3 := X1.out.c3
  have z0 := X1.out.free 0; have z1 := X1.out.free 1; have z2 := X1.out.free 2; have z3 := X1.out.free 3
  go_wp2
  exact ret4q Tryz.results83 w.heap.size rfl rfl rfl rfl rfl ((X1.out.setAll _ _ _ _).alloc _) ⟨.slice none 0 0, rfl, Own.nil _ _, (below_set4 HB.out (Nat.le_refl _) _ _ _ _).alloc (below_set4 HB.out (Nat.le_refl _) _ _ _ _).size _⟩
set_option maxHeartbeats 2000000 in
theorem load_good (p : Value) (x y : He) (w : World) (H : ∀ W, Below w.heap.size w W → Calls Tryz.prog 109 #[p] W (PrRet W x y (.int .i64 0))) : Calls Tryz.prog 83 #[p] w (LdRet w (cHead x y) (cTape x.gen y.gen) (cIs x.gen y.gen) 0) := by
  have X0 := Lib.hid (Box4.new w (.int .i64 0) (.int .i64 0) (.int .i64 0) (.slice none 0 0))
  have HH := Lib.hid (H _ (below_one w (.cells #[.int .i64 0, .int .i64 0, .int .i64 0, .slice none 0 0] 40)))
  have HC := Lib.hid (fun a0 n0 c0 a1 n1 c1 W => counting_any x.gen x.base x.snap y.gen y.base y.snap a0 n0 c0 a1 n1 c1 W)
  clear H
  go_enter Tryz.func83, Tryz.ntmps83
  go_wp2_with fail
  refine HH.out.mono ?_
  rintro e w1 ⟨v, u, rfl, ho, ho2, hb⟩
  have HB := Lib.hid (below_trans' (below_one w _) hb)
  have X1 := Lib.hid (X0.out.below hb X0.out.lt)
  have HO := Lib.hid (ho.mono (show w.heap.size + 1 ≤ _ by simp))
  have HO2 := Lib.hid (ho2.mono (show w.heap.size + 1 ≤ _ by simp))
  obtain ⟨va, vc, hv⟩ := ho.shape
  obtain ⟨ua, uc, hu⟩ := ho2.shape
  rw [List.length_map] at hv hu
  subst hv hu
  have HV : Hid (pval x y (.slice va x.log.length vc) (.slice ua y.log.length uc) = .agg #[.int .i64 x.gen, .int .i64 x.base, .int .i64 x.snap, .slice va x.log.length vc, .int .i64 y.gen, .int .i64 y.base, .int .i64 y.snap, .slice ua y.log.length uc]) := Lib.hid rfl
  rw [HV.out]
  clear ho ho2 hb
  have hlt := X1.out.lt
  have hne : w.heap.size ≠ w1.heap.size := by omega
  have Y1 := Lib.hid (Box8.new w1 (.int .i64 x.gen) (.int .i64 x.base) (.int .i64 x.snap) (.slice va x.log.length vc) (.int .i64 y.gen) (.int .i64 y.base) (.int .i64 y.snap) (.slice ua y.log.length uc))
  have X2 := Lib.hid (X1.out.alloc (.cells #[.int .i64 x.gen, .int .i64 x.base, .int .i64 x.snap, .slice va x.log.length vc, .int .i64 y.gen, .int .i64 y.base, .int .i64 y.snap, .slice ua y.log.length uc] 140))
  have HB2 := Lib.hid (HB.out.alloc HB.out.size (.cells #[.int .i64 x.gen, .int .i64 x.base, .int .i64 x.snap, .slice va x.log.length vc, .int .i64 y.gen, .int .i64 y.base, .int .i64 y.snap, .slice ua y.log.length uc] 140))
  have O0 := Lib.hid (HO.out.alloc (.cells #[.int .i64 x.gen, .int .i64 x.base, .int .i64 x.snap, .slice va x.log.length vc, .int .i64 y.gen, .int .i64 y.base, .int .i64 y.snap, .slice ua y.log.length uc] 140))
  have O1 := Lib.hid (HO2.out.alloc (.cells #[.int .i64 x.gen, .int .i64 x.base, .int .i64 x.snap, .slice va x.log.length vc, .int .i64 y.gen, .int .i64 y.base, .int .i64 y.snap, .slice ua y.log.length uc] 140))
  clear X0 X1 HB HO HO2 HH HV
  by_cases hg : x.gen < y.gen
  · have hc : cTape x.gen y.gen = 1 := if_pos hg
    have hh : cHead x y = y := if_pos hg
    rw [hc] at HC
    go_wp2_with fail
    refine (HC.out _ _ _ _ _ _ _).mono ?_
    rintro e w2 ⟨rfl, hb⟩
    have Y2 := Lib.hid (Y1.out.below hb Y1.out.lt)
    have X3 := Lib.hid (X2.out.below hb X2.out.lt)
    have HB3 := Lib.hid (below_trans' HB2.out hb)
    have O := Lib.hid (O1.out.belowAll hb)
    clear hb Y1 X2 HB2
    have q0 := Y2.out.c0; have q1 := Y2.out.c1; have q2 := Y2.out.c2; have q3 := Y2.out.c3
    have q4 := Y2.out.c4; have q5 := Y2.out.c5; have q6 := Y2.out.c6; have q7 := Y2.out.c7
    have r0 := X3.out.c0; have r1 := X3.out.c1; have r2 := X3.out.c2; have r3 := X3.out.c3
    have z0 := X3.out.free 0; have z1 := X3.out.free 1; have z2 := X3.out.free 2; have z3 := X3.out.free 3
    go_wp2
    exact ret4q Tryz.results83 w.heap.size rfl rfl rfl rfl rfl (X3.out.setAll _ _ _ _) (by rw [hc, hh]; exact ⟨_, rfl, (O.out.set4 (Nat.lt_succ_self _) _ _ _ _).mono (Nat.le_succ _), below_set4 HB3.out (Nat.le_refl _) _ _ _ _⟩)
  · have hc : cTape x.gen y.gen = 0 := if_neg hg
    have hh : cHead x y = x := if_neg hg
    rw [hc] at HC
    go_wp2_with fail
    refine (HC.out _ _ _ _ _ _ _).mono ?_
    rintro e w2 ⟨rfl, hb⟩
    have Y2 := Lib.hid (Y1.out.below hb Y1.out.lt)
    have X3 := Lib.hid (X2.out.below hb X2.out.lt)
    have HB3 := Lib.hid (below_trans' HB2.out hb)
    have O := Lib.hid (O0.out.belowAll hb)
    clear hb Y1 X2 HB2
    have q0 := Y2.out.c0; have q1 := Y2.out.c1; have q2 := Y2.out.c2; have q3 := Y2.out.c3
    have q4 := Y2.out.c4; have q5 := Y2.out.c5; have q6 := Y2.out.c6; have q7 := Y2.out.c7
    have r0 := X3.out.c0; have r1 := X3.out.c1; have r2 := X3.out.c2; have r3 := X3.out.c3
    have z0 := X3.out.free 0; have z1 := X3.out.free 1; have z2 := X3.out.free 2; have z3 := X3.out.free 3
    go_wp2
    exact ret4q Tryz.results83 w.heap.size rfl rfl rfl rfl rfl (X3.out.setAll _ _ _ _) (by rw [hc, hh]; exact ⟨_, rfl, (O.out.set4 (Nat.lt_succ_self _) _ _ _ _).mono (Nat.le_succ _), below_set4 HB3.out (Nat.le_refl _) _ _ _ _⟩)
/-- The head that counts on a disk, on which tape it stands, and whether there is one. -/
def ldH (d : Dk) : He := cHead (ofB (d.T 0).s).1 (ofB (d.T 1).s).1
def ldT (d : Dk) : Nat := cTape (ofB (d.T 0).s).1.gen (ofB (d.T 1).s).1.gen
def ldI (d : Dk) : Bool := cIs (ofB (d.T 0).s).1.gen (ofB (d.T 1).s).1.gen
/-- What Load tells of a disk. -/
def ldR (d : Dk) : He × Nat × Bool × Nat := if d.dn = true then (he0, 0, false, 45) else (ldH d, ldT d, ldI d, 0)
theorem load_any' (B : Nat) (d : Dk) (w : World) (h : DAt w B d) (hd : d.ok) (hT : Hid (Tab w)) : Calls Tryz.prog 83 #[.pointer (some ⟨B, 0, none⟩)] w (LdRet w (ldR d).1 ((ldR d).2.1 : Int) (ldR d).2.2.1 ((ldR d).2.2.2 : Int)) := by
  unfold ldR
  cases hdn : d.dn
  · rw [if_neg (by simp)]
    exact load_good _ _ _ w (fun W hW => heads_up B d W (h.below hW h.lt) hdn (hd.t 0 (by decide)).2 (hd.t 1 (by decide)).2 (Lib.hid (hT.out.below hW)))
  · rw [if_pos rfl]
    exact load_fail _ 45 (by decide) w (fun W hW => heads_dn B d W (h.below hW h.lt) hdn)
end Go.Proofs.YtieemdcoomilaaaGreatDoor
namespace Go.Proofs.YtieemdcoomilaaaGreatDoor
open Go Go.RowKit
set_option maxRecDepth 100000
def nxT (b : Bool) (t r : Nat) : Nat := if r ≠ 0 then 0 else if b = true then 1 - t else 0
set_option maxHeartbeats 1000000 in
theorem next_of (p : Value) (h : He) (t : Nat) (b : Bool) (r : Nat) (w : World) (ht : t ≤ 1) (H : Calls Tryz.prog 83 #[p] w (LdRet w h (t : Int) b (r : Int))) : Calls Tryz.prog 121 #[p] w (Ret w (.tuple #[.int .i64 (nxT b t r : Int), .int .i64 (r : Int)])) := by
  have HH := Lib.hid H
  clear H
  unfold nxT
  by_cases hr : r ≠ 0
  · rw [if_pos hr]
    have hr2 := ne0 hr
    go_enter Tryz.func121, Tryz.ntmps121
    go_wp2_with fail
    refine HH.out.mono ?_
    rintro e w1 ⟨v, rfl, ho, hb⟩
    obtain ⟨va, vc, hv⟩ := ho.shape
    rw [List.length_map] at hv
    subst hv
    have HB := Lib.hid hb
    have HV : Hid (hval h (.slice va h.log.length vc) = .agg #[.int .i64 h.gen, .int .i64 h.base, .int .i64 h.snap, .slice va h.log.length vc]) := Lib.hid rfl
    rw [HV.out]
    clear ho hb
    go_wp2
    go_ret2
    exact ⟨rfl, HB.out.alloc HB.out.size _⟩
  · rw [if_neg hr]
    obtain rfl : r = 0 := by omega
    cases b
    · rw [if_neg (by simp)]
      go_enter Tryz.func121, Tryz.ntmps121
      go_wp2_with fail
      refine HH.out.mono ?_
      rintro e w1 ⟨v, rfl, ho, hb⟩
      obtain ⟨va, vc, hv⟩ := ho.shape
      rw [List.length_map] at hv
      subst hv
      have HB := Lib.hid hb
      have HV : Hid (hval h (.slice va h.log.length vc) = .agg #[.int .i64 h.gen, .int .i64 h.base, .int .i64 h.snap, .slice va h.log.length vc]) := Lib.hid rfl
      rw [HV.out]
      clear ho hb
      go_wp2
      go_ret2
      exact ⟨rfl, HB.out.alloc HB.out.size _⟩
    · rw [if_pos rfl]
      have h1 : ((1 - t : Nat) : Int) = 1 - (t : Int) := by omega
      rw [h1]
      go_enter Tryz.func121, Tryz.ntmps121
      go_wp2_with fail
      refine HH.out.mono ?_
      rintro e w1 ⟨v, rfl, ho, hb⟩
      obtain ⟨va, vc, hv⟩ := ho.shape
      rw [List.length_map] at hv
      subst hv
      have HB := Lib.hid hb
      have HV : Hid (hval h (.slice va h.log.length vc) = .agg #[.int .i64 h.gen, .int .i64 h.base, .int .i64 h.snap, .slice va h.log.length vc]) := Lib.hid rfl
      rw [HV.out]
      clear ho hb
      go_wp2
      go_ret2
      exact ⟨rfl, HB.out.alloc HB.out.size _⟩
/-- On which tape a head is written. -/
def ptT (d : Dk) : Nat := nxT (ldR d).2.2.1 (ldR d).2.1 (ldR d).2.2.2
theorem cTape_le (a b : Int) : cTape a b ≤ 1 := by unfold cTape; split <;> omega
theorem ldT_le (d : Dk) : (ldR d).2.1 ≤ 1 := by
  unfold ldR
  split
  · exact Nat.zero_le _
  · exact cTape_le _ _
theorem ptT_le (d : Dk) : ptT d ≤ 1 := by unfold ptT nxT; split; omega; split <;> omega
theorem next_any (B : Nat) (d : Dk) (w : World) (h : DAt w B d) (hd : d.ok) (hT : Hid (Tab w)) : Calls Tryz.prog 121 #[.pointer (some ⟨B, 0, none⟩)] w (Ret w (.tuple #[.int .i64 (ptT d : Int), .int .i64 ((ldR d).2.2.2 : Int)])) :=
  next_of _ _ _ _ _ w (ldT_le d) (load_any' B d w h hd hT)
/-- A block of one cell. -/
theorem one_cell {W : World} {B : Nat} {t : TypeId} {x : Value} (h : W.heap[B]? = some (.cells #[x] t (0, 0))) : W.cell? ⟨B, 0, none⟩ = some x := cell_of_one h
/-- What the three closures keep: the disk, the tape, the frame. -/
structure Kp (W : World) (b1 b2 b3 B : Nat) (t : Nat) (s : ByteArray) : Prop where
  c1 : W.cell? ⟨b1, 0, none⟩ = some (.pointer (some ⟨B, 0, none⟩))
  c2 : W.cell? ⟨b2, 0, none⟩ = some (.int .i64 (t : Int))
  c3 : W.cell? ⟨b3, 0, none⟩ = some (.string s)
theorem Kp.grown {W W' : World} {b1 b2 b3 B t : Nat} {s : ByteArray} (h : Kp W b1 b2 b3 B t s) {r : Option Nat} (hg : W.grownBy W' r) (h1 : some b1 ≠ r) (h2 : some b2 ≠ r) (h3 : some b3 ≠ r) : Kp W' b1 b2 b3 B t s :=
  ⟨(World.cell?_of_block (a := ⟨b1, 0, none⟩) (hg.block _ (World.block_lt_of_cell? W _ h.c1) h1)).trans h.c1, (World.cell?_of_block (a := ⟨b2, 0, none⟩) (hg.block _ (World.block_lt_of_cell? W _ h.c2) h2)).trans h.c2, (World.cell?_of_block (a := ⟨b3, 0, none⟩) (hg.block _ (World.block_lt_of_cell? W _ h.c3) h3)).trans h.c3⟩
theorem enters43' (args : Array Value) (W : World) : (callFunc 123 args).run Tryz.prog W = .ok (.enter 123 args) W := by kernel_rfl
theorem enters45' (args : Array Value) (W : World) : (callFunc 124 args).run Tryz.prog W = .ok (.enter 124 args) W := by kernel_rfl
theorem enters47' (args : Array Value) (W : World) : (callFunc 125 args).run Tryz.prog W = .ok (.enter 125 args) W := by kernel_rfl
set_option maxHeartbeats 400000 in
theorem put1_any (b1 b2 b3 B : Nat) (d : Dk) (t : Nat) (s : ByteArray) (w : World) (hk : Kp w b1 b2 b3 B t s) (h : DAt w B d) (hd : d.ok) : Calls Tryz.prog 123 #[.pointer (some ⟨b1, 0, none⟩), .pointer (some ⟨b2, 0, none⟩)] w (DRet w B (.int .i64 ((doD d t false wi).2 : Int)) (doD d t false wi).1) := by
  have H := Lib.hid (wipe_any B d t w h hd)
  have c1 := hk.c1
  have c2 := hk.c2
  generalize doD d t false wi = X at *
  clear h hk
  go_enter Tryz.func123, Tryz.ntmps123
  go_wp2_with fail
  refine H.out.mono ?_
  rintro e w' ⟨rfl, hd2, hg⟩
  go_wp2
  go_ret
  exact ⟨rfl, hd2, hg⟩
set_option maxHeartbeats 400000 in
theorem put2_any (b1 b2 b3 B : Nat) (d : Dk) (t : Nat) (s : ByteArray) (w : World) (hk : Kp w b1 b2 b3 B t s) (h : DAt w B d) (hd : d.ok) (hs : s.size ≤ 9223372036854775807) : Calls Tryz.prog 124 #[.pointer (some ⟨b1, 0, none⟩), .pointer (some ⟨b2, 0, none⟩), .pointer (some ⟨b3, 0, none⟩)] w (DRet w B (.int .i64 ((doD d t true (wf d s)).2 : Int)) (doD d t true (wf d s)).1) := by
  have H := Lib.hid (write_any B d t s w h hd hs)
  have c1 := hk.c1
  have c2 := hk.c2
  have c3 := hk.c3
  generalize doD d t true (wf d s) = X at *
  clear h hk
  go_enter Tryz.func124, Tryz.ntmps124
  go_wp2_with fail
  refine H.out.mono ?_
  rintro e w' ⟨rfl, hd2, hg⟩
  go_wp2
  go_ret
  exact ⟨rfl, hd2, hg⟩
set_option maxHeartbeats 400000 in
theorem put3_any (b1 b2 b3 B : Nat) (d : Dk) (t : Nat) (s : ByteArray) (w : World) (hk : Kp w b1 b2 b3 B t s) (h : DAt w B d) (hd : d.ok) : Calls Tryz.prog 125 #[.pointer (some ⟨b1, 0, none⟩), .pointer (some ⟨b2, 0, none⟩)] w (DRet w B (.int .i64 ((doD d t false sy).2 : Int)) (doD d t false sy).1) := by
  have H := Lib.hid (sync_any B d t w h hd)
  have c1 := hk.c1
  have c2 := hk.c2
  generalize doD d t false sy = X at *
  clear h hk
  go_enter Tryz.func125, Tryz.ntmps125
  go_wp2_with fail
  refine H.out.mono ?_
  rintro e w' ⟨rfl, hd2, hg⟩
  go_wp2
  go_ret
  exact ⟨rfl, hd2, hg⟩
end Go.Proofs.YtieemdcoomilaaaGreatDoor
