/- The iterator of the frames that stand one behind the other. -/
import Derived.Test.YtieemdcoomilaaaGreatDoorSo
import Derived.RangeFuncBound
import Derived.RangeFuncLeaves
import Derived.RangeFuncBox
import Derived.Shelf.Abstract
import Derived.Shelf.RegionOpen
import Derived.OwnWalkIn
import Derived.TacticsInMore
import Derived.LoopNIn
import Derived.LoopIn
import Derived.Maps.OwnIn
set_option linter.unusedVariables false
set_option linter.unusedSimpArgs false
namespace Go.Proofs.YtieemdcoomilaaaGreatDoor
open Go Go.RowKit Go.Shelf
attribute [local go_sem] Oper.semAt_some
set_option maxRecDepth 100000
/-- What Read tells at a place, in numbers. -/
structure RdW (s : ByteArray) (c : Nat) (k : Int) (p : ByteArray) (z x : Int) (e : Nat) : Prop where
  er : Fr.er (bh s c) = e
  ok : e = 0 → k = ((Fr.kd (bh s c)).toNat : Int) ∧ p = bs (Fr.pl (bh s c)) ∧ z = (c : Int) ∧ x = ((c + 9 + Fr.ln (bh s c) : Nat) : Int)
theorem read_all (s : ByteArray) (c : Nat) (hc : c ≤ s.size) (hs : s.size ≤ 140737488351232) : ∃ k p z x e, RdW s c k p z x e ∧
    ∀ w, Tab w → Calls Tryz.prog 111 #[.string s, .int .i64 (c : Int)] w (Ret w (.tuple #[fv k p z, .int .i64 x, .int .i64 (e : Int)])) := by
  by_cases h : Fr.er (bh s c) = 0
  · exact ⟨_, _, _, _, 0, ⟨h, fun _ => ⟨rfl, rfl, rfl, rfl⟩⟩, fun w hT => read_ok s c (Fr.er_good.1 h) w hs (Lib.hid hT)⟩
  · exact ⟨0, ⟨#[]⟩, 0, 0, _, ⟨rfl, fun e => absurd e h⟩, fun w hT => read_bad s c _ (er1_at s c hc) h w hs (Lib.hid hT)⟩
def scl (s : ByteArray) (c : Nat) : List Fr.Fm := (Fr.scn (bh s c) c).1
theorem scl_bad (s : ByteArray) (c : Nat) (h : Fr.er (bh s c) ≠ 0) : scl s c = [] := by unfold scl; rw [Fr.scn_bad _ h]
theorem scl_good (s : ByteArray) (c : Nat) (h : Fr.er (bh s c) = 0) : scl s c = ⟨Fr.kd (bh s c), Fr.pl (bh s c), c⟩ :: scl s (c + 9 + Fr.ln (bh s c)) := by
  unfold scl
  rw [Fr.scn_good c h, List.drop_drop, ← Nat.add_assoc]
/-- What is told of a frame: it, and the place behind it. -/
def enF (x : Fr.Fm) (us : Array Value) (_ : World) : Prop := us = #[fv (x.k.toNat : Int) (bs x.p) (x.a : Int), .int .i64 ((x.a + 9 + x.p.length : Nat) : Int)]
def Box3 (W : World) (B : Nat) (t : TypeId) (x y z : Value) : Prop := W.heap[B]? = some (.cells #[x, y, z] t (0, 0))
section
variable {W W' : World} {B m : Nat} {t : TypeId} {x y z : Value}
theorem Box3.lt (h : Box3 W B t x y z) : B < W.heap.size := (Array.getElem?_eq_some_iff.1 h).1
theorem Box3.c0 (h : Box3 W B t x y z) : W.cell? ⟨B, 0, none⟩ = some x := by simp [World.cell?, show W.heap[B]? = _ from h]
theorem Box3.c1 (h : Box3 W B t x y z) : W.cell? ⟨B, 1, none⟩ = some y := by simp [World.cell?, show W.heap[B]? = _ from h]
theorem Box3.c2 (h : Box3 W B t x y z) : W.cell? ⟨B, 2, none⟩ = some z := by simp [World.cell?, show W.heap[B]? = _ from h]
theorem Box3.free (h : Box3 W B t x y z) (j : Nat) : W.frozen? ⟨B, j, none⟩ = false := by simp [World.frozen?, show W.heap[B]? = _ from h]
theorem Box3.new (W : World) (t : TypeId) (x y z : Value) : Box3 (W.alloc (.cells #[x, y, z] t)) W.heap.size t x y z := heap_alloc_new W _
theorem Box3.set (h : Box3 W B t x y z) (x' y' z' : Value) : Box3 (((W.setCell ⟨B, 0, none⟩ x').setCell ⟨B, 1, none⟩ y').setCell ⟨B, 2, none⟩ z') B t x' y' z' := set3 x' y' z' h
theorem Box3.kept {row : Option Nat} (h : Box3 W B t x y z) (hg : W.grownBy W' row) (hne : some B ≠ row) : Box3 W' B t x y z := (hg.block B h.lt hne).trans h
end
theorem grown_set3 (W : World) (B : Nat) (x y z : Value) : W.grownBy (((W.setCell ⟨B, 0, none⟩ x).setCell ⟨B, 1, none⟩ y).setCell ⟨B, 2, none⟩ z) (some B) := by
  refine ⟨rfl, rfl, rfl, by simp, fun i hi hne => ?_⟩
  have hne' : i ≠ B := fun e => hne (by rw [e])
  rw [Below.heap_setCell _ _ _ _ (by simpa using hne'), Below.heap_setCell _ _ _ _ (by simpa using hne'), Below.heap_setCell _ _ _ _ (by simpa using hne')]
theorem Tab.kept {F : Bks} {A A' : World} (h : Tab A) (hk : Kept F A A') (hF : F 0) : Tab A' :=
  ⟨Nat.lt_of_lt_of_le h.1 hk.size, fun i hi => (World.cell?_of_block (a := ⟨0, i, none⟩) (hk.same 0 hF h.1)).trans (h.2 i hi)⟩
def msr (N : Nat) (x e : Int) : Nat := if e = 0 then N + 1 - x.toNat else 0
/-- What holds between the rounds. -/
structure LI (s : ByteArray) (W : World) (bx Bf : Nat) (F0 : Bks) (J : List Fr.Fm → Bks → World → Prop) (c : Nat) (k : Int) (p : ByteArray) (z : Int) (F : Bks) (wr : World) : Prop where
  cle : c ≤ s.size
  tab : Tab wr
  box : Boxed wr bx 9 (.string s)
  f0 : F 0
  fx : F bx
  fB : F Bf
  hj : J (scl s c) F wr
  le : W.heap.size ≤ Bf
  xl : bx < W.heap.size
  bf : Box3 wr Bf 145 (.int .u8 k) (.string p) (.int .i64 z)
theorem LI.bel {s : ByteArray} {W : World} {bx Bf : Nat} {F0 : Bks} {J : List Fr.Fm → Bks → World → Prop} {c : Nat} {k : Int} {p : ByteArray} {z : Int} {F : Bks} {A A' : World} (h : LI s W bx Bf F0 J c k p z F A) (hJ : AbJ W.heap.size J) (hb : Below A.heap.size A A') : LI s W bx Bf F0 J c k p z F A' :=
  ⟨h.cle, h.tab.below hb, h.box.kept (grown_of_below hb) (by simp), h.f0, h.fx, h.fB, hJ _ _ _ _ _ none h.hj (grown_of_below hb) (fun r e => by cases e) (fun j hj => .inl hj), h.le, h.xl, h.bf.kept (grown_of_below hb) (by simp)⟩
theorem LI.sets {s : ByteArray} {W : World} {bx Bf : Nat} {F0 : Bks} {J : List Fr.Fm → Bks → World → Prop} {c : Nat} {k : Int} {p : ByteArray} {z : Int} {F : Bks} {A : World} (h : LI s W bx Bf F0 J c k p z F A) (hJ : AbJ W.heap.size J) (k' : Int) (p' : ByteArray) (z' : Int) :
    LI s W bx Bf F0 J c k' p' z' F (((A.setCell ⟨Bf, 0, none⟩ (.int .u8 k')).setCell ⟨Bf, 1, none⟩ (.string p')).setCell ⟨Bf, 2, none⟩ (.int .i64 z')) := by
  have hg := grown_set3 A Bf (.int .u8 k') (.string p') (.int .i64 z')
  have h1 := h.le
  have h2 := h.xl
  have hB0 : Bf ≠ 0 := by omega
  refine ⟨h.cle, ⟨Nat.lt_of_lt_of_le h.tab.1 hg.size, fun i hi => (World.cell?_of_block (a := ⟨0, i, none⟩) (hg.block 0 h.tab.1 (fun e => hB0 (Option.some.inj e).symm))).trans (h.tab.2 i hi)⟩, h.box.kept hg (fun e => by have := Option.some.inj e; omega), h.f0, h.fx, h.fB,
    hJ _ _ _ _ _ _ h.hj hg (fun r e => by cases e; exact ⟨h.le, h.fB⟩) (fun j hj => .inl hj), h.le, h.xl, h.bf.set _ _ _⟩
set_option maxHeartbeats 2000000 in
theorem row_gives (n : Nat) (_hn : 1 ≤ n) (s : ByteArray) (hs : s.size ≤ 1048576) (a : Nat) (ha : a ≤ s.size) (W : World) (hT : Tab W) (bx ba : Nat) (hbx : Boxed W bx 9 (.string s)) (hba : Boxed W ba 3 (.int .i64 (a : Int))) (F0 : Bks) (f0 : F0 0) (fx : F0 bx) :
    Gives n Tryz.prog 152 #[.pointer (some ⟨bx, 0, none⟩), .pointer (some ⟨ba, 0, none⟩)] enF (scl s a) F0 W := by
  intro l J Jx hJ hJx hY h0
  have HJ := Lib.hid hJ
  have HJx := Lib.hid hJx
  have HY := Lib.hid hY
  have H0 := Lib.hid h0
  have cx := hbx.cell
  have ca := hba.cell
  have HBX := Lib.hid hbx
  have HT := Lib.hid hT
  obtain ⟨k, p, z, x, e, hr, hR⟩ := read_all s a ha (by omega)
  have HRW := Lib.hid hr
  have HRC := Lib.hid (hR W hT)
  clear hJ hJx hY h0 hbx hba hT hr hR
  refine callsIn_of_wp Tryz.func152 rfl trivial ?_ rfl
  simp only [Tryz.ntmps152, List.size_toArray, List.length_cons, List.length_nil, Nat.reduceAdd, Nat.reduceSub, Array.replicate_succ, Array.replicate_zero, List.push_toArray, List.append_toArray, List.nil_append, List.cons_append]
  gi_wp2_with fail
  refine ⟨trivial, (callsIn_wide.2 HRC.out).mono ?_⟩
  rintro e' w1 ⟨rfl, hb1⟩
  have hb2 : Below W.heap.size W (w1.alloc (.cells #[.int .u8 k, .string p, .int .i64 z] 145)) := hb1.alloc hb1.size _
  have HL : Hid (LI s W bx w1.heap.size F0 J a k p z (fun j => F0 j ∨ j = w1.heap.size) (w1.alloc (.cells #[.int .u8 k, .string p, .int .i64 z] 145))) :=
    Lib.hid ⟨ha, HT.out.below hb2, HBX.out.kept (grown_of_below hb2) (by simp), .inl f0, .inl fx, .inr rfl,
      HJ.out _ _ _ _ _ none H0.out (grown_of_below hb2) (fun r e => by cases e) (fun j hj => hj.imp id (fun e => ⟨by have := hb1.size; omega, by rw [World.size_alloc]; omega⟩)), hb1.size, HBX.out.lt, Box3.new _ _ _ _ _⟩
  clear hb1 hb2
  generalize hBf : w1.heap.size = Bf at *
  gi_wp2_with fail
  gi_loopw [5, 6] (fun xs es wr => ∃ (c : Nat) (k : Int) (p : ByteArray) (z x : Int) (e : Nat) (F : Bks), xs = .int .i64 x ∧ es = .int .i64 (e : Int) ∧ Hid (RdW s c k p z x e) ∧ Hid (LI s W bx Bf F0 J c k p z F wr)) (fun xs es _ => msr s.size (intOf xs) (intOf es))
  case atStart => exact ⟨a, k, p, z, x, e, _, rfl, rfl, HRW, HL⟩
  case round =>
    clear HL HRW HRC HBX HT H0
    obtain ⟨c, k, p, z, x, e, F, rfl, rfl, HRW, HL⟩ := hrel
    by_cases he : e = 0
    · subst he
      obtain ⟨r1, r2, r3, r4⟩ := HRW.out.ok rfl
      have hg := Fr.er_good.1 HRW.out.er
      have hw := hg.whole
      rw [bh_length] at hw
      have hpl := Fr.pl_length hg
      have hsc := scl_good s c HRW.out.er
      have hj := HL.out.hj
      rw [hsc] at hj
      have hen : enF ⟨Fr.kd (bh s c), Fr.pl (bh s c), c⟩ #[fv k p z, .int .i64 x] wr := by
        unfold enF
        dsimp only
        rw [hpl, r1, r2, r3, r4]
      obtain ⟨fn, tmps, assign, body, hy, hR⟩ := HY.out _ _ _ _ wr hj hen (Nat.le_of_lt (Nat.lt_of_le_of_lt HL.out.le HL.out.bf.lt))
      have HYR := Lib.hid hR
      obtain ⟨X, hX⟩ : ∃ X : Nat, c + 9 + Fr.ln (bh s c) = X := ⟨_, rfl⟩
      rw [hX] at r4
      have hXs : X ≤ s.size := by omega
      obtain ⟨k', p', z', x', e', hr', hR'⟩ := read_all s X hXs (by omega)
      have HRW' := Lib.hid hr'
      have HRC' := Lib.hid hR'
      have b0 := HL.out.bf.c0
      have b1 := HL.out.bf.c1
      have b2 := HL.out.bf.c2
      have hXc : c + 9 ≤ X := by omega
      rw [hX] at HYR
      have HNX := Lib.hid (show c < X by omega)
      subst r4
      clear hR hr' hR' hj hen hsc hpl hw hg r1 r2 r3 hX
      have hz0 : ((0 : Nat) : Int) = 0 := rfl
      gi_wp2
      refine HYR.out.mono ?_
      rintro e W3 (⟨rfl, hJ3, hk3⟩ | ⟨rfl, hJx3, hs3⟩)
      · have HL3 : Hid (LI s W bx Bf F0 J X k p z F W3) := Lib.hid
          ⟨hXs, HL.out.tab.kept hk3 HL.out.f0, (hk3.same _ HL.out.fx HL.out.box.lt).trans HL.out.box, HL.out.f0, HL.out.fx, HL.out.fB, hJ3, HL.out.le, HL.out.xl, (hk3.same _ HL.out.fB HL.out.bf.lt).trans HL.out.bf⟩
        have cx3 := HL3.out.box.cell
        have HC3 := Lib.hid (HRC'.out W3 HL3.out.tab)
        clear hJ3 hk3 b0 b1 b2 HRC'
        gi_wp2_with fail
        refine ⟨trivial, (callsIn_wide.2 HC3.out).mono ?_⟩
        rintro e w4 ⟨rfl, hb4⟩
        have HL4 := Lib.hid (HL3.out.bel HJ.out hb4)
        have c0 := HL4.out.bf.c0
        have c1 := HL4.out.bf.c1
        have c2 := HL4.out.bf.c2
        have f0' := HL4.out.bf.free 0
        have f1' := HL4.out.bf.free 1
        have f2' := HL4.out.bf.free 2
        have HL5 := Lib.hid (HL4.out.sets HJ.out k' p' z')
        clear hb4 cx3 HC3
        gi_wp2
        go_roundw
        case rel => exact ⟨X, k', p', z', x', e', F, rfl, rfl, HRW', HL5⟩
        case measure =>
          show msr s.size x' (e' : Int) < msr s.size (X : Int) ((0 : Nat) : Int)
          have h0 : msr s.size (X : Int) ((0 : Nat) : Int) = s.size + 1 - X := by unfold msr; rw [if_pos (show ((0 : Nat) : Int) = 0 from rfl)]; rfl
          rw [h0]
          by_cases he' : e' = 0
          · obtain ⟨-, -, -, q4⟩ := HRW'.out.ok he'
            have hw' := (Fr.er_good.1 (HRW'.out.er.trans he')).whole
            rw [bh_length] at hw'
            subst he'
            have h1 : msr s.size x' ((0 : Nat) : Int) = s.size + 1 - (X + 9 + Fr.ln (bh s X)) := by unfold msr; rw [if_pos (show ((0 : Nat) : Int) = 0 from rfl), q4]; rfl
            rw [h1]
            omega
          · have h1 : msr s.size x' (e' : Int) = 0 := by unfold msr; rw [if_neg (by omega)]
            rw [h1]
            omega
      · have HJ3 := Lib.hid hJx3
        clear hJx3
        gi_wp2
        go_end0
        exact ⟨⟨_, rfl⟩, .inr HJ3.out⟩
    · have hb : ((e : Int) == 0) = false := by rw [beq_eq_false_iff_ne]; omega
      have hj := HL.out.hj
      rw [scl_bad s c (by rw [HRW.out.er]; exact he)] at hj
      have HJE := Lib.hid hj
      clear hj he
      gi_wp2
      refine ⟨fun _ h => (by cases h), ?_⟩
      gi_wp2
      go_end0
      exact ⟨⟨_, rfl⟩, .inl ⟨F, HJE.out⟩⟩
end Go.Proofs.YtieemdcoomilaaaGreatDoor
namespace Go.Proofs.YtieemdcoomilaaaGreatDoor
open Go Go.RowKit Go.Shelf
attribute [local go_sem] Oper.semAt_some
set_option maxRecDepth 100000
theorem row_any (s : ByteArray) (a : Int) (w : World) :
    Calls Tryz.prog 133 #[.string s, .int .i64 a] w fun e w' => e = .returned (.func (.func 152) #[] #[.pointer (some ⟨w.heap.size, 0, none⟩), .pointer (some ⟨w.heap.size + 1, 0, none⟩)]) ∧ w' = (w.alloc (.cells #[.string s] 9)).alloc (.cells #[.int .i64 a] 3) := by
  go_enter Tryz.func133, Tryz.ntmps133
  go_wp2
  go_ret
  exact ⟨rfl, rfl⟩
theorem fplace_ok (s : ByteArray) (a : Nat) (h : a ≤ s.size) (w : World) : Calls Tryz.prog 130 #[.string s, .int .i64 (a : Int)] w fun e w' => e = .returned (.bool true) ∧ w = w' := by
  have := fplace_any s (a : Int) w
  rw [decide_eq_true (by omega)] at this; exact this
theorem fplace_no (s : ByteArray) (a : Int) (h : a < 0 ∨ (s.size : Int) < a) (w : World) : Calls Tryz.prog 130 #[.string s, .int .i64 a] w fun e w' => e = .returned (.bool false) ∧ w = w' := by
  have := fplace_any s a w
  rw [decide_eq_false (by omega)] at this; exact this
/-- What holds between the rounds. -/
structure SJ' (s : ByteArray) (a : Nat) (w : World) (rest : List Fr.Fm) (F : Bks) (W : World) (v : Value) (acc : List Fq) (c : Nat) : Prop where
  b0 : Boxed W w.heap.size 148 v
  b1 : Boxed W (w.heap.size + 1) 3 (.int .i64 (c : Int))
  own : O3 145 W (w.heap.size + 6) v acc
  run : acc ++ rest.map qf = scq s a
  here : rest = scl s c
  goal : sce s c = sce s a
  bel : Below w.heap.size w W
  fb : ∀ j, F j → j < W.heap.size ∧ (j < w.heap.size ∨ w.heap.size + 2 ≤ j) ∧ v.ownBlock ≠ some j
def SJ (s : ByteArray) (a : Nat) (w : World) (rest : List Fr.Fm) (F : Bks) (W : World) : Prop := ∃ v acc c, SJ' s a w rest F W v acc c
theorem SJ.ab (s : ByteArray) (a : Nat) (w : World) : AbI (w.heap.size + 4) (SJ s a w) := by
  rintro r F F' A A' row ⟨v, acc, c, h⟩ hg hr hF
  have ne : ∀ j, j < w.heap.size + 4 → some j ≠ row := fun j hj e => by have := hr j e.symm; omega
  refine ⟨v, acc, c, h.b0.kept hg (ne _ (by omega)), h.b1.kept hg (ne _ (by omega)), h.own.kept hg ?_, h.run, h.here, h.goal, h.bel.grown hg h.bel.size (fun k e => by have := hr k e; omega), fun j hj => ?_⟩
  · cases hv : v.ownBlock with
    | none => exact .inl rfl
    | some g =>
      refine .inr fun e => ?_
      have h1 := (h.own.lt g hv).1
      rcases hr g e.symm with h2 | h2 | ⟨-, h2⟩
      · omega
      · omega
      · exact (h.fb g h2).2.2 hv
  · rcases hF j hj with hj | ⟨hj, hj2⟩
    · obtain ⟨k1, k2, k3⟩ := h.fb j hj
      exact ⟨Nat.lt_of_lt_of_le k1 hg.size, k2, k3⟩
    · exact ⟨hj2, .inr (by have := h.bel.size; have := h.b1.lt; omega), fun e => by have := (h.own.lt j e).2; omega⟩
/-- A round's box, and that the row doesn't lie there. -/
structure BPs (w : World) (x : Fr.Fm) (Bx : Nat) (y : Int) (W : World) : Prop where
  hy : ((x.a + 9 + x.p.length : Nat) : Int) = y
  box : Box3 W Bx 145 (.int .u8 (x.k.toNat : Int)) (.string (bs x.p)) (.int .i64 (x.a : Int))
  ge : w.heap.size + 6 ≤ Bx
theorem BPs.ab (w : World) (x : Fr.Fm) (Bx : Nat) (y : Int) : AbW (w.heap.size + 4) (BPs w x Bx y) := by
  rintro A A' row ⟨h0, h1, h2⟩ hg hr
  exact ⟨h0, h1.kept hg (fun e => by have := hr _ e.symm; omega), h2⟩
theorem agg35 (w : World) : (isAgg 148).run Tryz.prog w = .ok false w := by
  first | exact Tryz.isAgg148 w | exact Tryz.isAgg148 | (simp [go_sem, Tryz.underlying148]) | kernel_rfl
theorem results_cc {fn : Func} {W : World} {p q : Tmp} (hf : fn.results = #[.cell p 148, .cell q 3]) (g h : Nat) (x : Value) (y : Int) (hx : W.cell? ⟨g, 0, none⟩ = some x) (hy : W.cell? ⟨h, 0, none⟩ = some (.int .i64 y)) (tmps : Array Value)
    (h4 : tmps.getD p undef = .pointer (some ⟨g, 0, none⟩)) (h5 : tmps.getD q undef = .pointer (some ⟨h, 0, none⟩)) : (results fn tmps).run Tryz.prog W = .ok (.tuple #[x, .int .i64 y]) W := by
  have h4' : tmps[p]?.getD undef = .pointer (some ⟨g, 0, none⟩) := by simpa using h4
  have h5' : tmps[q]?.getD undef = .pointer (some ⟨h, 0, none⟩) := by simpa using h5
  simp [results, hf, go_sem, h4', h5', hx, hy, agg35]
theorem scan_arg (s : ByteArray) (at' : Int) (w : World) (h : at' < 0 ∨ (s.size : Int) < at') : Calls Tryz.prog 112 #[.string s, .int .i64 at'] w (Scans 145 w [] 0) := by
  have HP := Lib.hid (fun W => fplace_no s at' h W)
  clear h
  refine (callsIn_wide (n := 5)).1 ?_
  refine callsIn_of_wp_marks Tryz.func112 rfl trivial ?_ rfl
  simp only [Tryz.ntmps112, List.size_toArray, List.length_cons, List.length_nil, Nat.reduceAdd, Nat.reduceSub, Array.replicate_succ, Array.replicate_zero, List.push_toArray, List.append_toArray, List.nil_append, List.cons_append]
  gi_wp2_with fail
  refine ⟨trivial, (callsIn_wide.2 (HP.out _)).mono ?_⟩
  rintro e w' ⟨rfl, rfl⟩
  gi_wp2
  have h0 : Boxed ((w.alloc (.cells #[.slice none 0 0] 148)).alloc (.cells #[.int .i64 0] 3)) w.heap.size 148 (.slice none 0 0) := (Boxed.new w 148 _).alloc _
  have h1 : Boxed ((w.alloc (.cells #[.slice none 0 0] 148)).alloc (.cells #[.int .i64 0] 3)) (w.heap.size + 1) 3 (.int .i64 0) := by
    have := Boxed.new (w.alloc (.cells #[.slice none 0 0] 148)) 3 (.int .i64 0)
    rw [World.size_alloc] at this; exact this
  exact ⟨_, results_cc Tryz.results112 w.heap.size (w.heap.size + 1) _ _ h0.cell h1.cell _ rfl rfl, _, rfl, O3.nil _ _ _, ((Below.refl _ _).alloc (Nat.le_refl _) _).alloc (by simp) _⟩
theorem fin_scan {s : ByteArray} {a : Nat} {w W : World} {n D : Nat} {F : Bks} {t : Act} {v : Value} {acc : List Fq} {c : Nat} (h : SJ' s a w [] F W v acc c) (hD : W.heap[D]? = some (.deferred (some []))) (hDw : D = w.heap.size + 4)
    (ha4 : t.tmps.getD 4 undef = .pointer (some ⟨w.heap.size, 0, none⟩)) (ha5 : t.tmps.getD 5 undef = .pointer (some ⟨w.heap.size + 1, 0, none⟩)) (hd : t.defers = [{ target := .collected D, args := #[] }]) {W2 : World}
    (h2 : W2 = (W.drew.setCell ⟨w.heap.size, 0, none⟩ v).setCell ⟨w.heap.size + 1, 0, none⟩ (.int .i64 (c : Int))) :
    bodyPostM Fence.wide n Tryz.prog Tryz.f112 (Scans 145 w (scq s a) (sce s a)) .ret t W2 := by
  subst h2
  have g0 : W.grownBy W.drew none := grown_of_below (Below.drew (Below.refl _ _))
  have g1 := grownBy_setCell' W.drew w.heap.size v
  have g2 := grownBy_setCell' (W.drew.setCell ⟨w.heap.size, 0, none⟩ v) (w.heap.size + 1) (.int .i64 (c : Int))
  have hD0 : W.drew.heap[D]? = some (.deferred (some [])) := hD
  have hlt := (Array.getElem?_eq_some_iff.1 hD0).1
  have hD1 := (g1.block D hlt (fun e => by have := Option.some.inj e; omega)).trans hD0
  have hD2 := (g2.block D (Array.getElem?_eq_some_iff.1 hD1).1 (fun e => by have := Option.some.inj e; omega)).trans hD1
  have b0 := ((h.b0.kept g0 (by simp)).set v).kept g2 (fun e => by have := Option.some.inj e; omega)
  have b1 := ((h.b1.kept g0 (by simp)).kept g1 (fun e => by have := Option.some.inj e; omega)).set (.int .i64 (c : Int))
  have hb0 : Below w.heap.size w W.drew := Below.drew h.bel
  have hb2 := (hb0.grown g1 hb0.size (fun k e => by cases e; omega)).grown g2 (Nat.le_trans hb0.size g1.size) (fun k e => by cases e; omega)
  have hg := grownBy_putObj' ((W.drew.setCell ⟨w.heap.size, 0, none⟩ v).setCell ⟨w.heap.size + 1, 0, none⟩ (.int .i64 (c : Int))) D (.deferred none)
  have nv : ∀ j, j < w.heap.size + 6 → v.ownBlock = none ∨ v.ownBlock ≠ some j := fun j hj => .inr (fun e => by have := (h.own.lt _ e).1; omega)
  have ho2 : O3 145 _ (w.heap.size + 6) v acc := (((h.own.kept g0 (by cases v.ownBlock <;> simp)).kept g1 (nv _ (by omega))).kept g2 (nv _ (by omega))).kept hg (nv _ (by omega))
  have hrun := h.run
  rw [List.map_nil, List.append_nil] at hrun
  have hend : sce s c = c := (scq_bad s c (fun e => by have := h.here; rw [scl_good s c e] at this; cases this)).2
  have hgo := h.goal
  rw [hend] at hgo
  obtain ⟨tm, df⟩ := t
  dsimp only at ha4 ha5 hd
  subst hd
  refine ⟨by simp, .inl ⟨_, _, rfl, run_takeDeferred hD2, ?_⟩⟩
  refine ⟨_, results_cc Tryz.results112 w.heap.size (w.heap.size + 1) _ _ (b0.kept hg (fun e => by have := Option.some.inj e; omega)).cell (b1.kept hg (fun e => by have := Option.some.inj e; omega)).cell _ ha4 ha5, v, by rw [← hgo], ?_, hb2.grown hg hb2.size (fun k e => by cases e; omega)⟩
  rw [← hrun]
  exact O3.mono ho2 (by omega)
theorem SJ'.goes {s : ByteArray} {a : Nat} {w : World} {x : Fr.Fm} {rest : List Fr.Fm} {F : Bks} {W W1 W4 : World} {v v' : Value} {acc : List Fq} {c : Nat} (h : SJ' s a w (x :: rest) F W v acc c) (hB : w.heap.size + 6 ≤ W.heap.size)
    (g1 : W.grownBy W1 none) (g2 : W1.grownBy W4 v.ownBlock) (ho : O3 145 W4 (w.heap.size + 6) v' (acc ++ [qf x])) (hn : v'.ownBlock = v.ownBlock ∨ v'.ownBlock = some W1.heap.size) :
    Kept (fun j => F j ∨ j = w.heap.size + 4 ∨ j = w.heap.size + 4 + 1) W ((W4.setCell ⟨w.heap.size, 0, none⟩ v').setCell ⟨w.heap.size + 1, 0, none⟩ (.int .i64 ((x.a + 9 + x.p.length : Nat) : Int))) ∧
    SJ s a w rest F ((W4.setCell ⟨w.heap.size, 0, none⟩ v').setCell ⟨w.heap.size + 1, 0, none⟩ (.int .i64 ((x.a + 9 + x.p.length : Nat) : Int))) := by
  have g3 := grownBy_setCell' W4 w.heap.size v'
  have g4 := grownBy_setCell' (W4.setCell ⟨w.heap.size, 0, none⟩ v') (w.heap.size + 1) (.int .i64 ((x.a + 9 + x.p.length : Nat) : Int))
  have lt := h.own.lt
  have s1 := g1.size
  have s2 := g2.size
  have s3 := g3.size
  have s4 := g4.size
  have r2 : ∀ k, k < w.heap.size + 6 → some k ≠ v.ownBlock := fun k hk e => by have := (lt k e.symm).1; omega
  have hb2 : Below w.heap.size w W4 := ((h.bel.grown g1 h.bel.size (fun k e => by cases e)).grown g2 (by have := h.bel.size; omega) (fun k e => by have := (lt k e).1; omega))
  have hb3 := hb2.grown g3 hb2.size (fun k e => by cases e; omega)
  have her : Fr.er (bh s c) = 0 := Classical.byContradiction fun e => by have := h.here; rw [scl_bad s c e] at this; cases this
  have hsc := h.here
  rw [scl_good s c her] at hsc
  injection hsc with hx hrest
  have hgd := Fr.er_good.1 her
  have hnx : x.a + 9 + x.p.length = c + 9 + Fr.ln (bh s c) := by rw [hx]; dsimp only; rw [Fr.pl_length hgd]
  refine ⟨⟨by omega, fun j hj hl => ?_⟩, v', acc ++ [qf x], x.a + 9 + x.p.length, ?_⟩
  · have n1 : some j ≠ v.ownBlock ∧ j ≠ w.heap.size ∧ j ≠ w.heap.size + 1 := by
      rcases hj with hj | hj
      · obtain ⟨k1, k2, k3⟩ := h.fb j hj
        exact ⟨fun e => k3 e.symm, by omega, by omega⟩
      · exact ⟨r2 j (by omega), by omega, by omega⟩
    rw [g4.block j (by omega) (fun e => n1.2.2 (Option.some.inj e)), g3.block j (by omega) (fun e => n1.2.1 (Option.some.inj e)), g2.block j (by omega) n1.1, g1.block j hl (by simp)]
  · refine ⟨?_, ?_, ?_, ?_, ?_, ?_, ?_, fun j hj => ?_⟩
    · exact ((((h.b0.kept g1 (by simp)).kept g2 (r2 _ (by omega))).set v').kept g4 (fun e => by have := Option.some.inj e; omega))
    · exact ((((h.b1.kept g1 (by simp)).kept g2 (r2 _ (by omega))).kept g3 (fun e => by have := Option.some.inj e; omega)).set _)
    · exact (ho.kept g3 (.inr (fun e => by have := (ho.lt _ e).1; omega))).kept g4 (.inr (fun e => by have := (ho.lt _ e).1; omega))
    · rw [← h.run, List.map_cons, List.append_assoc]; rfl
    · rw [hnx]; exact hrest
    · rw [hnx, ← (scq_good s c her).2]; exact h.goal
    · exact hb3.grown g4 hb3.size (fun k e => by cases e; omega)
    · obtain ⟨k1, k2, k3⟩ := h.fb j hj
      refine ⟨by omega, k2, ?_⟩
      rcases hn with e | e
      · rw [e]; exact k3
      · rw [e]; exact fun e => by have := Option.some.inj e; omega
set_option maxHeartbeats 2000000 in
theorem scan_any (s : ByteArray) (a : Nat) (ha : a ≤ s.size) (w : World) (hs : s.size ≤ 1048576) (hT : Hid (Tab w)) : Calls Tryz.prog 112 #[.string s, .int .i64 (a : Int)] w (Scans 145 w (scq s a) (sce s a)) := by
  have HP := Lib.hid (fun W => fplace_ok s a ha W)
  obtain ⟨i0, hi, hz0, hz1, hz2⟩ := info_parts Tryz.info145
  have hcap : (scq s a).length ≤ 1048576 := by have := scq_len s _ a (Nat.le_refl _); omega
  have HS := Lib.hid hs
  have HA := Lib.hid ha
  clear hs ha
  refine (callsIn_wide (n := 5)).1 ?_
  refine callsIn_of_wp_marks Tryz.func112 rfl trivial ?_ rfl
  simp only [Tryz.ntmps112, List.size_toArray, List.length_cons, List.length_nil, Nat.reduceAdd, Nat.reduceSub, Array.replicate_succ, Array.replicate_zero, List.push_toArray, List.append_toArray, List.nil_append, List.cons_append]
  gi_wp2_with fail
  refine ⟨trivial, (callsIn_wide.2 (HP.out _)).mono ?_⟩
  rintro e w' ⟨rfl, rfl⟩
  gi_wp2_with fail
  obtain ⟨w1, hw1⟩ : ∃ w1, ((((w.alloc (.cells #[.slice none 0 0] 148)).alloc (.cells #[.int .i64 (a : Int)] 3)).alloc (.cells #[.string s] 9)).alloc (.cells #[.int .i64 (a : Int)] 3)) = w1 := ⟨_, rfl⟩
  have hsz : w1.heap.size = w.heap.size + 4 := by rw [← hw1]; simp
  have hbel : Below w.heap.size w w1 := by
    rw [← hw1]
    exact ((((Below.refl _ w).alloc (Nat.le_refl _) _).alloc (by simp) _).alloc (by simp; omega) _).alloc (by simp; omega) _
  have bn : ∀ (W : World) (n : Nat) (t : TypeId) (v : Value), W.heap.size = n → Boxed (W.alloc (.cells #[v] t)) n t v := fun W n t v h => by subst h; exact Boxed.new W t v
  have hq0 : Boxed w1 w.heap.size 148 (.slice none 0 0) := by rw [← hw1]; exact (((bn w _ 148 _ rfl).alloc _).alloc _).alloc _
  have hq1 : Boxed w1 (w.heap.size + 1) 3 (.int .i64 (a : Int)) := by rw [← hw1]; exact ((bn _ _ 3 _ (by simp)).alloc _).alloc _
  have hq2 : Boxed w1 (w.heap.size + 2) 9 (.string s) := by rw [← hw1]; exact (bn _ _ 9 _ (by simp)).alloc _
  have hq3 : Boxed w1 (w.heap.size + 3) 3 (.int .i64 (a : Int)) := by rw [← hw1]; exact bn _ _ 3 _ (by simp)
  have hI0 : SJ s a w (scl s a) (fun j => j < w.heap.size ∨ j = w.heap.size + 2 ∨ j = w.heap.size + 3) w1 :=
    ⟨.slice none 0 0, [], a, hq0, hq1, O3.nil _ _ _, rfl, rfl, rfl, hbel, fun j hj => ⟨by omega, by omega, fun e => by simp [Value.ownBlock] at e⟩⟩
  have HI0 := Lib.hid hI0
  have HSZ := Lib.hid hsz
  have HBW := Lib.hid hbel
  have HW1 := Lib.hid hw1
  have HQ2 := Lib.hid hq2
  have HQ3 := Lib.hid hq3
  have hrow := row_any s (a : Int) ((w.alloc (.cells #[.slice none 0 0] 148)).alloc (.cells #[.int .i64 (a : Int)] 3))
  rw [show ((w.alloc (.cells #[.slice none 0 0] 148)).alloc (.cells #[.int .i64 (a : Int)] 3)).heap.size = w.heap.size + 2 by simp] at hrow
  rw [hw1] at hrow
  have HROW := Lib.hid hrow
  clear hw1 hI0 hsz hbel bn hq0 hq1 hq2 hq3 hrow
  refine ⟨trivial, (callsIn_wide.2 HROW.out).mono ?_⟩
  rintro e w' ⟨rfl, hw'⟩
  rw [hw']
  clear hw' w'
  gi_wp2_with fail
  apply wp_range2 (β := Int) (gf := 152) (lb := #[.pointer (some ⟨w.heap.size + 2, 0, none⟩), .pointer (some ⟨w.heap.size + 3, 0, none⟩)]) rfl (enters_of Tryz.func152 (by kernel_rfl) rfl) enF (fun x us W h => by rw [h]; rfl) (scl s a) (fun j => j < w.heap.size ∨ j = w.heap.size + 2 ∨ j = w.heap.size + 3) (by intro j hj; have := HSZ.out; omega) ?seq
    (SJ s a w) (fun _ _ => False) (by rw [HSZ.out]; exact SJ.ab s a w) (fun _ _ _ _ h _ _ => h.elim) HI0.out
    (BPs w) ?ax _ ?assign ?body ?done ?stop
  case seq =>
    intro W hW hb
    exact row_gives 4 (by omega) s HS.out a HA.out W (hT.out.below (HBW.out.trans (hb.mono HBW.out.size))) (w.heap.size + 2) (w.heap.size + 3) ((hb.block _ (by have := HSZ.out; omega)).trans HQ2.out) ((hb.block _ (by have := HSZ.out; omega)).trans HQ3.out) _ (.inl (Nat.lt_of_lt_of_le hT.out.1 (Nat.le_refl _))) (.inr (.inl rfl))
  case ax =>
    rw [HSZ.out]
    exact BPs.ab w
  case assign =>
    rintro l x rest us F W K hI he hB hK
    rw [HSZ.out] at hB
    obtain ⟨Y, hY⟩ : ∃ Y : Int, ((x.a + 9 + x.p.length : Nat) : Int) = Y := ⟨_, rfl⟩
    have hbp : BPs w x W.heap.size Y (W.alloc (.cells #[.int .u8 (x.k.toNat : Int), .string (bs x.p), .int .i64 (x.a : Int)] 145)) := ⟨hY, Box3.new _ _ _ _ _, hB⟩
    have HBP := Lib.hid hbp
    have hI2 : SJ s a w (x :: rest) F (W.alloc (.cells #[.int .u8 (x.k.toNat : Int), .string (bs x.p), .int .i64 (x.a : Int)] 145)) := SJ.ab s a w _ F F _ _ none hI (World.grownBy_alloc W _ none) (fun r e => by cases e) (fun j h => .inl h)
    have HI2 := Lib.hid hI2
    unfold enF at he
    rw [hY] at he
    subst he
    clear hbp hI2 hI hY
    gi_wp2
    obtain ⟨Bx, hBx⟩ : ∃ Bx, W.heap.size = Bx := ⟨_, rfl⟩
    rw [hBx] at HBP ⊢
    exact hK Bx Y _ (Kept.grown (World.grownBy_alloc W _ none) (fun r e => by cases e)) HI2.out HBP.out
  case body =>
    rintro l x rest F Bx Y W ⟨v, acc, c, hI⟩ hbx hB
    rw [HSZ.out] at hB
    have HI := Lib.hid hI
    have HBX := Lib.hid hbx
    have hy := hbx.hy
    have hal : acc.length ≤ 1048576 := by have := congrArg List.length hI.run; rw [List.length_append] at this; omega
    clear hI hbx
    have p0 := HBX.out.box.c0
    have p1 := HBX.out.box.c1
    have p2 := HBX.out.box.c2
    have z0 := HI.out.b0.cell
    have z1 := HI.out.b0.frozen
    obtain ⟨va, vc, hv⟩ := HI.out.own.shape
    subst hv
    have HCN := Lib.hid (cells_new3 W (.int .u8 (x.k.toNat : Int)) (.string (bs x.p)) (.int .i64 (x.a : Int)) 145)
    have HGA := Lib.hid (World.grownBy_alloc W (.cells #[.int .u8 (x.k.toNat : Int), .string (bs x.p), .int .i64 (x.a : Int)] 145) none)
    have HOA := Lib.hid (World.ownsRow.alloc HI.out.own (.cells #[.int .u8 (x.k.toNat : Int), .string (bs x.p), .int .i64 (x.a : Int)] 145))
    gi_wp2_with (gi_at_builtin; refine wpListIn_append_own_at _ rfl (.tmp 18) (.tmp 20) 148 rfl (w.heap.size + 6) 145 i0 _ 3 32 Tryz.underlying148 hi hz0 hz1 hz2 (by rfl) (by decide) (.slice va acc.length vc) acc.length (fls acc) rfl HOA.out ⟨W.heap.size, 0, none⟩ 1 1 [.int .u8 (x.k.toNat : Int), .string (bs x.p), .int .i64 (x.a : Int)] rfl rfl HCN.out (one3 _ _ _) (by unfold maxLen; omega) (by omega) (by rw [World.size_alloc]; omega) ?_; intro v' w4 hown' hgrow hnil hloc; have HON := Lib.hid hown'; have HGR := Lib.hid hgrow; have HLO := Lib.hid hloc; have z2 := (HI.out.b0.kept HGA.out (by simp)).kept HGR.out (fun e => by have := (HI.out.own.lt _ e.symm).1; omega); have z3 := z2.cell; have z4 := z2.frozen; have y2 := (HI.out.b1.kept HGA.out (by simp)).kept HGR.out (fun e => by have := (HI.out.own.lt _ e.symm).1; omega); have y3 := y2.cell; have y4 := y2.frozen; obtain ⟨a2, c2, hv2⟩ := ownsRow_shape hown'; subst hv2; clear hown' hgrow hnil hloc z2 y2)
    have hl := HI.out.goes hB HGA.out HGR.out (by have h := HON.out; unfold O3; rw [fls_append, List.length_append]; exact h) HLO.out
    rw [hy, ← HSZ.out] at hl
    exact hl
  case done =>
    rintro F W ⟨v, acc, c, hI⟩ hD
    have HI := Lib.hid hI
    clear hI
    obtain ⟨va, vc, hv⟩ := HI.out.own.shape
    subst hv
    have f0 := HI.out.b0.frozen
    have f1 := HI.out.b1.frozen
    have c0 := HI.out.b0.cell
    have c1 := HI.out.b1.cell
    gi_wp2
    gi_region
    gi_wp2
    exact fin_scan HI.out hD HSZ.out rfl rfl rfl rfl
  case stop => exact fun c W h _ => h.elim
end Go.Proofs.YtieemdcoomilaaaGreatDoor
