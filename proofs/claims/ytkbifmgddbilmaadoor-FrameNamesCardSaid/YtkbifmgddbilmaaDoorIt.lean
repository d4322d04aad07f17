/- The iterator of the frames that stand one behind the other. -/
import Derived.Test.YtkbifmgddbilmaaDoorSo
import Derived.Test.YtkbifmgddbilmaaDoorRa
import Derived.RangeFuncBound
import Derived.RangeFuncLeaves
import Derived.RangeFuncBox
import Derived.Shelf.Abstract
import Derived.Shelf.RegionOpen
import Derived.OwnWalkIn
import Derived.TacticsInMore
import Derived.LoopNIn
import Derived.LoopIn
namespace Go.Proofs.YtkbifmgddbilmaaDoor
open Go Go.RowKit Go.Shelf
attribute [local go_sem] Oper.semAt_some
set_option maxRecDepth 100000
/-- What Read tells at a place, in numbers. -/
structure RdW (s : ByteArray) (c : Nat) (k : Int) (p : ByteArray) (z x : Int) (e : Nat) : Prop where
  er : Fr.er (bh s c) = e
  ok : e = 0 → k = ((Fr.kd (bh s c)).toNat : Int) ∧ p = bs (Fr.pl (bh s c)) ∧ z = (c : Int) ∧ x = ((c + 9 + Fr.ln (bh s c) : Nat) : Int)
theorem read_all (s : ByteArray) (c : Nat) (hc : c ≤ s.size) (hs : s.size ≤ 140737488351232) : ∃ k p z x e, RdW s c k p z x e ∧
    ∀ w, Tab w → Calls Tryd.prog 12 #[.string s, .int .i64 (c : Int)] w (Ret w (.tuple #[fv k p z, .int .i64 x, .int .i64 (e : Int)])) := by
  by_cases h : Fr.er (bh s c) = 0
  · exact ⟨_, _, _, _, 0, ⟨h, fun _ => ⟨rfl, rfl, rfl, rfl⟩⟩, fun w hT => read_ok s c (Fr.er_good.1 h) w hs (Lib.hid hT)⟩
  · exact ⟨0, ⟨#[]⟩, 0, 0, _, ⟨rfl, fun e => absurd e h⟩, fun w hT => read_bad s c _ (er1_at s c hc) h w hs (Lib.hid hT)⟩
def scl (s : ByteArray) (c : Nat) : List Fr.Fm := (Fr.scn (bh s c) c).1
theorem scl_bad (s : ByteArray) (c : Nat) (h : Fr.er (bh s c) ≠ 0) : scl s c = [] := by unfold scl; rw [Fr.scn_bad _ h]
theorem scl_good (s : ByteArray) (c : Nat) (h : Fr.er (bh s c) = 0) : scl s c = ⟨Fr.kd (bh s c), Fr.pl (bh s c), c⟩ :: scl s (c + 9 + Fr.ln (bh s c)) := by
  unfold scl
  rw [Fr.scn_good c h, List.drop_drop, ← Nat.add_assoc]
/-- What is told of a frame: it, and the place behind it. -/
def enF (x : Fr.Fm) (us : Array Value) (_ : World) : Prop := us = #[fv (x.k.toNat : Int) (bs x.p) (x.a : Int), .int .i64 ((x.a + 9 + x.p.length : Nat) : Int)]
def Box3 (W : World) (B : Nat) (t : TypeId) (x y z : Value) : Prop := W.heap[B]? = some (.cells #[x, y, z] t (0, 0))
section
variable {W W' : World} {B m : Nat} {t : TypeId} {x y z : Value}
theorem Box3.lt (h : Box3 W B t x y z) : B < W.heap.size := (Array.getElem?_eq_some_iff.1 h).1
theorem Box3.c0 (h : Box3 W B t x y z) : W.cell? ⟨B, 0, none⟩ = some x := by simp [World.cell?, show W.heap[B]? = _ from h]
theorem Box3.c1 (h : Box3 W B t x y z) : W.cell? ⟨B, 1, none⟩ = some y := by simp [World.cell?, show W.heap[B]? = _ from h]
theorem Box3.c2 (h : Box3 W B t x y z) : W.cell? ⟨B, 2, none⟩ = some z := by simp [World.cell?, show W.heap[B]? = _ from h]
theorem Box3.free (h : Box3 W B t x y z) (j : Nat) : W.frozen? ⟨B, j, none⟩ = false := by simp [World.frozen?, show W.heap[B]? = _ from h]
theorem Box3.new (W : World) (t : TypeId) (x y z : Value) : Box3 (W.alloc (.cells #[x, y, z] t)) W.heap.size t x y z := heap_alloc_new W _
theorem Box3.set (h : Box3 W B t x y z) (x' y' z' : Value) : Box3 (((W.setCell ⟨B, 0, none⟩ x').setCell ⟨B, 1, none⟩ y').setCell ⟨B, 2, none⟩ z') B t x' y' z' := set3 x' y' z' h
theorem Box3.kept {row : Option Nat} (h : Box3 W B t x y z) (hg : W.grownBy W' row) (hne : some B ≠ row) : Box3 W' B t x y z := (hg.block B h.lt hne).trans h
end
theorem grown_set3 (W : World) (B : Nat) (x y z : Value) : W.grownBy (((W.setCell ⟨B, 0, none⟩ x).setCell ⟨B, 1, none⟩ y).setCell ⟨B, 2, none⟩ z) (some B) := by
  refine ⟨rfl, rfl, rfl, by simp, fun i hi hne => ?_⟩
  have hne' : i ≠ B := fun e => hne (by rw [e])
  rw [Below.heap_setCell _ _ _ _ (by simpa using hne'), Below.heap_setCell _ _ _ _ (by simpa using hne'), Below.heap_setCell _ _ _ _ (by simpa using hne')]
theorem Tab.kept {F : Bks} {A A' : World} (h : Tab A) (hk : Kept F A A') (hF : F 0) : Tab A' :=
  ⟨Nat.lt_of_lt_of_le h.1 hk.size, fun i hi => (World.cell?_of_block (a := ⟨0, i, none⟩) (hk.same 0 hF h.1)).trans (h.2 i hi)⟩
def msr (N : Nat) (x e : Int) : Nat := if e = 0 then N + 1 - x.toNat else 0
/-- What holds between the rounds. -/
structure LI (s : ByteArray) (W : World) (bx Bf : Nat) (F0 : Bks) (J : List Fr.Fm → Bks → World → Prop) (c : Nat) (k : Int) (p : ByteArray) (z : Int) (F : Bks) (wr : World) : Prop where
  cle : c ≤ s.size
  tab : Tab wr
  box : Boxed wr bx 9 (.string s)
  f0 : F 0
  fx : F bx
  fB : F Bf
  hj : J (scl s c) F wr
  le : W.heap.size ≤ Bf
  xl : bx < W.heap.size
  bf : Box3 wr Bf 24 (.int .u8 k) (.string p) (.int .i64 z)
theorem LI.bel {s : ByteArray} {W : World} {bx Bf : Nat} {F0 : Bks} {J : List Fr.Fm → Bks → World → Prop} {c : Nat} {k : Int} {p : ByteArray} {z : Int} {F : Bks} {A A' : World} (h : LI s W bx Bf F0 J c k p z F A) (hJ : AbJ W.heap.size J) (hb : Below A.heap.size A A') : LI s W bx Bf F0 J c k p z F A' :=
  ⟨h.cle, h.tab.below hb, h.box.kept (grown_of_below hb) (by simp), h.f0, h.fx, h.fB, hJ _ _ _ _ _ none h.hj (grown_of_below hb) (fun r e => by cases e) (fun j hj => .inl hj), h.le, h.xl, h.bf.kept (grown_of_below hb) (by simp)⟩
theorem LI.sets {s : ByteArray} {W : World} {bx Bf : Nat} {F0 : Bks} {J : List Fr.Fm → Bks → World → Prop} {c : Nat} {k : Int} {p : ByteArray} {z : Int} {F : Bks} {A : World} (h : LI s W bx Bf F0 J c k p z F A) (hJ : AbJ W.heap.size J) (k' : Int) (p' : ByteArray) (z' : Int) :
    LI s W bx Bf F0 J c k' p' z' F (((A.setCell ⟨Bf, 0, none⟩ (.int .u8 k')).setCell ⟨Bf, 1, none⟩ (.string p')).setCell ⟨Bf, 2, none⟩ (.int .i64 z')) := by
  have hg := grown_set3 A Bf (.int .u8 k') (.string p') (.int .i64 z')
  have h1 := h.le
  have h2 := h.xl
  have hB0 : Bf ≠ 0 := by omega
  refine ⟨h.cle, ⟨Nat.lt_of_lt_of_le h.tab.1 hg.size, fun i hi => (World.cell?_of_block (a := ⟨0, i, none⟩) (hg.block 0 h.tab.1 (fun e => hB0 (Option.some.inj e).symm))).trans (h.tab.2 i hi)⟩, h.box.kept hg (fun e => by have := Option.some.inj e; omega), h.f0, h.fx, h.fB,
    hJ _ _ _ _ _ _ h.hj hg (fun r e => by cases e; exact ⟨h.le, h.fB⟩) (fun j hj => .inl hj), h.le, h.xl, h.bf.set _ _ _⟩
set_option maxHeartbeats 2000000 in
theorem row_gives (n : Nat) (_hn : 1 ≤ n) (s : ByteArray) (hs : s.size ≤ 1000000) (a : Nat) (ha : a ≤ s.size) (W : World) (hT : Tab W) (bx ba : Nat) (hbx : Boxed W bx 9 (.string s)) (hba : Boxed W ba 3 (.int .i64 (a : Int))) (F0 : Bks) (f0 : F0 0) (fx : F0 bx) :
    Gives n Tryd.prog 42 #[.pointer (some ⟨bx, 0, none⟩), .pointer (some ⟨ba, 0, none⟩)] enF (scl s a) F0 W := by
  intro l J Jx hJ hJx hY h0
  have HJ := Lib.hid hJ
  have HJx := Lib.hid hJx
  have HY := Lib.hid hY
  have H0 := Lib.hid h0
  have cx := hbx.cell
  have ca := hba.cell
  have HBX := Lib.hid hbx
  have HT := Lib.hid hT
  obtain ⟨k, p, z, x, e, hr, hR⟩ := read_all s a ha (by omega)
  have HRW := Lib.hid hr
  have HRC := Lib.hid (hR W hT)
  clear hJ hJx hY h0 hbx hba hT hr hR
  refine callsIn_of_wp Tryd.func42 rfl trivial ?_ rfl
  simp only [Tryd.ntmps42, List.size_toArray, List.length_cons, List.length_nil, Nat.reduceAdd, Nat.reduceSub, Array.replicate_succ, Array.replicate_zero, List.push_toArray, List.append_toArray, List.nil_append, List.cons_append]
  gi_wp2_with fail
  refine ⟨trivial, (callsIn_wide.2 HRC.out).mono ?_⟩
  rintro e' w1 ⟨rfl, hb1⟩
  have hb2 : Below W.heap.size W (w1.alloc (.cells #[.int .u8 k, .string p, .int .i64 z] 24)) := hb1.alloc hb1.size _
  have HL : Hid (LI s W bx w1.heap.size F0 J a k p z (fun j => F0 j ∨ j = w1.heap.size) (w1.alloc (.cells #[.int .u8 k, .string p, .int .i64 z] 24))) :=
    Lib.hid ⟨ha, HT.out.below hb2, HBX.out.kept (grown_of_below hb2) (by simp), .inl f0, .inl fx, .inr rfl,
      HJ.out _ _ _ _ _ none H0.out (grown_of_below hb2) (fun r e => by cases e) (fun j hj => hj.imp id (fun e => ⟨by have := hb1.size; omega, by rw [World.size_alloc]; omega⟩)), hb1.size, HBX.out.lt, Box3.new _ _ _ _ _⟩
  clear hb1 hb2
  generalize hBf : w1.heap.size = Bf at *
  gi_wp2_with fail
  gi_loopw [5, 6] (fun xs es wr => ∃ (c : Nat) (k : Int) (p : ByteArray) (z x : Int) (e : Nat) (F : Bks), xs = .int .i64 x ∧ es = .int .i64 (e : Int) ∧ Hid (RdW s c k p z x e) ∧ Hid (LI s W bx Bf F0 J c k p z F wr)) (fun xs es _ => msr s.size (intOf xs) (intOf es))
  case atStart => exact ⟨a, k, p, z, x, e, _, rfl, rfl, HRW, HL⟩
  case round =>
    clear HL HRW HRC HBX HT H0
    obtain ⟨c, k, p, z, x, e, F, rfl, rfl, HRW, HL⟩ := hrel
    by_cases he : e = 0
    · subst he
      obtain ⟨r1, r2, r3, r4⟩ := HRW.out.ok rfl
      have hg := Fr.er_good.1 HRW.out.er
      have hw := hg.whole
      rw [bh_length] at hw
      have hpl := Fr.pl_length hg
      have hsc := scl_good s c HRW.out.er
      have hj := HL.out.hj
      rw [hsc] at hj
      have hen : enF ⟨Fr.kd (bh s c), Fr.pl (bh s c), c⟩ #[fv k p z, .int .i64 x] wr := by
        unfold enF
        dsimp only
        rw [hpl, r1, r2, r3, r4]
      obtain ⟨fn, tmps, assign, body, hy, hR⟩ := HY.out _ _ _ _ wr hj hen (Nat.le_of_lt (Nat.lt_of_le_of_lt HL.out.le HL.out.bf.lt))
      have HYR := Lib.hid hR
      obtain ⟨X, hX⟩ : ∃ X : Nat, c + 9 + Fr.ln (bh s c) = X := ⟨_, rfl⟩
      rw [hX] at r4
      have hXs : X ≤ s.size := by omega
      obtain ⟨k', p', z', x', e', hr', hR'⟩ := read_all s X hXs (by omega)
      have HRW' := Lib.hid hr'
      have HRC' := Lib.hid hR'
      have b0 := HL.out.bf.c0
      have b1 := HL.out.bf.c1
      have b2 := HL.out.bf.c2
      have hXc : c + 9 ≤ X := by omega
      rw [hX] at HYR
      have HNX := Lib.hid (show c < X by omega)
      subst r4
      clear hR hr' hR' hj hen hsc hpl hw hg r1 r2 r3 hX
      have hz0 : ((0 : Nat) : Int) = 0 := rfl
      gi_wp2
      refine HYR.out.mono ?_
      rintro e W3 (⟨rfl, hJ3, hk3⟩ | ⟨rfl, hJx3, hs3⟩)
      · have HL3 : Hid (LI s W bx Bf F0 J X k p z F W3) := Lib.hid
          ⟨hXs, HL.out.tab.kept hk3 HL.out.f0, (hk3.same _ HL.out.fx HL.out.box.lt).trans HL.out.box, HL.out.f0, HL.out.fx, HL.out.fB, hJ3, HL.out.le, HL.out.xl, (hk3.same _ HL.out.fB HL.out.bf.lt).trans HL.out.bf⟩
        have cx3 := HL3.out.box.cell
        have HC3 := Lib.hid (HRC'.out W3 HL3.out.tab)
        clear hJ3 hk3 b0 b1 b2 HRC'
        gi_wp2_with fail
        refine ⟨trivial, (callsIn_wide.2 HC3.out).mono ?_⟩
        rintro e w4 ⟨rfl, hb4⟩
        have HL4 := Lib.hid (HL3.out.bel HJ.out hb4)
        have c0 := HL4.out.bf.c0
        have c1 := HL4.out.bf.c1
        have c2 := HL4.out.bf.c2
        have f0' := HL4.out.bf.free 0
        have f1' := HL4.out.bf.free 1
        have f2' := HL4.out.bf.free 2
        have HL5 := Lib.hid (HL4.out.sets HJ.out k' p' z')
        clear hb4 cx3 HC3
        gi_wp2
        go_roundw
        case rel => exact ⟨X, k', p', z', x', e', F, rfl, rfl, HRW', HL5⟩
        case measure =>
          show msr s.size x' (e' : Int) < msr s.size (X : Int) ((0 : Nat) : Int)
          have h0 : msr s.size (X : Int) ((0 : Nat) : Int) = s.size + 1 - X := by unfold msr; rw [if_pos (show ((0 : Nat) : Int) = 0 from rfl)]; rfl
          rw [h0]
          by_cases he' : e' = 0
          · obtain ⟨-, -, -, q4⟩ := HRW'.out.ok he'
            have hw' := (Fr.er_good.1 (HRW'.out.er.trans he')).whole
            rw [bh_length] at hw'
            subst he'
            have h1 : msr s.size x' ((0 : Nat) : Int) = s.size + 1 - (X + 9 + Fr.ln (bh s X)) := by unfold msr; rw [if_pos (show ((0 : Nat) : Int) = 0 from rfl), q4]; rfl
            rw [h1]
            omega
          · have h1 : msr s.size x' (e' : Int) = 0 := by unfold msr; rw [if_neg (by omega)]
            rw [h1]
            omega
      · have HJ3 := Lib.hid hJx3
        clear hJx3
        gi_wp2
        go_end0
        exact ⟨⟨_, rfl⟩, .inr HJ3.out⟩
    · have hb : ((e : Int) == 0) = false := by rw [beq_eq_false_iff_ne]; omega
      have hj := HL.out.hj
      rw [scl_bad s c (by rw [HRW.out.er]; exact he)] at hj
      have HJE := Lib.hid hj
      clear hj he
      gi_wp2
      refine ⟨fun _ h => (by cases h), ?_⟩
      gi_wp2
      go_end0
      exact ⟨⟨_, rfl⟩, .inl ⟨F, HJE.out⟩⟩
end Go.Proofs.YtkbifmgddbilmaaDoor
