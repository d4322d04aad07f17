/- What is gathered of an iterator, rows of two cells each: what holds between the rounds. -/
import Derived.Test.YtioflicmpnkfeaaGreatPc
namespace Go.Proofs.YtioflicmpnkfeaaGreat
open Go Go.RowKit Go.Shelf
set_option maxRecDepth 100000
def All2 {α β : Type} (R : α → β → Prop) : List α → List β → Prop
  | [], [] => True
  | x :: xs, p :: ps => R x p ∧ All2 R xs ps
  | _, _ => False
theorem All2.mono {α β : Type} {R S : α → β → Prop} (h : ∀ x p, R x p → S x p) : ∀ {xs : List α} {ps : List β}, All2 R xs ps → All2 S xs ps
  | [], [], _ => trivial
  | _ :: _, _ :: _, k => ⟨h _ _ k.1, All2.mono h k.2⟩
theorem All2.len {α β : Type} {R : α → β → Prop} : ∀ {xs : List α} {ps : List β}, All2 R xs ps → ps.length = xs.length
  | [], [], _ => rfl
  | _ :: _, _ :: _, k => by rw [List.length_cons, List.length_cons, All2.len k.2]
theorem All2.snoc {α β : Type} {R : α → β → Prop} {x : α} {p : β} (h : R x p) : ∀ {xs : List α} {ps : List β}, All2 R xs ps → All2 R (xs ++ [x]) (ps ++ [p])
  | [], [], _ => ⟨h, trivial⟩
  | _ :: _, _ :: _, k => ⟨k.1, All2.snoc h k.2⟩
/-- It stays as long as no rows of another type are turned from a block on. -/
def QOk {α : Type} (base : Nat) (E : TypeId) (Q : α → Pv → World → Prop) : Prop :=
  ∀ x p W W' row, Q x p W → W.grownBy W' row → (∀ r, row = some r → r < base ∨ ∃ cur, W.heap[r]? = some (.cells cur E)) → Q x p W'
/-- A told row, and an error. -/
structure En2' {α : Type} (Q : α → Pv → World → Prop) (x : α × Nat) (us : Array Value) (A : World) (p : Pv) : Prop where
  eq : us = #[.agg #[p.1, p.2], .int .i64 (x.2 : Int)]
  q : Q x.1 p A
  o1 : p.1.oneCell' = true
  o2 : p.2.oneCell' = true
def En2 {α : Type} (Q : α → Pv → World → Prop) (x : α × Nat) (us : Array Value) (A : World) : Prop := ∃ p : Pv, En2' Q x us A p
def TellsQ {α : Type} (E : TypeId) (Q : α → Pv → World → Prop) (w : World) (R : List α × Nat) (e : Ending) (w' : World) : Prop :=
  ∃ v ps, e = .returned (.tuple #[v, .int .i64 (R.2 : Int)]) ∧ O2 E w' w.heap.size v ps ∧ All2 (fun x p => Q x p w') R.1 ps ∧ Below w.heap.size w w'
section
variable {α : Type} {E T : TypeId} {Q : α → Pv → World → Prop} {w : World} {R : List α × Nat} {N : Nat}
structure LJ' (E T : TypeId) (Q : α → Pv → World → Prop) (w : World) (R : List α × Nat) (N : Nat) (rest : List (α × Nat)) (F : Bks) (W : World) (v : Value) (acc : List α) (ps : List Pv) : Prop where
  b0 : Boxed W w.heap.size T (.slice none 0 0)
  b1 : Boxed W (w.heap.size + 1) 39 (.int .i64 0)
  b2 : Boxed W (w.heap.size + 2) T v
  own : O2 E W (w.heap.size + 5) v ps
  qs : All2 (fun x p => Q x p W) acc ps
  run : gat rest acc = R
  len : acc.length + rest.length ≤ N
  bel : Below w.heap.size w W
  fb : ∀ j, F j → j < W.heap.size ∧ (j < w.heap.size ∨ w.heap.size + 3 ≤ j) ∧ v.ownBlock ≠ some j
def LJ (E T : TypeId) (Q : α → Pv → World → Prop) (w : World) (R : List α × Nat) (N : Nat) (rest : List (α × Nat)) (F : Bks) (W : World) : Prop := ∃ v acc ps, LJ' E T Q w R N rest F W v acc ps
def LX (T : TypeId) (w : World) (R : List α × Nat) (c : Code) (W : World) : Prop := c = .ret ∧ R.1 = [] ∧ Boxed W w.heap.size T (.slice none 0 0) ∧ Boxed W (w.heap.size + 1) 39 (.int .i64 (R.2 : Int)) ∧ Below w.heap.size w W
theorem LJ.ab (hQ : QOk (w.heap.size + 5) E Q) : AbI (w.heap.size + 3) (LJ E T Q w R N) := by
  rintro s F F' A A' row ⟨v, acc, ps, h⟩ hg hr hF
  have ne : ∀ j, j < w.heap.size + 3 → some j ≠ row := fun j hj e => by have := hr j e.symm; omega
  have h2 := h.b2.lt
  refine ⟨v, acc, ps, h.b0.kept hg (ne _ (by omega)), h.b1.kept hg (ne _ (by omega)), h.b2.kept hg (ne _ (by omega)), h.own.kept hg ?_, h.qs.mono fun x p hq => hQ x p A A' row hq hg (fun r e => .inl (by have := hr r e; omega)), h.run, h.len, h.bel.grown hg h.bel.size (fun k e => by have := hr k e; omega), fun j hj => ?_⟩
  · cases hv : v.ownBlock with
    | none => exact .inl rfl
    | some g =>
      refine .inr fun e => ?_
      have h1 := (h.own.lt g hv).1
      have h2 := hr g e.symm
      omega
  · rcases hF j hj with hj | ⟨hj, hj2⟩
    · obtain ⟨k1, k2, k3⟩ := h.fb j hj
      exact ⟨Nat.lt_of_lt_of_le k1 hg.size, k2, k3⟩
    · exact ⟨hj2, .inr (by omega), fun e => by have := (h.own.lt j e).2; omega⟩
theorem LX.ab (c : Code) : AbW (w.heap.size + 3) (LX T w R c) := by
  rintro A A' row ⟨h1, h0, h2, h3, h4⟩ hg hr
  exact ⟨h1, h0, h2.kept hg (fun e => by have := hr _ e.symm; omega), h3.kept hg (fun e => by have := hr _ e.symm; omega), h4.grown hg h4.size (fun k e => by have := hr k e; omega)⟩
theorem LJ'.leave {rest : List (α × Nat)} {F : Bks} {W : World} {v : Value} {acc : List α} {ps : List Pv} (h : LJ' E T Q w R N rest F W v acc ps) (e : Nat) (hR : ([], e) = R) :
    Kept (fun j => j = w.heap.size + 3 ∨ j = w.heap.size + 3 + 1) W ((W.setCell ⟨w.heap.size, 0, none⟩ (.slice none 0 0)).setCell ⟨w.heap.size + 1, 0, none⟩ (.int .i64 (e : Int))) ∧
    LX T w R .ret ((W.setCell ⟨w.heap.size, 0, none⟩ (.slice none 0 0)).setCell ⟨w.heap.size + 1, 0, none⟩ (.int .i64 (e : Int))) := by
  subst hR
  have g1 := grownBy_setCell' W w.heap.size (.slice none 0 0)
  have g2 := grownBy_setCell' (W.setCell ⟨w.heap.size, 0, none⟩ (.slice none 0 0)) (w.heap.size + 1) (.int .i64 (e : Int))
  refine ⟨(Kept.grown g1 (fun r e => by cases e; omega)).trans (Kept.grown g2 (fun r e => by cases e; omega)), rfl, rfl, ?_, ?_, ?_⟩
  · exact (h.b0.set _).kept g2 (fun e => by have := Option.some.inj e; omega)
  · exact (h.b1.kept g1 (fun e => by have := Option.some.inj e; omega)).set _
  · exact (h.bel.grown g1 h.bel.size (fun k e => by cases e; omega)).grown g2 (by have := h.bel.size; simp [World.setCell]; omega) (fun k e => by cases e; omega)
theorem LJ'.goes (hQ : QOk (w.heap.size + 5) E Q) {x : α × Nat} {rest : List (α × Nat)} {F : Bks} {W W1 W4 : World} {v v' : Value} {acc : List α} {ps : List Pv} {p : Pv} (h : LJ' E T Q w R N (x :: rest) F W v acc ps) (hx : x.2 = 0) (hq : Q x.1 p W)
    (hB : w.heap.size + 5 ≤ W.heap.size) (g1 : W.grownBy W1 none) (g2 : W1.grownBy W4 v.ownBlock) (ho : O2 E W4 (w.heap.size + 5) v' (ps ++ [p])) (hn : v'.ownBlock = v.ownBlock ∨ v'.ownBlock = some W1.heap.size) :
    Kept (fun j => F j ∨ j = w.heap.size + 3 ∨ j = w.heap.size + 3 + 1) W (W4.setCell ⟨w.heap.size + 2, 0, none⟩ v') ∧
    LJ E T Q w R N rest F (W4.setCell ⟨w.heap.size + 2, 0, none⟩ v') := by
  have g3 := grownBy_setCell' W4 (w.heap.size + 2) v'
  have lt := h.own.lt
  have s1 := g1.size
  have s2 := g2.size
  have s3 := g3.size
  have o1 := h.own.kept g1 (by cases v.ownBlock <;> simp)
  have r2 : ∀ k, k < w.heap.size + 5 → some k ≠ v.ownBlock := fun k hk e => by have := (lt k e.symm).1; omega
  have hrun := h.run
  rw [gat, if_neg (by rw [hx]; simp)] at hrun
  have hb2 : Below w.heap.size w W4 := ((h.bel.grown g1 h.bel.size (fun k e => by cases e)).grown g2 (by have := h.bel.size; omega) (fun k e => by have := (lt k e).1; omega))
  refine ⟨⟨by omega, fun j hj hl => ?_⟩, v', acc ++ [x.1], ps ++ [p], ?_⟩
  · have n1 : some j ≠ v.ownBlock ∧ j ≠ w.heap.size + 2 := by
      rcases hj with hj | hj
      · obtain ⟨k1, k2, k3⟩ := h.fb j hj
        exact ⟨fun e => k3 e.symm, by omega⟩
      · exact ⟨r2 j (by omega), by omega⟩
    rw [g3.block j (by omega) (fun e => n1.2 (Option.some.inj e)), g2.block j (by omega) n1.1, g1.block j hl (by simp)]
  · refine ⟨((h.b0.kept g1 (by simp)).kept g2 (r2 _ (by omega))).kept g3 (fun e => by have := Option.some.inj e; omega), ((h.b1.kept g1 (by simp)).kept g2 (r2 _ (by omega))).kept g3 (fun e => by have := Option.some.inj e; omega), ((h.b2.kept g1 (by simp)).kept g2 (r2 _ (by omega))).set _, ho.kept g3 ?_, ?_, hrun, ?_, hb2.grown g3 hb2.size (fun k e => by cases e; omega), fun j hj => ?_⟩
    · exact .inr (fun e => by have := (ho.lt _ e).1; omega)
    · have keep : ∀ y q, Q y q W → Q y q (W4.setCell ⟨w.heap.size + 2, 0, none⟩ v') := fun y q hy =>
        hQ y q _ _ _ (hQ y q _ _ _ (hQ y q _ _ _ hy g1 (fun r e => by cases e)) g2 (fun r e => .inr (own_mark o1 r e))) g3 (fun r e => by cases e; exact .inl (by omega))
      exact All2.snoc (R := fun x p => Q x p (W4.setCell ⟨w.heap.size + 2, 0, none⟩ v')) (keep _ _ hq) (h.qs.mono keep)
    · have := h.len
      rw [List.length_append, List.length_singleton]
      rw [List.length_cons] at this
      omega
    · obtain ⟨k1, k2, k3⟩ := h.fb j hj
      refine ⟨by omega, k2, ?_⟩
      rcases hn with e | e
      · rw [e]; exact k3
      · rw [e]; exact fun e => by have := Option.some.inj e; omega
theorem results_cc {fn : Func} {W : World} {p q : Tmp} {T : TypeId} (hf : fn.results = #[.cell p T, .cell q 39]) (hT : ∀ w, (isAgg T).run Tryz.prog w = .ok false w) (g h : Nat) (x : Value) (y : Int) (hx : W.cell? ⟨g, 0, none⟩ = some x) (hy : W.cell? ⟨h, 0, none⟩ = some (.int .i64 y)) (tmps : Array Value)
    (h4 : tmps.getD p undef = .pointer (some ⟨g, 0, none⟩)) (h5 : tmps.getD q undef = .pointer (some ⟨h, 0, none⟩)) : (results fn tmps).run Tryz.prog W = .ok (.tuple #[x, .int .i64 y]) W := by
  have h4' : tmps[p]?.getD undef = .pointer (some ⟨g, 0, none⟩) := by simpa using h4
  have h5' : tmps[q]?.getD undef = .pointer (some ⟨h, 0, none⟩) := by simpa using h5
  simp [results, hf, go_sem, h4', h5', hx, hy, hT]
theorem fin_list (hQ : QOk (w.heap.size + 5) E Q) {n : Nat} {fn : Func} {P : Tmp} {P' : Tmp} (hf : fn.results = #[.cell P T, .cell P' 39]) (hT : ∀ w, (isAgg T).run Tryz.prog w = .ok false w) {W : World} {D : Nat} {F : Bks} {a : Act} {v : Value} {acc : List α} {ps : List Pv} (h : LJ' E T Q w R N [] F W v acc ps) (hD : W.heap[D]? = some (.deferred (some []))) (hDw : D = w.heap.size + 3)
    (ha4 : a.tmps.getD P undef = .pointer (some ⟨w.heap.size, 0, none⟩)) (ha5 : a.tmps.getD P' undef = .pointer (some ⟨w.heap.size + 1, 0, none⟩)) (hd : a.defers = [{ target := .collected D, args := #[] }]) :
    bodyPostM Fence.wide n Tryz.prog fn (TellsQ E Q w R) .ret a ((W.setCell ⟨w.heap.size, 0, none⟩ v).setCell ⟨w.heap.size + 1, 0, none⟩ (.int .i64 0)) := by
  have g1 := grownBy_setCell' W w.heap.size v
  have g2 := grownBy_setCell' (W.setCell ⟨w.heap.size, 0, none⟩ v) (w.heap.size + 1) (.int .i64 0)
  have hlt := (Array.getElem?_eq_some_iff.1 hD).1
  have hD1 := (g1.block D hlt (fun e => by have := Option.some.inj e; omega)).trans hD
  have hD2 := (g2.block D (Array.getElem?_eq_some_iff.1 hD1).1 (fun e => by have := Option.some.inj e; omega)).trans hD1
  have b0 := (h.b0.set v).kept g2 (fun e => by have := Option.some.inj e; omega)
  have b1 := (h.b1.kept g1 (fun e => by have := Option.some.inj e; omega)).set (.int .i64 0)
  have hb2 := (h.bel.grown g1 h.bel.size (fun k e => by cases e; omega)).grown g2 (by have := h.bel.size; simp [World.setCell]; omega) (fun k e => by cases e; omega)
  have hg := grownBy_putObj' ((W.setCell ⟨w.heap.size, 0, none⟩ v).setCell ⟨w.heap.size + 1, 0, none⟩ (.int .i64 0)) D (.deferred none)
  have nv : ∀ j, j < w.heap.size + 5 → v.ownBlock = none ∨ v.ownBlock ≠ some j := fun j hj => .inr (fun e => by have := (h.own.lt _ e).1; omega)
  have ho2 : O2 E _ (w.heap.size + 5) v ps := ((h.own.kept g1 (nv _ (by omega))).kept g2 (nv _ (by omega))).kept hg (nv _ (by omega))
  have hrun := h.run
  rw [gat] at hrun
  subst hrun
  obtain ⟨tm, df⟩ := a
  dsimp only at ha4 ha5 hd
  subst hd
  refine ⟨by simp, .inl ⟨_, _, rfl, run_takeDeferred hD2, ?_⟩⟩
  refine ⟨_, results_cc hf hT w.heap.size (w.heap.size + 1) _ _ (b0.kept hg (fun e => by have := Option.some.inj e; omega)).cell (b1.kept hg (fun e => by have := Option.some.inj e; omega)).cell _ ha4 ha5, v, ps, rfl, O2.mono ho2 (by omega), ?_, hb2.grown hg hb2.size (fun k e => by cases e; omega)⟩
  exact h.qs.mono fun y q hy => hQ y q _ _ _ (hQ y q _ _ _ (hQ y q _ _ _ hy g1 (fun r e => by cases e; exact .inl (by omega))) g2 (fun r e => by cases e; exact .inl (by omega))) hg (fun r e => by cases e; exact .inl (by omega))
theorem fin_stop {n : Nat} {fn : Func} {P : Tmp} {P' : Tmp} (hf : fn.results = #[.cell P T, .cell P' 39]) (hT : ∀ w, (isAgg T).run Tryz.prog w = .ok false w) {W : World} {D : Nat} {a : Act} (h : LX T w R .ret W) (hD : W.heap[D]? = some (.deferred (some []))) (hDw : D = w.heap.size + 3)
    (ha4 : a.tmps.getD P undef = .pointer (some ⟨w.heap.size, 0, none⟩)) (ha5 : a.tmps.getD P' undef = .pointer (some ⟨w.heap.size + 1, 0, none⟩)) (hd : a.defers = [{ target := .collected D, args := #[] }]) :
    bodyPostM Fence.wide n Tryz.prog fn (TellsQ E Q w R) .ret a W := by
  obtain ⟨-, hR, h0, h1, hb⟩ := h
  have hg := grownBy_putObj' W D (.deferred none)
  obtain ⟨tm, df⟩ := a
  dsimp only at ha4 ha5 hd
  subst hd
  refine ⟨by simp, .inl ⟨_, _, rfl, run_takeDeferred hD, ?_⟩⟩
  refine ⟨_, results_cc hf hT w.heap.size (w.heap.size + 1) _ _ (h0.kept hg (fun e => by have := Option.some.inj e; omega)).cell (h1.kept hg (fun e => by have := Option.some.inj e; omega)).cell _ ha4 ha5, _, [], rfl, O2.nil _ _ _, ?_, ?_⟩
  · rw [hR]; trivial
  · exact hb.grown hg hb.size (fun k e => by cases e; omega)
/-- A round's box, and that the list doesn't lie there. -/
structure BPl (E T : TypeId) (Q : α → Pv → World → Prop) (w : World) (x : α × Nat) (Bx : Nat) (p : Pv) (W : World) : Prop where
  box : Box2 W Bx E p.1 p.2
  ge : w.heap.size + 5 ≤ Bx
  q : Q x.1 p W
  o1 : p.1.oneCell' = true
  o2 : p.2.oneCell' = true
  ne : ∀ v, W.cell? ⟨w.heap.size + 2, 0, none⟩ = some v → v.ownBlock ≠ some Bx
theorem BPl.ab (hQ : QOk (w.heap.size + 5) E Q) (x : α × Nat) (Bx : Nat) (p : Pv) : AbW (w.heap.size + 3) (BPl E T Q w x Bx p) := by
  rintro A A' row ⟨h1, h2, h3, o1, o2, h4⟩ hg hr
  refine ⟨h1.kept hg (fun e => by have := hr _ e.symm; omega), h2, hQ _ _ _ _ _ h3 hg (fun r e => .inl (by have := hr r e; omega)), o1, o2, fun v hv => h4 v ?_⟩
  rw [← hv]
  exact (World.cell?_of_block (hg.block _ (by have := h1.lt; show w.heap.size + 2 < _; omega) (fun e => by have h := hr _ e.symm; have : (⟨w.heap.size + 2, 0, none⟩ : Addr).block = w.heap.size + 2 := rfl; omega))).symm
theorem BPl.new (hQ : QOk (w.heap.size + 5) E Q) {x : α × Nat} {rest : List (α × Nat)} {us : Array Value} {F : Bks} {W : World} {p : Pv} (h : LJ E T Q w R N (x :: rest) F W) (he : En2' Q x us W p) (hB : w.heap.size + 5 ≤ W.heap.size) : BPl E T Q w x W.heap.size p (W.alloc (.cells #[p.1, p.2] E)) := by
  obtain ⟨v, acc, ps, h⟩ := h
  refine ⟨Box2.new _ _ _ _, hB, hQ _ _ _ _ _ he.q (World.grownBy_alloc W _ none) (fun r e => by cases e), he.o1, he.o2, fun u hu => ?_⟩
  have e := ((h.b2.kept (World.grownBy_alloc W (.cells #[p.1, p.2] E) none) (by simp)).cell).symm.trans hu
  cases e
  intro e
  have := (h.own.lt _ e).2
  omega
end
end Go.Proofs.YtioflicmpnkfeaaGreat
