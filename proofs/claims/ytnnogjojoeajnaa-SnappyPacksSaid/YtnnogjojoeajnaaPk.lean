/- Pack. -/
import Derived.Test.YtnnogjojoeajnaaPc
import Derived.Test.YtnnogjojoeajnaaMq
namespace Go.Proofs.Ytnnogjojoeajnaa
open Go.RowKit Go.Shelf Go.Sort Go.Maps
/-- The places ahead of a that have these next 4 bytes. -/
def plc (l : List UInt8) (a : Nat) : List UInt8 → List Nat := fun k => (List.range a).filter fun p => nxt l p == k
theorem desc_range : ∀ a, desc a = (List.range a).reverse
  | 0 => rfl
  | a + 1 => by rw [desc, desc_range a, List.range_succ, List.reverse_append]; rfl
theorem plc_rev (l : List UInt8) (a : Nat) : (plc l a (nxt l a)).reverse = (desc a).filter fun p => nxt l p == nxt l a := by
  rw [plc, desc_range, List.filter_reverse]
theorem plc_upd (l : List UInt8) (a : Nat) : upd (plc l a) (nxt l a) (plc l a (nxt l a) ++ [a]) = plc l (a + 1) := by
  funext k
  unfold upd plc
  rw [List.range_succ, List.filter_append]
  by_cases h : k = nxt l a
  · subst h
    rw [if_pos rfl]
    simp
  · rw [if_neg h, List.filter_cons_of_neg (by simp; exact fun e => h e.symm)]
    simp
theorem plc_lt (l : List UInt8) (a : Nat) (k : List UInt8) : ∀ x ∈ plc l a k, x < a := fun _ hx => List.mem_range.1 (List.mem_filter.1 hx).1
/-- Between two steps of Pack: h the heap's size at its begin. -/
structure PI (w : World) (s : ByteArray) (W : World) (a p : Nat) (ps : List Pt) (v : Value) : Prop where
  b0 : Boxed W w.heap.size 9 (.string s)
  b1 : Boxed W (w.heap.size + 1) 30 v
  b2 : Boxed W (w.heap.size + 2) 3 (.int .i64 p)
  own : Ol W (w.heap.size + 4) v ps
  gm : Gm W (w.heap.size + 3) (w.heap.size + 4) a (plc s.data.toList a)
  sh : W.Shuns (w.heap.size + 3) (fun j => some j = v.ownBlock)
  bel : Below w.heap.size w W
  sz : w.heap.size + 4 ≤ W.heap.size
namespace PI
variable {w W W' : World} {s : ByteArray} {a p : Nat} {ps : List Pt} {v : Value}
theorem grown (h : PI w s W a p ps v) (hg : W.grownBy W' none) : PI w s W' a p ps v := by
  obtain ⟨D, h1, h2, h3⟩ := h.gm
  refine ⟨h.b0.kept hg (by simp), h.b1.kept hg (by simp), h.b2.kept hg (by simp), h.own.kept hg (own_or _), ⟨D, h1.kept hg (by simp) (fun _ _ _ x _ => own_or _), h2, h3⟩, h.sh.kept hg (by have := h.sz; omega) (by simp), h.bel.grown hg h.bel.size (fun k e => by cases e), Nat.le_trans h.sz hg.size⟩
theorem passed (h : PI w s W a p ps v) (q : Nat) : PI w s (W.setCell ⟨w.heap.size + 2, 0, none⟩ (.int .i64 q)) a q ps v := by
  have hg := grownBy_setCell' W (w.heap.size + 2) (.int .i64 q)
  have ne : ∀ i j : Nat, i ≠ j → some i ≠ some j := fun i j hij e => hij (Option.some.inj e)
  obtain ⟨D, h1, h2, h3⟩ := h.gm
  refine ⟨h.b0.kept hg (ne _ _ (by omega)), h.b1.kept hg (ne _ _ (by omega)), h.b2.set _, h.own.kept hg ?_, ⟨D, h1.kept hg (ne _ _ (by omega)) (h1.rowsAbove (fun j e => by cases e; omega)), h2, h3⟩, h.sh.kept hg (by have := h.sz; omega) (ne _ _ (by omega)), h.bel.grown hg h.bel.size (fun k e => by cases e; omega), Nat.le_trans h.sz hg.size⟩
  exact .inr (fun e => by have := (own_lt h.own _ e).1; omega)
/-- Behind an append to the list, and the store of it. -/
theorem put (h : PI w s W a p ps v) {W1 : World} {v' : Value} {ps' : List Pt} (ho : Ol W1 (w.heap.size + 4) v' ps') (hg : W.grownBy W1 v.ownBlock) (hl : v'.ownBlock = v.ownBlock ∨ ∀ g, v'.ownBlock = some g → W.heap.size ≤ g) :
    PI w s (W1.setCell ⟨w.heap.size + 1, 0, none⟩ v') a p ps' v' := by
  have hgs := grownBy_setCell' W1 (w.heap.size + 1) v'
  have ne : ∀ i j : Nat, i ≠ j → some i ≠ some j := fun i j hij e => hij (Option.some.inj e)
  have nv : ∀ j, j < w.heap.size + 4 → some j ≠ v.ownBlock := fun j hj e => by have := (own_lt h.own j e.symm).1; omega
  obtain ⟨D, h1, h2, h3⟩ := h.gm
  have g1 := h1.kept hg (nv _ (by omega)) (h.sh.rowsOff (fun j e => e.symm))
  have s1 : W1.Shuns (w.heap.size + 3) (fun j => some j = v'.ownBlock) := by
    intro es clock hb x hx g hxg hgv
    have hb0 : W.heap[w.heap.size + 3]? = some (.map es clock) := (hg.block _ (by have := h.sz; omega) (nv _ (by omega))).symm.trans hb
    exact h.sh.reno h1 (No' := fun j => some j = v'.ownBlock) (fun j hj => by
      rcases hl with hl | hl
      · exact .inl (hj.trans hl)
      · exact .inr (hl j hj.symm)) es clock hb0 x hx g hxg hgv
  have sz1 : w.heap.size + 4 ≤ W1.heap.size := Nat.le_trans h.sz hg.size
  refine ⟨(h.b0.kept hg (nv _ (by omega))).kept hgs (ne _ _ (by omega)), (h.b1.kept hg (nv _ (by omega))).set _, (h.b2.kept hg (nv _ (by omega))).kept hgs (ne _ _ (by omega)), ho.kept hgs ?_, ⟨D, g1.kept hgs (ne _ _ (by omega)) (g1.rowsAbove (fun j e => by cases e; omega)), h2, h3⟩, s1.kept hgs (by omega) (ne _ _ (by omega)), ?_, Nat.le_trans sz1 hgs.size⟩
  · exact .inr (fun e => by have := (own_lt ho _ e).1; omega)
  · have hb1 : Below w.heap.size w W1 := h.bel.grown hg h.bel.size (fun k e => by have := (own_lt h.own k e).1; omega)
    exact hb1.grown hgs hb1.size (fun k e => by cases e; omega)
/-- Behind add. -/
theorem added (h : PI w s W a p ps v) (hA : Added W (w.heap.size + 3) (w.heap.size + 4) (a + 1) (upd (plc s.data.toList a) (nxt s.data.toList a) (plc s.data.toList a (nxt s.data.toList a) ++ [a])) (fun j => some j = v.ownBlock) W') : PI w s W' (a + 1) p ps v := by
  have sm : ∀ j, j < w.heap.size + 3 → W'.heap[j]? = W.heap[j]? := fun j hj => hA.same j (by have := h.sz; omega) (.inl ⟨by omega, by omega⟩)
  have hsz := hA.bel.size
  refine ⟨(sm _ (by omega)).trans h.b0, (sm _ (by omega)).trans h.b1, (sm _ (by omega)).trans h.b2, ?_, by rw [← plc_upd]; exact hA.gm, hA.sh, h.bel.trans (hA.bel.mono (by omega)), Nat.le_trans h.sz hsz⟩
  obtain ⟨h1, h2⟩ := h.own
  refine ⟨h1, h2.imp id ?_⟩
  rintro ⟨g, cap, cur, rfl, hb, hh, rest⟩
  exact ⟨g, cap, cur, rfl, hb, (hA.same g (Array.getElem?_eq_some_iff.1 hh).1 (.inr rfl)).trans hh, rest⟩
end PI
end Go.Proofs.Ytnnogjojoeajnaa
