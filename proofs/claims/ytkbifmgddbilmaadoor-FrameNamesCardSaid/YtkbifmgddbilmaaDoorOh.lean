/- Rows of frames (three cells each): owned, and read wherever they begin. -/
import Derived.Test.YtkbifmgddbilmaaDoorOn
import Derived.Maps.AppendAt
import Derived.Laws.AppendOwn
import Derived.RangeFuncBox
namespace Go.Proofs.YtkbifmgddbilmaaDoor
open Go Go.ChangeShapes Go.WideShapes Go.RowKit
set_option maxRecDepth 100000
theorem ownsRow_shape {w : World} {base e z n : Nat} {v : Value} {xs : List Value} (h : w.ownsRow base e z v n xs) : ∃ a c, v = .slice a n c := by
  rcases h.2 with ⟨rfl, hn⟩ | ⟨g, cap, cur, rfl, _⟩
  · exact ⟨_, _, by rw [hn]⟩
  · exact ⟨_, _, rfl⟩
theorem ownsRow_below {w w' : World} {base e z n m : Nat} {v : Value} {xs : List Value} (h : w.ownsRow base e z v n xs) (hb : Below m w w') (hn : w.heap.size ≤ m) : w'.ownsRow base e z v n xs := by
  obtain ⟨h1, h2⟩ := h
  refine ⟨h1, h2.imp id ?_⟩
  rintro ⟨g, cap, cur, e, hb', hh, rest⟩
  exact ⟨g, cap, cur, e, hb', (hb.block g (Nat.lt_of_lt_of_le (Array.getElem?_eq_some_iff.1 hh).1 hn)).trans hh, rest⟩
theorem ownsRow_mono {w : World} {base b e z n : Nat} {v : Value} {xs : List Value} (h : w.ownsRow base e z v n xs) (hb : b ≤ base) : w.ownsRow b e z v n xs := by
  obtain ⟨h1, h2⟩ := h
  refine ⟨h1, h2.imp id ?_⟩
  rintro ⟨g, cap, cur, rfl, hg, rest⟩
  exact ⟨g, cap, cur, rfl, Nat.le_trans hb hg, rest⟩
theorem own_lt {w : World} {base e z n : Nat} {v : Value} {xs : List Value} (h : w.ownsRow base e z v n xs) : ∀ g, v.ownBlock = some g → base ≤ g ∧ g < w.heap.size := by
  intro k hk
  rcases h.2 with ⟨rfl, _⟩ | ⟨g, cap, cur, rfl, hb, hh, _⟩
  · simp [Value.ownBlock] at hk
  · simp [Value.ownBlock] at hk
    subst hk
    exact ⟨hb, (Array.getElem?_eq_some_iff.1 hh).1⟩
theorem own_mark {w : World} {base e z n : Nat} {v : Value} {xs : List Value} (h : w.ownsRow base e z v n xs) : ∀ g, v.ownBlock = some g → ∃ cur, w.heap[g]? = some (.cells cur e) := by
  intro k hk
  rcases h.2 with ⟨rfl, _⟩ | ⟨g, cap, cur, rfl, hb, hh, _⟩
  · simp [Value.ownBlock] at hk
  · simp [Value.ownBlock] at hk
    subst hk
    exact ⟨cur, hh⟩
/-- A frame as three cells say it. -/
structure Fq where
  k : Int
  p : ByteArray
  a : Int
def Fq.v (q : Fq) : Value := fv q.k q.p q.a
def qf (f : Fr.Fm) : Fq := ⟨(f.k.toNat : Int), bs f.p, (f.a : Int)⟩
def fcs (q : Fq) : List Value := [.int .u8 q.k, .string q.p, .int .i64 q.a]
/-- The cells of frames. -/
def fls (l : List Fq) : List Value := l.flatMap fcs
theorem fls_cons (p : Fq) (r : List Fq) : fls (p :: r) = fcs p ++ fls r := rfl
theorem fls_append (l : List Fq) (p : Fq) : fls (l ++ [p]) = fls l ++ fcs p := by simp [fls]
theorem fls_len (l : List Fq) : (fls l).length = l.length * 3 := by
  induction l with
  | nil => rfl
  | cons f r ih => rw [fls_cons, List.length_append, ih, List.length_cons]; simp [fcs]; omega
theorem fls_at : ∀ (l : List Fq) (j : Nat) (h : j < l.length), (fls l)[j * 3]? = some (.int .u8 l[j].k) ∧ (fls l)[j * 3 + 1]? = some (.string l[j].p) ∧ (fls l)[j * 3 + 2]? = some (.int .i64 l[j].a)
  | [], j, h => by simp at h
  | f :: r, 0, _ => ⟨rfl, rfl, rfl⟩
  | f :: r, j + 1, h => by
    have ih := fls_at r j (by simpa using h)
    have e : ∀ i, (fls (f :: r))[i + 3]? = (fls r)[i]? := fun i => by
      rw [fls_cons, List.getElem?_append_right (by simp [fcs])]; simp [fcs]
    rw [show (j + 1) * 3 = j * 3 + 3 by omega, show j * 3 + 3 + 1 = j * 3 + 1 + 3 by omega, show j * 3 + 3 + 2 = j * 3 + 2 + 3 by omega, e, e, e]
    simpa using ih
/-- The call owns frames. -/
def O3 (E : TypeId) (w : World) (base : Nat) (v : Value) (l : List Fq) : Prop := w.ownsRow base E 3 v l.length (fls l)
/-- Frames, read wherever they begin. -/
def At3 (W : World) (v : Value) (l : List Fq) : Prop :=
  (l = [] ∧ ∃ a c, v = .slice a 0 c) ∨ ∃ g o c, v = .slice (some ⟨g, o, none⟩) l.length c ∧
    ∀ j (h : j < l.length), W.cell? ⟨g, o + j * 3, none⟩ = some (.int .u8 l[j].k) ∧ W.cell? ⟨g, o + j * 3 + 1, none⟩ = some (.string l[j].p) ∧ W.cell? ⟨g, o + j * 3 + 2, none⟩ = some (.int .i64 l[j].a)
section
variable {E : TypeId} {w w' : World} {base b m : Nat} {v : Value} {l : List Fq}
theorem O3.shape (h : O3 E w base v l) : ∃ a c, v = .slice a l.length c := ownsRow_shape h
theorem O3.below (h : O3 E w base v l) (hb : Below m w w') (hn : w.heap.size ≤ m) : O3 E w' base v l := ownsRow_below h hb hn
theorem O3.mono (h : O3 E w base v l) (hb : b ≤ base) : O3 E w b v l := ownsRow_mono h hb
theorem O3.lt (h : O3 E w base v l) : ∀ g, v.ownBlock = some g → base ≤ g ∧ g < w.heap.size := own_lt h
theorem O3.nil (E : TypeId) (w : World) (base : Nat) : O3 E w base (.slice none 0 0) [] := ⟨rfl, .inl ⟨rfl, rfl⟩⟩
theorem O3.at (h : O3 E w base v l) : At3 w v l := by
  have h0 := h
  unfold O3 at h0
  rcases h0.2 with ⟨rfl, hn⟩ | ⟨g, cap, cur, rfl, _⟩
  · exact .inl ⟨List.eq_nil_of_length_eq_zero hn, _, _, rfl⟩
  · refine .inr ⟨g, 0, cap, rfl, fun j hj => ?_⟩
    obtain ⟨c0, c1, c2⟩ := fls_at l j hj
    simp only [Nat.zero_add]
    rw [h0.cellAt _ (by omega), h0.cellAt _ (by omega), h0.cellAt _ (by omega)]
    exact ⟨c0, c1, c2⟩
theorem At3.same (h : At3 w v l) (hb : ∀ g, g < w.heap.size → v.ownBlock = some g → w'.heap[g]? = w.heap[g]?) : At3 w' v l := by
  rcases h with h | ⟨g, o, c, rfl, h⟩
  · exact .inl h
  · refine .inr ⟨g, o, c, rfl, fun j hj => ?_⟩
    have hlt := World.block_lt_of_cell? w ⟨g, _, none⟩ (h j hj).1
    have e : ∀ o, w'.cell? ⟨g, o, none⟩ = w.cell? ⟨g, o, none⟩ := fun o => World.cell?_of_block (a := ⟨g, o, none⟩) (hb g hlt rfl)
    rw [e, e, e]
    exact h j hj
theorem At3.below (h : At3 w v l) (hb : Below m w w') (hn : w.heap.size ≤ m) : At3 w' v l := h.same fun g hg _ => hb.block g (by omega)
theorem At3.slice (h : At3 w v l) : ∃ a c, v = .slice a l.length c := by
  rcases h with ⟨rfl, a, c, rfl⟩ | ⟨g, o, c, rfl, _⟩
  · exact ⟨_, _, rfl⟩
  · exact ⟨_, _, rfl⟩
theorem At3.nil (W : World) : At3 W (.slice none 0 0) [] := .inl ⟨rfl, _, _, rfl⟩
end
theorem Tryd.info24 : (Tryd.prog.info? 24).map (fun i => (i.zero, i.size, i.bytes)) = some (some (.agg #[.int .u8 0, .string ⟨#[]⟩, .int .i64 0]), 3, 32) := by kernel_rfl
theorem Tryd.info28 : (Tryd.prog.info? 28).map (fun i => (i.zero, i.size, i.bytes)) = some (some (.agg #[.int .u8 0, .string ⟨#[]⟩, .int .i64 0]), 3, 32) := by kernel_rfl
theorem cells_new3 (W : World) (x0 x1 x2 : Value) (t : TypeId) : ∀ j u, [x0, x1, x2][j]? = some u → (W.alloc (.cells #[x0, x1, x2] t)).cell? ((⟨W.heap.size, 0, none⟩ : Addr).add j) = some u := by
  intro j u hj
  have hadd : (⟨W.heap.size, 0, none⟩ : Addr).add j = ⟨W.heap.size, j, none⟩ := by unfold Addr.add; split <;> simp_all
  rw [hadd, World.cell?_alloc_mark]
  match j, hj with
  | 0, hj => exact hj
  | 1, hj => exact hj
  | 2, hj => exact hj
theorem one3 (k : Int) (p : ByteArray) (a : Int) : ∀ u ∈ [Value.int .u8 k, Value.string p, Value.int .i64 a], u.oneCell' = true := by
  intro u hu
  rcases List.mem_cons.1 hu with rfl | hu
  · rfl
  rcases List.mem_cons.1 hu with rfl | hu
  · rfl
  rcases List.mem_singleton.1 hu with rfl
  rfl
end Go.Proofs.YtkbifmgddbilmaaDoor
