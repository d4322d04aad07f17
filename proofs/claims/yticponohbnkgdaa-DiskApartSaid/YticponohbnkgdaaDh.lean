/- Slices of tapes, read. -/
import Derived.Test.YticponohbnkgdaaDg
namespace Go.Proofs.Yticponohbnkgdaa
open Go Go.RowKit
set_option maxRecDepth 100000
abbrev Pv := Value × Value
/-- Pairs, read wherever they begin. -/
def At2 (W : World) (v : Value) (l : List Pv) : Prop :=
  (l = [] ∧ ∃ a c, v = .slice a 0 c) ∨ ∃ g o c, v = .slice (some ⟨g, o, none⟩) l.length c ∧ ∀ j (h : j < l.length), W.cell? ⟨g, o + j * 2, none⟩ = some l[j].1 ∧ W.cell? ⟨g, o + j * 2 + 1, none⟩ = some l[j].2
section
variable {w w' : World} {m : Nat} {v : Value} {l : List Pv}
theorem At2.same (h : At2 w v l) (hb : ∀ g, g < w.heap.size → v.ownBlock = some g → w'.heap[g]? = w.heap[g]?) : At2 w' v l := by
  rcases h with h | ⟨g, o, c, rfl, h⟩
  · exact .inl h
  · refine .inr ⟨g, o, c, rfl, fun j hj => ?_⟩
    have hlt := World.block_lt_of_cell? w ⟨g, _, none⟩ (h j hj).1
    have e : ∀ o, w'.cell? ⟨g, o, none⟩ = w.cell? ⟨g, o, none⟩ := fun o => World.cell?_of_block (a := ⟨g, o, none⟩) (hb g hlt rfl)
    rw [e, e]
    exact h j hj
theorem At2.below (h : At2 w v l) (hb : Below m w w') (hn : w.heap.size ≤ m) : At2 w' v l := h.same fun g hg _ => hb.block g (by omega)
theorem At2.slice (h : At2 w v l) : ∃ a c, v = .slice a l.length c := by
  rcases h with ⟨rfl, a, c, rfl⟩ | ⟨g, o, c, rfl, _⟩
  · exact ⟨_, _, rfl⟩
  · exact ⟨_, _, rfl⟩
theorem At2.nil (W : World) : At2 W (.slice none 0 0) [] := .inl ⟨rfl, _, _, rfl⟩
end
/-- A tape that is handed in, or told: firm bytes, loose bytes. -/
structure Tq where
  a : ByteArray
  b : ByteArray
def tq (q : Tq) : Pv := (.string q.a, .string q.b)
def TAt (w : World) (v : Value) (l : List Tq) : Prop := At2 w v (l.map tq)
def ofQ (q : Tq) : Tp := ⟨q.a ++ q.b, q.a.size⟩
def ofT (l : List Tq) : Nat → Tp := fun i => match l[i]? with | some q => ofQ q | none => t0
def tooLong (q : Tq) : Bool := decide (1048576 < q.b.size + q.a.size)
def made0 (cap : Nat) (l : List Tq) : Dk := ⟨cap, ofT l, false, false, 0⟩
def loadE (cap : Int) (l : List Tq) : Nat := if cap < 0 ∨ 32 < l.length then 1 else if l.any tooLong = true then 40 else if cap.toNat < (made0 cap.toNat l).used then 44 else 0
theorem ofT_snoc (l : List Tq) (k : Nat) (hk : k < l.length) : ofT (l.take (k + 1)) = upd (ofT (l.take k)) k (ofQ l[k]) := by
  funext j
  show (match (l.take (k + 1))[j]? with | some q => ofQ q | none => t0) = if j = k then ofQ l[k] else (match (l.take k)[j]? with | some q => ofQ q | none => t0)
  by_cases e : j = k
  · subst e
    rw [if_pos rfl, List.getElem?_take_of_lt (by omega), List.getElem?_eq_getElem hk]
  · rw [if_neg e]
    rcases Nat.lt_or_ge j k with h | h
    · rw [List.getElem?_take_of_lt (by omega), List.getElem?_take_of_lt h]
    · rw [List.getElem?_eq_none (by simp; omega), List.getElem?_eq_none (by simp; omega)]
theorem ofT_size {l : List Tq} (h : ∀ q ∈ l, q.a.size + q.b.size ≤ 1048576) (i : Nat) : (ofT l i).ok := by
  unfold ofT
  cases hi : l[i]? with
  | none => exact ⟨Nat.le_refl _, by decide⟩
  | some q =>
    have := h q (List.mem_of_getElem? hi)
    exact ⟨by show q.a.size ≤ (q.a ++ q.b).size; rw [ByteArray.size_append]; omega, by show (q.a ++ q.b).size ≤ _; rw [ByteArray.size_append]; exact this⟩
end Go.Proofs.Yticponohbnkgdaa
