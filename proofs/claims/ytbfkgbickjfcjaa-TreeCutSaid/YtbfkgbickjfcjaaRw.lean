/- Rows of structs of one-cell fields: read, owned, appended to. Over this program. -/
import Derived.Test.YtbfkgbickjfcjaaTb
import Derived.Maps.AppendAt
import Derived.Maps.OwnIn
import Derived.Deep.AppendSrc
import Derived.Deep.Slices
import Derived.Deep.Fields
import Derived.ProofKit
import Derived.OpenShut
import Derived.Lib.BufferWrite
namespace Go.Proofs.Ytbfkgbickjfcjaa
set_option linter.unusedVariables false
set_option linter.unusedSimpArgs false
open Go.ChangeShapes Go.WideShapes Go.Deep Go.RowKit
set_option maxRecDepth 100000
structure Ev where
  rev : Int
  del : Bool
  k : ByteArray
  v : ByteArray
structure Cn where
  k : ByteArray
  mod : Int
structure Op' where
  del : Bool
  k : ByteArray
  v : ByteArray
def encE (x : En) : List Value := [.string x.k, .string x.v, .int .i64 x.made, .int .i64 x.mod]
def encV (x : Ev) : List Value := [.int .i64 x.rev, .bool x.del, .string x.k, .string x.v]
def encC (x : Cn) : List Value := [.string x.k, .int .i64 x.mod]
def encO (x : Op') : List Value := [.bool x.del, .string x.k, .string x.v]
section
variable {α : Type} {enc : α → List Value} {z : Nat}
def cz (enc : α → List Value) (l : List α) : List Value := l.flatMap enc
theorem cz_app (a b : List α) : cz enc (a ++ b) = cz enc a ++ cz enc b := by simp [cz]
theorem cz_one (x : α) : cz enc [x] = enc x := by simp [cz]
theorem cz_len (hz : ∀ x, (enc x).length = z) (l : List α) : (cz enc l).length = l.length * z := by
  induction l with
  | nil => simp [cz]
  | cons f r ih =>
    have e : cz enc (f :: r) = enc f ++ cz enc r := rfl
    rw [e, List.length_append, ih, hz, List.length_cons, Nat.succ_mul]; omega
theorem cz_at (hz : ∀ x, (enc x).length = z) : ∀ (l : List α) (j : Nat) (h : j < l.length) (i : Nat), i < z → (cz enc l)[j * z + i]? = (enc l[j])[i]?
  | [], j, h, _, _ => by simp at h
  | f :: r, 0, _, i, hi => by
    have e : cz enc (f :: r) = enc f ++ cz enc r := rfl
    rw [e, Nat.zero_mul, Nat.zero_add, List.getElem?_append_left (by rw [hz]; exact hi)]; rfl
  | f :: r, j + 1, h, i, hi => by
    have ih := cz_at hz r j (by simpa using h) i hi
    have e : cz enc (f :: r) = enc f ++ cz enc r := rfl
    rw [e, show (j + 1) * z + i = j * z + i + z by rw [Nat.succ_mul]; omega, List.getElem?_append_right (by rw [hz]; omega), hz, Nat.add_sub_cancel]
    simpa using ih
/-- A row, read wherever it begins. -/
def RAt (enc : α → List Value) (W : World) (v : Value) (l : List α) : Prop :=
  (l = [] ∧ ∃ a c, v = .slice a 0 c) ∨ ∃ g o c, v = .slice (some ⟨g, o, none⟩) l.length c ∧ g < W.heap.size ∧ ∀ j u, (cz enc l)[j]? = some u → W.cell? ⟨g, o + j, none⟩ = some u
theorem RAt.same {W W' : World} {v : Value} {l : List α} (h : RAt enc W v l) (hs : W.heap.size ≤ W'.heap.size) (hb : ∀ g, g < W.heap.size → v.ownBlock = some g → W'.heap[g]? = W.heap[g]?) : RAt enc W' v l := by
  rcases h with h | ⟨g, o, c, rfl, hg, h⟩
  · exact .inl h
  · refine .inr ⟨g, o, c, rfl, by omega, fun j u hj => ?_⟩
    rw [World.cell?_of_block (a := ⟨g, o + j, none⟩) (hb g hg rfl)]
    exact h j u hj
theorem RAt.below {W W' : World} {v : Value} {l : List α} (h : RAt enc W v l) (hb : Below W.heap.size W W') : RAt enc W' v l := h.same hb.size fun g hg _ => hb.block g hg
theorem RAt.slice {W : World} {v : Value} {l : List α} (h : RAt enc W v l) : ∃ a c, v = .slice a l.length c := by
  rcases h with ⟨rfl, a, c, rfl⟩ | ⟨g, o, c, rfl, _⟩
  · exact ⟨_, _, rfl⟩
  · exact ⟨_, _, rfl⟩
theorem RAt.nil (W : World) : RAt enc W (.slice none 0 0) [] := .inl ⟨rfl, _, _, rfl⟩
theorem RAt.pos {W : World} {v : Value} {l : List α} (h : RAt enc W v l) (hl : l ≠ []) : ∃ g o c, v = .slice (some ⟨g, o, none⟩) l.length c ∧ g < W.heap.size ∧ ∀ j u, (cz enc l)[j]? = some u → W.cell? ⟨g, o + j, none⟩ = some u := h.resolve_left fun e => hl e.1
/-- The call owns the row. -/
def Ow (e z : Nat) (enc : α → List Value) (w : World) (base : Nat) (v : Value) (l : List α) : Prop := w.ownsRow base e z v l.length (cz enc l)
variable {e : Nat}
theorem Ow.shape {w : World} {base : Nat} {v : Value} {l : List α} (h : Ow e z enc w base v l) : ∃ a c, v = .slice a l.length c := by
  rcases h.2 with ⟨rfl, hn⟩ | ⟨g, cap, cur, rfl, _⟩
  · exact ⟨_, _, by rw [hn]⟩
  · exact ⟨_, _, rfl⟩
theorem Ow.kept {w w' : World} {base : Nat} {v : Value} {l : List α} (h : Ow e z enc w base v l) (hb : ∀ g, g < w.heap.size → v.ownBlock = some g → w'.heap[g]? = w.heap[g]?) : Ow e z enc w' base v l := by
  obtain ⟨h1, h2⟩ := h
  refine ⟨h1, h2.imp id ?_⟩
  rintro ⟨g, cap, cur, rfl, hb', hh, rest⟩
  exact ⟨g, cap, cur, rfl, hb', (hb g (Array.getElem?_eq_some_iff.1 hh).1 rfl).trans hh, rest⟩
theorem Ow.below {w w' : World} {base : Nat} {v : Value} {l : List α} (h : Ow e z enc w base v l) (hb : Below w.heap.size w w') : Ow e z enc w' base v l := h.kept fun g hg _ => hb.block g hg
theorem Ow.mono {w : World} {base b : Nat} {v : Value} {l : List α} (h : Ow e z enc w base v l) (hb : b ≤ base) : Ow e z enc w b v l := by
  obtain ⟨h1, h2⟩ := h
  refine ⟨h1, h2.imp id ?_⟩
  rintro ⟨g, cap, cur, rfl, hg, rest⟩
  exact ⟨g, cap, cur, rfl, Nat.le_trans hb hg, rest⟩
theorem Ow.lt {w : World} {base : Nat} {v : Value} {l : List α} (h : Ow e z enc w base v l) : ∀ g, v.ownBlock = some g → base ≤ g ∧ g < w.heap.size := by
  intro k hk
  rcases h.2 with ⟨rfl, _⟩ | ⟨g, cap, cur, rfl, hb, hh, _⟩
  · simp [Value.ownBlock] at hk
  · simp [Value.ownBlock] at hk
    subst hk
    exact ⟨hb, (Array.getElem?_eq_some_iff.1 hh).1⟩
theorem Ow.obj {w : World} {base : Nat} {v : Value} {l : List α} (h : Ow e z enc w base v l) : ∀ g, v.ownBlock = some g → ∃ cur, w.heap[g]? = some (.cells cur e (0, 0)) := by
  intro k hk
  rcases h.2 with ⟨rfl, _⟩ | ⟨g, cap, cur, rfl, hb, hh, _⟩
  · simp [Value.ownBlock] at hk
  · simp [Value.ownBlock] at hk
    subst hk
    exact ⟨_, hh⟩
theorem Ow.nil (w : World) (base : Nat) : Ow e z enc w base (.slice none 0 0) [] := ⟨by simp [cz], .inl ⟨rfl, rfl⟩⟩
theorem Ow.at {w : World} {base : Nat} {v : Value} {l : List α} (h : Ow e z enc w base v l) : RAt enc w v l := by
  rcases h with ⟨h1, ⟨rfl, hn⟩ | ⟨g, cap, cur, rfl, hb, hh, hn, hc, hs, ht⟩⟩
  · exact .inl ⟨List.eq_nil_of_length_eq_zero hn, _, _, rfl⟩
  · refine .inr ⟨g, 0, cap, rfl, (Array.getElem?_eq_some_iff.1 hh).1, fun j u hj => ?_⟩
    rw [← ht, List.getElem?_take] at hj
    split at hj
    · simp only [World.cell?, hh, Nat.zero_add]
      simpa using hj
    · cases hj
theorem grown_trans {w w' w'' : World} {r : Option Nat} (h : w.grownBy w' r) (k : w'.grownBy w'' r) : w.grownBy w'' r :=
  ⟨k.os.trans h.os, k.tape.trans h.tape, k.output.trans h.output, Nat.le_trans h.size k.size, fun i hi hr => (k.block i (Nat.lt_of_lt_of_le hi h.size) hr).trans (h.block i hi hr)⟩
theorem grown_below {w w' : World} (h : Below w.heap.size w w') (r : Option Nat) : w.grownBy w' r := ⟨h.os, h.tape, h.output, h.size, fun i hi _ => h.block i hi⟩
theorem below_grown {w w' : World} {r : Option Nat} (h : w.grownBy w' r) {n : Nat} (hn : n ≤ w.heap.size) (hr : ∀ g, r = some g → n ≤ g) : Below n w w' :=
  ⟨h.os, h.tape, h.output, h.size, fun i hi => h.block i (by omega) (fun e => by have := hr i e.symm; omega)⟩
theorem grown_setC (w : World) (b o : Nat) (v : Value) : w.grownBy (w.setCell ⟨b, o, none⟩ v) (some b) := Lib.grownBy_setCell w b o v
end
end Go.Proofs.Ytbfkgbickjfcjaa
