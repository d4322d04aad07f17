/- Rows of two cells: labels, samples, series: slices that are owned, slices that are read. -/
import Derived.Test.YtioflicmpnkfeaaGreatAl
namespace Go.Proofs.YtioflicmpnkfeaaGreat
open Go.ChangeShapes Go.WideShapes Go.Deep Go.RowKit
set_option maxRecDepth 100000
/-- A label. -/
structure Lb where
  n : ByteArray
  v : ByteArray
/-- A sample: its time, its bits. -/
structure Sm where
  t : Int
  b : Nat
structure Sr where
  ls : List Lb
  ss : List Sm
abbrev Pv := Value × Value
/-- The cells of pairs. -/
def prs (l : List Pv) : List Value := l.flatMap fun p => [p.1, p.2]
theorem prs_append (l : List Pv) (p : Pv) : prs (l ++ [p]) = prs l ++ [p.1, p.2] := by simp [prs]
theorem prs_app (a b : List Pv) : prs (a ++ b) = prs a ++ prs b := by simp [prs]
theorem prs_cons (p : Pv) (r : List Pv) : prs (p :: r) = [p.1, p.2] ++ prs r := rfl
theorem prs_len (l : List Pv) : (prs l).length = l.length * 2 := by
  induction l with
  | nil => rfl
  | cons f r ih => rw [prs_cons, List.length_append, ih, List.length_cons, List.length_cons, List.length_cons, List.length_nil]; omega
theorem prs_at : ∀ (l : List Pv) (j : Nat) (h : j < l.length), (prs l)[j * 2]? = some l[j].1 ∧ (prs l)[j * 2 + 1]? = some l[j].2
  | [], j, h => by simp at h
  | f :: r, 0, _ => ⟨rfl, rfl⟩
  | f :: r, j + 1, h => by
    have ih := prs_at r j (by simpa using h)
    rw [prs_cons, show (j + 1) * 2 = j * 2 + 2 by omega, List.getElem?_append_right (by simp), show j * 2 + 2 + 1 = j * 2 + 1 + 2 by omega, List.getElem?_append_right (by simp)]
    simpa using ih
theorem prs_cell : ∀ (l : List Pv) (j : Nat) (u : Value), (prs l)[j]? = some u → ∃ (q : Nat) (h : q < l.length), (j = q * 2 ∧ u = l[q].1) ∨ (j = q * 2 + 1 ∧ u = l[q].2)
  | [], j, u, h => by simp [prs] at h
  | f :: r, 0, u, h => ⟨0, by simp, .inl ⟨rfl, by
      have e : (prs (f :: r))[0]? = some f.1 := rfl
      rw [e] at h
      exact (Option.some.inj h).symm⟩⟩
  | f :: r, 1, u, h => ⟨0, by simp, .inr ⟨rfl, by
      have e : (prs (f :: r))[1]? = some f.2 := rfl
      rw [e] at h
      exact (Option.some.inj h).symm⟩⟩
  | f :: r, j + 2, u, h => by
    rw [prs_cons, List.getElem?_append_right (by simp)] at h
    obtain ⟨q, hq, hh⟩ := prs_cell r j u (by simpa using h)
    refine ⟨q + 1, by simpa using hq, ?_⟩
    rcases hh with ⟨rfl, rfl⟩ | ⟨rfl, rfl⟩
    · exact .inl ⟨by omega, rfl⟩
    · exact .inr ⟨by omega, rfl⟩
/-- The call owns pairs. -/
def O2 (E : TypeId) (w : World) (base : Nat) (v : Value) (l : List Pv) : Prop := w.ownsRow base E 2 v l.length (prs l)
/-- Pairs, read wherever they begin. -/
def At2 (W : World) (v : Value) (l : List Pv) : Prop :=
  (l = [] ∧ ∃ a c, v = .slice a 0 c) ∨ ∃ g o c, v = .slice (some ⟨g, o, none⟩) l.length c ∧ ∀ j (h : j < l.length), W.cell? ⟨g, o + j * 2, none⟩ = some l[j].1 ∧ W.cell? ⟨g, o + j * 2 + 1, none⟩ = some l[j].2
theorem ownsRow_same {w w' : World} {base e z n : Nat} {v : Value} {xs : List Value} (h : w.ownsRow base e z v n xs) (hb : ∀ g, g < w.heap.size → v.ownBlock = some g → w'.heap[g]? = w.heap[g]?) : w'.ownsRow base e z v n xs := by
  obtain ⟨h1, h2⟩ := h
  refine ⟨h1, h2.imp id ?_⟩
  rintro ⟨g, cap, cur, rfl, hb', hh, rest⟩
  exact ⟨g, cap, cur, rfl, hb', (hb g (Array.getElem?_eq_some_iff.1 hh).1 rfl).trans hh, rest⟩
/-- The block of a row bears the element's type. -/
theorem own_mark {w : World} {base e z n : Nat} {v : Value} {xs : List Value} (h : w.ownsRow base e z v n xs) : ∀ g, v.ownBlock = some g → ∃ cur, w.heap[g]? = some (.cells cur e) := by
  intro k hk
  rcases h.2 with ⟨rfl, _⟩ | ⟨g, cap, cur, rfl, hb, hh, _⟩
  · simp [Value.ownBlock] at hk
  · simp [Value.ownBlock] at hk
    subst hk
    exact ⟨cur, hh⟩
section
variable {E : TypeId} {w w' : World} {base b m : Nat} {v : Value} {l : List Pv}
theorem O2.shape (h : O2 E w base v l) : ∃ a c, v = .slice a l.length c := ownsRow_shape h
theorem O2.same (h : O2 E w base v l) (hb : ∀ g, g < w.heap.size → v.ownBlock = some g → w'.heap[g]? = w.heap[g]?) : O2 E w' base v l := ownsRow_same h hb
theorem O2.below (h : O2 E w base v l) (hb : Below m w w') (hn : w.heap.size ≤ m) : O2 E w' base v l := ownsRow_below h hb hn
theorem O2.mono (h : O2 E w base v l) (hb : b ≤ base) : O2 E w b v l := ownsRow_mono h hb
theorem O2.lt (h : O2 E w base v l) : ∀ g, v.ownBlock = some g → base ≤ g ∧ g < w.heap.size := own_lt h
theorem O2.nil (E : TypeId) (w : World) (base : Nat) : O2 E w base (.slice none 0 0) [] := ⟨rfl, .inl ⟨rfl, rfl⟩⟩
theorem O2.empty (E : TypeId) (w : World) (base : Nat) (hb : base ≤ w.heap.size) : O2 E (w.alloc (.cells #[] E)) base (.slice (some ⟨w.heap.size, 0, none⟩) 0 0) [] :=
  ⟨rfl, .inr ⟨w.heap.size, 0, #[], rfl, hb, heap_alloc_new w _, by simp, by simp [maxLen], by simp, by simp [prs]⟩⟩
theorem O2.one (E : TypeId) (w : World) (base : Nat) (hb : base ≤ w.heap.size) (x y : Value) : O2 E (w.alloc (.cells #[x, y] E)) base (.slice (some ⟨w.heap.size, 0, none⟩) 1 1) [(x, y)] :=
  ⟨rfl, .inr ⟨w.heap.size, 1, #[x, y], rfl, hb, heap_alloc_new w _, by simp, by simp [maxLen], by simp, by simp [prs]⟩⟩
theorem O2.at (h : O2 E w base v l) : At2 w v l := by
  have h0 := h
  unfold O2 at h0
  rcases h0.2 with ⟨rfl, hn⟩ | ⟨g, cap, cur, rfl, _⟩
  · exact .inl ⟨List.eq_nil_of_length_eq_zero hn, _, _, rfl⟩
  · refine .inr ⟨g, 0, cap, rfl, fun j hj => ?_⟩
    obtain ⟨c0, c1⟩ := prs_at l j hj
    simp only [Nat.zero_add]
    rw [h0.cellAt _ (by omega), h0.cellAt _ (by omega)]
    exact ⟨c0, c1⟩
/-- A row is no block of another type. -/
theorem O2.ne (h : O2 E w base v l) {B : Nat} {cur : Array Value} {E' : TypeId} (hB : w.heap[B]? = some (.cells cur E')) (hE : E ≠ E') : v.ownBlock ≠ some B := by
  intro e
  obtain ⟨c2, h2⟩ := own_mark h B e
  rw [h2] at hB
  cases hB
  exact hE rfl
theorem At2.same (h : At2 w v l) (hb : ∀ g, g < w.heap.size → v.ownBlock = some g → w'.heap[g]? = w.heap[g]?) : At2 w' v l := by
  rcases h with h | ⟨g, o, c, rfl, h⟩
  · exact .inl h
  · refine .inr ⟨g, o, c, rfl, fun j hj => ?_⟩
    have hlt := World.block_lt_of_cell? w ⟨g, _, none⟩ (h j hj).1
    have e : ∀ o, w'.cell? ⟨g, o, none⟩ = w.cell? ⟨g, o, none⟩ := fun o => World.cell?_of_block (a := ⟨g, o, none⟩) (hb g hlt rfl)
    rw [e, e]
    exact h j hj
theorem At2.below (h : At2 w v l) (hb : Below m w w') (hn : w.heap.size ≤ m) : At2 w' v l := h.same fun g hg _ => hb.block g (by omega)
theorem At2.slice (h : At2 w v l) : ∃ a c, v = .slice a l.length c := by
  rcases h with ⟨rfl, a, c, rfl⟩ | ⟨g, o, c, rfl, _⟩
  · exact ⟨_, _, rfl⟩
  · exact ⟨_, _, rfl⟩
theorem At2.nil (W : World) : At2 W (.slice none 0 0) [] := .inl ⟨rfl, _, _, rfl⟩
theorem At2.src (h : At2 w v l) : (∃ c, v = .slice none 0 c ∧ l = []) ∨ ∃ ad c, v = .slice (some ad) l.length c ∧ ∀ j u, (prs l)[j]? = some u → w.cell? (ad.add j) = some u := by
  rcases h with ⟨rfl, a, c, rfl⟩ | ⟨g, o, c, rfl, hc⟩
  · cases a with
    | none => exact .inl ⟨c, rfl, rfl⟩
    | some ad => exact .inr ⟨ad, c, rfl, fun j u hj => by simp [prs] at hj⟩
  · refine .inr ⟨⟨g, o, none⟩, c, rfl, fun j u hj => ?_⟩
    obtain ⟨q, hq, hh⟩ := prs_cell l j u hj
    rw [Go.WideShapes.add_plain]
    rcases hh with ⟨rfl, rfl⟩ | ⟨rfl, rfl⟩
    · exact (hc q hq).1
    · rw [← Nat.add_assoc]; exact (hc q hq).2
end
def lp (x : Lb) : Pv := (.string x.n, .string x.v)
def sp (x : Sm) : Pv := (.int .i64 x.t, .int .u64 (x.b : Int))
/-- Labels, samples: owned, read. -/
def Ol (w : World) (base : Nat) (v : Value) (l : List Lb) : Prop := O2 35 w base v (l.map lp)
def Om (w : World) (base : Nat) (v : Value) (l : List Sm) : Prop := O2 54 w base v (l.map sp)
def LAt (w : World) (v : Value) (l : List Lb) : Prop := At2 w v (l.map lp)
def MAt (w : World) (v : Value) (l : List Sm) : Prop := At2 w v (l.map sp)
/-- A series as a call has it: what it is, and where its parts lie. -/
structure Zr where
  x : Sr
  a : Value
  b : Value
def zp (z : Zr) : Pv := (z.a, z.b)
/-- Series: owned with all their parts; read. -/
structure Osr (w : World) (base : Nat) (v : Value) (zs : List Zr) : Prop where
  row : O2 29 w base v (zs.map zp)
  ls : ∀ z ∈ zs, Ol w base z.a z.x.ls
  ss : ∀ z ∈ zs, Om w base z.b z.x.ss
structure SAt (w : World) (v : Value) (zs : List Zr) : Prop where
  row : At2 w v (zs.map zp)
  ls : ∀ z ∈ zs, LAt w z.a z.x.ls
  ss : ∀ z ∈ zs, MAt w z.b z.x.ss
theorem Osr.at {w : World} {base : Nat} {v : Value} {zs : List Zr} (h : Osr w base v zs) : SAt w v zs := ⟨h.row.at, fun z hz => (h.ls z hz).at, fun z hz => (h.ss z hz).at⟩
theorem Osr.below {w w' : World} {base m : Nat} {v : Value} {zs : List Zr} (h : Osr w base v zs) (hb : Below m w w') (hn : w.heap.size ≤ m) : Osr w' base v zs :=
  ⟨h.row.below hb hn, fun z hz => O2.below (h.ls z hz) hb hn, fun z hz => O2.below (h.ss z hz) hb hn⟩
theorem Osr.mono {w : World} {base b : Nat} {v : Value} {zs : List Zr} (h : Osr w base v zs) (hb : b ≤ base) : Osr w b v zs :=
  ⟨h.row.mono hb, fun z hz => O2.mono (h.ls z hz) hb, fun z hz => O2.mono (h.ss z hz) hb⟩
theorem SAt.below {w w' : World} {m : Nat} {v : Value} {zs : List Zr} (h : SAt w v zs) (hb : Below m w w') (hn : w.heap.size ≤ m) : SAt w' v zs :=
  ⟨h.row.below hb hn, fun z hz => At2.below (h.ls z hz) hb hn, fun z hz => At2.below (h.ss z hz) hb hn⟩
theorem Osr.shape {w : World} {base : Nat} {v : Value} {zs : List Zr} (h : Osr w base v zs) : ∃ a c, v = .slice a zs.length c := by
  have := h.row.shape
  rwa [List.length_map] at this
theorem SAt.slice {w : World} {v : Value} {zs : List Zr} (h : SAt w v zs) : ∃ a c, v = .slice a zs.length c := by
  have := h.row.slice
  rwa [List.length_map] at this
theorem Osr.nil (w : World) (base : Nat) : Osr w base (.slice none 0 0) [] := ⟨O2.nil _ _ _, fun z hz => (by cases hz), fun z hz => (by cases hz)⟩
theorem SAt.nil (w : World) : SAt w (.slice none 0 0) [] := (Osr.nil w 0).at
/-- What a call tells that gathers rows of two cells. -/
def Tells2 (E : TypeId) (w : World) (xs : List Pv) (k : Nat) (e : Ending) (w' : World) : Prop := ∃ v, e = .returned (.tuple #[v, .int .i64 (k : Int)]) ∧ O2 E w' w.heap.size v xs ∧ Below w.heap.size w w'
theorem Tryz.info35 : (Tryz.prog.info? 35).map (fun i => (i.zero, i.size, i.bytes)) = some (some (.agg #[.string ⟨#[]⟩, .string ⟨#[]⟩]), 2, 32) := by kernel_rfl
theorem Tryz.info54 : (Tryz.prog.info? 54).map (fun i => (i.zero, i.size, i.bytes)) = some (some (.agg #[.int .i64 0, .int .u64 0]), 2, 16) := by kernel_rfl
theorem Tryz.info29 : (Tryz.prog.info? 29).map (fun i => (i.zero, i.size, i.bytes)) = some (some (.agg #[.slice none 0 0, .slice none 0 0]), 2, 48) := by kernel_rfl
end Go.Proofs.YtioflicmpnkfeaaGreat
