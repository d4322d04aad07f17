/- Fields of the program, and of the document, as the calls have them: values, slices that are owned, slices that are read. -/
import Derived.Test.YtioflicmpnkfeaaGreatRd
import Derived.Test.YtioflicmpnkfeaaGreatRv
import Derived.Test.YtioflicmpnkfeaaGreatPg
import Derived.Deep.RegionLaw
import Derived.Laws.MakeOwn
import Derived.Deep.Slices
import Derived.Deep.Fields
import Derived.ProofKit
import Derived.OpenShut
namespace Go.Proofs.YtioflicmpnkfeaaGreat
open Go.ChangeShapes Go.WideShapes Go.Deep Go.RowKit
/-- A value that a field has: none, one of the four, one of another package. -/
inductive Vl
  | no | va (n : Nat) | ei (n : Nat) | tx (t : ByteArray) | fo (n : Nat) | an (k : Int)
def Vl.v : Vl → Value
  | .no => .nilIface
  | .va n => .iface 84 (.int .u64 n)
  | .ei n => .iface 86 (.int .u64 n)
  | .tx t => .iface 59 (.string t)
  | .fo n => .iface 101 (.int .u32 n)
  | .an k => .iface 9083 (.agg #[.int .u8 k])
/-- A field of the program. -/
structure Gf where
  n : Int
  v : Vl
/-- A field of the document. -/
structure Ff where
  n : Int
  w : Nat
  v : Nat
  t : ByteArray
def gv (f : Gf) : Value := .agg #[.int .i64 f.n, f.v.v]
def fv (f : Ff) : Value := .agg #[.int .i64 f.n, .int .u8 f.w, .int .u64 f.v, .string f.t]
/-- Values within their kinds. -/
def Vl.ok : Vl → Prop
  | .va n => n < 18446744073709551616
  | .ei n => n < 18446744073709551616
  | .tx t => t.size ≤ 1000000000000
  | .fo n => n < 4294967296
  | _ => True
structure Gf.ok (f : Gf) : Prop where
  n0 : -9223372036854775808 ≤ f.n
  n1 : f.n ≤ 9223372036854775807
  v : f.v.ok
structure Ff.ok (f : Ff) : Prop where
  n0 : -9223372036854775808 ≤ f.n
  n1 : f.n ≤ 9223372036854775807
  w : f.w < 256
  v : f.v < 18446744073709551616
  t : f.t.size ≤ 1000000000000
def cells2 (l : List Gf) : List Value := l.flatMap fun f => [.int .i64 f.n, f.v.v]
def cells4 (l : List Ff) : List Value := l.flatMap fun f => [.int .i64 f.n, .int .u8 f.w, .int .u64 f.v, .string f.t]
theorem cells2_append (l : List Gf) (p : Gf) : cells2 (l ++ [p]) = cells2 l ++ [.int .i64 p.n, p.v.v] := by simp [cells2]
theorem cells4_append (l : List Ff) (p : Ff) : cells4 (l ++ [p]) = cells4 l ++ [.int .i64 p.n, .int .u8 p.w, .int .u64 p.v, .string p.t] := by simp [cells4]
theorem cells2_at : ∀ (l : List Gf) (j : Nat) (h : j < l.length), (cells2 l)[j * 2]? = some (.int .i64 l[j].n) ∧ (cells2 l)[j * 2 + 1]? = some l[j].v.v
  | [], j, h => by simp at h
  | f :: r, 0, _ => ⟨rfl, rfl⟩
  | f :: r, j + 1, h => by
    have ih := cells2_at r j (by simpa using h)
    have e : cells2 (f :: r) = [.int .i64 f.n, f.v.v] ++ cells2 r := rfl
    rw [e, show (j + 1) * 2 = j * 2 + 2 by omega, List.getElem?_append_right (by simp), show j * 2 + 2 + 1 = j * 2 + 1 + 2 by omega, List.getElem?_append_right (by simp)]
    simpa using ih
theorem cells4_at : ∀ (l : List Ff) (j : Nat) (h : j < l.length), (cells4 l)[j * 4]? = some (.int .i64 l[j].n) ∧ (cells4 l)[j * 4 + 1]? = some (.int .u8 l[j].w) ∧ (cells4 l)[j * 4 + 2]? = some (.int .u64 l[j].v) ∧ (cells4 l)[j * 4 + 3]? = some (.string l[j].t)
  | [], j, h => by simp at h
  | f :: r, 0, _ => ⟨rfl, rfl, rfl, rfl⟩
  | f :: r, j + 1, h => by
    have ih := cells4_at r j (by simpa using h)
    have e : cells4 (f :: r) = [.int .i64 f.n, .int .u8 f.w, .int .u64 f.v, .string f.t] ++ cells4 r := rfl
    rw [e, show (j + 1) * 4 = j * 4 + 4 by omega, List.getElem?_append_right (by simp), show j * 4 + 4 + 1 = j * 4 + 1 + 4 by omega, List.getElem?_append_right (by simp), show j * 4 + 4 + 2 = j * 4 + 2 + 4 by omega, List.getElem?_append_right (by simp), show j * 4 + 4 + 3 = j * 4 + 3 + 4 by omega, List.getElem?_append_right (by simp)]
    simpa using ih
/-- The call owns the program's fields l. -/
def Og (w : World) (base : Nat) (v : Value) (l : List Gf) : Prop := w.ownsRow base 63 2 v l.length (cells2 l)
/-- The call owns the document's fields l. -/
def Of (w : World) (base : Nat) (v : Value) (l : List Ff) : Prop := w.ownsRow base 47 4 v l.length (cells4 l)
theorem Tryz.info63 : (Tryz.prog.info? 63).map (fun i => (i.zero, i.size, i.bytes)) = some (some (.agg #[.int .i64 0, .nilIface]), 2, 24) := by kernel_rfl
theorem Tryz.info47 : (Tryz.prog.info? 47).map (fun i => (i.zero, i.size, i.bytes)) = some (some (.agg #[.int .i64 0, .int .u8 0, .int .u64 0, .string ⟨#[]⟩]), 4, 40) := by kernel_rfl
theorem ownsRow_shape {w : World} {base e z n : Nat} {v : Value} {xs : List Value} (h : w.ownsRow base e z v n xs) : ∃ a c, v = .slice a n c := by
  rcases h.2 with ⟨rfl, hn⟩ | ⟨g, cap, cur, rfl, _⟩
  · exact ⟨_, _, by rw [hn]⟩
  · exact ⟨_, _, rfl⟩
theorem ownsRow_below {w w' : World} {base e z n m : Nat} {v : Value} {xs : List Value} (h : w.ownsRow base e z v n xs) (hb : Below m w w') (hn : w.heap.size ≤ m) : w'.ownsRow base e z v n xs := by
  obtain ⟨h1, h2⟩ := h
  refine ⟨h1, h2.imp id ?_⟩
  rintro ⟨g, cap, cur, e, hb', hh, rest⟩
  exact ⟨g, cap, cur, e, hb', (hb.block g (Nat.lt_of_lt_of_le (Array.getElem?_eq_some_iff.1 hh).1 hn)).trans hh, rest⟩
theorem ownsRow_mono {w : World} {base b e z n : Nat} {v : Value} {xs : List Value} (h : w.ownsRow base e z v n xs) (hb : b ≤ base) : w.ownsRow b e z v n xs := by
  obtain ⟨h1, h2⟩ := h
  refine ⟨h1, h2.imp id ?_⟩
  rintro ⟨g, cap, cur, rfl, hg, rest⟩
  exact ⟨g, cap, cur, rfl, Nat.le_trans hb hg, rest⟩
theorem Og.shape {w : World} {base : Nat} {v : Value} {l : List Gf} (h : Og w base v l) : ∃ a c, v = .slice a l.length c := ownsRow_shape h
theorem Of.shape {w : World} {base : Nat} {v : Value} {l : List Ff} (h : Of w base v l) : ∃ a c, v = .slice a l.length c := ownsRow_shape h
theorem Og.below {w w' : World} {base m : Nat} {v : Value} {l : List Gf} (h : Og w base v l) (hb : Below m w w') (hn : w.heap.size ≤ m) : Og w' base v l := ownsRow_below h hb hn
theorem Of.below {w w' : World} {base m : Nat} {v : Value} {l : List Ff} (h : Of w base v l) (hb : Below m w w') (hn : w.heap.size ≤ m) : Of w' base v l := ownsRow_below h hb hn
theorem Og.mono {w : World} {base b : Nat} {v : Value} {l : List Gf} (h : Og w base v l) (hb : b ≤ base) : Og w b v l := ownsRow_mono h hb
theorem Of.mono {w : World} {base b : Nat} {v : Value} {l : List Ff} (h : Of w base v l) (hb : b ≤ base) : Of w b v l := ownsRow_mono h hb
/-- The program's fields, read wherever they begin. -/
def GAt (W : World) (v : Value) (l : List Gf) : Prop :=
  (l = [] ∧ ∃ a c, v = .slice a 0 c) ∨ ∃ g o c, v = .slice (some ⟨g, o, none⟩) l.length c ∧ ∀ j (h : j < l.length), W.cell? ⟨g, o + j * 2, none⟩ = some (.int .i64 l[j].n) ∧ W.cell? ⟨g, o + j * 2 + 1, none⟩ = some l[j].v.v
/-- The document's fields, read wherever they begin. -/
def FAt (W : World) (v : Value) (l : List Ff) : Prop :=
  (l = [] ∧ ∃ a c, v = .slice a 0 c) ∨ ∃ g o c, v = .slice (some ⟨g, o, none⟩) l.length c ∧ ∀ j (h : j < l.length), W.cell? ⟨g, o + j * 4, none⟩ = some (.int .i64 l[j].n) ∧ W.cell? ⟨g, o + j * 4 + 1, none⟩ = some (.int .u8 l[j].w) ∧ W.cell? ⟨g, o + j * 4 + 2, none⟩ = some (.int .u64 l[j].v) ∧ W.cell? ⟨g, o + j * 4 + 3, none⟩ = some (.string l[j].t)
theorem GAt.same {W W' : World} {v : Value} {l : List Gf} (h : GAt W v l) (hb : ∀ g, g < W.heap.size → v.ownBlock = some g → W'.heap[g]? = W.heap[g]?) : GAt W' v l := by
  rcases h with h | ⟨g, o, c, rfl, h⟩
  · exact .inl h
  · refine .inr ⟨g, o, c, rfl, fun j hj => ?_⟩
    have hlt := World.block_lt_of_cell? W ⟨g, _, none⟩ (h j hj).1
    have e : ∀ o, W'.cell? ⟨g, o, none⟩ = W.cell? ⟨g, o, none⟩ := fun o => World.cell?_of_block (a := ⟨g, o, none⟩) (hb g hlt rfl)
    rw [e, e]
    exact h j hj
theorem FAt.same {W W' : World} {v : Value} {l : List Ff} (h : FAt W v l) (hb : ∀ g, g < W.heap.size → v.ownBlock = some g → W'.heap[g]? = W.heap[g]?) : FAt W' v l := by
  rcases h with h | ⟨g, o, c, rfl, h⟩
  · exact .inl h
  · refine .inr ⟨g, o, c, rfl, fun j hj => ?_⟩
    have hlt := World.block_lt_of_cell? W ⟨g, _, none⟩ (h j hj).1
    have e : ∀ o, W'.cell? ⟨g, o, none⟩ = W.cell? ⟨g, o, none⟩ := fun o => World.cell?_of_block (a := ⟨g, o, none⟩) (hb g hlt rfl)
    rw [e, e, e, e]
    exact h j hj
theorem GAt.below {W W' : World} {v : Value} {l : List Gf} (h : GAt W v l) {n : Nat} (hb : Below n W W') (hn : W.heap.size ≤ n) : GAt W' v l := h.same fun g hg _ => hb.block g (by omega)
theorem FAt.below {W W' : World} {v : Value} {l : List Ff} (h : FAt W v l) {n : Nat} (hb : Below n W W') (hn : W.heap.size ≤ n) : FAt W' v l := h.same fun g hg _ => hb.block g (by omega)
theorem GAt.slice {W : World} {v : Value} {l : List Gf} (h : GAt W v l) : ∃ a c, v = .slice a l.length c := by
  rcases h with ⟨rfl, a, c, rfl⟩ | ⟨g, o, c, rfl, _⟩
  · exact ⟨_, _, rfl⟩
  · exact ⟨_, _, rfl⟩
theorem FAt.slice {W : World} {v : Value} {l : List Ff} (h : FAt W v l) : ∃ a c, v = .slice a l.length c := by
  rcases h with ⟨rfl, a, c, rfl⟩ | ⟨g, o, c, rfl, _⟩
  · exact ⟨_, _, rfl⟩
  · exact ⟨_, _, rfl⟩
theorem GAt.nil (W : World) : GAt W (.slice none 0 0) [] := .inl ⟨rfl, _, _, rfl⟩
theorem FAt.nil (W : World) : FAt W (.slice none 0 0) [] := .inl ⟨rfl, _, _, rfl⟩
theorem Og.at {w : World} {base : Nat} {v : Value} {l : List Gf} (h : Og w base v l) : GAt w v l := by
  have h0 := h
  unfold Og at h0
  rcases h0.2 with ⟨rfl, hn⟩ | ⟨g, cap, cur, rfl, _⟩
  · exact .inl ⟨List.eq_nil_of_length_eq_zero hn, _, _, rfl⟩
  · refine .inr ⟨g, 0, cap, rfl, fun j hj => ?_⟩
    obtain ⟨c0, c1⟩ := cells2_at l j hj
    simp only [Nat.zero_add]
    rw [h0.cellAt _ (by omega), h0.cellAt _ (by omega)]
    exact ⟨c0, c1⟩
theorem Of.at {w : World} {base : Nat} {v : Value} {l : List Ff} (h : Of w base v l) : FAt w v l := by
  have h0 := h
  unfold Of at h0
  rcases h0.2 with ⟨rfl, hn⟩ | ⟨g, cap, cur, rfl, _⟩
  · exact .inl ⟨List.eq_nil_of_length_eq_zero hn, _, _, rfl⟩
  · refine .inr ⟨g, 0, cap, rfl, fun j hj => ?_⟩
    obtain ⟨c0, c1, c2, c3⟩ := cells4_at l j hj
    simp only [Nat.zero_add]
    rw [h0.cellAt _ (by omega), h0.cellAt _ (by omega), h0.cellAt _ (by omega), h0.cellAt _ (by omega)]
    exact ⟨c0, c1, c2, c3⟩
theorem own_lt {w : World} {base e z n : Nat} {v : Value} {xs : List Value} (h : w.ownsRow base e z v n xs) : ∀ g, v.ownBlock = some g → base ≤ g ∧ g < w.heap.size := by
  intro k hk
  rcases h.2 with ⟨rfl, _⟩ | ⟨g, cap, cur, rfl, hb, hh, _⟩
  · simp [Value.ownBlock] at hk
  · simp [Value.ownBlock] at hk
    subst hk
    exact ⟨hb, (Array.getElem?_eq_some_iff.1 hh).1⟩
theorem cells_new21 (W : World) (o : Obj) (x0 x1 : Value) (t : TypeId) : ∀ j u, [x0, x1][j]? = some u → ((W.alloc o).alloc (.cells #[x0, x1] t)).cell? ((⟨W.heap.size + 1, 0, none⟩ : Addr).add j) = some u := by
  intro j u hj
  have hadd : (⟨W.heap.size + 1, 0, none⟩ : Addr).add j = ⟨W.heap.size + 1, j, none⟩ := by unfold Addr.add; split <;> simp_all
  rw [hadd, show W.heap.size + 1 = (W.alloc o).heap.size by simp, World.cell?_alloc_mark]
  match j, hj with
  | 0, hj => exact hj
  | 1, hj => exact hj
theorem cells_new41 (W : World) (o : Obj) (x0 x1 x2 x3 : Value) (t : TypeId) : ∀ j u, [x0, x1, x2, x3][j]? = some u → ((W.alloc o).alloc (.cells #[x0, x1, x2, x3] t)).cell? ((⟨W.heap.size + 1, 0, none⟩ : Addr).add j) = some u := by
  intro j u hj
  have hadd : (⟨W.heap.size + 1, 0, none⟩ : Addr).add j = ⟨W.heap.size + 1, j, none⟩ := by unfold Addr.add; split <;> simp_all
  rw [hadd, show W.heap.size + 1 = (W.alloc o).heap.size by simp, World.cell?_alloc_mark]
  match j, hj with
  | 0, hj => exact hj
  | 1, hj => exact hj
  | 2, hj => exact hj
  | 3, hj => exact hj
theorem below_trans' {w a b : World} (h : Below w.heap.size w a) (k : Below a.heap.size a b) : Below w.heap.size w b := h.trans (k.mono h.size)
theorem Vl.one (x : Vl) : x.v.oneCell' = true := by cases x <;> rfl
/-- A value is stored into one cell. -/
theorem Vl.st (x : Vl) (w : World) (a : Addr) : (store a x.v).run Tryz.prog w = stored Tryz.prog w a x.v .plain := run_store Tryz.prog w a _ .plain x.one
/-- Two cells in a new block. -/
theorem cells_new2 (W : World) (x0 x1 : Value) (t : TypeId) : ∀ j u, [x0, x1][j]? = some u → (W.alloc (.cells #[x0, x1] t)).cell? ((⟨W.heap.size, 0, none⟩ : Addr).add j) = some u := by
  intro j u hj
  have hadd : (⟨W.heap.size, 0, none⟩ : Addr).add j = ⟨W.heap.size, j, none⟩ := by unfold Addr.add; split <;> simp_all
  rw [hadd, World.cell?_alloc_mark]
  match j, hj with
  | 0, hj => exact hj
  | 1, hj => exact hj
theorem cells_new4 (W : World) (x0 x1 x2 x3 : Value) (t : TypeId) : ∀ j u, [x0, x1, x2, x3][j]? = some u → (W.alloc (.cells #[x0, x1, x2, x3] t)).cell? ((⟨W.heap.size, 0, none⟩ : Addr).add j) = some u := by
  intro j u hj
  have hadd : (⟨W.heap.size, 0, none⟩ : Addr).add j = ⟨W.heap.size, j, none⟩ := by unfold Addr.add; split <;> simp_all
  rw [hadd, World.cell?_alloc_mark]
  match j, hj with
  | 0, hj => exact hj
  | 1, hj => exact hj
  | 2, hj => exact hj
  | 3, hj => exact hj
end Go.Proofs.YtioflicmpnkfeaaGreat
