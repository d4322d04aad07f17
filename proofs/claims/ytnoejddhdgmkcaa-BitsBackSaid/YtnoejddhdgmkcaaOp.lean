/- A slice of structs of one-cell fields that came in: its cells, by index and field; a list of asks, a list of items. -/
import Derived.Test.YtnoejddhdgmkcaaProg
import Derived.Deep.Slices
import Derived.Deep.Fields
import Derived.ProofKit
import Derived.OpenShut
namespace Go.Proofs.Ytnoejddhdgmkcaa
open Go.ChangeShapes Go.WideShapes Go.Deep Go.RowKit
section
variable {H : Type} {enc : TypeId × Value → H} {P : Program} {w : World} {base : Nat} {spare : Nat → Bool} {held : Bool}
/-- Each field of each element stands in its own cell, and reads as its type says. -/
theorem open_rows {t e : TypeId} {fs : Array Field} {fuel : Nat} {v : Value} {x : DataW H × List MemPlace} (ht : P.underlying t = some (.slice e)) (he : P.underlying e = some (.struct fs)) (hone : oneCellFields P fs = true)
    (hC : P.cellsOf e = fs.size) (hp : 0 < fs.size) (h : DataW.trod enc P w base spare held fuel t [v] = some x) :
    v = .slice none 0 0 ∨ ∃ (a : Addr) (len cap : Nat), v = .slice (some a) len cap ∧ len ≤ cap ∧ cap ≤ maxLen ∧ (len = 0 ∨ a.spot = none) ∧
      ∀ i, i < len → ∀ (j : Nat) (f : Field), fs[j]? = some f → ∃ (u : Value) (n : Nat) (y : DataW H × List MemPlace), w.cell? (a.add (i * fs.size + j)) = some u ∧ DataW.trod enc P w base spare held n f.type [u] = some y := by
  rcases open_slice ht h with ⟨h0, _⟩ | ⟨a, len, cap, m, n, D, Pl, hcs, _, hl, hm, hmm, _, hi⟩
  · exact .inl (by simpa using h0)
  · have hlm : len ≤ m := by rw [hmm]; split <;> omega
    have key : ∀ i, i < len → ∀ (j : Nat) (f : Field), fs[j]? = some f → ∃ (u : Value) (n : Nat) (y : DataW H × List MemPlace), w.cell? (a.add (i * fs.size + j)) = some u ∧ DataW.trod enc P w base spare held n f.type [u] = some y := by
      intro i hil j f hj
      obtain ⟨cs', hc, ht'⟩ := hi i (by omega)
      rw [hC] at hc
      obtain ⟨ys, n', _, _, _, hyl, hf⟩ := DataW.trod_struct he ht'
      obtain ⟨_, hcl, hat⟩ := World.cells?_some hc
      obtain ⟨ho, hk⟩ := hone_of hone j f hj
      have hjl : j < fs.size := (Array.getElem?_eq_some_iff.1 hj).1
      have h1 := hf j f hj
      have hlt : j < cs'.length := by omega
      rw [ho, hk, List.drop_eq_getElem_cons hlt, List.take_succ_cons, List.take_zero, List.getElem?_eq_getElem (by omega)] at h1
      refine ⟨_, n', _, ?_, h1⟩
      rw [← Go.Deep.add_add, hat j hjl, List.getElem?_eq_getElem hlt]
    refine .inr ⟨a, len, cap, by simpa using hcs, hl, hm, ?_, key⟩
    rcases Nat.eq_zero_or_pos len with h0 | h0
    · exact .inl h0
    · right
      obtain ⟨u, _, _, hu, _⟩ := key 0 h0 0 fs[0] (by simp [hp])
      simpa [Addr.add] using World.cell?_spot hu
end
/-- One ask, one item: the struct's fields. -/
structure Quad where
  W : Int
  N : Int
  A : Int
  B : Int
deriving Inhabited
structure Quad.Ok (q : Quad) : Prop where
  w : (Lit.int .u8 q.W).wf = true
  n : (Lit.int .u64 q.N).wf = true
  a : (Lit.int .i64 q.A).wf = true
  b : (Lit.int .i64 q.B).wf = true
/-- The list of asks lies at ⟨b, off⟩. -/
structure AsksAt (w : World) (b off len : Nat) (q : Nat → Quad) : Prop where
  c : ∀ i, i < len → w.cell? ⟨b, off + (i * 4 + 0), none⟩ = some (.int .u8 (q i).W) ∧ w.cell? ⟨b, off + (i * 4 + 1), none⟩ = some (.int .u64 (q i).N) ∧ w.cell? ⟨b, off + (i * 4 + 2), none⟩ = some (.int .i64 (q i).A) ∧ w.cell? ⟨b, off + (i * 4 + 3), none⟩ = some (.int .i64 (q i).B) ∧ (q i).Ok
def Asks (w : World) (v : Value) : Prop := (∃ a cap, v = .slice a 0 cap) ∨ ∃ b off len cap q, v = .slice (some ⟨b, off, none⟩) len cap ∧ 0 < len ∧ AsksAt w b off len q
theorem one58 : oneCellFields Try.prog #[{ name := "What", type := 5, offset := 0, embedded := false, tag := "", pkgPath := "", byteOffset := 0 }, { name := "N", type := 24, offset := 1, embedded := false, tag := "", pkgPath := "", byteOffset := 8 }, { name := "A", type := 2, offset := 2, embedded := false, tag := "", pkgPath := "", byteOffset := 16 }, { name := "B", type := 2, offset := 3, embedded := false, tag := "", pkgPath := "", byteOffset := 24 }] = true := by kernel_rfl
theorem open_asks {H : Type} {enc : TypeId × Value → H} {w : World} {base b0 : Nat} {spare : Nat → Bool} {held : Bool} {r : Reach} {v : Value} {d : DataW H} {p : List MemPlace} (hv : Value.okWide Try.prog w r b0 51 v) (h : DataW.Trod enc Try.prog w base spare held 51 v d p) : ∃ _u : Unit, Asks w v := by
  refine ⟨(), ?_⟩
  obtain ⟨a0, l0, c0, rfl⟩ := okWide_slice Try.underlying51 hv
  obtain ⟨fuel, hf⟩ := h
  rcases open_rows Try.underlying51 Try.underlying58 one58 (by kernel_rfl) (by decide) hf with h0 | ⟨a, len, cap, h0, _, _, hsp, hk⟩
  · cases h0; exact .inl ⟨_, _, rfl⟩
  · cases h0
    rcases Nat.eq_zero_or_pos l0 with h0 | h0
    · subst h0; exact .inl ⟨_, _, rfl⟩
    · right
      obtain ⟨b, off, spot⟩ := a
      have hs : spot = none := by rcases hsp with h | h; · omega
                                  · exact h
      subst hs
      have hq : ∀ i, i < l0 → ∃ q : Quad, w.cell? ⟨b, off + (i * 4 + 0), none⟩ = some (.int .u8 q.W) ∧ w.cell? ⟨b, off + (i * 4 + 1), none⟩ = some (.int .u64 q.N) ∧ w.cell? ⟨b, off + (i * 4 + 2), none⟩ = some (.int .i64 q.A) ∧ w.cell? ⟨b, off + (i * 4 + 3), none⟩ = some (.int .i64 q.B) ∧ q.Ok := by
        intro i hi
        obtain ⟨u0, n0, y0, e0, g0⟩ := hk i hi 0 _ rfl
        obtain ⟨u1, n1, y1, e1, g1⟩ := hk i hi 1 _ rfl
        obtain ⟨u2, n2, y2, e2, g2⟩ := hk i hi 2 _ rfl
        obtain ⟨u3, n3, y3, e3, g3⟩ := hk i hi 3 _ rfl
        obtain ⟨z0, k0, _, f0⟩ := DataW.trod_int Try.underlying5 g0
        obtain ⟨z1, k1, _, f1⟩ := DataW.trod_int Try.underlying24 g1
        obtain ⟨z2, k2, _, f2⟩ := DataW.trod_int Try.underlying2 g2
        obtain ⟨z3, k3, _, f3⟩ := DataW.trod_int Try.underlying2 g3
        simp only [List.cons.injEq, and_true] at k0 k1 k2 k3
        subst k0 k1 k2 k3
        rw [Go.WideShapes.add_plain] at e0 e1 e2 e3
        exact ⟨⟨z0, z1, z2, z3⟩, e0, e1, e2, e3, ⟨f0, f1, f2, f3⟩⟩
      obtain ⟨q, hq⟩ := choose_lt hq
      exact ⟨b, off, l0, c0, q, rfl, h0, ⟨hq⟩⟩
theorem AsksAt.keep {w w' : World} {b off len : Nat} {q : Nat → Quad} (h : AsksAt w b off len q) (hb : w'.heap[b]? = w.heap[b]?) : AsksAt w' b off len q :=
  ⟨fun i hi => by
    obtain ⟨h0, h1, h2, h3, h4⟩ := h.c i hi
    exact ⟨(World.cell?_of_block (a := ⟨b, _, none⟩) hb).trans h0, (World.cell?_of_block (a := ⟨b, _, none⟩) hb).trans h1, (World.cell?_of_block (a := ⟨b, _, none⟩) hb).trans h2, (World.cell?_of_block (a := ⟨b, _, none⟩) hb).trans h3, h4⟩⟩
theorem AsksAt.lt {w : World} {b off len : Nat} {q : Nat → Quad} (h : AsksAt w b off len q) (hp : 0 < len) : b < w.heap.size := World.block_lt_of_cell? w ⟨b, _, none⟩ (h.c 0 hp).1
end Go.Proofs.Ytnoejddhdgmkcaa
