/- A list of items that came in: its cells, by index and field; the law's 'long' over it. -/
import Derived.Test.YtnoejddhdgmkcaaOp
namespace Go.Proofs.Ytnoejddhdgmkcaa
open Go.ChangeShapes Go.WideShapes Go.Deep Go.RowKit
/-- One item: the struct's fields. -/
structure Trip where
  W : Int
  N : Nat
  S : ByteArray
deriving Inhabited
/-- The list of items lies at ⟨b, off⟩. -/
structure ItemsAt (w : World) (b off len : Nat) (q : Nat → Trip) : Prop where
  c : ∀ i, i < len → w.cell? ⟨b, off + (i * 3 + 0), none⟩ = some (.int .u8 (q i).W) ∧ w.cell? ⟨b, off + (i * 3 + 1), none⟩ = some (.int .u64 (q i).N) ∧ w.cell? ⟨b, off + (i * 3 + 2), none⟩ = some (.string (q i).S) ∧ (q i).N ≤ 18446744073709551615 ∧ (q i).S.size ≤ maxLen
def Items (w : World) (v : Value) : Prop := (∃ a cap, v = .slice a 0 cap) ∨ ∃ b off len cap q, v = .slice (some ⟨b, off, none⟩) len cap ∧ 0 < len ∧ len ≤ maxLen ∧ ItemsAt w b off len q
theorem one65 : oneCellFields Try.prog #[{ name := "What", type := 5, offset := 0, embedded := false, tag := "", pkgPath := "", byteOffset := 0 }, { name := "N", type := 24, offset := 1, embedded := false, tag := "", pkgPath := "", byteOffset := 8 }, { name := "S", type := 9, offset := 2, embedded := false, tag := "", pkgPath := "", byteOffset := 16 }] = true := by kernel_rfl
theorem open_items {H : Type} {enc : TypeId × Value → H} {w : World} {base b0 : Nat} {spare : Nat → Bool} {held : Bool} {r : Reach} {v : Value} {d : DataW H} {p : List MemPlace} (hv : Value.okWide Try.prog w r b0 61 v) (h : DataW.Trod enc Try.prog w base spare held 61 v d p) : ∃ _u : Unit, Items w v := by
  refine ⟨(), ?_⟩
  obtain ⟨a0, l0, c0, rfl⟩ := okWide_slice Try.underlying61 hv
  obtain ⟨fuel, hf⟩ := h
  rcases open_rows Try.underlying61 Try.underlying65 one65 (by kernel_rfl) (by decide) hf with h0 | ⟨a, len, cap, h0, hlc, hcm, hsp, hk⟩
  · cases h0; exact .inl ⟨_, _, rfl⟩
  · cases h0
    rcases Nat.eq_zero_or_pos l0 with h0 | h0
    · subst h0; exact .inl ⟨_, _, rfl⟩
    · right
      obtain ⟨b, off, spot⟩ := a
      have hs : spot = none := by rcases hsp with h | h; · omega
                                  · exact h
      subst hs
      have hq : ∀ i, i < l0 → ∃ q : Trip, w.cell? ⟨b, off + (i * 3 + 0), none⟩ = some (.int .u8 q.W) ∧ w.cell? ⟨b, off + (i * 3 + 1), none⟩ = some (.int .u64 q.N) ∧ w.cell? ⟨b, off + (i * 3 + 2), none⟩ = some (.string q.S) ∧ q.N ≤ 18446744073709551615 ∧ q.S.size ≤ maxLen := by
        intro i hi
        obtain ⟨u0, n0, y0, e0, g0⟩ := hk i hi 0 _ rfl
        obtain ⟨u1, n1, y1, e1, g1⟩ := hk i hi 1 _ rfl
        obtain ⟨u2, n2, y2, e2, g2⟩ := hk i hi 2 _ rfl
        obtain ⟨z0, k0, _, f0⟩ := DataW.trod_int Try.underlying5 g0
        obtain ⟨z1, k1, _, f1⟩ := DataW.trod_int Try.underlying24 g1
        obtain ⟨z2, k2, _, f2⟩ := DataW.trod_string Try.underlying9 g2
        simp only [List.cons.injEq, and_true] at k0 k1 k2
        subst k0 k1 k2
        rw [Go.WideShapes.add_plain] at e0 e1 e2
        have hb := Go.bounds_u64 f1
        obtain ⟨n, rfl⟩ := Int.eq_ofNat_of_zero_le hb.1
        exact ⟨⟨z0, n, z2⟩, e0, e1, e2, by show n ≤ _; omega, f2⟩
      obtain ⟨q, hq⟩ := choose_lt hq
      exact ⟨b, off, l0, c0, q, rfl, h0, by omega, ⟨hq⟩⟩
theorem ItemsAt.keep {w w' : World} {b off len : Nat} {q : Nat → Trip} (h : ItemsAt w b off len q) (hb : w'.heap[b]? = w.heap[b]?) : ItemsAt w' b off len q :=
  ⟨fun i hi => by
    obtain ⟨h0, h1, h2, h3, h4⟩ := h.c i hi
    exact ⟨(World.cell?_of_block (a := ⟨b, _, none⟩) hb).trans h0, (World.cell?_of_block (a := ⟨b, _, none⟩) hb).trans h1, (World.cell?_of_block (a := ⟨b, _, none⟩) hb).trans h2, h3, h4⟩⟩
theorem ItemsAt.lt {w : World} {b off len : Nat} {q : Nat → Trip} (h : ItemsAt w b off len q) (hp : 0 < len) : b < w.heap.size := World.block_lt_of_cell? w ⟨b, _, none⟩ (h.c 0 hp).1
end Go.Proofs.Ytnoejddhdgmkcaa
