/- Arguments opened: tapes, acts, numbers. -/
import Derived.Test.YticponohbnkgdaaDq
import Derived.Deep.Slices
import Derived.Deep.SlicePairs
import Derived.ChangeSame
import Derived.OpenShut
namespace Go.Proofs.Yticponohbnkgdaa
open Go Go.RowKit Go.Deep Go.ChangeShapes Go.WideShapes
set_option maxRecDepth 100000
instance : Inhabited Ac := ⟨⟨0, 0, 0, ⟨#[]⟩, [], .int .i64 0⟩⟩
instance : Inhabited Tq := ⟨⟨⟨#[]⟩, ⟨#[]⟩⟩⟩
section
variable {H : Type} {enc : TypeId × Value → H} {w : World} {base b0 : Nat} {spare : Nat → Bool} {held : Bool}
theorem open_nums' {fuel : Nat} {v : Value} {x : DataW H × List MemPlace} (hf : DataW.trod enc Try.prog w base spare held fuel 49 [v] = some x) : ∃ l : List Int, KAt w v l ∧ l.length ≤ 9223372036854775807 := by
  rcases open_ints Try.underlying49 Try.underlying3 (by kernel_rfl) hf with ⟨h0, _⟩ | ⟨a, len, cap, zs, h0, _, hl, hm, hz, _, hc, hw⟩
  · cases h0
    exact ⟨[], .inl ⟨rfl, _, _, rfl⟩, Nat.zero_le _⟩
  · cases h0
    have hlz : len ≤ zs.length := by rw [hz]; split <;> omega
    rcases Nat.eq_zero_or_pos len with h0 | h0
    · subst h0; exact ⟨[], .inl ⟨rfl, _, _, rfl⟩, Nat.zero_le _⟩
    · obtain ⟨b, off, spot⟩ := a
      have hs : spot = none := by simpa [Addr.add] using World.cell?_spot (hc 0 (by omega))
      subst hs
      have hlen : (zs.take len).length = len := by rw [List.length_take]; omega
      refine ⟨zs.take len, .inr ⟨b, off, cap, by rw [hlen], by rw [hlen]; exact hl, fun j hj => ?_⟩, by rw [hlen]; unfold maxLen at hm; omega⟩
      have hj2 : j < zs.length := by rw [hlen] at hj; omega
      have := hc j hj2
      rw [Go.WideShapes.add_plain] at this
      rw [this, List.getElem_take, List.getD_eq_getElem?_getD, List.getElem?_eq_getElem hj2]
      rfl
/-- What one act reads as. -/
theorem open_act' {fuel : Nat} {cs : List Value} {x : DataW H × List MemPlace} (h : DataW.trod enc Try.prog w base spare held fuel 51 cs = some x) : ∃ a : Ac, cs = [.int .u8 (a.what : Int), .int .i64 a.t, .int .i64 a.n, .string a.s, a.v] ∧ a.fit w := by
  obtain ⟨xs, n, -, hx, hl, hxl, hf⟩ := DataW.trod_struct Try.underlying51 h
  rw [show Try.prog.cellsOf 51 = 5 by kernel_rfl] at hl
  match cs, hl, xs, hxl with
  | [v0, v1, v2, v3, v4], _, [y0, y1, y2, y3, y4], _ =>
    have g0 := hf 0 _ rfl
    have g1 := hf 1 _ rfl
    have g2 := hf 2 _ rfl
    have g3 := hf 3 _ rfl
    have g4 := hf 4 _ rfl
    change DataW.trod enc Try.prog w base spare held n 5 ((([v0, v1, v2, v3, v4] : List Value).drop 0).take (Try.prog.cellsOf 5)) = some y0 at g0
    rw [show Try.prog.cellsOf 5 = 1 by kernel_rfl] at g0
    change DataW.trod enc Try.prog w base spare held n 5 [v0] = some y0 at g0
    change DataW.trod enc Try.prog w base spare held n 3 ((([v0, v1, v2, v3, v4] : List Value).drop 1).take (Try.prog.cellsOf 3)) = some y1 at g1
    rw [show Try.prog.cellsOf 3 = 1 by kernel_rfl] at g1
    change DataW.trod enc Try.prog w base spare held n 3 [v1] = some y1 at g1
    change DataW.trod enc Try.prog w base spare held n 3 ((([v0, v1, v2, v3, v4] : List Value).drop 2).take (Try.prog.cellsOf 3)) = some y2 at g2
    rw [show Try.prog.cellsOf 3 = 1 by kernel_rfl] at g2
    change DataW.trod enc Try.prog w base spare held n 3 [v2] = some y2 at g2
    change DataW.trod enc Try.prog w base spare held n 9 ((([v0, v1, v2, v3, v4] : List Value).drop 3).take (Try.prog.cellsOf 9)) = some y3 at g3
    rw [show Try.prog.cellsOf 9 = 1 by kernel_rfl] at g3
    change DataW.trod enc Try.prog w base spare held n 9 [v3] = some y3 at g3
    change DataW.trod enc Try.prog w base spare held n 49 ((([v0, v1, v2, v3, v4] : List Value).drop 4).take (Try.prog.cellsOf 49)) = some y4 at g4
    rw [show Try.prog.cellsOf 49 = 1 by kernel_rfl] at g4
    change DataW.trod enc Try.prog w base spare held n 49 [v4] = some y4 at g4
    obtain ⟨z0, k0, _, f0⟩ := DataW.trod_int Try.underlying5 g0
    obtain ⟨z1, k1, _, f1⟩ := DataW.trod_int Try.underlying3 g1
    obtain ⟨z2, k2, _, f2⟩ := DataW.trod_int Try.underlying3 g2
    obtain ⟨z3, k3, _, f3⟩ := DataW.trod_string Try.underlying9 g3
    obtain ⟨ks, hk, hkl⟩ := open_nums' g4
    simp only [List.cons.injEq, and_true] at k0 k1 k2 k3
    subst k0 k1 k2 k3
    have hb := Go.bounds_u8 f0
    obtain ⟨m, rfl⟩ := Int.eq_ofNat_of_zero_le hb.1
    exact ⟨⟨m, z1, z2, z3, ks, v4⟩, rfl, ⟨by have := hb.2; show m < 256; omega, f1, f2, by unfold maxLen at f3; show z3.size ≤ _; omega, hkl, hk⟩⟩
theorem open_acts {r : Reach} {v : Value} {d : DataW H} {p : List MemPlace} (hv : Value.okWide Try.prog w r b0 42 v) (h : DataW.Trod enc Try.prog w base spare held 42 v d p) : ∃ l : List Ac, Acs w v l := by
  obtain ⟨a0, l0, c0, rfl⟩ := okWide_slice Try.underlying42 hv
  obtain ⟨fuel, hf⟩ := h
  rcases open_slice (cs := [.slice a0 l0 c0]) Try.underlying42 hf with ⟨h0, _⟩ | ⟨a, len, cap, m, n, D, Pl, h0, _, hl, hm, hmm, _, hi⟩
  · cases h0
    exact ⟨[], .inl ⟨rfl, _, _, rfl⟩, fun a ha => (by cases ha), Nat.zero_le _⟩
  · cases h0
    have hlm : l0 ≤ m := by rw [hmm]; split <;> omega
    rw [show Try.prog.cellsOf 51 = 5 by kernel_rfl] at hi
    have each : ∀ i, i < l0 → ∃ x : Ac, x.fit w ∧ ∀ j, j < 5 → w.cell? ((a.add (i * 5)).add j) = ([.int .u8 (x.what : Int), .int .i64 x.t, .int .i64 x.n, .string x.s, x.v] : List Value)[j]? := fun i hil => by
      obtain ⟨cs', h1, h2⟩ := hi i (by omega)
      obtain ⟨_, _, hcell⟩ := World.cells?_some h1
      obtain ⟨x, rfl, hx⟩ := open_act' h2
      exact ⟨x, hx, hcell⟩
    obtain ⟨q, hq⟩ := choose_lt each
    refine ⟨(List.range l0).map q, ?_, fun x hx => ?_, by rw [List.length_map, List.length_range]; unfold maxLen at hm; omega⟩
    · rcases Nat.eq_zero_or_pos l0 with h0 | h0
      · subst h0; exact .inl ⟨rfl, _, _, rfl⟩
      · obtain ⟨g, o, spot⟩ := a
        have hs : spot = none := by
          have h5 := (hq 0 h0).2 0 (by decide)
          have := World.cell?_spot (v := .int .u8 ((q 0).what : Int)) h5
          simpa [Addr.add] using this
        subst hs
        refine .inr ⟨g, o, c0, by simp, fun j hj => ?_⟩
        have hj' : j < l0 := by simpa using hj
        have h5 := (hq j hj').2
        have e : ∀ k, ((⟨g, o, none⟩ : Addr).add (j * 5)).add k = ⟨g, o + j * 5 + k, none⟩ := fun k => by rw [Go.WideShapes.add_plain, Go.WideShapes.add_plain]
        simp only [List.getElem_map, List.getElem_range]
        exact ⟨by have := h5 0 (by decide); rw [e] at this; exact this, by have := h5 1 (by decide); rw [e] at this; exact this, by have := h5 2 (by decide); rw [e] at this; exact this, by have := h5 3 (by decide); rw [e] at this; exact this, by have := h5 4 (by decide); rw [e] at this; exact this⟩
    · obtain ⟨i, hi2, rfl⟩ := List.mem_map.1 hx
      exact (hq i (List.mem_range.1 hi2)).1
theorem open_tapes {r : Reach} {v : Value} {d : DataW H} {p : List MemPlace} (hv : Value.okWide Try.prog w r b0 28 v) (h : DataW.Trod enc Try.prog w base spare held 28 v d p) : ∃ l : List Tq, Tps w v l := by
  obtain ⟨a0, l0, c0, rfl⟩ := okWide_slice Try.underlying28 hv
  obtain ⟨fuel, hf⟩ := h
  rcases open_slice (cs := [.slice a0 l0 c0]) Try.underlying28 hf with ⟨h0, _⟩ | ⟨a, len, cap, m, n, D, Pl, h0, _, hl, hm, hmm, _, hi⟩
  · cases h0
    exact ⟨[], At2.nil _, Nat.zero_le _, fun a ha => (by cases ha)⟩
  · cases h0
    have hlm : l0 ≤ m := by rw [hmm]; split <;> omega
    rw [show Try.prog.cellsOf 30 = 2 by kernel_rfl] at hi
    have each : ∀ i, i < l0 → ∃ x : Tq, (x.a.size ≤ 9223372036854775807 ∧ x.b.size ≤ 9223372036854775807) ∧ w.cell? (a.add (i * 2)) = some (.string x.a) ∧ w.cell? ((a.add (i * 2)).add 1) = some (.string x.b) := fun i hil => by
      obtain ⟨cs', h1, h2⟩ := hi i (by omega)
      obtain ⟨_, hlen, hcell⟩ := World.cells?_some h1
      obtain ⟨xs, k, -, hx, -, hxl, hf⟩ := DataW.trod_struct Try.underlying30 h2
      match cs', hlen, xs, hxl with
      | [v0, v1], _, [y0, y1], _ =>
        have g0 := hf 0 _ rfl
        have g1 := hf 1 _ rfl
        change DataW.trod enc Try.prog w base spare held k 9 ((([v0, v1] : List Value).drop 0).take (Try.prog.cellsOf 9)) = some y0 at g0
        rw [show Try.prog.cellsOf 9 = 1 by kernel_rfl] at g0
        change DataW.trod enc Try.prog w base spare held k 9 [v0] = some y0 at g0
        change DataW.trod enc Try.prog w base spare held k 9 ((([v0, v1] : List Value).drop 1).take (Try.prog.cellsOf 9)) = some y1 at g1
        rw [show Try.prog.cellsOf 9 = 1 by kernel_rfl] at g1
        change DataW.trod enc Try.prog w base spare held k 9 [v1] = some y1 at g1
        obtain ⟨z0, k0, _, f0⟩ := DataW.trod_string Try.underlying9 g0
        obtain ⟨z1, k1, _, f1⟩ := DataW.trod_string Try.underlying9 g1
        simp only [List.cons.injEq, and_true] at k0 k1
        subst k0 k1
        refine ⟨⟨z0, z1⟩, ⟨by unfold maxLen at f0; show z0.size ≤ _; omega, by unfold maxLen at f1; show z1.size ≤ _; omega⟩, ?_, hcell 1 (by decide)⟩
        have := hcell 0 (by decide)
        rwa [Go.Deep.add_add, Nat.add_zero] at this
    obtain ⟨q, hq⟩ := choose_lt each
    refine ⟨(List.range l0).map q, ?_, by rw [List.length_map, List.length_range]; unfold maxLen at hm; omega, fun x hx => ?_⟩
    · rcases Nat.eq_zero_or_pos l0 with h0 | h0
      · subst h0; exact .inl ⟨rfl, _, _, rfl⟩
      · obtain ⟨g, o, spot⟩ := a
        have hs : spot = none := by
          have := World.cell?_spot (hq 0 h0).2.1
          simpa [Addr.add] using this
        subst hs
        refine .inr ⟨g, o, c0, by simp, fun j hj => ?_⟩
        have hj' : j < l0 := by simpa using hj
        obtain ⟨-, e0, e1⟩ := hq j hj'
        rw [Go.WideShapes.add_plain] at e0 e1
        rw [Go.WideShapes.add_plain] at e1
        simp only [List.getElem_map, List.getElem_range]
        exact ⟨e0, e1⟩
    · obtain ⟨i, hi2, rfl⟩ := List.mem_map.1 hx
      exact (hq i (List.mem_range.1 hi2)).1
end
end Go.Proofs.Yticponohbnkgdaa
