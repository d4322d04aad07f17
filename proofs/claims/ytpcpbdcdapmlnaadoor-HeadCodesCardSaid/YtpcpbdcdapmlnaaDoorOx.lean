/- A head that is handed in, opened; heads. -/
import Derived.Test.YtpcpbdcdapmlnaaDoorHv
namespace Go.Proofs.YtpcpbdcdapmlnaaDoor
open Go Go.RowKit Go.Deep Go.ChangeShapes Go.WideShapes
set_option maxRecDepth 100000
/-- A head that is handed in: its log lies there; its numbers are of their kinds. -/
structure HFit (w : World) (h : He) (v : Value) : Prop where
  k : KAt w v h.log
  l : h.log.length ≤ 9223372036854775807
  g : (Lit.int .i64 h.gen).wf = true
  b : (Lit.int .i64 h.base).wf = true
  s : (Lit.int .i64 h.snap).wf = true
section
variable {H : Type} {enc : TypeId × Value → H} {w : World} {base b0 : Nat} {spare : Nat → Bool} {held : Bool}
theorem open_head' {fuel : Nat} {cs : List Value} {x : DataW H × List MemPlace} (h : DataW.trod enc Tryd.prog w base spare held fuel 26 cs = some x) : ∃ (a : He) (v : Value), cs = [.int .i64 a.gen, .int .i64 a.base, .int .i64 a.snap, v] ∧ HFit w a v := by
  obtain ⟨xs, n, -, hx, hl, hxl, hf⟩ := DataW.trod_struct Tryd.underlying26 h
  rw [show Tryd.prog.cellsOf 26 = 4 by kernel_rfl] at hl
  match cs, hl, xs, hxl with
  | [v0, v1, v2, v3], _, [y0, y1, y2, y3], _ =>
    have g0 := hf 0 _ rfl
    have g1 := hf 1 _ rfl
    have g2 := hf 2 _ rfl
    have g3 := hf 3 _ rfl
    change DataW.trod enc Tryd.prog w base spare held n 2 ((([v0, v1, v2, v3] : List Value).drop 0).take (Tryd.prog.cellsOf 2)) = some y0 at g0
    rw [show Tryd.prog.cellsOf 2 = 1 by kernel_rfl] at g0
    change DataW.trod enc Tryd.prog w base spare held n 2 [v0] = some y0 at g0
    change DataW.trod enc Tryd.prog w base spare held n 2 ((([v0, v1, v2, v3] : List Value).drop 1).take (Tryd.prog.cellsOf 2)) = some y1 at g1
    rw [show Tryd.prog.cellsOf 2 = 1 by kernel_rfl] at g1
    change DataW.trod enc Tryd.prog w base spare held n 2 [v1] = some y1 at g1
    change DataW.trod enc Tryd.prog w base spare held n 3 ((([v0, v1, v2, v3] : List Value).drop 2).take (Tryd.prog.cellsOf 3)) = some y2 at g2
    rw [show Tryd.prog.cellsOf 3 = 1 by kernel_rfl] at g2
    change DataW.trod enc Tryd.prog w base spare held n 3 [v2] = some y2 at g2
    change DataW.trod enc Tryd.prog w base spare held n 24 ((([v0, v1, v2, v3] : List Value).drop 3).take (Tryd.prog.cellsOf 24)) = some y3 at g3
    rw [show Tryd.prog.cellsOf 24 = 1 by kernel_rfl] at g3
    change DataW.trod enc Tryd.prog w base spare held n 24 [v3] = some y3 at g3
    obtain ⟨z0, k0, _, f0⟩ := DataW.trod_int Tryd.underlying2 g0
    obtain ⟨z1, k1, _, f1⟩ := DataW.trod_int Tryd.underlying2 g1
    obtain ⟨z2, k2, _, f2⟩ := DataW.trod_int Tryd.underlying3 g2
    obtain ⟨ks, hk, hkl⟩ := open_nums' g3
    simp only [List.cons.injEq, and_true] at k0 k1 k2
    subst k0 k1 k2
    exact ⟨⟨z0, z1, z2, ks⟩, v3, rfl, ⟨hk, hkl, f0, f1, f2⟩⟩
theorem open_head {r : Reach} {v : Value} {d : DataW H} {p : List MemPlace} (hv : Value.okWide Tryd.prog w r b0 26 v) (h : DataW.Trod enc Tryd.prog w base spare held 26 v d p) : ∃ (a : He) (u : Value), v = hval a u ∧ HFit w a u := by
  obtain ⟨cs, rfl, hc⟩ := okWide_struct Tryd.underlying26 hv
  obtain ⟨fuel, hf⟩ := h
  obtain ⟨l⟩ := cs
  obtain ⟨a, u, he, hfit⟩ := open_head' (cs := l) hf
  subst he
  exact ⟨a, u, rfl, hfit⟩
/-- A row of heads that is handed in. -/
structure Hrow (w : World) (v : Value) (l : List (He × Value)) : Prop where
  at' : (l = [] ∧ ∃ a c, v = .slice a 0 c) ∨ ∃ g o c, v = .slice (some ⟨g, o, none⟩) l.length c ∧ l.length ≤ c ∧ ∀ j (h : j < l.length),
    w.cell? ⟨g, o + j * 4, none⟩ = some (.int .i64 l[j].1.gen) ∧ w.cell? ⟨g, o + j * 4 + 1, none⟩ = some (.int .i64 l[j].1.base) ∧ w.cell? ⟨g, o + j * 4 + 2, none⟩ = some (.int .i64 l[j].1.snap) ∧ w.cell? ⟨g, o + j * 4 + 3, none⟩ = some l[j].2
  len : l.length ≤ 9223372036854775807
  fit : ∀ x ∈ l, HFit w x.1 x.2
instance : Inhabited He := ⟨he0⟩
theorem open_heads {r : Reach} {v : Value} {d : DataW H} {p : List MemPlace} (hv : Value.okWide Tryd.prog w r b0 27 v) (h : DataW.Trod enc Tryd.prog w base spare held 27 v d p) : ∃ l : List (He × Value), Hrow w v l := by
  obtain ⟨a0, l0, c0, rfl⟩ := okWide_slice Tryd.underlying27 hv
  obtain ⟨fuel, hf⟩ := h
  rcases open_slice (cs := [.slice a0 l0 c0]) Tryd.underlying27 hf with ⟨h0, _⟩ | ⟨a, len, cap, m, n, D, Pl, h0, _, hl, hm, hmm, _, hi⟩
  · cases h0
    exact ⟨[], .inl ⟨rfl, _, _, rfl⟩, Nat.zero_le _, fun a ha => (by cases ha)⟩
  · cases h0
    have hlm : l0 ≤ m := by rw [hmm]; split <;> omega
    rw [show Tryd.prog.cellsOf 26 = 4 by kernel_rfl] at hi
    have each : ∀ i, i < l0 → ∃ x : He × Value, HFit w x.1 x.2 ∧ w.cell? (a.add (i * 4)) = some (.int .i64 x.1.gen) ∧ w.cell? ((a.add (i * 4)).add 1) = some (.int .i64 x.1.base) ∧ w.cell? ((a.add (i * 4)).add 2) = some (.int .i64 x.1.snap) ∧ w.cell? ((a.add (i * 4)).add 3) = some x.2 := fun i hil => by
      obtain ⟨cs', h1, h2⟩ := hi i (by omega)
      obtain ⟨_, hlen, hcell⟩ := World.cells?_some h1
      obtain ⟨x, u, he, hfit⟩ := open_head' h2
      subst he
      refine ⟨(x, u), hfit, ?_, hcell 1 (by simp), hcell 2 (by simp), hcell 3 (by simp)⟩
      have := hcell 0 (by simp)
      rwa [Go.Deep.add_add, Nat.add_zero] at this
    obtain ⟨q, hq⟩ := choose_lt each
    refine ⟨(List.range l0).map q, ?_, by rw [List.length_map, List.length_range]; unfold maxLen at hm; omega, fun x hx => ?_⟩
    · rcases Nat.eq_zero_or_pos l0 with h0 | h0
      · subst h0; exact .inl ⟨rfl, _, _, rfl⟩
      · obtain ⟨g, o, spot⟩ := a
        have hs : spot = none := by
          have := World.cell?_spot (hq 0 h0).2.1
          simpa [Addr.add] using this
        subst hs
        refine .inr ⟨g, o, c0, by simp, by simpa using hl, fun j hj => ?_⟩
        have hj' : j < l0 := by simpa using hj
        obtain ⟨-, e0, e1, e2, e3⟩ := hq j hj'
        rw [Go.WideShapes.add_plain] at e0 e1 e2 e3
        rw [Go.WideShapes.add_plain] at e1 e2 e3
        simp only [List.getElem_map, List.getElem_range]
        exact ⟨e0, e1, e2, e3⟩
    · obtain ⟨i, hi2, rfl⟩ := List.mem_map.1 hx
      exact (hq i (List.mem_range.1 hi2)).1
end
end Go.Proofs.YtpcpbdcdapmlnaaDoor
