/- Arguments opened: tapes, acts, numbers. -/
import Derived.Test.YtpcpbdcdapmlnaaDoorDn
import Derived.Deep.Slices
import Derived.Deep.SlicePairs
import Derived.ChangeSame
import Derived.OpenShut
import Derived.Laws.StructEq
import Derived.ChangeKeysEq
namespace Go.Proofs.YtpcpbdcdapmlnaaDoor
open Go Go.RowKit Go.Deep Go.ChangeShapes Go.WideShapes
set_option maxRecDepth 100000
/-- Tapes, as they are handed in. -/
structure Tps (w : World) (v : Value) (l : List Tq) : Prop where
  at' : TAt w v l
  len : l.length ≤ 9223372036854775807
  wide : ∀ q ∈ l, q.a.size ≤ 9223372036854775807 ∧ q.b.size ≤ 9223372036854775807
theorem Tps.below {w w' : World} {v : Value} {l : List Tq} (h : Tps w v l) {m : Nat} (hb : Below m w w') (hm : w.heap.size ≤ m) : Tps w' v l := ⟨At2.below h.at' hb hm, h.len, h.wide⟩
instance : Inhabited Tq := ⟨⟨⟨#[]⟩, ⟨#[]⟩⟩⟩
section
variable {H : Type} {enc : TypeId × Value → H} {w : World} {base b0 : Nat} {spare : Nat → Bool} {held : Bool}
theorem open_nums' {fuel : Nat} {v : Value} {x : DataW H × List MemPlace} (hf : DataW.trod enc Tryd.prog w base spare held fuel 24 [v] = some x) : ∃ l : List Int, KAt w v l ∧ l.length ≤ 9223372036854775807 := by
  rcases open_ints Tryd.underlying24 Tryd.underlying3 (by kernel_rfl) hf with ⟨h0, _⟩ | ⟨a, len, cap, zs, h0, _, hl, hm, hz, _, hc, hw⟩
  · cases h0
    exact ⟨[], .inl ⟨rfl, _, _, rfl⟩, Nat.zero_le _⟩
  · cases h0
    have hlz : len ≤ zs.length := by rw [hz]; split <;> omega
    rcases Nat.eq_zero_or_pos len with h0 | h0
    · subst h0; exact ⟨[], .inl ⟨rfl, _, _, rfl⟩, Nat.zero_le _⟩
    · obtain ⟨b, off, spot⟩ := a
      have hs : spot = none := by simpa [Addr.add] using World.cell?_spot (hc 0 (by omega))
      subst hs
      have hlen : (zs.take len).length = len := by rw [List.length_take]; omega
      refine ⟨zs.take len, .inr ⟨b, off, cap, by rw [hlen], by rw [hlen]; exact hl, fun j hj => ?_⟩, by rw [hlen]; unfold maxLen at hm; omega⟩
      have hj2 : j < zs.length := by rw [hlen] at hj; omega
      have := hc j hj2
      rw [Go.WideShapes.add_plain] at this
      rw [this, List.getElem_take, List.getD_eq_getElem?_getD, List.getElem?_eq_getElem hj2]
      rfl
theorem open_tapes {r : Reach} {v : Value} {d : DataW H} {p : List MemPlace} (hv : Value.okWide Tryd.prog w r b0 50 v) (h : DataW.Trod enc Tryd.prog w base spare held 50 v d p) : ∃ l : List Tq, Tps w v l := by
  obtain ⟨a0, l0, c0, rfl⟩ := okWide_slice Tryd.underlying50 hv
  obtain ⟨fuel, hf⟩ := h
  rcases open_slice (cs := [.slice a0 l0 c0]) Tryd.underlying50 hf with ⟨h0, _⟩ | ⟨a, len, cap, m, n, D, Pl, h0, _, hl, hm, hmm, _, hi⟩
  · cases h0
    exact ⟨[], At2.nil _, Nat.zero_le _, fun a ha => (by cases ha)⟩
  · cases h0
    have hlm : l0 ≤ m := by rw [hmm]; split <;> omega
    rw [show Tryd.prog.cellsOf 54 = 2 by kernel_rfl] at hi
    have each : ∀ i, i < l0 → ∃ x : Tq, (x.a.size ≤ 9223372036854775807 ∧ x.b.size ≤ 9223372036854775807) ∧ w.cell? (a.add (i * 2)) = some (.string x.a) ∧ w.cell? ((a.add (i * 2)).add 1) = some (.string x.b) := fun i hil => by
      obtain ⟨cs', h1, h2⟩ := hi i (by omega)
      obtain ⟨_, hlen, hcell⟩ := World.cells?_some h1
      obtain ⟨xs, k, -, hx, -, hxl, hf⟩ := DataW.trod_struct Tryd.underlying54 h2
      match cs', hlen, xs, hxl with
      | [v0, v1], _, [y0, y1], _ =>
        have g0 := hf 0 _ rfl
        have g1 := hf 1 _ rfl
        change DataW.trod enc Tryd.prog w base spare held k 9 ((([v0, v1] : List Value).drop 0).take (Tryd.prog.cellsOf 9)) = some y0 at g0
        rw [show Tryd.prog.cellsOf 9 = 1 by kernel_rfl] at g0
        change DataW.trod enc Tryd.prog w base spare held k 9 [v0] = some y0 at g0
        change DataW.trod enc Tryd.prog w base spare held k 9 ((([v0, v1] : List Value).drop 1).take (Tryd.prog.cellsOf 9)) = some y1 at g1
        rw [show Tryd.prog.cellsOf 9 = 1 by kernel_rfl] at g1
        change DataW.trod enc Tryd.prog w base spare held k 9 [v1] = some y1 at g1
        obtain ⟨z0, k0, _, f0⟩ := DataW.trod_string Tryd.underlying9 g0
        obtain ⟨z1, k1, _, f1⟩ := DataW.trod_string Tryd.underlying9 g1
        simp only [List.cons.injEq, and_true] at k0 k1
        subst k0 k1
        refine ⟨⟨z0, z1⟩, ⟨by unfold maxLen at f0; show z0.size ≤ _; omega, by unfold maxLen at f1; show z1.size ≤ _; omega⟩, ?_, hcell 1 (by decide)⟩
        have := hcell 0 (by decide)
        rwa [Go.Deep.add_add, Nat.add_zero] at this
    obtain ⟨q, hq⟩ := choose_lt each
    refine ⟨(List.range l0).map q, ?_, by rw [List.length_map, List.length_range]; unfold maxLen at hm; omega, fun x hx => ?_⟩
    · rcases Nat.eq_zero_or_pos l0 with h0 | h0
      · subst h0; exact .inl ⟨rfl, _, _, rfl⟩
      · obtain ⟨g, o, spot⟩ := a
        have hs : spot = none := by
          have := World.cell?_spot (hq 0 h0).2.1
          simpa [Addr.add] using this
        subst hs
        refine .inr ⟨g, o, c0, by simp, fun j hj => ?_⟩
        have hj' : j < l0 := by simpa using hj
        obtain ⟨-, e0, e1⟩ := hq j hj'
        rw [Go.WideShapes.add_plain] at e0 e1
        rw [Go.WideShapes.add_plain] at e1
        simp only [List.getElem_map, List.getElem_range]
        exact ⟨e0, e1⟩
    · obtain ⟨i, hi2, rfl⟩ := List.mem_map.1 hx
      exact (hq i (List.mem_range.1 hi2)).1
end
end Go.Proofs.YtpcpbdcdapmlnaaDoor
namespace Go.Proofs.YtpcpbdcdapmlnaaDoor
open Go Go.RowKit Go.ChangeShapes Go.WideShapes
set_option maxRecDepth 100000
theorem agg_of {t : TypeId} {fs : Array Field} (h : Tryd.prog.underlying t = some (.struct fs)) (W : World) : (isAgg t).run Tryd.prog W = .ok true W := by
  unfold isAgg
  rw [Sem.run_bind, run_underlying h W]
  rfl
theorem agg_arr {t e : TypeId} {n : Nat} (h : Tryd.prog.underlying t = some (.array n e)) (W : World) : (isAgg t).run Tryd.prog W = .ok true W := by
  unfold isAgg
  rw [Sem.run_bind, run_underlying h W]
  rfl
theorem part_cell {t : TypeId} (h : ∀ W, (isAgg t).run Tryd.prog W = .ok false W) {cs : Array Value} {off : Nat} {v : Value} (hv : cs[off]? = some v) (W : World) : (part t cs off).run Tryd.prog W = .ok v W := by
  simp only [part, Sem.run_bind, h, Result.andThen_ok, Bool.false_eq_true, if_false, hv, Sem.run_pure]
theorem part_agg {t : TypeId} (h : ∀ W, (isAgg t).run Tryd.prog W = .ok true W) {i : TypeInfo} (hi : Tryd.prog.info? t = some i) {cs : Array Value} {off : Nat} (W : World) : (part t cs off).run Tryd.prog W = .ok (.agg (cs.extract off (off + Tryd.prog.cellsOf t))) W := by
  simp only [part, Sem.run_bind, h, Result.andThen_ok, if_true, run_sizeOf W hi, Sem.run_pure]
theorem quiet_load_mid {o : Oper} {a : Act} {C : World → Prop} {K : Act → Prop} (ty : TypeId) (x : Operand) (ho : o.op = .load ty x) (b off : Nat) (hx : a.eval x = .pointer (some ⟨b, off, none⟩)) (cs : List Value) (d : TypeDesc) (hS : ∀ w, C w → w.rangeAt b off cs)
    (hu : Tryd.prog.underlying ty = some d) (hd : d.isRow = true) (hi : (Tryd.prog.info? ty).map (·.size) = some cs.length) (hk : K (a.put o.dst (.agg cs.toArray))) : o.quiet Tryd.prog a C K :=
  ⟨_, fun w hw => by
    unfold Oper.quietAt execOp
    simp only [ho, hx, Instr.loadAt, Instr.sureAddr, Sem.run_bind, Sem.run_pure, Result.andThen_ok, run_loadVar_mid w b off ty cs d (hS w hw) hu hd hi]
    exact ⟨rfl, rfl⟩, hk⟩
theorem range_regrown {w : World} {b o : Nat} {cs : List Value} (h : w.rangeAt b o cs) {w' : World} (hw : ∃ p : Regrown, w' = «Sort».grow (redrawn w p.d) p.os) : w'.rangeAt b o cs := fun j v hv => by
  obtain ⟨p, rfl⟩ := hw
  exact cell_regrown (h j v hv) _ _
theorem open_nums {H : Type} {enc : TypeId × Value → H} {w : World} {base b0 : Nat} {spare : Nat → Bool} {held : Bool} {r : Reach} {v : Value} {d : DataW H} {p : List MemPlace} (hv : Value.okWide Tryd.prog w r b0 24 v) (h : DataW.Trod enc Tryd.prog w base spare held 24 v d p) : ∃ l : List Int, KAt w v l ∧ l.length ≤ 9223372036854775807 := by
  obtain ⟨a0, l0, c0, rfl⟩ := okWide_slice Tryd.underlying24 hv
  obtain ⟨fuel, hf⟩ := h
  exact open_nums' (v := .slice a0 l0 c0) hf
/-- Tapes that are told in block G. -/
structure Told (w : World) (G : Nat) (T : Nat → Tp) : Prop where
  a : ∀ j < 32, w.cell? ⟨G, j * 2, none⟩ = some (.string (qT (T j)).a)
  b : ∀ j < 32, w.cell? ⟨G, j * 2 + 1, none⟩ = some (.string (qT (T j)).b)
theorem Told.lt {w : World} {G : Nat} {T : Nat → Tp} (h : Told w G T) : G < w.heap.size := World.block_lt_of_cell? w _ (h.a 0 (by decide))
theorem Told.congr {w w' : World} {G : Nat} {T : Nat → Tp} (h : Told w G T) (hb : w'.heap[G]? = w.heap[G]?) : Told w' G T :=
  ⟨fun j hj => (World.cell?_of_block (a := ⟨G, _, none⟩) hb).trans (h.a j hj), fun j hj => (World.cell?_of_block (a := ⟨G, _, none⟩) hb).trans (h.b j hj)⟩
theorem Told.below {w w' : World} {G : Nat} {T : Nat → Tp} (h : Told w G T) {m : Nat} (hb : Below m w w') (hm : G < m) : Told w' G T := h.congr (hb.block G hm)
theorem Told.grown {w w' : World} {G : Nat} {T : Nat → Tp} (h : Told w G T) {B : Nat} (hg : w.grownBy w' (some B)) (hn : G ≠ B) : Told w' G T := h.congr (hg.block G h.lt (by simpa using hn))
theorem TRow.told {w w' : World} {G : Nat} {T : Nat → Tp} (h : TRow w w' G T 32) : Told w' G T := ⟨h.a, h.b⟩
theorem all_of {x : Tp} (h : x.ok) : (qT x).a ++ (qT x).b = x.s := by
  show x.s.extract 0 x.f ++ x.s.extract x.f x.s.size = x.s
  rw [ByteArray.extract_append_extract, Nat.min_eq_left (Nat.zero_le _), Nat.max_eq_right h.1]
  exact ByteArray.extract_zero_size
/-- What a Back leaves, as it is told. -/
theorem kept_told {d : Dk} (h : d.ok) (ks : List Int) {k : Nat} (hk : k < 32) : (qT ((backD d ks).T k)).b = ⟨#[]⟩ ∧ (qT (d.T k)).a.size ≤ (qT ((backD d ks).T k)).a.size ∧ (qT ((backD d ks).T k)).a.size ≤ ((qT (d.T k)).a ++ (qT (d.T k)).b).size ∧ ((qT (d.T k)).a ++ (qT (d.T k)).b).extract 0 (qT ((backD d ks).T k)).a.size = (qT ((backD d ks).T k)).a ∧ ((qT (d.T k)).a ++ (qT (d.T k)).b).size ≤ 1048576 ∧ (qT (d.T k)).a.size ≤ 1048576 ∧ (qT (d.T k)).b.size ≤ 1048576 := by
  obtain ⟨b1, b2, b3, b4, n, b5, b6⟩ := back_at h ks k hk
  have hok := h.t k hk
  rw [all_of hok]
  generalize (backD d ks).T k = y at *
  generalize d.T k = x at *
  have hz : (x.s.extract 0 n).size = n := by simp; omega
  have hn : y.s.size = n := by rw [b6]; exact hz
  have hya : (qT y).a = y.s := by show y.s.extract 0 y.f = y.s; rw [b3]; exact ByteArray.extract_zero_size
  have hxa : (qT x).a.size = x.f := by show (x.s.extract 0 x.f).size = x.f; have := hok.1; simp; omega
  have hxb : (qT x).b.size ≤ x.s.size := by show (x.s.extract x.f x.s.size).size ≤ _; simp
  have h1 := hok.1
  have h2 := hok.2
  refine ⟨?_, by rw [hya, hxa]; omega, by rw [hya]; omega, by rw [hya, hn, ← b6], h2, by omega, by omega⟩
  show y.s.extract y.f y.s.size = _
  rw [b3]
  exact ByteArray.extract_same
end Go.Proofs.YtpcpbdcdapmlnaaDoor
