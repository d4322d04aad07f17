/- Transactions that a call was handed. -/
import Derived.Test.YtbfkgbickjfcjaaUf
import Derived.Deep.Slices
import Derived.SizedLaws
import Derived.OpenShut
namespace Go.Proofs.Ytbfkgbickjfcjaa
set_option linter.unusedVariables false
set_option linter.unusedSimpArgs false
open Go Go.RowKit Go.Deep Go.ChangeShapes Go.WideShapes
set_option maxRecDepth 100000
section
variable {H : Type} {en : TypeId × Value → H} {w : World} {base b0 : Nat} {spare : Nat → Bool} {held : Bool}
/-- A row opened, element by element. -/
theorem open_row {α : Type} {enc : α → List Value} {z : Nat} (hz : ∀ x, (enc x).length = z) (hz0 : 0 < z) {t e : TypeId} {Pr : α → Prop} (d0 : α)
    (ht : Try.prog.underlying t = some (.slice e)) (hc : Try.prog.cellsOf e = z)
    (he : ∀ n cs d, DataW.trod en Try.prog w base spare held n e cs = some d → ∃ x, cs = enc x ∧ Pr x) {fuel : Nat} {v : Value} {x : DataW H × List MemPlace} (h : DataW.trod en Try.prog w base spare held fuel t [v] = some x) :
    ∃ l : List α, RAt enc w v l ∧ l.length ≤ maxLen ∧ (∀ y ∈ l, Pr y) ∧ ∀ a n c, v = .slice a n c → n ≤ c := by
  rcases open_slice ht h with ⟨h0, _⟩ | ⟨a, len, cap, m, n, D, Pl, h0, _, hl, hm, hmm, _, hi⟩
  · cases h0
    exact ⟨[], .inl ⟨rfl, _, _, rfl⟩, Nat.zero_le _, fun y hy => (by cases hy), fun a n c e => by cases e; exact Nat.le_refl _⟩
  · cases h0
    have hlm : len ≤ m := by rw [hmm]; split <;> omega
    rw [hc] at hi
    have each : ∀ i, i < len → ∃ y : α, Pr y ∧ ∀ j, j < z → w.cell? ((a.add (i * z)).add j) = (enc y)[j]? := fun i hil => by
      obtain ⟨cs', h1, h2⟩ := hi i (by omega)
      obtain ⟨_, _, hcell⟩ := World.cells?_some h1
      obtain ⟨y, rfl, hy⟩ := he _ _ _ h2
      exact ⟨y, hy, hcell⟩
    obtain ⟨q, hq⟩ : ∃ q : Nat → α, ∀ i, i < len → Pr (q i) ∧ ∀ j, j < z → w.cell? ((a.add (i * z)).add j) = (enc (q i))[j]? :=
      ⟨fun i => if h : i < len then Classical.choose (each i h) else d0, fun i h => by simp only [h, dif_pos]; exact Classical.choose_spec (each i h)⟩
    refine ⟨(List.range len).map q, ?_, by rw [List.length_map, List.length_range]; omega, fun y hy => ?_, fun a n c e => by cases e; exact hl⟩
    · rcases Nat.eq_zero_or_pos len with h0 | h0
      · subst h0; exact .inl ⟨rfl, _, _, rfl⟩
      · obtain ⟨g, o, spot⟩ := a
        have h00 : ∃ u, (enc (q 0))[0]? = some u := ⟨_, List.getElem?_eq_getElem (by rw [hz]; exact hz0)⟩
        obtain ⟨u, hu⟩ := h00
        have h5 := ((hq 0 h0).2 0 hz0).trans hu
        have hs : spot = none := by
          have := World.cell?_spot h5
          simpa [Addr.add] using this
        subst hs
        have hlt : g < w.heap.size := by
          have := World.block_lt_of_cell? w _ h5
          simpa [Addr.add] using this
        refine .inr ⟨g, o, cap, by simp, hlt, fun j u hj => ?_⟩
        have hjl := (List.getElem?_eq_some_iff.1 hj).1
        rw [cz_len hz, List.length_map, List.length_range] at hjl
        have hd : j / z < len := Nat.div_lt_of_lt_mul (by rw [Nat.mul_comm]; exact hjl)
        have hmod : j % z < z := Nat.mod_lt _ hz0
        have hjj : j = (j / z) * z + j % z := by rw [Nat.mul_comm]; exact (Nat.div_add_mod j z).symm
        have h6 := (hq _ hd).2 _ hmod
        have h7 := cz_at hz ((List.range len).map q) (j / z) (by simpa using hd) (j % z) hmod
        rw [← hjj, hj] at h7
        simp only [List.getElem_map, List.getElem_range] at h7
        rw [← h7] at h6
        rw [Go.WideShapes.add_plain, Go.WideShapes.add_plain, Nat.add_assoc, ← hjj] at h6
        exact h6
    · obtain ⟨i, hi2, rfl⟩ := List.mem_map.1 hy
      exact (hq i (List.mem_range.1 hi2)).1
theorem open_cn {n : Nat} {cs : List Value} {x : DataW H × List MemPlace} (h : DataW.trod en Try.prog w base spare held n 69 cs = some x) : ∃ y : Cn, cs = encC y ∧ True := by
  obtain ⟨xs, n, -, hx, hl, hxl, hf⟩ := DataW.trod_struct Try.underlying69 h
  rw [show Try.prog.cellsOf 69 = 2 by kernel_rfl] at hl
  match cs, hl, xs, hxl with
  | [v0, v1], _, [y0, y1], _ =>
    have g0 := hf 0 _ rfl
    have g1 := hf 1 _ rfl
    change DataW.trod en Try.prog w base spare held n 9 ((([v0, v1] : List Value).drop 0).take (Try.prog.cellsOf 9)) = some y0 at g0
    rw [show Try.prog.cellsOf 9 = 1 by kernel_rfl] at g0
    change DataW.trod en Try.prog w base spare held n 9 [v0] = some y0 at g0
    change DataW.trod en Try.prog w base spare held n 2 ((([v0, v1] : List Value).drop 1).take (Try.prog.cellsOf 2)) = some y1 at g1
    rw [show Try.prog.cellsOf 2 = 1 by kernel_rfl] at g1
    change DataW.trod en Try.prog w base spare held n 2 [v1] = some y1 at g1
    obtain ⟨z0, k0, _, f0⟩ := DataW.trod_string Try.underlying9 g0
    obtain ⟨z1, k1, _, f1⟩ := DataW.trod_int Try.underlying2 g1
    simp only [List.cons.injEq, and_true] at k0 k1
    subst k0 k1
    exact ⟨⟨z0, z1⟩, rfl, trivial⟩
theorem open_op {n : Nat} {cs : List Value} {x : DataW H × List MemPlace} (h : DataW.trod en Try.prog w base spare held n 72 cs = some x) : ∃ y : Op', cs = encO y ∧ True := by
  obtain ⟨xs, n, -, hx, hl, hxl, hf⟩ := DataW.trod_struct Try.underlying72 h
  rw [show Try.prog.cellsOf 72 = 3 by kernel_rfl] at hl
  match cs, hl, xs, hxl with
  | [v0, v1, v2], _, [y0, y1, y2], _ =>
    have g0 := hf 0 _ rfl
    have g1 := hf 1 _ rfl
    have g2 := hf 2 _ rfl
    change DataW.trod en Try.prog w base spare held n 4 ((([v0, v1, v2] : List Value).drop 0).take (Try.prog.cellsOf 4)) = some y0 at g0
    rw [show Try.prog.cellsOf 4 = 1 by kernel_rfl] at g0
    change DataW.trod en Try.prog w base spare held n 4 [v0] = some y0 at g0
    change DataW.trod en Try.prog w base spare held n 9 ((([v0, v1, v2] : List Value).drop 1).take (Try.prog.cellsOf 9)) = some y1 at g1
    rw [show Try.prog.cellsOf 9 = 1 by kernel_rfl] at g1
    change DataW.trod en Try.prog w base spare held n 9 [v1] = some y1 at g1
    change DataW.trod en Try.prog w base spare held n 9 ((([v0, v1, v2] : List Value).drop 2).take (Try.prog.cellsOf 9)) = some y2 at g2
    rw [show Try.prog.cellsOf 9 = 1 by kernel_rfl] at g2
    change DataW.trod en Try.prog w base spare held n 9 [v2] = some y2 at g2
    obtain ⟨z0, k0, _⟩ := DataW.trod_bool Try.underlying4 g0
    obtain ⟨z1, k1, _, _⟩ := DataW.trod_string Try.underlying9 g1
    obtain ⟨z2, k2, _, _⟩ := DataW.trod_string Try.underlying9 g2
    simp only [List.cons.injEq, and_true] at k0 k1 k2
    subst k0 k1 k2
    exact ⟨⟨z0, z1, z2⟩, rfl, trivial⟩
theorem open_ti {n : Nat} {cs : List Value} {x : DataW H × List MemPlace} (h : DataW.trod en Try.prog w base spare held n 35 cs = some x) : ∃ y : Ti, cs = encT y ∧ TxV w y.vc y.vo y.x ∧ y.x.cs.length ≤ 9223372036854775807 ∧ y.x.os.length ≤ 9223372036854775807 := by
  obtain ⟨xs, n, -, hx, hl, hxl, hf⟩ := DataW.trod_struct Try.underlying35 h
  rw [show Try.prog.cellsOf 35 = 2 by kernel_rfl] at hl
  match cs, hl, xs, hxl with
  | [v0, v1], _, [y0, y1], _ =>
    have g0 := hf 0 _ rfl
    have g1 := hf 1 _ rfl
    change DataW.trod en Try.prog w base spare held n 32 ((([v0, v1] : List Value).drop 0).take (Try.prog.cellsOf 32)) = some y0 at g0
    rw [show Try.prog.cellsOf 32 = 1 by kernel_rfl] at g0
    change DataW.trod en Try.prog w base spare held n 32 [v0] = some y0 at g0
    change DataW.trod en Try.prog w base spare held n 33 ((([v0, v1] : List Value).drop 1).take (Try.prog.cellsOf 33)) = some y1 at g1
    rw [show Try.prog.cellsOf 33 = 1 by kernel_rfl] at g1
    change DataW.trod en Try.prog w base spare held n 33 [v1] = some y1 at g1
    obtain ⟨lc, a1, a2, -, -⟩ := open_row (enc := encC) (z := 2) (fun _ => rfl) (by decide) ⟨⟨#[]⟩, 0⟩ Try.underlying32 (by kernel_rfl) (fun _ _ _ h => open_cn h) g0
    obtain ⟨lo, b1, b2, -, b4⟩ := open_row (enc := encO) (z := 3) (fun _ => rfl) (by decide) ⟨false, ⟨#[]⟩, ⟨#[]⟩⟩ Try.underlying33 (by kernel_rfl) (fun _ _ _ h => open_op h) g1
    exact ⟨⟨v0, v1, ⟨lc, lo⟩⟩, rfl, ⟨a1, b1, b4⟩, by unfold maxLen at a2; exact a2, by unfold maxLen at b2; exact b2⟩
theorem open_txs {r : Reach} {v : Value} {d : DataW H} {p : List MemPlace} (hv : Value.okWide Try.prog w r b0 76 v) (h : DataW.Trod en Try.prog w base spare held 76 v d p) : ∃ l : List Ti, Txs w v l ∧ l.length ≤ 9223372036854775807 := by
  obtain ⟨a0, l0, c0, rfl⟩ := okWide_slice Try.underlying76 hv
  obtain ⟨fuel, hf⟩ := h
  obtain ⟨l, a1, a2, a3, -⟩ := open_row (v := .slice a0 l0 c0) (enc := encT) (z := 2) (fun _ => rfl) (by decide) ⟨.slice none 0 0, .slice none 0 0, ⟨[], []⟩⟩ Try.underlying76 (by kernel_rfl) (fun _ _ _ h => open_ti h) hf
  exact ⟨l, ⟨a1, a3⟩, by unfold maxLen at a2; exact a2⟩
end
end Go.Proofs.Ytbfkgbickjfcjaa
