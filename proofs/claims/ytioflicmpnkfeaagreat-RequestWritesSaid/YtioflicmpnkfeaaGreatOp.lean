/- Arguments opened: labels, samples, series; a slice's length is held by the form's reach. -/
import Derived.Test.YtioflicmpnkfeaaGreatLg
import Derived.Deep.SlicePairs
import Derived.SizedLaws
import Derived.OpenShut
namespace Go.Proofs.YtioflicmpnkfeaaGreat
open Go Go.RowKit Go.Deep Go.ChangeShapes Go.WideShapes
set_option maxRecDepth 100000
section
variable {H : Type} {enc : TypeId × Value → H} {P : Program} {w : World} {base : Nat} {spare : Nat → Bool} {held : Bool}
/-- What a row of pairs reads as. -/
structure PairsOf (enc : TypeId × Value → H) (P : Program) (w : World) (base : Nat) (spare : Nat → Bool) (held : Bool) (t0 t1 : TypeId) (v : Value) (d : DataW H) (l : List (Pv × DataW H × DataW H)) : Prop where
  at' : At2 w v (l.map Prod.fst)
  len : l.length ≤ maxLen
  each : ∀ q ∈ l, (∃ n x, DataW.trod enc P w base spare held n t0 [q.1.1] = some (q.2.1, x)) ∧ ∃ n x, DataW.trod enc P w base spare held n t1 [q.1.2] = some (q.2.2, x)
  data : (l = [] ∧ d = .nil) ∨ ∃ rest, d = .slice (l.map fun q => .agg [q.2.1, q.2.2]) rest
theorem open_pairs {t e : TypeId} {f0 f1 : Field} {fuel : Nat} {v : Value} {x : DataW H × List MemPlace} (ht : P.underlying t = some (.slice e)) (he : P.underlying e = some (.struct #[f0, f1]))
    (ce : P.cellsOf e = 2) (o0 : f0.offset = 0) (o1 : f1.offset = 1) (c0 : P.cellsOf f0.type = 1) (c1 : P.cellsOf f1.type = 1)
    (h : DataW.trod enc P w base spare held fuel t [v] = some x) : ∃ l, PairsOf enc P w base spare held f0.type f1.type v x.1 l := by
  rcases open_slice_pairs ht he ce o0 o1 c0 c1 h with ⟨h0, rfl⟩ | ⟨a, len, cap, m, n, V0, V1, D0, D1, P0, P1, h0, _, hl, hm, hmm, hx, hc⟩
  · cases h0
    exact ⟨[], At2.nil _, Nat.zero_le _, fun q hq => (by cases hq), .inl ⟨rfl, rfl⟩⟩
  · cases h0
    have hlm : len ≤ m := by rw [hmm]; split <;> omega
    refine ⟨(List.range len).map fun i => ((V0 i, V1 i), D0 i, D1 i), ?_, by rw [List.length_map, List.length_range]; omega, ?_, .inr ⟨(List.range (m - len)).map fun j => .agg [D0 (len + j), D1 (len + j)], by rw [List.map_map, hx]; rfl⟩⟩
    · rcases Nat.eq_zero_or_pos len with h0 | h0
      · subst h0; exact .inl ⟨rfl, _, _, rfl⟩
      · obtain ⟨g, o, spot⟩ := a
        have hs : spot = none := by
          have := World.cell?_spot (hc 0 (by omega)).1
          simpa [Addr.add] using this
        subst hs
        refine .inr ⟨g, o, cap, by simp, fun j hj => ?_⟩
        have hj' : j < len := by simpa using hj
        obtain ⟨q0, q1, -, -⟩ := hc j (by omega)
        rw [Go.WideShapes.add_plain] at q0 q1
        simp only [List.getElem_map, List.getElem_range]
        exact ⟨q0, by rw [Nat.add_assoc]; exact q1⟩
    · intro q hq
      obtain ⟨i, hi, rfl⟩ := List.mem_map.1 hq
      have hi := List.mem_range.1 hi
      obtain ⟨-, -, q2, q3⟩ := hc i (by omega)
      exact ⟨⟨_, _, q2⟩, _, _, q3⟩
end
section
variable {H : Type} {enc : TypeId × Value → H} {w : World} {base : Nat} {spare : Nat → Bool} {held : Bool}
theorem open_lbs {fuel : Nat} {v : Value} {x : DataW H × List MemPlace} (h : DataW.trod enc Tryz.prog w base spare held fuel 26 [v] = some x) : ∃ ls : List Lb, LAt w v ls ∧ ls.length ≤ maxLen ∧ ∀ y ∈ ls, y.n.size ≤ maxLen ∧ y.v.size ≤ maxLen := by
  obtain ⟨l, hP⟩ := open_pairs Tryz.underlying26 Tryz.underlying35 (by kernel_rfl) rfl rfl (by kernel_rfl) (by kernel_rfl) h
  have key : ∀ q ∈ l, ∃ y : Lb, q.1 = lp y ∧ y.n.size ≤ maxLen ∧ y.v.size ≤ maxLen := fun q hq => by
    obtain ⟨⟨n0, x0, g0⟩, n1, x1, g1⟩ := hP.each q hq
    obtain ⟨z0, k0, _, f0⟩ := DataW.trod_string Tryz.underlying9 g0
    obtain ⟨z1, k1, _, f1⟩ := DataW.trod_string Tryz.underlying9 g1
    obtain ⟨⟨v0, v1⟩, d⟩ := q
    simp only [List.cons.injEq, and_true] at k0 k1
    subst k0 k1
    exact ⟨⟨z0, z1⟩, rfl, f0, f1⟩
  have ex : ∀ l' : List (Pv × DataW H × DataW H), (∀ q ∈ l', ∃ y : Lb, q.1 = lp y ∧ y.n.size ≤ maxLen ∧ y.v.size ≤ maxLen) → ∃ ls : List Lb, l'.map Prod.fst = ls.map lp ∧ ∀ y ∈ ls, y.n.size ≤ maxLen ∧ y.v.size ≤ maxLen := fun l' => by
    induction l' with
    | nil => exact fun _ => ⟨[], rfl, fun y hy => by cases hy⟩
    | cons q r ih =>
      intro hk
      obtain ⟨y, h1, h2⟩ := hk q (by simp)
      obtain ⟨ls, h3, h4⟩ := ih (fun q hq => hk q (by simp [hq]))
      refine ⟨y :: ls, by rw [List.map_cons, List.map_cons, h1, h3], fun z hz => ?_⟩
      rcases List.mem_cons.1 hz with rfl | hz
      · exact h2
      · exact h4 z hz
  obtain ⟨ls, h1, h2⟩ := ex l key
  have ha := hP.at'
  have hl := hP.len
  rw [h1] at ha
  have := congrArg List.length h1
  rw [List.length_map, List.length_map] at this
  exact ⟨ls, ha, by omega, h2⟩
theorem open_sms {fuel : Nat} {v : Value} {x : DataW H × List MemPlace} (h : DataW.trod enc Tryz.prog w base spare held fuel 27 [v] = some x) (hw : ∀ k ∈ x.1.weights Tryz.prog 27, k ≤ reachBytes) : ∃ ss : List Sm, MAt w v ss ∧ ss.length ≤ 8796093022208 ∧ ∀ y ∈ ss, y.ok := by
  obtain ⟨l, hP⟩ := open_pairs Tryz.underlying27 Tryz.underlying54 (by kernel_rfl) rfl rfl (by kernel_rfl) (by kernel_rfl) h
  have key : ∀ q ∈ l, ∃ y : Sm, q.1 = sp y ∧ y.ok := fun q hq => by
    obtain ⟨⟨n0, x0, g0⟩, n1, x1, g1⟩ := hP.each q hq
    obtain ⟨z0, k0, _, f0⟩ := DataW.trod_int Tryz.underlying2 g0
    obtain ⟨z1, k1, _, f1⟩ := DataW.trod_int Tryz.underlying45 g1
    obtain ⟨⟨v0, v1⟩, d⟩ := q
    simp only [List.cons.injEq, and_true] at k0 k1
    subst k0 k1
    have hb0 := Go.bounds_i64 f0
    have hb1 := Go.bounds_u64 f1
    obtain ⟨m, rfl⟩ := Int.eq_ofNat_of_zero_le hb1.1
    exact ⟨⟨z0, m⟩, rfl, ⟨hb0.1, by have := hb0.2; show z0 ≤ _; omega, by have := hb1.2; show m < _; omega⟩⟩
  have ex : ∀ l' : List (Pv × DataW H × DataW H), (∀ q ∈ l', ∃ y : Sm, q.1 = sp y ∧ y.ok) → ∃ ss : List Sm, l'.map Prod.fst = ss.map sp ∧ ∀ y ∈ ss, y.ok := fun l' => by
    induction l' with
    | nil => exact fun _ => ⟨[], rfl, fun y hy => by cases hy⟩
    | cons q r ih =>
      intro hk
      obtain ⟨y, h1, h2⟩ := hk q (by simp)
      obtain ⟨ls, h3, h4⟩ := ih (fun q hq => hk q (by simp [hq]))
      refine ⟨y :: ls, by rw [List.map_cons, List.map_cons, h1, h3], fun z hz => ?_⟩
      rcases List.mem_cons.1 hz with rfl | hz
      · exact h2
      · exact h4 z hz
  obtain ⟨ss, h1, h2⟩ := ex l key
  have ha := hP.at'
  rw [h1] at ha
  have hl := congrArg List.length h1
  rw [List.length_map, List.length_map] at hl
  refine ⟨ss, ha, ?_, h2⟩
  rcases hP.data with ⟨rfl, _⟩ | ⟨rest, hd⟩
  · rw [← hl]; simp
  · rw [hd] at hw
    have := hw ((l.length + rest.length) * 16) (by
      unfold DataW.weights
      rw [Tryz.underlying27]
      dsimp only
      rw [List.length_map, show Tryz.prog.bytesOf 54 = 16 by kernel_rfl]
      exact List.mem_cons_self ..)
    unfold reachBytes at this
    omega
/-- Series that a call was handed. -/
structure ArgZ (w : World) (v : Value) (zs : List Zr) : Prop where
  at' : SAt w v zs
  len : zs.length ≤ maxLen
  wide : ∀ z ∈ zs, WideZ z
theorem mem_weightsAll {e : TypeId} {k : Nat} : ∀ (l : List (DataW H)) (d : DataW H), d ∈ l → k ∈ d.weights Tryz.prog e → k ∈ DataW.weightsAll Tryz.prog e l
  | [], d, h, _ => by cases h
  | a :: r, d, h, hk => by
    rw [DataW.weightsAll]
    rcases List.mem_cons.1 h with rfl | h
    · exact List.mem_append_left _ hk
    · exact List.mem_append_right _ (mem_weightsAll r d h hk)
theorem open_series {r : Reach} {b0 : Nat} {v : Value} {d : DataW H} {p : List MemPlace} (hv : Value.okWide Tryz.prog w r b0 22 v) (h : DataW.Trod enc Tryz.prog w base spare held 22 v d p) (hw : ∀ k ∈ d.weights Tryz.prog 22, k ≤ reachBytes) : ∃ zs : List Zr, ArgZ w v zs := by
  obtain ⟨a0, l0, c0, rfl⟩ := okWide_slice Tryz.underlying22 hv
  obtain ⟨fuel, hf⟩ := h
  obtain ⟨l, hP⟩ := open_pairs (v := .slice a0 l0 c0) Tryz.underlying22 Tryz.underlying29 (by kernel_rfl) rfl rfl (by kernel_rfl) (by kernel_rfl) hf
  have hwl : ∀ q ∈ l, ∀ k ∈ q.2.2.weights Tryz.prog 27, k ≤ reachBytes := fun q hq k hk => by
    rcases hP.data with ⟨rfl, _⟩ | ⟨rest, hd⟩
    · cases hq
    · refine hw k ?_
      rw [show d = _ from hd]
      unfold DataW.weights
      rw [Tryz.underlying22]
      dsimp only
      refine List.mem_cons_of_mem _ (List.mem_append_left _ (mem_weightsAll _ (.agg [q.2.1, q.2.2]) (List.mem_map_of_mem (f := fun q : Pv × DataW H × DataW H => (.agg [q.2.1, q.2.2] : DataW H)) hq) ?_))
      unfold DataW.weights
      rw [Tryz.underlying29]
      show k ∈ DataW.weightsEach Tryz.prog [26, 27] [q.2.1, q.2.2]
      simp only [DataW.weightsEach, List.append_nil]
      exact List.mem_append_right _ hk
  have ex : ∀ l' : List (Pv × DataW H × DataW H), (∀ q ∈ l', ∃ z : Zr, q.1 = zp z ∧ LAt w z.a z.x.ls ∧ MAt w z.b z.x.ss ∧ WideZ z) → ∃ zs : List Zr, l'.map Prod.fst = zs.map zp ∧ ∀ z ∈ zs, LAt w z.a z.x.ls ∧ MAt w z.b z.x.ss ∧ WideZ z := fun l' => by
    induction l' with
    | nil => exact fun _ => ⟨[], rfl, fun y hy => by cases hy⟩
    | cons q r ih =>
      intro hk
      obtain ⟨y, h1, h2⟩ := hk q (by simp)
      obtain ⟨ls, h3, h4⟩ := ih (fun q hq => hk q (by simp [hq]))
      refine ⟨y :: ls, by rw [List.map_cons, List.map_cons, h1, h3], fun z hz => ?_⟩
      rcases List.mem_cons.1 hz with rfl | hz
      · exact h2
      · exact h4 z hz
  obtain ⟨zs, h1, h2⟩ := ex l fun q hq => by
    obtain ⟨⟨n0, x0, g0⟩, n1, x1, g1⟩ := hP.each q hq
    obtain ⟨ls, a1, a2, a3⟩ := open_lbs g0
    obtain ⟨ss, b1, b2, b3⟩ := open_sms g1 (hwl q hq)
    exact ⟨⟨⟨ls, ss⟩, q.1.1, q.1.2⟩, rfl, a1, b1, a2, b2, a3, b3⟩
  have ha := hP.at'
  have hl := hP.len
  rw [h1] at ha
  have := congrArg List.length h1
  rw [List.length_map, List.length_map] at this
  exact ⟨zs, ⟨ha, fun z hz => (h2 z hz).1, fun z hz => (h2 z hz).2.1⟩, by omega, fun z hz => (h2 z hz).2.2⟩
theorem all_weights {l : List Nat} (h : l.all (· ≤ reachBytes) = true) : ∀ k ∈ l, k ≤ reachBytes := fun k hk => of_decide_eq_true (List.all_eq_true.1 h k hk)
end
end Go.Proofs.YtioflicmpnkfeaaGreat
