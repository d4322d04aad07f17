/- Arguments that are a label, a sample, opened. -/
import Derived.Test.YtakdplfffkadpaaTx
import Derived.Deep.SlicePairs
import Derived.OpenShut
import Derived.SizedLaws
namespace Go.Proofs.Ytakdplfffkadpaa
open Go Go.RowKit Go.Deep Go.ChangeShapes Go.WideShapes
set_option maxRecDepth 100000
theorem all_weights {l : List Nat} (h : l.all (· ≤ reachBytes) = true) : ∀ k ∈ l, k ≤ reachBytes := fun k hk => of_decide_eq_true (List.all_eq_true.1 h k hk)
theorem open_label {H : Type} {enc : TypeId × Value → H} {w : World} {base b0 : Nat} {spare : Nat → Bool} {held : Bool} {r : Reach} {v : Value} {d : DataW H} {p : List MemPlace} (hv : Value.okWide Try.prog w r b0 33 v) (h : DataW.Trod enc Try.prog w base spare held 33 v d p) (hw : ∀ k ∈ d.weights Try.prog 33, k ≤ reachBytes) : ∃ x : Lb, v = .agg #[.string x.n, .string x.v] ∧ x.n.size ≤ 140737488351232 ∧ x.v.size ≤ 140737488351232 := by
  obtain ⟨cs, rfl, hc⟩ := okWide_struct Try.underlying33 hv
  rw [show Try.prog.cellsOf 33 = 2 by kernel_rfl] at hc
  obtain ⟨c0, c1, rfl⟩ : ∃ c0 c1, cs = #[c0, c1] := by
    obtain ⟨l⟩ := cs
    match l, hc with
    | [a, b], _ => exact ⟨a, b, rfl⟩
  obtain ⟨fuel, hf⟩ := h
  obtain ⟨y0, y1, n, hx, -, g0, g1⟩ := trod_struct2 (cs := [c0, c1]) Try.underlying33 hf
  obtain ⟨z0, k0, e0, f0⟩ := DataW.trod_string (cs := [c0]) Try.underlying9 g0
  obtain ⟨z1, k1, e1, f1⟩ := DataW.trod_string (cs := [c1]) Try.underlying9 g1
  simp only [List.cons.injEq, and_true] at k0 k1
  subst k0 k1
  have hd := (Prod.mk.inj hx).1
  rw [e0, e1] at hd
  rw [hd] at hw
  have key : ∀ k, k = z0.data.toList.length ∨ k = z1.data.toList.length → k ≤ reachBytes := fun k hk => hw k (by
    unfold DataW.weights
    rw [Try.underlying33]
    show k ∈ DataW.weightsEach Try.prog [9, 9] [.lit (.string z0.data.toList), .lit (.string z1.data.toList)]
    simp only [DataW.weightsEach, DataW.weights, List.append_nil, List.mem_append, List.mem_singleton]
    exact hk)
  have h0 := key _ (.inl rfl)
  have h1 := key _ (.inr rfl)
  unfold reachBytes at h0 h1
  have l0 : z0.data.toList.length = z0.size := by simp
  have l1 : z1.data.toList.length = z1.size := by simp
  exact ⟨⟨z0, z1⟩, rfl, by show z0.size ≤ _; omega, by show z1.size ≤ _; omega⟩
theorem open_sample {H : Type} {enc : TypeId × Value → H} {w : World} {base b0 : Nat} {spare : Nat → Bool} {held : Bool} {r : Reach} {v : Value} {d : DataW H} {p : List MemPlace} (hv : Value.okWide Try.prog w r b0 37 v) (h : DataW.Trod enc Try.prog w base spare held 37 v d p) : ∃ x : Sm, v = .agg #[.int .i64 x.t, .int .u64 (x.b : Int)] ∧ x.ok := by
  obtain ⟨cs, rfl, hc⟩ := okWide_struct Try.underlying37 hv
  rw [show Try.prog.cellsOf 37 = 2 by kernel_rfl] at hc
  obtain ⟨c0, c1, rfl⟩ : ∃ c0 c1, cs = #[c0, c1] := by
    obtain ⟨l⟩ := cs
    match l, hc with
    | [a, b], _ => exact ⟨a, b, rfl⟩
  obtain ⟨fuel, hf⟩ := h
  obtain ⟨y0, y1, n, -, -, g0, g1⟩ := trod_struct2 (cs := [c0, c1]) Try.underlying37 hf
  obtain ⟨z0, k0, _, f0⟩ := DataW.trod_int (cs := [c0]) Try.underlying2 g0
  obtain ⟨z1, k1, _, f1⟩ := DataW.trod_int (cs := [c1]) Try.underlying35 g1
  simp only [List.cons.injEq, and_true] at k0 k1
  subst k0 k1
  have hb0 := Go.bounds_i64 f0
  have hb1 := Go.bounds_u64 f1
  obtain ⟨m, rfl⟩ := Int.eq_ofNat_of_zero_le hb1.1
  exact ⟨⟨z0, m⟩, rfl, ⟨hb0.1, by have := hb0.2; show z0 ≤ _; omega, by have := hb1.2; show m < _; omega⟩⟩
end Go.Proofs.Ytakdplfffkadpaa
