/- Prefixes among rising keys. Plain mathematics. -/
import Derived.Test.YtbfkgbickjfcjaaTe
import Derived.Test.YtbfkgbickjfcjaaKa
namespace Go.Proofs.Ytbfkgbickjfcjaa
set_option linter.unusedVariables false
set_option linter.unusedSimpArgs false
open Go
theorem bl_cons (a b : UInt8) (x y : List UInt8) : Op.bytesLess (a :: x) (b :: y) = (decide (a < b) || (a == b && Op.bytesLess x y)) := rfl
theorem pre_none : ∀ (p x y : List UInt8), Op.bytesLess x p = false → Lib.hasPrefix x p = false → Op.bytesLess x y = true → Lib.hasPrefix y p = false
  | [], x, y, _, h, _ => by cases x <;> simp [Lib.hasPrefix] at h
  | p :: ps, [], y, h, _, _ => by simp [Op.bytesLess] at h
  | p :: ps, a :: xs, [], _, _, h => by simp [Op.bytesLess] at h
  | p :: ps, a :: xs, c :: ys, h1, h2, h3 => by
    rw [bl_cons] at h1 h3
    have e : ∀ (q : UInt8) (zs : List UInt8), Lib.hasPrefix (q :: zs) (p :: ps) = (q == p && Lib.hasPrefix zs ps) := fun q zs => by show (p == q && Lib.hasPrefix zs ps) = _; rw [show (p == q) = (q == p) from BEq.comm]
    rw [e] at h2 ⊢
    by_cases hc : c = p
    · subst hc
      simp only [Bool.or_eq_false_iff, decide_eq_false_iff_not] at h1
      simp only [Bool.or_eq_true, decide_eq_true_eq, Bool.and_eq_true, beq_iff_eq] at h3
      obtain ⟨h11, h12⟩ := h1
      obtain ⟨rfl, h33⟩ := h3.resolve_left h11
      simp only [beq_self_eq_true, Bool.true_and] at h12 h2 ⊢
      exact pre_none ps xs ys h12 h2 h33
    · simp [hc]
theorem pre_ge : ∀ (p x : List UInt8), Lib.hasPrefix x p = true → Op.bytesLess x p = false
  | [], x, _ => by cases x <;> rfl
  | p :: ps, [], h => by simp [Lib.hasPrefix] at h
  | p :: ps, a :: xs, h => by
    have e : Lib.hasPrefix (a :: xs) (p :: ps) = (a == p && Lib.hasPrefix xs ps) := by show (p == a && Lib.hasPrefix xs ps) = _; rw [show (p == a) = (a == p) from BEq.comm]
    rw [e, Bool.and_eq_true, beq_iff_eq] at h
    obtain ⟨rfl, h⟩ := h
    rw [bl_cons, pre_ge ps xs h]
    simp
end Go.Proofs.Ytbfkgbickjfcjaa
