/- What an act leaves of a tape: as it was, or it is the act's own. -/
import Derived.Test.YticponohbnkgdaaDw
namespace Go.Proofs.Yticponohbnkgdaa
open Go Go.RowKit
theorem act_T (d : Dk) (a : Ac) (j : Nat) (h4 : a.what ≤ 4) : (actD d a).2.T j = d.T j ∨ ((j : Int) = a.t ∧ a.what ≠ 4 ∧ ((actD d a).1.2 = 0 ∨ ((actD d a).1.2 = 45 ∧ a.what = 0))) := by
  unfold actD
  by_cases h0 : a.what = 0
  · rw [if_pos h0]
    rcases doD_T d a.t true (wf d a.s) j with e | ⟨_, _, h, _, h2, _⟩
    · exact .inl e
    · exact .inr ⟨h, by omega, h2.imp id (fun h => ⟨h.1, h0⟩)⟩
  rw [if_neg h0]
  by_cases h1 : a.what = 1
  · rw [if_pos h1]
    rcases doD_T d a.t false sy j with e | ⟨_, _, h, _, h2, _⟩
    · exact .inl e
    · exact .inr ⟨h, by omega, h2.imp id (fun h => absurd h.2 (by decide))⟩
  rw [if_neg h1]
  by_cases h2 : a.what = 2
  · rw [if_pos h2]
    rcases doD_T d a.t false (tr a.n) j with e | ⟨_, _, h, _, h2, _⟩
    · exact .inl e
    · exact .inr ⟨h, by omega, h2.imp id (fun h => absurd h.2 (by decide))⟩
  rw [if_neg h2]
  by_cases h3 : a.what = 3
  · rw [if_pos h3]
    rcases doD_T d a.t false wi j with e | ⟨_, _, h, _, h2, _⟩
    · exact .inl e
    · exact .inr ⟨h, by omega, h2.imp id (fun h => absurd h.2 (by decide))⟩
  rw [if_neg h3, if_pos (by omega)]
  exact .inl rfl
end Go.Proofs.Yticponohbnkgdaa
