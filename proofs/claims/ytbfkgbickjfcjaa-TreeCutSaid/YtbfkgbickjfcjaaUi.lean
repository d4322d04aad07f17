/- What holds of a tree that grew: plainly. -/
import Derived.Test.YtbfkgbickjfcjaaUh
namespace Go.Proofs.Ytbfkgbickjfcjaa
set_option linter.unusedVariables false
set_option linter.unusedSimpArgs false
open Go
structure Good (s : St) : Prop where
  srt : Srt ltI s.H
  rng : ∀ y ∈ s.H, s.low < y.1 ∧ y.1 ≤ s.rev
  low : 0 ≤ s.low ∧ s.low ≤ s.rev
theorem good_emp : Good emp := ⟨List.Pairwise.nil, (fun y h => by cases h), by decide⟩
theorem good_do {s : St} (x : Tx) (h : Good s) : Good (doS s x).2 := by
  unfold doS
  split
  · exact h
  split
  · exact h
  split
  · exact h
  split
  · exact h
  have hr := runO_rev x.os { s with rev := s.rev + 1 }
  generalize runO { s with rev := s.rev + 1 } x.os = q at *
  obtain ⟨s', es⟩ := q
  dsimp only at hr ⊢
  have h0 := h.low
  unfold fin
  by_cases h5 : es = []
  · rw [if_pos h5]
    refine ⟨by rw [hr.2.1]; exact h.srt, fun y hy => ?_, by rw [hr.1, hr.2.2]; exact ⟨h0.1, by omega⟩⟩
    rw [hr.2.1] at hy
    have := h.rng y hy
    rw [hr.1, hr.2.2]
    exact ⟨this.1, by omega⟩
  · rw [if_neg h5]
    refine ⟨?_, fun y hy => ?_, by show 0 ≤ s'.low ∧ s'.low ≤ s'.rev; rw [hr.1, hr.2.2]; exact ⟨h0.1, by omega⟩⟩
    · show Srt ltI (ins ltI s'.rev es s'.H)
      exact Srt.ins linI (by rw [hr.2.1]; exact h.srt)
    · show s'.low < y.1 ∧ y.1 ≤ s'.rev
      rw [hr.1, hr.2.2]
      rcases mem_insV (show y ∈ ins ltI s'.rev es s'.H from hy) with rfl | hy
      · show s.low < s'.rev ∧ s'.rev ≤ s.rev + 1
        rw [hr.1]
        exact ⟨by omega, by omega⟩
      · rw [hr.2.1] at hy
        have := h.rng y hy
        exact ⟨this.1, by omega⟩
theorem finK_eq (rev : Int) : ∀ (L : List (Int × List Ev)), Srt ltI L → finK rev (L.map (·.1)) L = L.filter (fun y => decide (rev < y.1))
  | [], _ => rfl
  | (k, v) :: t, h => by
    have hc := List.pairwise_cons.1 h
    have hk : ∀ y ∈ t, k < y.1 := fun y hy => by have := hc.1 y hy; simpa [ltI] using this
    rw [List.map_cons, finK]
    by_cases hr : rev < k
    · rw [if_pos hr, List.filter_eq_self.2]
      intro y hy
      rcases List.mem_cons.1 hy with rfl | hy
      · exact decide_eq_true hr
      · exact decide_eq_true (by have := hk y hy; omega)
    · rw [if_neg hr, List.filter_cons_of_neg (by simpa using hr)]
      have e : del ltI k ((k, v) :: t) = t := by
        unfold del
        rw [List.filter_eq_nil_iff.2, List.nil_append, List.filter_cons_of_neg (by simp [ltI]), List.filter_eq_self.2]
        · intro y hy; simpa [ltI] using hk y hy
        · intro y hy
          rcases List.mem_cons.1 hy with rfl | hy
          · simp [ltI]
          · have := hk y hy; simp [ltI]; omega
      show finK rev (t.map (·.1)) (del ltI k ((k, v) :: t)) = _
      rw [e]
      exact finK_eq rev t hc.2
theorem cutH_eq {s : St} (h : Good s) (rev : Int) : cutH s rev = s.H.filter (fun y => decide (rev < y.1)) := by
  unfold cutH
  have e : frm ltI s.low s.H = s.H := List.filter_eq_self.2 fun y hy => by have := (h.rng y hy).1; simp [ltI]; omega
  rw [e]
  exact finK_eq rev _ h.srt
theorem good_cut {s : St} (rev : Int) (h : Good s) : Good (cutS s rev).2 := by
  unfold cutS
  split
  · exact h
  · rename_i hn
    have h0 := h.low
    refine ⟨?_, fun y hy => ?_, by show 0 ≤ max s.low rev ∧ max s.low rev ≤ s.rev; omega⟩
    · show Srt ltI (cutH s rev)
      rw [cutH_eq h]
      exact List.Pairwise.filter _ h.srt
    · have hy : y ∈ cutH s rev := hy
      rw [cutH_eq h] at hy
      obtain ⟨h1, h2⟩ := List.mem_filter.1 hy
      have := h.rng y h1
      have h2 := of_decide_eq_true h2
      show max s.low rev < y.1 ∧ y.1 ≤ s.rev
      omega
/-- A cut changes nothing of what happened after it. -/
theorem since_cut {s : St} (h : Good s) (pf : ByteArray) (rev fr : Int) (hfr : rev < fr) : sinceL pf fr (cutS s rev).2 = sinceL pf fr s := by
  unfold cutS
  split
  · rfl
  · show selV pf (frm ltI fr (cutH s rev)) = _
    rw [cutH_eq h]
    unfold sinceL frm
    rw [List.filter_filter]
    congr 1
    apply List.filter_congr
    intro y _
    by_cases hy : fr ≤ y.1
    · have : rev < y.1 := by omega
      simp [ltI, this]
    · simp [ltI]; omega
theorem good_run : ∀ (xs : List Tx) (s : St), Good s → Good (runT s xs)
  | [], _, h => h
  | x :: xs, _, h => good_run xs _ (good_do x h)
/-- At nothing: a tree that was never cut. -/
theorem do_low (s : St) (x : Tx) : (doS s x).2.low = s.low := by
  unfold doS
  split
  · rfl
  split
  · rfl
  split
  · rfl
  split
  · rfl
  have hr := runO_rev x.os { s with rev := s.rev + 1 }
  generalize runO { s with rev := s.rev + 1 } x.os = q at *
  obtain ⟨s', es⟩ := q
  unfold fin
  dsimp only at hr ⊢
  split
  · exact hr.2.2
  · exact hr.2.2
theorem run_low : ∀ (xs : List Tx) (s : St), (runT s xs).low = s.low
  | [], _ => rfl
  | x :: xs, s => (run_low xs _).trans (do_low s x)
theorem eqE_refl (x : En) : eqE x x = true := by simp [eqE]
theorem eqV_refl (x : Ev) : eqV x x = true := by simp [eqV]
theorem rowEq_refl {α : Type} {q : α → α → Bool} (h : ∀ x, q x x = true) : ∀ l : List α, rowEq q l l = true
  | [] => rfl
  | x :: xs => by rw [rowEq, h, rowEq_refl h xs]; rfl
theorem same_refl (s : St) : sameS s s = true := by
  unfold sameS
  rw [rowEq_refl eqE_refl, rowEq_refl eqV_refl]
  simp
end Go.Proofs.Ytbfkgbickjfcjaa
