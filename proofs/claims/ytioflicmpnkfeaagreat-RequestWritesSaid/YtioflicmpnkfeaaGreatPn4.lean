/- Messages of fields, plainly: joined, cut, longer. Nothing of the program. -/
import Derived.Test.YtioflicmpnkfeaaGreatPm
namespace Go.Proofs.YtioflicmpnkfeaaGreat
open Go Go.RowKit
/-- What is told of a value that is read. -/
structure Rv (w : Nat) (l : List UInt8) (v : Nat) (t : List UInt8) (k : Nat) : Prop where
  fits : k ≤ l.length
  ok : ∀ n, mayk n w = true → Fd.ok ⟨n, w, v, t⟩
  short : ∀ n, (vby ⟨n, w, v, t⟩).length ≤ k
  own : ∀ z, rdv w (l.take k ++ z) = (v, t, k, 0)
  cut : ∀ j, j < k → (rdv w (l.take j)).2.2.2 = 8
theorem rdv_facts {w : Nat} (hw : w = 0 ∨ w = 1 ∨ w = 2 ∨ w = 5) {l : List UInt8} (hl64 : l.length < 18446744073709551616) {v : Nat} {t : List UInt8} {k : Nat} (h : rdv w l = (v, t, k, 0)) : Rv w l v t k := by
  rcases hw with rfl | rfl | rfl | rfl
  · simp only [rdv, if_true] at h
    obtain ⟨N, C, K, hr⟩ : ∃ N C K, Bt.rd l 0 0 = (N, C, K) := ⟨_, _, _, rfl⟩
    rw [hr] at h
    simp only [Prod.mk.injEq] at h
    obtain ⟨rfl, rfl, rfl, rfl⟩ := h
    obtain ⟨a1, a2, a3, a4⟩ := Bt.rd_pre l 0 0 _ _ hr
    have hf := Bt.rd_facts l 0 0 (by omega) (by simp)
    rw [hr] at hf
    refine ⟨by omega, fun n hn => ⟨hn, fun _ => hf.1, fun e => (by cases e), fun e => (by cases e), fun _ => rfl⟩, fun n => ?_, fun z => ?_, fun j hj => ?_⟩
    · simp only [vby, if_true]
      rw [Bt.vint_length]
      exact Bt.rd_vlen hr
    · have := a4 z
      rw [Nat.sub_zero] at this
      simp only [rdv, if_true]
      rw [this]
    · simp only [rdv, if_true]
      exact a3 j (by omega)
  · simp only [rdv, if_true, show ¬ (1 : Nat) = 0 from by decide, if_false] at h
    split at h
    · rename_i h8
      simp only [Prod.mk.injEq, and_true] at h
      obtain ⟨rfl, rfl, rfl⟩ := h
      have hlt : Bt.fv (l.take 8) < 18446744073709551616 := by
        have := Bt.fv_lt (l.take 8)
        rw [List.length_take, show min 8 l.length = 8 by omega, e8] at this
        exact this
      refine ⟨h8, fun n hn => ⟨hn, fun _ => hlt, fun e => (by cases e), fun e => (by cases e), fun _ => rfl⟩, fun n => ?_, fun z => ?_, fun j hj => ?_⟩
      · simp only [vby, if_true, show ¬ (1 : Nat) = 0 from by decide, if_false]
        rw [Bt.fx_length]
        exact Nat.le_refl _
      · simp only [rdv, if_true, show ¬ (1 : Nat) = 0 from by decide, if_false]
        rw [if_pos (by rw [List.length_append, List.length_take]; omega), take_pre0 (by rw [List.length_take]; omega)]
      · simp only [rdv, if_true, show ¬ (1 : Nat) = 0 from by decide, if_false]
        rw [if_neg (by rw [List.length_take]; omega)]
    · simp at h
  · simp only [rdv, if_true, show ¬ (2 : Nat) = 0 from by decide, show ¬ (2 : Nat) = 1 from by decide, if_false] at h
    obtain ⟨N, C, K, hr⟩ : ∃ N C K, Bt.rd l 0 0 = (N, C, K) := ⟨_, _, _, rfl⟩
    rw [hr] at h
    dsimp only at h
    split at h
    · rename_i hK
      simp only [Prod.mk.injEq] at h
      omega
    · rename_i hK
      have hK0 : K = 0 := by omega
      subst hK0
      split at h
      · simp at h
      · rename_i hN
        simp only [Prod.mk.injEq, and_true] at h
        obtain ⟨rfl, rfl, rfl⟩ := h
        obtain ⟨a1, a2, a3, a4⟩ := Bt.rd_pre l 0 0 _ _ hr
        have htl : ((l.drop C).take N).length = N := by rw [List.length_take, List.length_drop]; omega
        refine ⟨by omega, fun n hn => ⟨hn, fun e => (by rcases e with e | e <;> cases e), fun e => (by cases e), fun _ => ⟨rfl, by dsimp only; rw [htl]; omega⟩, fun e => absurd rfl e⟩, fun n => ?_, fun z => ?_, fun j hj => ?_⟩
        · simp only [vby, if_true, show ¬ (2 : Nat) = 0 from by decide, show ¬ (2 : Nat) = 1 from by decide, if_false]
          have := Bt.rd_vlen hr
          rw [List.length_append, Bt.vint_length, htl]
          omega
        · have h4 := a4 ((l.drop C).take N ++ z)
          rw [Nat.sub_zero, ← List.append_assoc, ← List.take_add] at h4
          have h5 : (l.take (C + N) ++ z).length - C = N + z.length := by rw [List.length_append, List.length_take]; omega
          have h6 : (l.take (C + N) ++ z).drop C = (l.drop C).take N ++ z := by
            rw [List.take_add, List.append_assoc, drop_pre0 (by rw [List.length_take]; omega)]
          simp only [rdv, if_true, show ¬ (2 : Nat) = 0 from by decide, show ¬ (2 : Nat) = 1 from by decide, if_false]
          rw [h4]
          dsimp only
          rw [if_neg (by decide), h5, if_neg (by omega), h6, take_pre0 htl]
        · simp only [rdv, if_true, show ¬ (2 : Nat) = 0 from by decide, show ¬ (2 : Nat) = 1 from by decide, if_false]
          by_cases hjC : j < C
          · have := a3 j (by omega)
            rw [if_pos (by rw [this]; decide)]
            exact this
          · have h4 := a4 ((l.drop C).take (j - C))
            rw [Nat.sub_zero, ← List.take_add, show C + (j - C) = j by omega] at h4
            rw [h4]
            dsimp only
            rw [if_neg (by decide), if_pos (by rw [List.length_take]; omega)]
  · simp only [rdv, show ¬ (5 : Nat) = 0 from by decide, show ¬ (5 : Nat) = 1 from by decide, show ¬ (5 : Nat) = 2 from by decide, if_false] at h
    split at h
    · rename_i h8
      simp only [Prod.mk.injEq, and_true] at h
      obtain ⟨rfl, rfl, rfl⟩ := h
      have hlt : Bt.fv (l.take 4) < 4294967296 := by
        have := Bt.fv_lt (l.take 4)
        rw [List.length_take, show min 4 l.length = 4 by omega, e4] at this
        exact this
      refine ⟨h8, fun n hn => ⟨hn, fun e => (by rcases e with e | e <;> cases e), fun _ => hlt, fun e => (by cases e), fun _ => rfl⟩, fun n => ?_, fun z => ?_, fun j hj => ?_⟩
      · simp only [vby, show ¬ (5 : Nat) = 0 from by decide, show ¬ (5 : Nat) = 1 from by decide, show ¬ (5 : Nat) = 2 from by decide, if_false]
        rw [Bt.fx_length]
        exact Nat.le_refl _
      · simp only [rdv, show ¬ (5 : Nat) = 0 from by decide, show ¬ (5 : Nat) = 1 from by decide, show ¬ (5 : Nat) = 2 from by decide, if_false]
        rw [if_pos (by rw [List.length_append, List.length_take]; omega), take_pre0 (by rw [List.length_take]; omega)]
      · simp only [rdv, show ¬ (5 : Nat) = 0 from by decide, show ¬ (5 : Nat) = 1 from by decide, show ¬ (5 : Nat) = 2 from by decide, if_false]
        rw [if_neg (by rw [List.length_take]; omega)]
    · simp at h
theorem rdv_err {w : Nat} (l : List UInt8) : (rdv w l).2.2.2 = 0 ∨ (rdv w l).2.2.2 = 4 ∨ (rdv w l).2.2.2 = 8 := by
  have h := Bt.rd_err l 0 0
  unfold rdv
  repeat' split
  all_goals first | exact h | exact .inl rfl | exact .inr (.inr rfl) | simp
theorem rdv_bad {w : Nat} {l : List UInt8} (r : List UInt8) (h : (rdv w l).2.2.2 = 4) : (rdv w (l ++ r)).2.2.2 = 4 := by
  obtain ⟨N, C, K, hr⟩ : ∃ N C K, Bt.rd l 0 0 = (N, C, K) := ⟨_, _, _, rfl⟩
  unfold rdv at h ⊢
  rw [hr] at h
  dsimp only at h
  by_cases h0 : w = 0
  · rw [if_pos h0] at h ⊢
    dsimp only at h ⊢
    subst h
    exact Bt.rd_bad l 0 0 N C r hr
  · rw [if_neg h0] at h ⊢
    by_cases h1 : w = 1
    · rw [if_pos h1] at h
      split at h <;> simp at h
    · rw [if_neg h1] at h ⊢
      by_cases h2 : w = 2
      · rw [if_pos h2] at h ⊢
        split at h
        · dsimp only at h
          subst h
          have := Bt.rd_bad l 0 0 N C r hr
          rw [if_pos (by rw [this]; decide)]
          exact this
        · split at h <;> simp at h
      · rw [if_neg h2] at h
        split at h <;> simp at h
/-- What is told of a field that is read. -/
structure Rf (l : List UInt8) (f : Fd) (k : Nat) : Prop where
  pos : 1 ≤ k
  fits : k ≤ l.length
  ok : f.ok
  short : (fby f).length ≤ k
  own : ∀ z, rdf (l.take k ++ z) = (f, k, 0)
  cut : ∀ j, j < k → (rdf (l.take j)).2.2 = 8
theorem rdf_facts {l : List UInt8} (hl64 : l.length < 18446744073709551616) {f : Fd} {k : Nat} (h : rdf l = (f, k, 0)) : Rf l f k := by
  obtain ⟨N, C, K, hr⟩ : ∃ N C K, Bt.rd l 0 0 = (N, C, K) := ⟨_, _, _, rfl⟩
  unfold rdf at h
  rw [hr] at h
  dsimp only at h
  split at h
  · rename_i hK
    simp only [Prod.mk.injEq] at h
    omega
  · rename_i hK
    have hK0 : K = 0 := by omega
    subst hK0
    split at h
    · simp at h
    · rename_i hm
      simp only [not_or, Bool.not_eq_false] at hm
      obtain ⟨hm1, hm2⟩ := hm
      obtain ⟨v, t, c, e, hx⟩ : ∃ v t c e, rdv (N % 8) (l.drop C) = (v, t, c, e) := ⟨_, _, _, _, rfl⟩
      rw [hx] at h
      dsimp only at h
      split at h
      · rename_i he
        simp only [Prod.mk.injEq] at h
        omega
      · rename_i he
        have he0 : e = 0 := by omega
        subst he0
        simp only [Prod.mk.injEq, and_true] at h
        obtain ⟨rfl, rfl⟩ := h
        obtain ⟨a1, a2, a3, a4⟩ := Bt.rd_pre l 0 0 _ _ hr
        obtain ⟨w1, w2, w3⟩ := mayk_w hm2
        have R := rdv_facts w3 (by rw [List.length_drop]; omega) hx
        have hfit := R.fits
        rw [List.length_drop] at hfit
        have hNN : N / 8 * 8 + N % 8 = N := by omega
        refine ⟨by omega, by omega, R.ok _ hm2, ?_, fun z => ?_, fun j hj => ?_⟩
        · have h1 := R.short (N / 8)
          have h2 := Bt.rd_vlen hr
          unfold fby
          dsimp only
          rw [hNN, List.length_append, Bt.vint_length]
          omega
        · have h4 := a4 ((l.drop C).take c ++ z)
          rw [Nat.sub_zero, ← List.append_assoc, ← List.take_add] at h4
          have h6 : (l.take (C + c) ++ z).drop C = (l.drop C).take c ++ z := by
            rw [List.take_add, List.append_assoc, drop_pre0 (by rw [List.length_take]; omega)]
          unfold rdf
          rw [h4]
          dsimp only
          rw [if_neg (by decide), if_neg (by rw [hm2]; simp; omega), h6, R.own z]
          dsimp only
          rw [if_neg (by decide)]
        · unfold rdf
          by_cases hjC : j < C
          · have := a3 j (by omega)
            rw [if_pos (by rw [this]; decide)]
            exact this
          · have h4 := a4 ((l.drop C).take (j - C))
            rw [Nat.sub_zero, ← List.take_add, show C + (j - C) = j by omega] at h4
            have h7 := R.cut (j - C) (by omega)
            have h8 : (l.take j).drop C = (l.drop C).take (j - C) := by rw [List.drop_take]
            rw [h4]
            dsimp only
            rw [if_neg (by decide), if_neg (by rw [hm2]; simp; omega), h8, if_pos (by rw [h7]; decide)]
            exact h7
theorem rdf_err (l : List UInt8) : (rdf l).2.2 = 0 ∨ (rdf l).2.2 = 4 ∨ (rdf l).2.2 = 8 := by
  have h := Bt.rd_err l 0 0
  have h2 := rdv_err (w := (Bt.rd l 0 0).1 % 8) (l.drop (Bt.rd l 0 0).2.1)
  unfold rdf
  split
  · exact h
  · split
    · exact .inr (.inl rfl)
    · dsimp only
      split
      · exact h2
      · exact .inl rfl
theorem rdf_bad {l : List UInt8} (r : List UInt8) (h : (rdf l).2.2 = 4) : (rdf (l ++ r)).2.2 = 4 := by
  obtain ⟨N, C, K, hr⟩ : ∃ N C K, Bt.rd l 0 0 = (N, C, K) := ⟨_, _, _, rfl⟩
  unfold rdf at h
  rw [hr] at h
  dsimp only at h
  split at h
  · dsimp only at h
    subst h
    have := Bt.rd_bad l 0 0 N C r hr
    unfold rdf
    rw [if_pos (by rw [this]; decide)]
    exact this
  · rename_i hK
    have hK0 : K = 0 := by omega
    subst hK0
    obtain ⟨a1, a2, a3, a4⟩ := Bt.rd_pre l 0 0 _ _ hr
    have h4 := a4 (l.drop C ++ r)
    rw [Nat.sub_zero, ← List.append_assoc, List.take_append_drop] at h4
    unfold rdf
    rw [h4]
    dsimp only
    rw [if_neg (by decide)]
    split at h
    · rename_i hm
      rw [if_pos hm]
    · rename_i hm
      rw [if_neg hm]
      split at h
      · have h9 := rdv_bad r h
        rw [List.drop_append_of_le_length (by omega), if_pos (by rw [h9]; decide)]
        exact h9
      · simp at h
end Go.Proofs.YtioflicmpnkfeaaGreat
