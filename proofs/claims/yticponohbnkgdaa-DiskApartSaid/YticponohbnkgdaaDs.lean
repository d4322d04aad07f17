/- What stays of a tape. Plain mathematics. -/
import Derived.Test.YticponohbnkgdaaDr
namespace Go.Proofs.Yticponohbnkgdaa
open Go Go.RowKit
theorem doD_T (d : Dk) (t : Int) (torn : Bool) (g : Tp → Tp × Nat) (j : Nat) :
    (doD d t torn g).1.T j = d.T j ∨ (0 ≤ t ∧ t < 32 ∧ (j : Int) = t ∧ (g (d.T j)).2 = 0 ∧ ((doD d t torn g).2 = 0 ∨ ((doD d t torn g).2 = 45 ∧ torn = true)) ∧ (doD d t torn g).1.T j = (g (d.T j)).1) := by
  have key : (res d t g).2 = 0 → upd d.T t.toNat (res d t g).1 j = d.T j ∨ (0 ≤ t ∧ t < 32 ∧ (j : Int) = t ∧ (g (d.T j)).2 = 0 ∧ upd d.T t.toNat (res d t g).1 j = (g (d.T j)).1) := fun h0 => by
    unfold res at *
    split at h0
    · rename_i ht
      rw [if_pos ht]
      by_cases e : j = t.toNat
      · subst e
        rw [upd_same]
        exact .inr ⟨ht.1, ht.2, by omega, h0, rfl⟩
      · rw [upd_other _ _ e]
        exact .inl rfl
    · cases h0
  unfold doD
  by_cases h1 : d.dn = true
  · rw [if_pos h1]; exact .inl rfl
  rw [if_neg h1]
  by_cases h2 : d.dm = true ∧ d.left = 0
  · rw [if_pos h2]
    by_cases h3 : torn = true ∧ (res d t g).2 = 0
    · rw [if_pos h3]
      rcases key h3.2 with h | ⟨a, b, c, e, f⟩
      · exact .inl h
      · exact .inr ⟨a, b, c, e, .inr ⟨rfl, h3.1⟩, f⟩
    · rw [if_neg h3]; exact .inl rfl
  rw [if_neg h2]
  by_cases h3 : (res d t g).2 ≠ 0
  · rw [if_pos h3]; exact .inl rfl
  · rw [if_neg h3]
    rcases key (by omega) with h | ⟨a, b, c, e, f⟩
    · exact .inl h
    · exact .inr ⟨a, b, c, e, .inl rfl, f⟩
theorem extract_extract (s : ByteArray) (n k : Nat) (h : n ≤ k) : (s.extract 0 k).extract 0 n = s.extract 0 n := by
  rw [ByteArray.extract_extract, Nat.zero_add, Nat.zero_add, Nat.min_eq_left h]
theorem extract_app (s x : ByteArray) (n : Nat) (h : n ≤ s.size) : (s ++ x).extract 0 n = s.extract 0 n := by
  rw [ByteArray.extract_append]
  have : x.extract (0 - s.size) (n - s.size) = ByteArray.empty := by
    rw [Nat.zero_sub, Nat.sub_eq_zero_of_le h]
    exact ByteArray.extract_same
  rw [this, ByteArray.append_empty]
/-- The tape begins by these bytes, firm. -/
def FirmAt (x : Tp) (P : ByteArray) : Prop := P.size ≤ x.f ∧ x.s.extract 0 P.size = P
theorem firm_act {d : Dk} (h : d.ok) (a : Ac) (t : Nat) (ht : t < 32) (P : ByteArray) (hf : FirmAt (d.T t) P) (hn : ¬ (a.t = (t : Int) ∧ (a.what = 2 ∨ a.what = 3))) : FirmAt ((actD d a).2.T t) P := by
  have hok := h.t t ht
  unfold actD
  by_cases h0 : a.what = 0
  · rw [if_pos h0]
    rcases doD_T d a.t true (wf d a.s) t with e | ⟨_, _, _, hz, _, e⟩
    · show FirmAt ((doD _ _ _ _).1.T t) P; rw [e]; exact hf
    · show FirmAt ((doD _ _ _ _).1.T t) P
      rw [e]
      unfold wf at *
      split at hz
      · cases hz
      · rename_i hc
        rw [if_neg hc]
        unfold wr at *
        split at hz
        · cases hz
        · rename_i hc2
          rw [if_neg hc2]
          exact ⟨hf.1, by show ((d.T t).s ++ a.s).extract 0 P.size = P; rw [extract_app _ _ _ (Nat.le_trans hf.1 hok.1)]; exact hf.2⟩
  rw [if_neg h0]
  by_cases h1 : a.what = 1
  · rw [if_pos h1]
    rcases doD_T d a.t false sy t with e | ⟨_, _, _, hz, _, e⟩
    · show FirmAt ((doD _ _ _ _).1.T t) P; rw [e]; exact hf
    · show FirmAt ((doD _ _ _ _).1.T t) P
      rw [e]
      exact ⟨Nat.le_trans hf.1 hok.1, hf.2⟩
  rw [if_neg h1]
  by_cases h2 : a.what = 2
  · rw [if_pos h2]
    rcases doD_T d a.t false (tr a.n) t with e | ⟨_, _, et, _, _, _⟩
    · show FirmAt ((doD _ _ _ _).1.T t) P; rw [e]; exact hf
    · exact absurd ⟨et.symm, .inl h2⟩ hn
  rw [if_neg h2]
  by_cases h3 : a.what = 3
  · rw [if_pos h3]
    rcases doD_T d a.t false wi t with e | ⟨_, _, et, _, _, _⟩
    · show FirmAt ((doD _ _ _ _).1.T t) P; rw [e]; exact hf
    · exact absurd ⟨et.symm, .inr h3⟩ hn
  rw [if_neg h3]
  by_cases h4 : a.what = 4
  · rw [if_pos h4]; exact hf
  rw [if_neg h4]
  by_cases h5 : a.what = 5
  · rw [if_pos h5]
    show FirmAt ((failD d a.n).1.T t) P
    have : (failD d a.n).1.T = d.T := by
      unfold failD
      split
      · rfl
      · split <;> rfl
    rw [this]; exact hf
  rw [if_neg h5]
  show FirmAt ((backD d a.ks).T t) P
  obtain ⟨-, -, b3, b4, k, b5, b6⟩ := back_at h a.ks t ht
  refine ⟨Nat.le_trans hf.1 b4, ?_⟩
  have hz : ((d.T t).s.extract 0 k).size = k := by simp; omega
  rw [b6] at b3
  rw [hz] at b3
  rw [b6, extract_extract _ _ _ (by have := hf.1; omega)]
  exact hf.2
/-- What is told of such a tape. -/
theorem firm_told {x : Tp} {P : ByteArray} (h : FirmAt x P) (hok : x.ok) : P.size ≤ (qT x).a.size ∧ (qT x).a.extract 0 P.size = P := by
  obtain ⟨h1, h2⟩ := hok
  have hz : (x.s.extract 0 x.f).size = x.f := by simp; omega
  exact ⟨by show P.size ≤ (x.s.extract 0 x.f).size; rw [hz]; exact h.1, by show (x.s.extract 0 x.f).extract 0 P.size = P; rw [extract_extract _ _ _ h.1]; exact h.2⟩
end Go.Proofs.Yticponohbnkgdaa
