/- What HeadSwaps comes to, plainly. -/
import Derived.Test.YtpcpbdcdapmlnaaDoorSw
namespace Go.Proofs.YtpcpbdcdapmlnaaDoor
open Go Go.RowKit
set_option maxRecDepth 100000
/-- Nothing is loose. -/
def firmD (d : Dk) : Prop := ∀ j < 32, (d.T j).f = (d.T j).s.size
theorem back_firm (d : Dk) (ks : List Int) {j : Nat} (hj : j < 32) (hf : (d.T j).f = (d.T j).s.size) : (backD d ks).T j = d.T j := by
  rcases (bkT_at d.T ks 32 j).1 hj with ⟨_, e⟩ | ⟨h0, _⟩
  · exact e
  · rw [hf] at h0; omega
/-- What is found behind a Put, wherever it failed, and a Back. -/
structure Sw (d0 : Dk) (h : He) (P : Dk × Nat) (d3 : Dk) : Prop where
  up : P.1.dn = decide (P.2 = 45)
  form : P.2 = 4 → mayB h = false
  load : (ldR d3).1 = h ∧ (ldR d3).2.2.1 = true ∧ P.2 ≠ 4 ∨ P.2 ≠ 0 ∧ (ldR d3).1 = ldH d0 ∧ (ldR d3).2.2.1 = ldI d0
  err : (ldR d3).2.2.2 = 0
  tapes : ∀ j < 32, j ≠ ptT d0 → d3.T j = d0.T j
  loose : ∀ j < 32, (d3.T j).f = (d3.T j).s.size
theorem ldR_T01 {d d' : Dk} (h : d.dn = false) (h' : d'.dn = false) (e0 : (d'.T 0).s = (d.T 0).s) (e1 : (d'.T 1).s = (d.T 1).s) : ldR d' = ldR d := by
  rw [ld_up h, ld_up h']; unfold ldH ldT ldI; rw [e0, e1]
theorem swaps {d0 d1 : Dk} (hok : d1.ok) (h0 : d0.dn = false) (h1 : d1.dn = false) (hT : d1.T = d0.T) (hf : firmD d0) (h : He) (hg : ldI d0 = true → (ldH d0).gen < h.gen) (ks : List Int) : Sw d0 h (putR d1 h) (backD (putR d1 h).1 ks) := by
  have hl : ldR d1 = ldR d0 := ldR_T h0 h1 hT
  have hp : ptT d1 = ptT d0 := by unfold ptT; rw [hl]
  have hI : ldI d1 = ldI d0 := by have := ld_up h1; rw [hl, ld_up h0] at this; exact (congrArg (fun x => x.2.2.1) this).symm
  have hH : ldH d1 = ldH d0 := by have := ld_up h1; rw [hl, ld_up h0] at this; exact (congrArg (fun x => x.1) this).symm
  have ht : ptT d0 ≤ 1 := ptT_le d0
  have hpok := putR_ok hok h
  have hb : ∀ j < 32, ((backD (putR d1 h).1 ks).T j).f = ((backD (putR d1 h).1 ks).T j).s.size := fun j hj => (back_at hpok ks j hj).2.2.1
  have hu : (backD (putR d1 h).1 ks).dn = false := rfl
  cases hm : mayB h
  · have e : putR d1 h = (d1, 4) := by unfold putR; rw [hm, if_neg (by simp)]
    rw [e] at hb ⊢
    have hk : ∀ j < 32, (backD d1 ks).T j = d0.T j := fun j hj => by rw [back_firm d1 ks hj (by rw [hT]; exact hf j hj), hT]
    have hld : ldR (backD d1 ks) = ldR d0 := ldR_T01 h0 rfl (by rw [hk 0 (by decide)]) (by rw [hk 1 (by decide)])
    exact ⟨by rw [show ((d1, 4) : Dk × Nat).1.dn = false from h1]; rfl, fun _ => hm, .inr ⟨by simp, by show (ldR (backD d1 ks)).1 = _; rw [hld, ld_up h0], by show (ldR (backD d1 ks)).2.2.1 = _; rw [hld, ld_up h0]⟩, by show (ldR (backD d1 ks)).2.2.2 = _; rw [hld, ld_up h0], fun j hj _ => hk j hj, hb⟩
  · have hz : (whl h).size ≤ 1048576 := by rw [whl_size]; have := enc_len (mayB_ok hm); omega
    have hs := stP_st h1 (show ptT d1 < 32 by omega) hz
    have e : putR d1 h = stP d1 (ptT d1) (whl h) := by unfold putR; rw [hm, if_pos rfl, ld_up h1, if_neg (by simp)]
    rw [← e] at hs
    generalize putR d1 h = P at *
    have ho : ∀ j < 32, j ≠ ptT d0 → (backD P.1 ks).T j = d0.T j := fun j hj hn => by
      have e1 : P.1.T j = d0.T j := by rw [hs.oth j (by rw [hp]; exact hn), hT]
      rw [back_firm P.1 ks hj (by rw [e1]; exact hf j hj), e1]
    have ho' : ∀ j, j ≤ 1 → j ≠ ptT d1 → (backD P.1 ks).T j = d1.T j := fun j hj hn => by rw [ho j (by omega) (by rw [← hp]; exact hn), hT]
    have new : ((backD P.1 ks).T (ptT d1)).s = whl h → (ldR (backD P.1 ks)).1 = h ∧ (ldR (backD P.1 ks)).2.2.1 = true ∧ (ldR (backD P.1 ks)).2.2.2 = 0 := fun hw => by
      rw [load_new h1 hu h hm ho' hw (by rw [hI, hH]; exact hg)]; exact ⟨rfl, rfl, rfl⟩
    have old : (ofB ((backD P.1 ks).T (ptT d1)).s).1 = he0 → (ldR (backD P.1 ks)).1 = ldH d0 ∧ (ldR (backD P.1 ks)).2.2.1 = ldI d0 ∧ (ldR (backD P.1 ks)).2.2.2 = 0 := fun hw => by
      rw [load_old h1 hu (fun j hj hn => by rw [ho' j hj hn]) hw, hI, hH]; exact ⟨rfl, rfl, rfl⟩
    rcases hs.how with ⟨k1, k2, k3⟩ | ⟨k1, k2, k3, _⟩ | ⟨k1, k2, -, -, k3, -⟩
    · obtain ⟨n1, n2, n3⟩ := new (by rw [back_firm P.1 ks (by omega) (by rw [k3]), k3])
      exact ⟨by rw [k2, k1]; rfl, fun h4 => (by rw [k1] at h4; cases h4), .inl ⟨n1, n2, by rw [k1]; decide⟩, n3, ho, hb⟩
    · obtain ⟨n1, n2, n3⟩ := old (by rw [back_firm P.1 ks (by omega) (by rw [k3]; rfl), k3]; rfl)
      exact ⟨by rw [k2, k1]; rfl, fun h4 => (by rw [k1] at h4; cases h4), .inr ⟨by rw [k1]; decide, n1, n2⟩, n3, ho, hb⟩
    · have fin : ((ldR (backD P.1 ks)).1 = h ∧ (ldR (backD P.1 ks)).2.2.1 = true ∧ (ldR (backD P.1 ks)).2.2.2 = 0) ∨ ((ldR (backD P.1 ks)).1 = ldH d0 ∧ (ldR (backD P.1 ks)).2.2.1 = ldI d0 ∧ (ldR (backD P.1 ks)).2.2.2 = 0) := by
        rcases k3 with k3 | k3 | k3
        · refine .inr ?_
          have ek : (backD P.1 ks).T (ptT d1) = d0.T (ptT d1) := by rw [back_firm P.1 ks (by omega) (by rw [k3, hT]; exact hf _ (by omega)), k3, hT]
          have hall : ∀ j, j ≤ 1 → (backD P.1 ks).T j = d0.T j := fun j hj => by
            by_cases hj2 : j = ptT d1
            · subst hj2; exact ek
            · rw [ho' j hj hj2, hT]
          rw [ldR_T01 h0 hu (by rw [hall 0 (by omega)]) (by rw [hall 1 (by omega)]), ld_up h0]
          exact ⟨rfl, rfl, rfl⟩
        · exact .inr (old (by rw [back_firm P.1 ks (by omega) (by rw [k3]; rfl), k3]; rfl))
        · obtain ⟨b1, b2, b3, b4, k, b5, b6⟩ := back_at hpok ks (ptT d1) (by omega)
          rw [k3] at b5 b6
          by_cases hk : k < (whl h).size
          · exact .inr (old (by rw [b6]; exact of_torn hm hk))
          · have : k = (whl h).size := by have : k ≤ (whl h).size := b5; omega
            subst this
            exact .inl (new (by rw [b6]; exact ByteArray.extract_zero_size))
      rcases fin with ⟨n1, n2, n3⟩ | ⟨n1, n2, n3⟩
      · exact ⟨by rw [k2, k1]; rfl, fun h4 => (by rw [k1] at h4; cases h4), .inl ⟨n1, n2, by rw [k1]; decide⟩, n3, ho, hb⟩
      · exact ⟨by rw [k2, k1]; rfl, fun h4 => (by rw [k1] at h4; cases h4), .inr ⟨by rw [k1]; decide, n1, n2⟩, n3, ho, hb⟩
end Go.Proofs.YtpcpbdcdapmlnaaDoor
