/- Plain mathematics: an escape, as the program reads it. -/
import Derived.Test.YtjhgmlhoefakpaaDoorIb
namespace Go.Proofs.YtjhgmlhoefakpaaDoor
set_option maxRecDepth 100000
def numGo : Nat → List UInt8 → Option Nat
  | a, [] => some a
  | a, c :: t => match hexd c with
    | some d => numGo (a * 16 + d) t
    | none => none
def numL (l : List UInt8) : Option Nat := if l = [] ∨ 6 < l.length then none else numGo 0 l
def is125 (c : UInt8) : Bool := [(125 : UInt8)].contains c
theorem is125_iff {c : UInt8} : is125 c = true ↔ c = 125 := by unfold is125; simp
def hexP (u : List UInt8) : Option (Nat × List UInt8) := match fst u is125 with
  | none => none
  | some k => match numL (u.take k) with
    | none => none
    | some n => if OkR n then some (n, u.drop (k + 1)) else none
theorem hexGo_suffix : ∀ (n a : Nat) (l : List UInt8), (hexGo n a l).2 <:+ l
  | 0, _, l => List.suffix_refl l
  | _ + 1, _, [] => List.suffix_refl _
  | n + 1, a, c :: t => by
    unfold hexGo
    cases hexd c with
    | some d => exact (hexGo_suffix n (a * 16 + d) t).trans (List.suffix_cons c t)
    | none => exact List.suffix_refl _
theorem hexGo_cons (n a : Nat) (c : UInt8) (t : List UInt8) : hexGo (n + 1) a (c :: t) = match hexd c with
    | some d => hexGo n (a * 16 + d) t
    | none => (a, c :: t) := rfl
theorem hexGo_brace : ∀ (p t : List UInt8) (n a : Nat), (∃ m, numGo a p = some m ∧ p.length ≤ n ∧ hexGo n a (p ++ 125 :: t) = (m, 125 :: t)) ∨ (¬ (p.length ≤ n ∧ ∃ m, numGo a p = some m) ∧ ∃ x q, x ∈ p ∧ (hexGo n a (p ++ 125 :: t)).2 = x :: q)
  | [], t, n, a => .inl ⟨a, rfl, Nat.zero_le _, hexGo_stop n a t⟩
  | c :: p, t, 0, a => .inr ⟨fun h => by simp at h, c, p ++ 125 :: t, by simp, rfl⟩
  | c :: p, t, n + 1, a => by
    cases hc : hexd c with
    | none =>
      refine .inr ⟨fun h => ?_, c, p ++ 125 :: t, by simp, ?_⟩
      · obtain ⟨m, hm⟩ := h.2
        unfold numGo at hm
        rw [hc] at hm
        cases hm
      · rw [List.cons_append, hexGo_cons, hc]
    | some d =>
      have e : hexGo (n + 1) a (c :: p ++ 125 :: t) = hexGo n (a * 16 + d) (p ++ 125 :: t) := by rw [List.cons_append, hexGo_cons, hc]
      have e2 : numGo a (c :: p) = numGo (a * 16 + d) p := by
        show (match hexd c with | some d => numGo (a * 16 + d) p | none => none) = _
        rw [hc]
      rw [e, e2, List.length_cons]
      rcases hexGo_brace p t n (a * 16 + d) with ⟨m, h1, h2, h3⟩ | ⟨h1, x, q, h2, h3⟩
      · exact .inl ⟨m, h1, by omega, h3⟩
      · exact .inr ⟨fun h => h1 ⟨by omega, h.2⟩, x, q, by simp [h2], h3⟩
theorem hexR_eq (u : List UInt8) : hexR u = if (hexGo 6 0 u).2.length = u.length then none else match (hexGo 6 0 u).2 with
    | [] => none
    | c :: t => if c = 125 ∧ OkR (hexGo 6 0 u).1 then some ((hexGo 6 0 u).1, t) else none := rfl
theorem hexR_zero {u : List UInt8} (h : (hexGo 6 0 u).2.length = u.length) : hexR u = none := by rw [hexR_eq, if_pos h]
theorem hexR_none {u : List UInt8} (h : ∀ c t, (hexGo 6 0 u).2 = c :: t → c ≠ 125) : hexR u = none := by
  rw [hexR_eq]
  by_cases h1 : (hexGo 6 0 u).2.length = u.length
  · rw [if_pos h1]
  · rw [if_neg h1]
    cases e : (hexGo 6 0 u).2 with
    | nil => rfl
    | cons c t => exact if_neg (fun h2 => h c t e h2.1)
theorem hexR_val {u t : List UInt8} {m : Nat} (h : hexGo 6 0 u = (m, 125 :: t)) (hl : t.length + 1 ≠ u.length) : hexR u = if OkR m then some (m, t) else none := by
  rw [hexR_eq, h]
  simp only
  rw [if_neg (by rw [List.length_cons]; exact hl)]
  by_cases hr : OkR m
  · rw [if_pos hr, if_pos ⟨trivial, hr⟩]
  · rw [if_neg hr, if_neg (fun h2 => hr h2.2)]
theorem hexP_none {u : List UInt8} (h : fst u is125 = none) : hexP u = none := by unfold hexP; rw [h]
theorem hexP_some {u : List UInt8} {k : Nat} (h : fst u is125 = some k) : hexP u = match numL (u.take k) with
    | none => none
    | some n => if OkR n then some (n, u.drop (k + 1)) else none := by
  unfold hexP; rw [h]
theorem numL_some {p : List UInt8} {m : Nat} : numL p = some m ↔ p ≠ [] ∧ p.length ≤ 6 ∧ numGo 0 p = some m := by
  unfold numL
  by_cases h : p = [] ∨ 6 < p.length
  · rw [if_pos h]
    constructor
    · intro h2; cases h2
    · rintro ⟨h1, h2, _⟩
      rcases h with h | h
      · exact absurd h h1
      · omega
  · rw [if_neg h]
    constructor
    · intro h2; exact ⟨fun h3 => h (.inl h3), by omega, h2⟩
    · exact fun h2 => h2.2.2
theorem hexP_R (u : List UInt8) : hexP u = hexR u := by
  cases hf : fst u is125 with
  | none =>
    have hn := fst_none hf
    have hs := hexGo_suffix 6 0 u
    rw [hexP_none hf, hexR_none]
    intro c t e hc
    have hm : c ∈ u := by rw [e] at hs; exact hs.mem (by simp)
    have h1 := hn c hm
    rw [hc] at h1
    simp [is125] at h1
  | some k =>
    obtain ⟨hk, h1, h2⟩ := fst_some hf
    rw [is125_iff] at h1
    have hu : u = u.take k ++ 125 :: u.drop (k + 1) := by
      conv => lhs; rw [← List.take_append_drop k u, List.drop_eq_getElem_cons hk, h1]
    have hno : ∀ x ∈ u.take k, x ≠ 125 := by
      intro x hx hx2
      obtain ⟨j, hj, rfl⟩ := List.getElem_of_mem hx
      rw [List.length_take] at hj
      have := h2 j (by omega)
      rw [List.getElem_take] at hx2
      rw [hx2] at this
      simp [is125] at this
    rw [hexP_some hf]
    have hl := congrArg List.length hu
    rw [List.length_append, List.length_cons] at hl
    generalize u.drop (k + 1) = t at *
    generalize u.take k = p at *
    rcases hexGo_brace p t 6 0 with ⟨m, e1, e2, e3⟩ | ⟨e1, x, q, e2, e3⟩
    · rw [← hu] at e3
      by_cases hp : p = []
      · have h3 : numL p = none := by unfold numL; rw [if_pos (.inl hp)]
        rw [h3, hexR_zero]
        rw [e3, hl, hp]
        simp
      · have hpl : 0 < p.length := List.length_pos_iff.2 hp
        rw [numL_some.2 ⟨hp, e2, e1⟩, hexR_val e3 (by omega)]
    · rw [← hu] at e3
      have h3 : numL p = none := by
        cases h4 : numL p with
        | none => rfl
        | some m =>
          obtain ⟨_, h5, h6⟩ := numL_some.1 h4
          exact absurd ⟨h5, m, h6⟩ e1
      rw [h3, hexR_none]
      intro c t' e hc
      rw [e3] at e
      cases e
      exact hno _ e2 hc
/-- An escape, as the program reads it: mark by mark. -/
def escP (l : List UInt8) : Option (Nat × List UInt8) :=
  match behind 92 l with
  | some t => some (92, t)
  | none => match behind 34 l with
    | some t => some (34, t)
    | none => match (behind 117 l).bind (behind 123) with
      | none => none
      | some u => hexP u
theorem escP_esc (l : List UInt8) : escP l = esc l := by
  cases l with
  | nil => rfl
  | cons c t =>
    rw [esc_cons]
    unfold escP
    by_cases h1 : c = 92
    · subst h1; rfl
    by_cases h2 : c = 34
    · subst h2; rfl
    have e1 : behind 92 (c :: t) = none := if_neg h1
    have e2 : behind 34 (c :: t) = none := if_neg h2
    rw [e1, e2, if_neg h1, if_neg h2]
    by_cases h3 : c = 117
    · subst h3
      have e3 : behind 117 (117 :: t) = some t := behind_some.2 rfl
      rw [if_pos rfl, e3]
      cases t with
      | nil => rfl
      | cons d u =>
        show (match (behind 123 (d :: u)) with | none => none | some u => hexP u) = (if d = 123 then hexR u else none)
        by_cases h4 : d = 123
        · subst h4
          have e4 : behind 123 (123 :: u) = some u := behind_some.2 rfl
          rw [e4, if_pos rfl]
          exact hexP_R u
        · have e4 : behind 123 (d :: u) = none := if_neg h4
          rw [e4, if_neg h4]
    · have e3 : behind 117 (c :: t) = none := if_neg h3
      rw [e3, if_neg h3]
      rfl
end Go.Proofs.YtjhgmlhoefakpaaDoor
