/- The document's May, Same, Uses, Free, Size, Encode. -/
import Derived.Test.YtpcpbdcdapmlnaaDoorOx
namespace Go.Proofs.YtpcpbdcdapmlnaaDoor
open Go Go.RowKit
set_option maxRecDepth 100000
namespace Rf9
/-- All tapes of a row, marked. -/
def marks (S : Nat → Bool) : List Int → Nat → Bool
  | [] => S
  | t :: r => marks (mark S t.toNat) r
theorem marks_at : ∀ (l : List Int) (S : Nat → Bool) (j : Nat), (∀ t ∈ l, 2 ≤ t) → marks S l j = (S j || decide ((j : Int) ∈ l))
  | [], S, j, _ => by show S j = _; simp
  | t :: r, S, j, h => by
    show marks (mark S t.toNat) r j = _
    rw [marks_at r _ j (fun u hu => h u (by simp [hu]))]
    have ht := h t (by simp)
    have e : mark S t.toNat j = (S j || decide ((j : Int) = t)) := by
      unfold mark
      by_cases e : j = t.toNat
      · rw [if_pos e, decide_eq_true (show (j : Int) = t by omega), Bool.or_true]
      · rw [if_neg e, decide_eq_false (show ¬ (j : Int) = t by omega), Bool.or_false]
    have e2 : decide ((j : Int) ∈ t :: r) = (decide ((j : Int) = t) || decide ((j : Int) ∈ r)) := by
      rw [decide_eq_decide.2 List.mem_cons, Bool.decide_or]
    rw [e, e2, Bool.or_assoc]
theorem marks_append : ∀ (a b : List Int) (S : Nat → Bool), marks S (a ++ b) = marks (marks S a) b
  | [], _, _ => rfl
  | t :: r, b, S => by show marks (mark S t.toNat) (r ++ b) = _; rw [marks_append r b]; rfl
theorem dis_append : ∀ (a b : List Int) (S : Nat → Bool), dis S (a ++ b) = (dis S a && dis (marks S a) b)
  | [], _, _ => rfl
  | t :: r, b, S => by
    show (if ad S t = true then dis (mark S t.toNat) (r ++ b) else false) = ((if ad S t = true then dis (mark S t.toNat) r else false) && _)
    cases ad S t
    · rfl
    · rw [if_pos rfl, if_pos rfl, dis_append r b]; rfl
/-- The set that the snapshot's tape makes. -/
def sn (s : Int) : Nat → Bool := if s = 0 then no32 else mark no32 s.toNat
theorem fr_sn (s : Int) : fr (sn s) 32 ≤ 30 := by
  unfold sn
  split
  · rw [fr_no32]; exact Nat.le_refl _
  · have h : ∀ n, fr (mark no32 s.toNat) n ≤ fr no32 n := fun n => by
      induction n with
      | zero => exact Nat.le_refl _
      | succ n ih =>
        unfold fr
        have : (if 2 ≤ n ∧ mark no32 s.toNat n = false then 1 else 0) ≤ (if 2 ≤ n ∧ no32 n = false then 1 else 0) := by
          split
          · rename_i h
            rw [if_pos ⟨h.1, rfl⟩]; exact Nat.le_refl _
          · exact Nat.zero_le _
        omega
    have := h 32
    rw [fr_no32] at this
    exact this
theorem sn_at {s t : Int} (hs : s = 0 ∨ 2 ≤ s) (ht : 2 ≤ t) : sn s t.toNat = decide (t = s) := by
  unfold sn
  by_cases h : s = 0
  · rw [if_pos h, decide_eq_false (by omega)]; rfl
  · rw [if_neg h]
    unfold mark
    by_cases e : t.toNat = s.toNat
    · rw [if_pos e, decide_eq_true (by omega)]
    · rw [if_neg e, decide_eq_false (by omega)]; rfl
/-- How the loop stands at place i. -/
structure At (s : Int) (l : List Int) (i : Nat) : Prop where
  d : dis (sn s) (l.take i) = true
  r : dis (marks (sn s) (l.take i)) (l.drop i) = dis (sn s) l
theorem At.zero (s : Int) (l : List Int) : At s l 0 := ⟨rfl, rfl⟩
theorem At.lt {s : Int} {l : List Int} {i : Nat} (h : At s l i) (hi : i ≤ l.length) : i ≤ 30 := by
  have := dis_len _ _ h.d
  rw [List.length_take] at this
  have := fr_sn s
  omega
theorem At.ad {s : Int} {l : List Int} {i : Nat} (h : At s l i) (hs : s = 0 ∨ 2 ≤ s) (hi : i < l.length) : ad (marks (sn s) (l.take i)) l[i] = (decide (2 ≤ l[i] ∧ l[i] < 32) && !(decide (l[i] = s) || decide (l[i] ∈ l.take i))) := by
  unfold Go.Proofs.YtpcpbdcdapmlnaaDoor.ad
  by_cases ht : 2 ≤ l[i] ∧ l[i] < 32
  · rw [marks_at _ _ _ (fun t ht => (dis_mem _ _ h.d t ht).1.1), sn_at hs ht.1, Int.toNat_of_nonneg (by omega)]
  · rw [decide_eq_false ht]; rfl
theorem At.bad {s : Int} {l : List Int} {i : Nat} (h : At s l i) (hs : s = 0 ∨ 2 ≤ s) (hi : i < l.length) (hb : ¬ (2 ≤ l[i] ∧ l[i] < 32) ∨ l[i] = s ∨ l[i] ∈ l.take i) : dis (sn s) l = false := by
  have e : Go.Proofs.YtpcpbdcdapmlnaaDoor.ad (marks (sn s) (l.take i)) l[i] = false := by
    rw [h.ad hs hi]
    rcases hb with hb | hb | hb
    · rw [decide_eq_false hb]; rfl
    · rw [decide_eq_true hb]; simp
    · rw [decide_eq_true hb]; simp
  rw [← h.r, dis_drop _ hi, e]; rfl
theorem At.next {s : Int} {l : List Int} {i : Nat} (h : At s l i) (hs : s = 0 ∨ 2 ≤ s) (hi : i < l.length) (h1 : 2 ≤ l[i] ∧ l[i] < 32) (h2 : ¬ l[i] = s) (h3 : ¬ l[i] ∈ l.take i) : At s l (i + 1) := by
  have e : Go.Proofs.YtpcpbdcdapmlnaaDoor.ad (marks (sn s) (l.take i)) l[i] = true := by
    rw [h.ad hs hi, decide_eq_true h1, decide_eq_false h2, decide_eq_false h3]; rfl
  have et : l.take (i + 1) = l.take i ++ [l[i]] := List.take_succ_eq_append_getElem hi
  refine ⟨?_, ?_⟩
  · rw [et, dis_append, h.d]
    show (true && (if Go.Proofs.YtpcpbdcdapmlnaaDoor.ad (marks (sn s) (l.take i)) l[i] = true then true else false)) = true
    rw [e]; rfl
  · rw [← h.r, dis_drop _ hi, e, if_pos rfl, et, marks_append]; rfl
theorem At.fin {s : Int} {l : List Int} (h : At s l l.length) : dis (sn s) l = true := by have := h.d; rwa [List.take_length] at this
/-- mayB, told by the snapshot's set. -/
theorem mayB_sn {g b s : Int} {l : List Int} (h1 : 1 ≤ g) (h2 : g ≤ 1099511627776) (h3 : 0 ≤ b) (h4 : b ≤ 1099511627776) (h5 : s = 0 → b = 0) (h6 : s ≠ 0 → 2 ≤ s ∧ s < 32) (h7 : l ≠ []) : mayB ⟨g, b, s, l⟩ = dis (sn s) l := by
  unfold mayB gtop sn
  dsimp only
  rw [if_neg (by omega), if_neg (by omega), if_neg (by omega), if_neg (by omega), if_neg h7]
  by_cases h : s = 0
  · rw [if_pos h, if_pos h, if_neg (fun e => e (h5 h))]
  · rw [if_neg h, if_neg h, if_pos (ad_iff.2 ⟨h6 h, rfl⟩)]
end Rf9
end Go.Proofs.YtpcpbdcdapmlnaaDoor
