/- A text packed, as plain lists: a place's match among those of the same next 4 bytes is its match, where that has 4 bytes. -/
import Derived.Test.YtnnogjojoeajnaaMp
namespace Go.Proofs.Ytnnogjojoeajnaa
/-- The best of some places, the nearest first. -/
def bst (l : List UInt8) (a most : Nat) : List Nat → Nat → Nat → Nat × Nat
  | [], off, n => (off, n)
  | p :: r, off, n => if 65535 < a - p then (off, n) else if n < al l p a most then bst l a most r (a - p) (al l p a most) else bst l a most r off n
theorem al_le (l : List UInt8) (p a most : Nat) : al l p a most ≤ most := alk_le _ _ _
theorem bst_top (l : List UInt8) (a most : Nat) : ∀ (r : List Nat) (off : Nat), bst l a most r off most = (off, most)
  | [], off => rfl
  | p :: r, off => by
    rw [bst]
    split
    · rfl
    · rw [if_neg (by have := al_le l p a most; omega)]
      exact bst_top l a most r off
theorem alk_diff : ∀ (n : Nat) (xs ys : List UInt8) (m : Nat), xs[n]? ≠ ys[n]? → alk xs ys m ≤ n
  | n, [], ys, m, _ => by simp [alk]
  | n, x :: xs, [], m, _ => by cases m <;> simp [alk]
  | n, x :: xs, y :: ys, 0, _ => by simp [alk]
  | 0, x :: xs, y :: ys, m + 1, h => by
    rw [alk, if_neg (by simpa using h)]
    omega
  | n + 1, x :: xs, y :: ys, m + 1, h => by
    rw [alk]
    split
    · have := alk_diff n xs ys m (by simpa using h)
      omega
    · omega
theorem lg_bst (l : List UInt8) (a most : Nat) : ∀ (r : List Nat) (off n : Nat), n ≤ most → lg l a most r off n = bst l a most r off n
  | [], off, n, _ => rfl
  | p :: r, off, n, hn => by
    rw [lg, bst]
    by_cases h1 : n = most
    · subst h1
      rw [if_pos (.inl rfl)]
      split
      · rfl
      · rw [if_neg (by have := al_le l p a n; omega), bst_top]
    · by_cases h2 : 65535 < a - p
      · rw [if_pos (.inr h2), if_pos h2]
      · rw [if_neg (by omega), if_neg h2]
        by_cases h3 : l[p + n]? ≠ l[a + n]?
        · rw [if_pos h3, if_neg (by
            have := alk_diff n (l.drop p) (l.drop a) most (by rw [List.getElem?_drop, List.getElem?_drop]; exact h3)
            unfold al
            omega)]
          exact lg_bst l a most r off n hn
        · rw [if_neg h3]
          split
          · exact lg_bst l a most r _ _ (al_le _ _ _ _)
          · exact lg_bst l a most r off n hn
theorem bst_far (l : List UInt8) (a most : Nat) (r : List Nat) (off n : Nat) (h : ∀ p ∈ r, 65535 < a - p) : bst l a most r off n = (off, n) := by
  cases r with
  | nil => rfl
  | cons p r => rw [bst, if_pos (h p (List.mem_cons_self ..))]
/-- The same, or both of less than 4 bytes. -/
def Alike (x y : Nat × Nat) : Prop := x = y ∨ (x.2 < 4 ∧ y.2 < 4)
theorem bst_filter (l : List UInt8) (a most : Nat) (f : Nat → Bool) : ∀ (k : Nat), k ≤ a → (∀ p, p < k → (f p = true ↔ 4 ≤ al l p a most)) → ∀ (off n off' n' : Nat), Alike (off, n) (off', n') →
    Alike (bst l a most (desc k) off n) (bst l a most ((desc k).filter f) off' n')
  | 0, _, _, off, n, off', n', h => h
  | k + 1, hk, hf, off, n, off', n', h => by
    have ih := bst_filter l a most f k (by omega) (fun p hp => hf p (by omega))
    have hfk := hf k (by omega)
    rw [desc, bst]
    by_cases hfar : 65535 < a - k
    · rw [if_pos hfar, bst_far l a most _ off' n' (by
        intro p hp
        have hp := (List.mem_filter.1 hp).1
        rcases List.mem_cons.1 hp with rfl | hp
        · exact hfar
        · have := desc_lt k p hp; omega)]
      exact h
    · rw [if_neg hfar]
      cases hfv : f k with
      | true =>
        have h4 := hfk.1 hfv
        rw [List.filter_cons_of_pos hfv, bst, if_neg hfar]
        rcases h with h | ⟨h1, h2⟩
        · cases h
          split
          · exact ih _ _ _ _ (.inl rfl)
          · exact ih _ _ _ _ (.inl rfl)
        · dsimp only at h1 h2
          rw [if_pos (by omega), if_pos (by omega)]
          exact ih _ _ _ _ (.inl rfl)
      | false =>
        have h4 : al l k a most < 4 := by
          have : ¬ 4 ≤ al l k a most := fun h => by have := hfk.2 h; rw [hfv] at this; cases this
          omega
        rw [List.filter_cons_of_neg (by simp [hfv])]
        split
        · rename_i hlt
          rcases h with h | ⟨h1, h2⟩
          · cases h
            exact ih _ _ _ _ (.inr ⟨h4, by dsimp only; omega⟩)
          · exact ih _ _ _ _ (.inr ⟨h4, h2⟩)
        · exact ih _ _ _ _ h
theorem bst_le (l : List UInt8) (a most : Nat) : ∀ (r : List Nat) (off n : Nat), n ≤ most → (bst l a most r off n).2 ≤ most
  | [], off, n, h => h
  | p :: r, off, n, h => by
    rw [bst]
    split
    · exact h
    · split
      · exact bst_le l a most r _ _ (al_le _ _ _ _)
      · exact bst_le l a most r _ _ h
theorem alk_four : ∀ (n m : Nat) (xs ys : List UInt8), n ≤ m → n ≤ xs.length → n ≤ ys.length → (xs.take n = ys.take n ↔ n ≤ alk xs ys m)
  | 0, m, xs, ys, _, _, _ => by simp
  | n + 1, 0, xs, ys, h, _, _ => by omega
  | n + 1, m + 1, [], ys, _, h, _ => by simp at h
  | n + 1, m + 1, x :: xs, [], _, _, h => by simp at h
  | n + 1, m + 1, x :: xs, y :: ys, h1, h2, h3 => by
    simp only [List.length_cons] at h2 h3
    rw [List.take_succ_cons, List.take_succ_cons, alk]
    have := alk_four n m xs ys (by omega) (by omega) (by omega)
    by_cases hxy : x = y
    · subst hxy
      rw [if_pos rfl]
      simp only [List.cons.injEq, true_and]
      exact this.trans ⟨fun h => by omega, fun h => by omega⟩
    · rw [if_neg hxy]
      simp [hxy]
/-- A place's match among those of the same next 4 bytes. -/
theorem mat_alike (l : List UInt8) (a : Nat) (ha : a < l.length) :
    Alike (mat l a) (lg l a (min 64 (l.length - a)) ((desc a).filter fun p => nxt l p == nxt l a) 0 0) := by
  unfold mat
  rw [lg_bst _ _ _ _ _ _ (Nat.zero_le _), lg_bst _ _ _ _ _ _ (Nat.zero_le _)]
  by_cases h4 : a + 4 ≤ l.length
  · refine bst_filter l a _ _ a (Nat.le_refl _) (fun p hp => ?_) 0 0 0 0 (.inl rfl)
    unfold nxt al
    rw [beq_iff_eq]
    exact alk_four 4 _ _ _ (by omega) (by rw [List.length_drop]; omega) (by rw [List.length_drop]; omega)
  · have h0 : (desc a).filter (fun p => nxt l p == nxt l a) = [] := by
      rw [List.filter_eq_nil_iff]
      intro p hp
      have := desc_lt a p hp
      simp only [beq_iff_eq]
      intro e
      have e := congrArg List.length e
      unfold nxt at e
      simp only [List.length_take, List.length_drop] at e
      omega
    rw [h0]
    refine .inr ⟨?_, show (0 : Nat) < 4 by omega⟩
    have := bst_le l a (min 64 (l.length - a)) (desc a) 0 0 (Nat.zero_le _)
    omega
/-- What was passed over. -/
def litp (l : List UInt8) (p e : Nat) : List Pt := if p < e then [⟨false, bs ((l.drop p).take (e - p)), 0, 0⟩] else []
/-- A text packed, from a place on. -/
def pk (l : List UInt8) (a p : Nat) (ps : List Pt) : List Pt :=
  if h : a < l.length then
    if h4 : 4 ≤ (mat l a).2 then pk l (a + (mat l a).2) (a + (mat l a).2) (ps ++ litp l p a ++ [⟨true, bs [], (mat l a).1, (mat l a).2⟩])
    else pk l (a + 1) p ps
  else ps ++ litp l p l.length
termination_by l.length - a
end Go.Proofs.Ytnnogjojoeajnaa
