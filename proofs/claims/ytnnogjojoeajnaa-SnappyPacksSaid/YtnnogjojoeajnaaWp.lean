/- A text packed, plainly: its parts stand for it. -/
import Derived.Test.YtnnogjojoeajnaaWm
import Derived.Test.YtnnogjojoeajnaaPw
namespace Go.Proofs.Ytnnogjojoeajnaa
open Go.RowKit
theorem bst_spec (l : List UInt8) (a most : Nat) : ∀ (r : List Nat) (off n : Nat), bst l a most r off n = (off, n) ∨ ∃ p ∈ r, a - p ≤ 65535 ∧ bst l a most r off n = (a - p, al l p a most)
  | [], off, n => .inl rfl
  | p :: r, off, n => by
    rw [bst]
    split
    · exact .inl rfl
    · split
      · rcases bst_spec l a most r (a - p) (al l p a most) with h | ⟨q, hq, h1, h2⟩
        · exact .inr ⟨p, by simp, by omega, h⟩
        · exact .inr ⟨q, by simp [hq], h1, h2⟩
      · rcases bst_spec l a most r off n with h | ⟨q, hq, h1, h2⟩
        · exact .inl h
        · exact .inr ⟨q, by simp [hq], h1, h2⟩
theorem alk_spec : ∀ (m : Nat) (xs ys : List UInt8) (i : Nat), i < alk xs ys m → ∃ x, xs[i]? = some x ∧ ys[i]? = some x
  | 0, xs, ys, i, h => by have := alk_le 0 xs ys; omega
  | m + 1, [], ys, i, h => by simp [alk] at h
  | m + 1, x :: xs, [], i, h => by simp [alk] at h
  | m + 1, x :: xs, y :: ys, i, h => by
    rw [alk] at h
    split at h
    · rename_i e
      subst e
      cases i with
      | zero => exact ⟨x, rfl, rfl⟩
      | succ i =>
        obtain ⟨z, h1, h2⟩ := alk_spec m xs ys i (by omega)
        exact ⟨z, by simpa using h1, by simpa using h2⟩
    · omega
/-- What a match says. -/
structure Says (l : List UInt8) (a o n : Nat) : Prop where
  o1 : 1 ≤ o
  oa : o ≤ a
  far : o ≤ 65535
  n64 : n ≤ 64
  fits : a + n ≤ l.length
  eq : n = al l (a - o) a (min 64 (l.length - a))
  there : ∀ i, i < n → ∃ x, l[a - o + i]? = some x ∧ l[a + i]? = some x
theorem mat_says (l : List UInt8) (a : Nat) (ha : a < l.length) : mat l a = (0, 0) ∨ Says l a (mat l a).1 (mat l a).2 := by
  unfold mat
  rw [lg_bst _ _ _ _ _ _ (Nat.zero_le _)]
  rcases bst_spec l a (min 64 (l.length - a)) (desc a) 0 0 with h | ⟨p, hp, h1, h2⟩
  · exact .inl h
  · refine .inr ?_
    rw [h2]
    have hlt := desc_lt a p hp
    have e : a - (a - p) = p := by omega
    have hle := al_le l p a (min 64 (l.length - a))
    refine ⟨by dsimp only; omega, by dsimp only; omega, h1, by dsimp only; omega, by dsimp only; omega, by dsimp only; rw [e], fun i hi => ?_⟩
    dsimp only at hi ⊢
    rw [e]
    obtain ⟨x, hx, hy⟩ := alk_spec _ _ _ i hi
    rw [List.getElem?_drop] at hx hy
    exact ⟨x, hx, hy⟩
theorem rep_take (l : List UInt8) (o : Nat) : ∀ (n a : Nat), 1 ≤ o → o ≤ a → a ≤ l.length → (∀ i, i < n → ∃ x, l[a - o + i]? = some x ∧ l[a + i]? = some x) → rep (l.take a) o n = l.take (a + n)
  | 0, a, _, _, _, _ => rfl
  | n + 1, a, h1, h2, h3, h4 => by
    have hl : (l.take a).length = a := by rw [List.length_take]; omega
    obtain ⟨x, hx, hy⟩ := h4 0 (by omega)
    rw [Nat.add_zero] at hx hy
    have hlt : a < l.length := (List.getElem?_eq_some_iff.1 hy).1
    have e1 : (l.take a).getD (a - o) 0 = x := by
      rw [List.getD_eq_getElem?_getD, List.getElem?_take_of_lt (by omega), hx]
      rfl
    have e2 : l.take a ++ [x] = l.take (a + 1) := by
      rw [List.take_add_one, hy]
      rfl
    rw [rep, hl, e1, e2, rep_take l o n (a + 1) h1 (by omega) hlt (fun i hi => ?_)]
    · rw [show a + 1 + n = a + (n + 1) by omega]
    · obtain ⟨z, hz, hw⟩ := h4 (i + 1) (by omega)
      exact ⟨z, by rw [← hz]; congr 1; omega, by rw [← hw]; congr 1; omega⟩
theorem may_lit {t : ByteArray} (h1 : 1 ≤ t.size) (h2 : t.size ≤ 65536) : may ⟨false, t, 0, 0⟩ = true := by
  unfold may; simp [h1, h2]
theorem may_copy {o n : Nat} (h1 : 1 ≤ n) (h2 : n ≤ 64) (h3 : 1 ≤ o) (h4 : o < 4294967296) : may ⟨true, bs [], o, n⟩ = true := by
  unfold may; simp [bs_size]; omega
theorem may_ok {p : Pt} (h : may p = true) : p.ok := by
  obtain ⟨c, t, o, l⟩ := p
  unfold may at h
  cases c
  · simp only [Bool.false_eq_true, if_false, Bool.and_eq_true, decide_eq_true_eq] at h
    constructor <;> dsimp only <;> omega
  · simp only [if_true, Bool.and_eq_true, decide_eq_true_eq, beq_iff_eq] at h
    constructor <;> dsimp only <;> omega
theorem expand_litp {most : Int} (l : List UInt8) (hl : l.length ≤ 65536) (hm : (l.length : Int) ≤ most) (p a : Nat) (hpa : p ≤ a) (ha : a ≤ l.length) : expand most (litp l p a) (l.take p) = (l.take a, 0) := by
  unfold litp
  by_cases h : p < a
  · rw [if_pos h]
    have hs : (bs ((l.drop p).take (a - p))).size = a - p := by rw [bs_size, List.length_take, List.length_drop]; omega
    have hp : (l.take p).length = p := by rw [List.length_take]; omega
    rw [expand_step (may_lit (by omega) (by omega)) (by simp [here]) (by rw [hp]; unfold cnt; dsimp only; rw [if_neg (by simp), hs]; omega)]
    have e : gro (l.take p) ⟨false, bs ((l.drop p).take (a - p)), 0, 0⟩ = l.take a := by
      unfold gro
      rw [if_neg (by simp), bs_data, ← List.take_add, show p + (a - p) = a by omega]
    rw [e, expand]
  · rw [if_neg h]
    have : p = a := by omega
    subst this
    rw [expand]
theorem expand_copy {most : Int} (l : List UInt8) (_hl : l.length ≤ 65536) (hm : (l.length : Int) ≤ most) (a o n : Nat) (hn : 1 ≤ n) (hs : Says l a o n) : expand most [⟨true, bs [], o, n⟩] (l.take a) = (l.take (a + n), 0) := by
  have h0 := hs.oa
  have h1 := hs.o1
  have h2 := hs.far
  have h3 := hs.fits
  have h4 := hs.n64
  have hp : (l.take a).length = a := by rw [List.length_take]; omega
  rw [expand_step (may_copy hn h4 h1 (by omega)) (by rw [hp]; simp [here]; omega) (by rw [hp]; unfold cnt; dsimp only; rw [if_pos rfl]; omega)]
  have e : gro (l.take a) ⟨true, bs [], o, n⟩ = l.take (a + n) := by
    unfold gro
    rw [if_pos rfl, show ((o : Nat) : Int).toNat = o by omega, show ((n : Nat) : Int).toNat = n by omega, rep_take l o n a h1 h0 (by omega) hs.there]
  rw [e, expand]
theorem pk_expand {most : Int} (l : List UInt8) (hl : l.length ≤ 65536) (hm : (l.length : Int) ≤ most) : ∀ (k a p : Nat) (ps : List Pt), l.length - a = k → p ≤ a → a ≤ l.length → expand most ps [] = (l.take p, 0) → expand most (pk l a p ps) [] = (l, 0) := by
  intro k
  induction k using Nat.strongRecOn with
  | _ k ih =>
    intro a p ps hk hpa ha he
    by_cases hlt : a < l.length
    · by_cases h4 : 4 ≤ (mat l a).2
      · rcases mat_says l a hlt with h | h
        · rw [h] at h4; omega
        · have := h.fits
          rw [pk_copy l a p ps hlt h4]
          refine ih _ ?_ _ _ _ rfl (Nat.le_refl _) (by omega) ?_
          · omega
          · rw [List.append_assoc, expand_app he, expand_app (expand_litp l hl hm p a hpa ha), expand_copy l hl hm a _ _ (by omega) h]
      · rw [pk_lit l a p ps hlt h4]
        exact ih _ (by omega) _ _ _ rfl (by omega) (by omega) he
    · rw [pk_end l a p ps hlt, expand_app he, expand_litp l hl hm p l.length (by omega) (Nat.le_refl _), List.take_length]
theorem pack_back {most : Int} (l : List UInt8) (hl : l.length ≤ 65536) (hm : (l.length : Int) ≤ most) : expand most (pk l 0 0 []) [] = (l, 0) :=
  pk_expand l hl hm _ 0 0 [] rfl (Nat.le_refl _) (Nat.zero_le _) (by rw [expand]; rfl)
def encode (l : List UInt8) : List UInt8 × Int := if 65536 < l.length then ([], 40) else (blk (pk l 0 0 []) l, 0)
theorem write_pk (l : List UInt8) (hl : l.length ≤ 65536) : write (pk l 0 0 []) = (blk (pk l 0 0 []) l, 0) := by
  unfold write
  rw [pack_back l hl (by omega), if_neg (by simp)]
end Go.Proofs.Ytnnogjojoeajnaa
