/- Plain mathematics: values' runes, names, labels that may be. -/
import Derived.Test.YtjhgmlhoefakpaaDoorPa
import Derived.Test.YtjhgmlhoefakpaaDoorLm
namespace Go.Proofs.YtjhgmlhoefakpaaDoor
set_option maxRecDepth 100000
/-- Runes' bytes. -/
def flat (rs : List Nat) : List UInt8 := rs.flatMap enc
def AllR (rs : List Nat) : Prop := ∀ c ∈ rs, OkR c
theorem flat_cons (c : Nat) (rs : List Nat) : flat (c :: rs) = enc c ++ flat rs := rfl
theorem flat_app (a b : List Nat) : flat (a ++ b) = flat a ++ flat b := by simp [flat]
theorem flat_len : ∀ rs : List Nat, rs.length ≤ (flat rs).length ∧ (flat rs).length ≤ 4 * rs.length
  | [] => by simp [flat]
  | c :: r => by
    have := flat_len r
    have h := enc_length c
    rw [flat_cons, List.length_append, List.length_cons]
    omega
theorem flat_ne {rs : List Nat} (h : rs ≠ []) : flat rs ≠ [] := by
  have := flat_len rs
  have h' : 0 < rs.length := List.length_pos_iff.2 h
  intro e
  rw [e] at this
  simp at this
  exact h this
/-- A text's runes, if it is valid. -/
def runesF : Nat → List UInt8 → Option (List Nat)
  | 0, l => if l = [] then some [] else none
  | n + 1, l => if l = [] then some [] else if (rn l).2 = 0 then none else (runesF n (l.drop (rn l).2)).map fun r => (rn l).1 :: r
def runes (l : List UInt8) : Option (List Nat) := runesF l.length l
theorem runesF_flat : ∀ (rs : List Nat) (n : Nat), AllR rs → rs.length ≤ n → runesF n (flat rs) = some rs
  | [], 0, _, _ => rfl
  | [], n + 1, _, _ => rfl
  | c :: r, 0, _, h => by simp at h
  | c :: r, n + 1, ha, h => by
    have hc : OkR c := ha c (by simp)
    have e := rn_enc hc (flat r)
    have ne := flat_ne (rs := c :: r) (by simp)
    unfold runesF
    rw [if_neg ne, flat_cons, e]
    have h1 := enc_length c
    simp only
    rw [if_neg (by omega), List.drop_left, runesF_flat r n (fun x hx => ha x (by simp [hx])) (by simpa using h)]
    rfl
theorem runesF_inv : ∀ (n : Nat) (l : List UInt8) (rs : List Nat), runesF n l = some rs → l = flat rs ∧ AllR rs
  | 0, l, rs, h => by
    unfold runesF at h
    split at h
    · cases h; rename_i e; exact ⟨e, fun _ hx => by simp at hx⟩
    · cases h
  | n + 1, l, rs, h => by
    unfold runesF at h
    split at h
    · cases h; rename_i e; exact ⟨e, fun _ hx => by simp at hx⟩
    · split at h
      · cases h
      · rename_i hz
        obtain ⟨r, hr, rfl⟩ := Option.map_eq_some_iff.1 h
        obtain ⟨e1, e2⟩ := runesF_inv n _ _ hr
        obtain ⟨i1, i2, _⟩ := rn_inv hz
        refine ⟨?_, ?_⟩
        · rw [flat_cons, ← e1]; exact i2
        · intro x hx
          rcases List.mem_cons.1 hx with rfl | hx
          · exact i1
          · exact e2 x hx
theorem runes_flat {rs : List Nat} (h : AllR rs) : runes (flat rs) = some rs := runesF_flat rs _ h (flat_len rs).1
theorem runes_inv {l : List UInt8} {rs : List Nat} (h : runes l = some rs) : l = flat rs ∧ AllR rs := runesF_inv _ _ _ h
theorem runes_step (l : List UInt8) : runes l = if l = [] then some [] else if (rn l).2 = 0 then none else (runes (l.drop (rn l).2)).map fun r => (rn l).1 :: r := by
  by_cases h : l = []
  · subst h; rfl
  rw [if_neg h]
  by_cases hz : (rn l).2 = 0
  · rw [if_pos hz]
    cases e : runes l with
    | none => rfl
    | some rs =>
      obtain ⟨rfl, ha⟩ := runes_inv e
      cases rs with
      | nil => exact absurd rfl h
      | cons c r =>
        rw [flat_cons, rn_enc (ha c (by simp))] at hz
        have := enc_length c
        simp only at hz
        omega
  · rw [if_neg hz]
    obtain ⟨i1, i2, i3⟩ := rn_inv hz
    cases e : runes (l.drop (rn l).2) with
    | none =>
      cases e' : runes l with
      | none => rfl
      | some rs =>
        obtain ⟨hf, ha⟩ := runes_inv e'
        cases rs with
        | nil => exact absurd hf h
        | cons c r =>
          have hr := rn_enc (ha c (by simp)) (flat r)
          rw [← flat_cons, ← hf] at hr
          rw [hr, hf, flat_cons] at e
          simp only [List.drop_left] at e
          rw [runes_flat (fun x hx => ha x (by simp [hx]))] at e
          cases e
    | some rs =>
      obtain ⟨hf, ha⟩ := runes_inv e
      rw [hf, ← flat_cons] at i2
      have : runes l = some ((rn l).1 :: rs) := by
        conv => lhs; rw [i2]
        refine runes_flat ?_
        intro x hx
        rcases List.mem_cons.1 hx with rfl | hx
        · exact i1
        · exact ha x hx
      rw [this]; rfl
theorem runes_nil : runes [] = some [] := rfl
theorem valid_runes : ∀ (n : Nat) (l : List UInt8), l.length ≤ n → Lib.validD l = (runes l).isSome
  | 0, l, h => by
    have : l = [] := List.eq_nil_of_length_eq_zero (by omega)
    subst this; rfl
  | n + 1, l, h => by
    rw [runes_step]
    by_cases hn : l = []
    · subst hn; rfl
    rw [if_neg hn, Lib.validD_step l hn]
    by_cases hb : (Lib.decodeL l).1 = 65533 ∧ (Lib.decodeL l).2 = 1
    · have : (rn l).2 = 0 := by unfold rn; rw [if_neg hn, if_pos hb]
      rw [if_pos hb, if_pos this]; rfl
    · have e : rn l = Lib.decodeL l := by unfold rn; rw [if_neg hn, if_neg hb]
      have hw := Lib.decodeL_width l
      have hl : 0 < l.length := List.length_pos_iff.2 hn
      rw [if_neg hb, if_neg (by rw [e]; omega), e, valid_runes n _ (by rw [List.length_drop]; omega)]
      cases runes (l.drop (Lib.decodeL l).2) <;> rfl
/-- A rune that may stand in a value. -/
def OkV (c : Nat) : Bool := decide (32 ≤ c) && decide (c ≠ 127)
/-- A value that may be. -/
def mayV (l : List UInt8) : Bool := match runes l with
  | some rs => rs.all OkV && decide (1 ≤ rs.length ∧ rs.length ≤ 64)
  | none => false
theorem mayV_iff {l : List UInt8} : mayV l = true ↔ ∃ rs, l = flat rs ∧ AllR rs ∧ (∀ c ∈ rs, OkV c = true) ∧ 1 ≤ rs.length ∧ rs.length ≤ 64 := by
  unfold mayV
  constructor
  · cases e : runes l with
    | none => intro h; cases h
    | some rs =>
      intro h
      obtain ⟨h1, h2⟩ := runes_inv e
      simp only [Bool.and_eq_true, List.all_eq_true, decide_eq_true_eq] at h
      exact ⟨rs, h1, h2, h.1, h.2⟩
  · rintro ⟨rs, rfl, ha, hv, h1, h2⟩
    rw [runes_flat ha]
    simp only [Bool.and_eq_true, List.all_eq_true, decide_eq_true_eq]
    exact ⟨hv, h1, h2⟩
theorem mayV_len {l : List UInt8} (h : mayV l = true) : 1 ≤ l.length ∧ l.length ≤ 256 := by
  obtain ⟨rs, rfl, _, _, h1, h2⟩ := mayV_iff.1 h
  have := flat_len rs
  omega
def isDg (c : UInt8) : Bool := decide (48 ≤ c.toNat ∧ c.toNat ≤ 57)
def isLt (c : UInt8) : Bool := decide (97 ≤ c.toNat ∧ c.toNat ≤ 122 ∨ 65 ≤ c.toNat ∧ c.toNat ≤ 90 ∨ c.toNat = 95)
/-- A name that may be. -/
def mayN : List UInt8 → Bool
  | [] => false
  | c :: r => decide (r.length ≤ 63) && !isDg c && (c :: r).all fun c => isDg c || isLt c
theorem mayN_len {l : List UInt8} (h : mayN l = true) : 1 ≤ l.length ∧ l.length ≤ 64 := by
  cases l with
  | nil => cases h
  | cons c r =>
    simp only [mayN, Bool.and_eq_true, decide_eq_true_eq] at h
    rw [List.length_cons]; omega
theorem mayN_all {l : List UInt8} (h : mayN l = true) : ∀ c ∈ l, isDg c = true ∨ isLt c = true := by
  cases l with
  | nil => intro c hc; cases hc
  | cons c r =>
    simp only [mayN, Bool.and_eq_true, List.all_eq_true, Bool.or_eq_true] at h
    exact h.2
/-- One name stands ahead of another one. -/
def nlt (a b : ByteArray) : Bool := Op.bytesLess a.data.toList b.data.toList
def ahd : Option ByteArray → ByteArray → Bool
  | none, _ => true
  | some q, n => nlt q n
def okFrom : Option ByteArray → List Lb → Bool
  | _, [] => true
  | p, x :: r => mayN x.n.data.toList && mayV x.v.data.toList && ahd p x.n && okFrom (some x.n) r
/-- Labels that may be. -/
def mayL (l : List Lb) : Bool := decide (1 ≤ l.length ∧ l.length ≤ 16) && okFrom none l
theorem okFrom_mem : ∀ (l : List Lb) (p : Option ByteArray), okFrom p l = true → ∀ x ∈ l, mayN x.n.data.toList = true ∧ mayV x.v.data.toList = true
  | [], _, _, x, hx => by cases hx
  | y :: r, p, h, x, hx => by
    simp only [okFrom, Bool.and_eq_true] at h
    rcases List.mem_cons.1 hx with rfl | hx
    · exact h.1.1
    · exact okFrom_mem r _ h.2 x hx
theorem mayL_mem {l : List Lb} (h : mayL l = true) : ∀ x ∈ l, mayN x.n.data.toList = true ∧ mayV x.v.data.toList = true := by
  simp only [mayL, Bool.and_eq_true] at h
  exact okFrom_mem l _ h.2
theorem mayL_len {l : List Lb} (h : mayL l = true) : 1 ≤ l.length ∧ l.length ≤ 16 := by
  simp only [mayL, Bool.and_eq_true, decide_eq_true_eq] at h
  exact h.1
theorem less_irr : ∀ a : List UInt8, Op.bytesLess a a = false
  | [] => by simp [Op.bytesLess]
  | a :: r => by simp [Op.bytesLess, less_irr r]
theorem less_trans : ∀ a b c : List UInt8, Op.bytesLess a b = true → Op.bytesLess b c = true → Op.bytesLess a c = true
  | a, b, [], _, h => by cases b <;> simp [Op.bytesLess] at h
  | a, [], c :: z, h, _ => by cases a <;> simp [Op.bytesLess] at h
  | [], b :: y, c :: z, _, _ => by simp [Op.bytesLess]
  | a :: x, b :: y, c :: z, h, k => by
    simp only [Op.bytesLess, Bool.or_eq_true, decide_eq_true_eq, Bool.and_eq_true, beq_iff_eq] at h k ⊢
    rcases h with h | ⟨rfl, h⟩
    · rcases k with k | ⟨rfl, k⟩
      · exact .inl (UInt8.lt_trans h k)
      · exact .inl h
    · rcases k with k | ⟨rfl, k⟩
      · exact .inl k
      · exact .inr ⟨rfl, less_trans x y z h k⟩
theorem ahd_trans {p : Option ByteArray} {a b : ByteArray} (h : ahd p a = true) (k : nlt a b = true) : ahd p b = true := by
  cases p with
  | none => rfl
  | some q => exact less_trans _ _ _ h k
theorem okFrom_ahd {a : ByteArray} {p : Option ByteArray} : ∀ (l : List Lb), ahd p a = true → okFrom (some a) l = true → okFrom p l = true
  | [], _, _ => rfl
  | x :: r, h, k => by
    simp only [okFrom, Bool.and_eq_true] at k ⊢
    exact ⟨⟨k.1.1, ahd_trans h k.1.2⟩, k.2⟩
theorem okFrom_filter (f : Lb → Bool) : ∀ (l : List Lb) (p : Option ByteArray), okFrom p l = true → okFrom p (l.filter f) = true
  | [], _, _ => rfl
  | x :: r, p, h => by
    have h0 := h
    simp only [okFrom, Bool.and_eq_true] at h
    rw [List.filter_cons]
    split
    · simp only [okFrom, Bool.and_eq_true]
      exact ⟨h.1, okFrom_filter f r _ h.2⟩
    · exact okFrom_filter f r p (okFrom_ahd r h.1.2 h.2)
end Go.Proofs.YtjhgmlhoefakpaaDoor
