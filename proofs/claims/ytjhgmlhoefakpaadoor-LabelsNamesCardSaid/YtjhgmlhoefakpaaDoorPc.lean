/- Plain mathematics: labels shown, and labels read of a text: byte by byte (as the program goes), rune by rune (as the document goes). -/
import Derived.Test.YtjhgmlhoefakpaaDoorPb
namespace Go.Proofs.YtjhgmlhoefakpaaDoor
set_option maxRecDepth 100000
/-- A hexadecimal digit's number. -/
def hexd (c : UInt8) : Option Nat := if 48 ≤ c.toNat ∧ c.toNat ≤ 57 then some (c.toNat - 48) else if 97 ≤ c.toNat ∧ c.toNat ≤ 102 then some (c.toNat - 87) else none
def hexGo : Nat → Nat → List UInt8 → Nat × List UInt8
  | 0, a, l => (a, l)
  | _ + 1, a, [] => (a, [])
  | n + 1, a, c :: t => match hexd c with
    | some d => hexGo n (a * 16 + d) t
    | none => (a, c :: t)
/-- What stands behind the brace: digits, and the brace that ends them. -/
def hexR (u : List UInt8) : Option (Nat × List UInt8) :=
  if (hexGo 6 0 u).2.length = u.length then none else match (hexGo 6 0 u).2 with
    | [] => none
    | c :: t => if c = 125 ∧ OkR (hexGo 6 0 u).1 then some ((hexGo 6 0 u).1, t) else none
/-- What stands behind a backslash. -/
def esc : List UInt8 → Option (Nat × List UInt8)
  | [] => none
  | c :: t => if c = 92 then some (92, t) else if c = 34 then some (34, t) else if c = 117 then (match t with
    | [] => none
    | d :: u => if d = 123 then hexR u else none) else none
/-- A value, byte by byte. -/
def V : Nat → List UInt8 → Option (List UInt8 × List UInt8)
  | 0, _ => none
  | _ + 1, [] => none
  | n + 1, c :: t => if c = 34 then some ([], t) else if c = 92 then (esc t).bind (fun x => (V n x.2).map fun o => (enc x.1 ++ o.1, o.2)) else (V n t).map fun o => (c :: o.1, o.2)
/-- A value, rune by rune. -/
def D : Nat → List UInt8 → Option (List UInt8 × List UInt8)
  | 0, _ => none
  | n + 1, l => if (rn l).2 = 0 then none else if (rn l).1 = 34 then some ([], l.drop (rn l).2) else if (rn l).1 = 92 then (esc (l.drop (rn l).2)).bind (fun x => (D n x.2).map fun o => (enc x.1 ++ o.1, o.2)) else (D n (l.drop (rn l).2)).map fun o => (enc (rn l).1 ++ o.1, o.2)
theorem hexGo_le : ∀ (n a : Nat) (l : List UInt8), (hexGo n a l).2.length ≤ l.length
  | 0, _, _ => Nat.le_refl _
  | _ + 1, _, [] => Nat.le_refl _
  | n + 1, a, c :: t => by
    unfold hexGo
    cases hexd c with
    | some d =>
      have := hexGo_le n (a * 16 + d) t
      rw [List.length_cons]
      exact Nat.le_succ_of_le this
    | none => exact Nat.le_refl _
theorem hexR_le {u t : List UInt8} {x : Nat} (h : hexR u = some (x, t)) : t.length + 2 ≤ u.length ∧ OkR x := by
  unfold hexR at h
  have hl := hexGo_le 6 0 u
  split at h
  · cases h
  · rename_i hne
    split at h
    · cases h
    · rename_i c t' e
      split at h
      · rename_i hc
        rw [e, List.length_cons] at hl hne
        cases h
        exact ⟨by omega, hc.2⟩
      · cases h
def escU : List UInt8 → Option (Nat × List UInt8)
  | [] => none
  | d :: u => if d = 123 then hexR u else none
theorem esc_cons (c : UInt8) (t : List UInt8) : esc (c :: t) = if c = 92 then some (92, t) else if c = 34 then some (34, t) else if c = 117 then escU t else none := by
  cases t <;> rfl
theorem esc_le {l t : List UInt8} {x : Nat} (h : esc l = some (x, t)) : t.length + 1 ≤ l.length ∧ OkR x := by
  cases l with
  | nil => cases h
  | cons c r =>
    rw [esc_cons] at h
    rw [List.length_cons]
    by_cases h1 : c = 92
    · rw [if_pos h1] at h; cases h; exact ⟨Nat.le_refl _, .inl (by omega)⟩
    rw [if_neg h1] at h
    by_cases h2 : c = 34
    · rw [if_pos h2] at h; cases h; exact ⟨Nat.le_refl _, .inl (by omega)⟩
    rw [if_neg h2] at h
    by_cases h3 : c = 117
    · rw [if_pos h3] at h
      cases r with
      | nil => cases h
      | cons d u =>
        change (if d = 123 then hexR u else none) = some (x, t) at h
        by_cases h4 : d = 123
        · rw [if_pos h4] at h
          have := hexR_le h
          rw [List.length_cons]
          exact ⟨by omega, this.2⟩
        · rw [if_neg h4] at h; cases h
    · rw [if_neg h3] at h; cases h
theorem V_mono : ∀ (n : Nat) (l : List UInt8) (o : List UInt8 × List UInt8), V n l = some o → V (n + 1) l = some o
  | 0, _, _, h => by cases h
  | n + 1, [], _, h => by cases h
  | n + 1, c :: t, o, h => by
    unfold V at h ⊢
    split
    · rename_i h1; rw [if_pos h1] at h; exact h
    · rename_i h1
      rw [if_neg h1] at h
      split
      · rename_i h2
        rw [if_pos h2] at h
        cases e : esc t with
        | none => rw [e] at h; cases h
        | some x =>
          rw [e] at h
          obtain ⟨p, hp, rfl⟩ := Option.map_eq_some_iff.1 h
          simp only [Option.bind_some]
          rw [V_mono n _ _ hp]; rfl
      · rename_i h2
        rw [if_neg h2] at h
        obtain ⟨p, hp, rfl⟩ := Option.map_eq_some_iff.1 h
        rw [V_mono n _ _ hp]; rfl
theorem V_le {n m : Nat} (hnm : n ≤ m) {l : List UInt8} {o : List UInt8 × List UInt8} (h : V n l = some o) : V m l = some o := by
  induction hnm with
  | refl => exact h
  | step _ ih => exact V_mono _ _ _ ih
theorem D_mono : ∀ (n : Nat) (l : List UInt8) (o : List UInt8 × List UInt8), D n l = some o → D (n + 1) l = some o
  | 0, _, _, h => by cases h
  | n + 1, l, o, h => by
    unfold D at h ⊢
    by_cases h0 : (rn l).2 = 0
    · rw [if_pos h0] at h; cases h
    rw [if_neg h0] at h ⊢
    by_cases h1 : (rn l).1 = 34
    · rw [if_pos h1] at h ⊢; exact h
    rw [if_neg h1] at h ⊢
    by_cases h2 : (rn l).1 = 92
    · rw [if_pos h2] at h ⊢
      cases e : esc (l.drop (rn l).2) with
      | none => rw [e] at h; cases h
      | some x =>
        rw [e] at h
        obtain ⟨p, hp, rfl⟩ := Option.map_eq_some_iff.1 h
        simp only [Option.bind_some]
        rw [D_mono n _ _ hp]; rfl
    · rw [if_neg h2] at h ⊢
      obtain ⟨p, hp, rfl⟩ := Option.map_eq_some_iff.1 h
      rw [D_mono n _ _ hp]; rfl
theorem D_le {n m : Nat} (hnm : n ≤ m) {l : List UInt8} {o : List UInt8 × List UInt8} (h : D n l = some o) : D m l = some o := by
  induction hnm with
  | refl => exact h
  | step _ ih => exact D_mono _ _ _ ih
/-- What is read is shorter by one at least. -/
theorem V_short : ∀ (n : Nat) (l a b : List UInt8), V n l = some (a, b) → b.length + 1 ≤ l.length
  | 0, _, _, _, h => by cases h
  | n + 1, [], _, _, h => by cases h
  | n + 1, c :: t, a, b, h => by
    unfold V at h
    rw [List.length_cons]
    split at h
    · cases h; omega
    · split at h
      · cases e : esc t with
        | none => rw [e] at h; cases h
        | some x =>
          rw [e] at h
          obtain ⟨p, hp, hh⟩ := Option.map_eq_some_iff.1 h
          have h1 := V_short n _ _ _ hp
          have h2 := esc_le e
          cases hh
          omega
      · obtain ⟨p, hp, hh⟩ := Option.map_eq_some_iff.1 h
        have h1 := V_short n _ _ _ hp
        cases hh
        omega
/-- Enough to go by. -/
theorem V_fuel : ∀ (n : Nat) (l : List UInt8) (o : List UInt8 × List UInt8), V n l = some o → V l.length l = some o
  | 0, _, _, h => by cases h
  | n + 1, [], _, h => by cases h
  | n + 1, c :: t, o, h => by
    rw [List.length_cons]
    unfold V at h ⊢
    split
    · rename_i h1; rw [if_pos h1] at h; exact h
    · rename_i h1
      rw [if_neg h1] at h
      split
      · rename_i h2
        rw [if_pos h2] at h
        cases e : esc t with
        | none => rw [e] at h; cases h
        | some x =>
          rw [e] at h
          obtain ⟨p, hp, rfl⟩ := Option.map_eq_some_iff.1 h
          simp only [Option.bind_some]
          have h2 := (esc_le e).1
          rw [V_le (by omega) (V_fuel n _ _ hp)]; rfl
      · rename_i h2
        rw [if_neg h2] at h
        obtain ⟨p, hp, rfl⟩ := Option.map_eq_some_iff.1 h
        rw [V_fuel n _ _ hp]; rfl
theorem D_fuel : ∀ (n : Nat) (l : List UInt8) (o : List UInt8 × List UInt8), D n l = some o → D l.length l = some o
  | 0, _, _, h => by cases h
  | n + 1, l, o, h => by
    unfold D at h
    by_cases h0 : (rn l).2 = 0
    · rw [if_pos h0] at h; cases h
    rw [if_neg h0] at h
    obtain ⟨i1, i2, i3⟩ := rn_inv h0
    have hl := congrArg List.length i2
    rw [List.length_append, List.length_drop] at hl
    have h4 := enc_length (rn l).1
    obtain ⟨k, hk⟩ : ∃ k, l.length = k + 1 := ⟨l.length - 1, by omega⟩
    have hd : (l.drop (rn l).2).length ≤ k := by rw [List.length_drop]; omega
    rw [hk]
    unfold D
    rw [if_neg h0]
    by_cases h1 : (rn l).1 = 34
    · rw [if_pos h1] at h ⊢; exact h
    rw [if_neg h1] at h ⊢
    by_cases h2 : (rn l).1 = 92
    · rw [if_pos h2] at h ⊢
      cases e : esc (l.drop (rn l).2) with
      | none => rw [e] at h; cases h
      | some x =>
        rw [e] at h
        obtain ⟨p, hp, rfl⟩ := Option.map_eq_some_iff.1 h
        simp only [Option.bind_some]
        have h3 := (esc_le e).1
        rw [D_le (by omega) (D_fuel n _ _ hp)]; rfl
    · rw [if_neg h2] at h ⊢
      obtain ⟨p, hp, rfl⟩ := Option.map_eq_some_iff.1 h
      rw [D_le hd (D_fuel n _ _ hp)]; rfl
/-- Bytes that are neither a quote nor a backslash are taken as they are. -/
theorem V_plain : ∀ (p l : List UInt8) (n : Nat) (o : List UInt8 × List UInt8), (∀ c ∈ p, c ≠ 34 ∧ c ≠ 92) → (V (p.length + n) (p ++ l) = some o ↔ ∃ q, V n l = some q ∧ o = (p ++ q.1, q.2))
  | [], l, n, o, _ => by simp
  | c :: p, l, n, o, h => by
    have hc := h c (by simp)
    have e : V ((c :: p).length + n) (c :: p ++ l) = (V (p.length + n) (p ++ l)).map fun o => (c :: o.1, o.2) := by
      rw [List.length_cons, show p.length + 1 + n = (p.length + n) + 1 by omega, List.cons_append]
      conv => lhs; unfold V
      rw [if_neg hc.1, if_neg hc.2]
    rw [e]
    constructor
    · intro h1
      obtain ⟨q, hq, rfl⟩ := Option.map_eq_some_iff.1 h1
      obtain ⟨q', hq', rfl⟩ := (V_plain p l n q (fun x hx => h x (by simp [hx]))).1 hq
      exact ⟨q', hq', rfl⟩
    · rintro ⟨q, hq, rfl⟩
      rw [(V_plain p l n _ (fun x hx => h x (by simp [hx]))).2 ⟨q, hq, rfl⟩]
      rfl
/-- A rune's bytes, of a rune that is no quote and no backslash. -/
theorem enc_plain {c : Nat} (h : OkR c) (h1 : c ≠ 34) (h2 : c ≠ 92) : ∀ x ∈ enc c, x ≠ 34 ∧ x ≠ 92 := by
  intro x hx
  obtain ⟨y, hy, rfl⟩ := List.mem_map.1 hx
  have hb := encN_byte h y hy
  have hy2 : y ≠ 34 ∧ y ≠ 92 := by
    unfold encN at hy
    split at hy
    · simp only [List.mem_singleton] at hy; omega
    · split at hy
      · simp only [List.mem_cons, List.not_mem_nil, or_false] at hy; omega
      · split at hy
        · simp only [List.mem_cons, List.not_mem_nil, or_false] at hy; omega
        · simp only [List.mem_cons, List.not_mem_nil, or_false] at hy; omega
  have e : (UInt8.ofNat y).toNat = y := by simp; omega
  constructor
  · intro hc
    have := congrArg UInt8.toNat hc
    rw [e] at this
    exact hy2.1 this
  · intro hc
    have := congrArg UInt8.toNat hc
    rw [e] at this
    exact hy2.2 this
theorem enc_34 : enc 34 = [34] := by decide
theorem enc_92 : enc 92 = [92] := by decide
/-- What the document reads the program reads. -/
theorem D_V : ∀ (n : Nat) (l a b : List UInt8), D n l = some (a, b) → V l.length l = some (a, b)
  | 0, _, _, _, h => by cases h
  | n + 1, l, a, b, h => by
    unfold D at h
    by_cases h0 : (rn l).2 = 0
    · rw [if_pos h0] at h; cases h
    rw [if_neg h0] at h
    obtain ⟨i1, i2, i3⟩ := rn_inv h0
    by_cases h1 : (rn l).1 = 34
    · rw [if_pos h1] at h
      cases h
      rw [h1, enc_34] at i2
      generalize l.drop (rn l).2 = t at i2 ⊢
      subst i2
      rfl
    rw [if_neg h1] at h
    by_cases h2 : (rn l).1 = 92
    · rw [if_pos h2] at h
      rw [h2, enc_92] at i2
      generalize l.drop (rn l).2 = t at i2 h
      subst i2
      cases e : esc t with
      | none => rw [e] at h; cases h
      | some x =>
        rw [e] at h
        obtain ⟨p, hp, hh⟩ := Option.map_eq_some_iff.1 h
        have := D_V n _ _ _ hp
        have h3 := (esc_le e).1
        show V (t.length + 1) (92 :: t) = _
        unfold V
        rw [if_neg (by decide), if_pos rfl, e]
        simp only [Option.bind_some]
        rw [V_le (by omega) this, ← hh]; rfl
    · rw [if_neg h2] at h
      obtain ⟨p, hp, hh⟩ := Option.map_eq_some_iff.1 h
      have := D_V n _ _ _ hp
      have hq := (V_plain (enc (rn l).1) (l.drop (rn l).2) _ (enc (rn l).1 ++ p.1, p.2) (enc_plain i1 h1 h2)).2 ⟨p, this, rfl⟩
      rw [← i2] at hq
      rw [hh] at hq
      exact V_fuel _ _ _ hq
/-- A byte that goes on with a rune. -/
def cont (c : UInt8) : Bool := decide (128 ≤ c.toNat ∧ c.toNat < 192)
theorem encN_cont {c : Nat} (h : OkR c) : ∀ x ∈ (encN c).tail, 128 ≤ x ∧ x < 192 := by
  intro x hx
  unfold encN at hx
  unfold OkR at h
  split at hx
  · simp at hx
  · split at hx
    · simp at hx; omega
    · split at hx
      · simp at hx; omega
      · simp at hx; omega
theorem encN_head {c : Nat} (h : OkR c) : ∃ x, (encN c).head? = some x ∧ x < 256 ∧ ¬ (128 ≤ x ∧ x < 192) := by
  unfold encN
  unfold OkR at h
  split
  · exact ⟨_, rfl, by omega, by omega⟩
  · split
    · exact ⟨_, rfl, by omega, by omega⟩
    · split
      · exact ⟨_, rfl, by omega, by omega⟩
      · exact ⟨_, rfl, by omega, by omega⟩
theorem enc_cont {c : Nat} (h : OkR c) : ∀ x ∈ (enc c).tail, cont x = true := by
  intro x hx
  unfold enc at hx
  rw [← List.map_tail] at hx
  obtain ⟨y, hy, rfl⟩ := List.mem_map.1 hx
  have := encN_cont h y hy
  unfold cont
  simp
  omega
theorem enc_head {c : Nat} (h : OkR c) : ∃ x t, enc c = x :: t ∧ cont x = false := by
  obtain ⟨y, hy, h1, h2⟩ := encN_head h
  unfold enc
  cases e : encN c with
  | nil => rw [e] at hy; cases hy
  | cons z r =>
    rw [e] at hy
    cases hy
    refine ⟨_, _, rfl, ?_⟩
    unfold cont
    simp
    omega
/-- A text that is cut where no rune goes on: its first rune stands ahead of the cut. -/
theorem enc_cut {c : Nat} (h : OkR c) {p x t : List UInt8} (hp : p ≠ []) (hx : ∀ y z, x = y :: z → cont y = false) (he : p ++ x = enc c ++ t) : ∃ s, p = enc c ++ s := by
  have hpre : enc c <+: p ++ x := ⟨t, he.symm⟩
  rcases Nat.lt_or_ge p.length (enc c).length with hl | hl
  · exfalso
    have hx0 : x ≠ [] := by
      rintro rfl
      have := hpre.length_le
      simp at this
      omega
    obtain ⟨y, z, rfl⟩ := List.exists_cons_of_ne_nil hx0
    have h1 := hx y z rfl
    have h2 : (enc c)[p.length]? = some y := by
      have := congrArg (fun l => l[p.length]?) he
      simp only [List.getElem?_append_right (Nat.le_refl _), Nat.sub_self, List.getElem?_cons_zero] at this
      rw [List.getElem?_append_left hl] at this
      exact this.symm
    have hp0 : 0 < p.length := List.length_pos_iff.2 hp
    have h3 : y ∈ (enc c).tail := by
      rw [List.mem_iff_getElem?]
      exact ⟨p.length - 1, by rw [List.getElem?_tail, show p.length - 1 + 1 = p.length by omega]; exact h2⟩
    rw [enc_cont h y h3] at h1
    cases h1
  · have := List.prefix_of_prefix_length_le hpre (List.prefix_append p x) hl
    obtain ⟨s, hs⟩ := this
    exact ⟨s, hs.symm⟩
/-- How a value that is read goes on: bytes as they are, then the end, or an escape. -/
theorem V_parts : ∀ (n : Nat) (l a b : List UInt8), V n l = some (a, b) → ∃ p t x, l = p ++ t ∧ a = p ++ x ∧ (∀ c ∈ p, c ≠ 34 ∧ c ≠ 92) ∧ (∀ y z, x = y :: z → cont y = false) ∧ V n t = some (x, b) ∧ ((∃ u, t = 34 :: u ∧ x = [] ∧ b = u) ∨ ∃ u, t = 92 :: u)
  | 0, _, _, _, h => by cases h
  | n + 1, [], _, _, h => by cases h
  | n + 1, c :: t, a, b, h => by
    have h0 := h
    unfold V at h
    by_cases h1 : c = 34
    · rw [if_pos h1] at h
      cases h
      subst h1
      exact ⟨[], 34 :: t, [], rfl, rfl, by simp, by simp, h0, .inl ⟨_, rfl, rfl, rfl⟩⟩
    rw [if_neg h1] at h
    by_cases h2 : c = 92
    · rw [if_pos h2] at h
      subst h2
      refine ⟨[], 92 :: t, a, rfl, rfl, by simp, ?_, h0, .inr ⟨t, rfl⟩⟩
      intro y z hy
      cases e : esc t with
      | none => rw [e] at h; cases h
      | some w =>
        rw [e] at h
        obtain ⟨p, hp, hh⟩ := Option.map_eq_some_iff.1 h
        obtain ⟨y', t', h3, h4⟩ := enc_head (esc_le e).2
        rw [h3] at hh
        cases hh
        cases hy
        exact h4
    · rw [if_neg h2] at h
      obtain ⟨q, hq, hh⟩ := Option.map_eq_some_iff.1 h
      obtain ⟨p, u, x, e1, e2, e3, e4, e5, e6⟩ := V_parts n t q.1 q.2 hq
      cases hh
      refine ⟨c :: p, u, x, by rw [e1]; rfl, by rw [e2]; rfl, ?_, e4, V_mono _ _ _ e5, e6⟩
      intro y hy
      rcases List.mem_cons.1 hy with rfl | hy
      · exact ⟨h1, h2⟩
      · exact e3 y hy
/-- What the program reads, and is valid, the document reads. -/
theorem V_D : ∀ (k : Nat) (rs : List Nat) (n : Nat) (l b : List UInt8), l.length ≤ k → AllR rs → V n l = some (flat rs, b) → D l.length l = some (flat rs, b)
  | 0, rs, n, l, b, hk, ha, h => by
    have : l = [] := List.eq_nil_of_length_eq_zero (by omega)
    subst this
    cases n <;> cases h
  | k + 1, rs, n, l, b, hk, ha, h => by
    obtain ⟨p, t, x, e1, e2, e3, e4, e5, e6⟩ := V_parts n l _ b h
    by_cases hp : p = []
    · subst hp
      rw [List.nil_append] at e1 e2
      subst e1
      rcases e6 with ⟨u, rfl, rfl, rfl⟩ | ⟨u, rfl⟩
      · rw [e2]
        have r : rn (34 :: b) = (34, 1) := by
          have := rn_enc (c := 34) (.inl (by omega)) b
          rw [enc_34] at this
          exact this
        show D (b.length + 1) (34 :: b) = _
        unfold D
        rw [r]
        rfl
      · have r : rn (92 :: u) = (92, 1) := by
          have := rn_enc (c := 92) (.inl (by omega)) u
          rw [enc_92] at this
          exact this
        cases n with
        | zero => cases h
        | succ n =>
          unfold V at h
          rw [if_neg (by decide), if_pos rfl] at h
          cases e : esc u with
          | none => rw [e] at h; cases h
          | some w =>
            rw [e] at h
            obtain ⟨q, hq, hh⟩ := Option.map_eq_some_iff.1 h
            have hw := esc_le e
            simp only [Prod.mk.injEq] at hh
            cases rs with
            | nil => exact absurd hh.1 (by simp [flat, enc_ne])
            | cons c r' =>
              have g := rn_enc hw.2 q.1
              rw [hh.1, flat_cons, rn_enc (ha c (by simp))] at g
              simp only [Prod.mk.injEq] at g
              have hc : c = w.1 := g.1
              subst hc
              have hq1 : q.1 = flat r' := List.append_cancel_left (hh.1.trans (flat_cons _ _))
              have ih := V_D k r' n w.2 b (by simp at hk; omega) (fun y hy => ha y (by simp [hy])) (by rw [← hq1, ← hh.2]; exact hq)
              show D (u.length + 1) (92 :: u) = _
              unfold D
              rw [r]
              simp only [List.drop_succ_cons, List.drop_zero]
              rw [if_neg (by omega), if_neg (by omega), if_pos trivial, e]
              simp only [Option.bind_some]
              rw [D_le (by omega) ih]; rfl
    · cases rs with
      | nil => exact absurd (List.append_eq_nil_iff.1 e2.symm).1 hp
      | cons c r' =>
        have hc := ha c (by simp)
        rw [flat_cons] at e2
        obtain ⟨s, hs⟩ := enc_cut hc hp e4 e2.symm
        subst hs
        have hr : rn l = (c, (enc c).length) := by
          rw [e1, List.append_assoc]
          exact rn_enc hc _
        have hd : l.drop (enc c).length = s ++ t := by rw [e1, List.append_assoc, List.drop_left]
        have hpl : ∀ y ∈ enc c, y ≠ 34 ∧ y ≠ 92 := fun y hy => e3 y (by simp [hy])
        have hc1 : c ≠ 34 := fun e => by subst e; rw [enc_34] at hpl; exact (hpl 34 (by simp)).1 rfl
        have hc2 : c ≠ 92 := fun e => by subst e; rw [enc_92] at hpl; exact (hpl 92 (by simp)).2 rfl
        have hx : flat r' = s ++ x := by
          rw [List.append_assoc] at e2
          exact List.append_cancel_left e2
        have hv : V (s.length + n) (s ++ t) = some (flat r', b) := by
          rw [hx]
          exact (V_plain s t n _ (fun y hy => e3 y (by simp [hy]))).2 ⟨_, e5, rfl⟩
        have hl := congrArg List.length e1
        have h4 := enc_length c
        rw [List.append_assoc, List.length_append] at hl
        have ih := V_D k r' _ (s ++ t) b (by omega) (fun y hy => ha y (by simp [hy])) hv
        obtain ⟨m, hm⟩ : ∃ m, l.length = m + 1 := ⟨l.length - 1, by omega⟩
        rw [hm]
        unfold D
        rw [hr]
        simp only
        rw [if_neg (by omega), if_neg hc1, if_neg hc2, hd, D_le (by omega) ih]
        rfl
end Go.Proofs.YtjhgmlhoefakpaaDoor
