/- Messages of fields, plainly: written, read, joined, cut. Nothing of the program. -/
import Derived.Test.YtioflicmpnkfeaaGreatMb
namespace Go.Proofs.YtioflicmpnkfeaaGreat
open Go Go.RowKit
namespace Bt
theorem fv_fx : ∀ (k n : Nat), n < 256 ^ k → fv (fx k n) = n
  | 0, n, h => by
    have : n = 0 := by simpa using h
    subst this
    rfl
  | k + 1, n, h => by
    rw [Nat.pow_succ] at h
    rw [fx, fv, fv_fx k (n / 256) (by omega)]
    have : (UInt8.ofNat n).toNat = n % 256 := by simp
    omega
theorem fx_fv : ∀ (l : List UInt8), fx l.length (fv l) = l
  | [] => rfl
  | b :: r => by
    have hb := b.toNat_lt
    rw [List.length_cons, fx, fv, show (b.toNat + 256 * fv r) / 256 = fv r by omega, fx_fv r]
    congr 1
    apply UInt8.toNat_inj.1
    simp
/-- A varint that is read hangs on its own bytes alone. -/
theorem rd_pre : ∀ (l : List UInt8) (i n N C : Nat), rd l i n = (N, C, 0) → i < C ∧ C ≤ i + l.length ∧ (∀ j, j + i < C → (rd (l.take j) i n).2.2 = 8) ∧ ∀ r, rd (l.take (C - i) ++ r) i n = (N, C, 0)
  | [], i, n, N, C, h => by rw [rd] at h; simp at h
  | b :: l, i, n, N, C, h => by
    rw [rd] at h
    by_cases h1 : i = 9 ∧ 1 < b.toNat
    · rw [if_pos h1] at h; simp at h
    · rw [if_neg h1] at h
      by_cases h2 : b.toNat < 128
      · rw [if_pos h2] at h
        simp only [Prod.mk.injEq, and_true] at h
        obtain ⟨rfl, rfl⟩ := h
        refine ⟨by omega, by simp, fun j hj => ?_, fun r => ?_⟩
        · obtain rfl : j = 0 := by omega
          rfl
        · rw [show i + 1 - i = 1 by omega, List.take_succ_cons, List.take_zero, List.cons_append, rd, if_neg h1, if_pos h2]
      · rw [if_neg h2] at h
        obtain ⟨a1, a2, a3, a4⟩ := rd_pre l _ _ _ _ h
        refine ⟨by omega, by rw [List.length_cons]; omega, fun j hj => ?_, fun r => ?_⟩
        · cases j with
          | zero => rfl
          | succ j =>
            rw [List.take_succ_cons, rd, if_neg h1, if_neg h2]
            exact a3 j (by omega)
        · rw [show C - i = (C - (i + 1)) + 1 by omega, List.take_succ_cons, List.cons_append, rd, if_neg h1, if_neg h2]
          exact a4 r
/-- What is refused by its form stays so, whatever follows. -/
theorem rd_bad : ∀ (l : List UInt8) (i n N C : Nat) (r : List UInt8), rd l i n = (N, C, 4) → (rd (l ++ r) i n).2.2 = 4
  | [], i, n, N, C, r, h => by rw [rd] at h; simp at h
  | b :: l, i, n, N, C, r, h => by
    rw [rd] at h
    rw [List.cons_append, rd]
    by_cases h1 : i = 9 ∧ 1 < b.toNat
    · rw [if_pos h1]
    · rw [if_neg h1] at h ⊢
      by_cases h2 : b.toNat < 128
      · rw [if_pos h2] at h; simp at h
      · rw [if_neg h2] at h ⊢
        exact rd_bad l _ _ _ _ r h
theorem rd_err : ∀ (l : List UInt8) (i n : Nat), (rd l i n).2.2 = 0 ∨ (rd l i n).2.2 = 4 ∨ (rd l i n).2.2 = 8
  | [], i, n => .inr (.inr rfl)
  | b :: l, i, n => by
    rw [rd]
    split
    · exact .inr (.inl rfl)
    · split
      · exact .inl rfl
      · exact rd_err l _ _
/-- So many bytes come to a number below so many groups. -/
theorem rd_lt : ∀ (l : List UInt8) (i n N C : Nat), n < 128 ^ i → rd l i n = (N, C, 0) → N < 128 ^ C
  | [], i, n, N, C, hn, h => by rw [rd] at h; simp at h
  | b :: l, i, n, N, C, hn, h => by
    have hb := b.toNat_lt
    rw [rd] at h
    split at h
    · simp at h
    · split at h
      · simp only [Prod.mk.injEq, and_true] at h
        obtain ⟨rfl, rfl⟩ := h
        rename_i h2
        rw [Nat.pow_succ]
        have : b.toNat * 128 ^ i ≤ 127 * 128 ^ i := Nat.mul_le_mul_right _ (by omega)
        omega
      · refine rd_lt l (i + 1) _ N C ?_ h
        rw [Nat.pow_succ]
        have : (b.toNat - 128) * 128 ^ i ≤ 127 * 128 ^ i := Nat.mul_le_mul_right _ (by omega)
        omega
theorem rd_vlen {l : List UInt8} {N C : Nat} (h : rd l 0 0 = (N, C, 0)) : vlen N ≤ C := by
  have h1 := rd_lt l 0 0 N C (by simp) h
  have h2 := (rd_pre l 0 0 N C h).1
  obtain ⟨k, rfl⟩ : ∃ k, C = k + 1 := ⟨C - 1, by omega⟩
  exact vlen_le k N h1
end Bt
/-- A field: its number, its wire type, a number, a text. -/
structure Fd where
  n : Nat
  w : Nat
  v : Nat
  t : List UInt8
/-- May a field of this number and wire type be? -/
def mayk (n w : Nat) : Bool := decide (1 ≤ n ∧ n ≤ 536870911) && decide (w = 0 ∨ w = 1 ∨ w = 2 ∨ w = 5)
/-- A field whose value is one of its wire type's. -/
structure Fd.ok (f : Fd) : Prop where
  may : mayk f.n f.w = true
  v0 : f.w = 0 ∨ f.w = 1 → f.v < 18446744073709551616
  v5 : f.w = 5 → f.v < 4294967296
  v2 : f.w = 2 → f.v = 0 ∧ f.t.length < 18446744073709551616
  t2 : f.w ≠ 2 → f.t = []
/-- A value's bytes. -/
def vby (f : Fd) : List UInt8 :=
  if f.w = 0 then Bt.vint f.v else if f.w = 1 then Bt.fx 8 f.v else if f.w = 2 then Bt.vint f.t.length ++ f.t else Bt.fx 4 f.v
/-- A field's bytes. -/
def fby (f : Fd) : List UInt8 := Bt.vint (f.n * 8 + f.w) ++ vby f
/-- A value of a wire type, at the begin of bytes: the number, the text, how many bytes, the error. -/
def rdv (w : Nat) (l : List UInt8) : Nat × List UInt8 × Nat × Nat :=
  if w = 0 then ((Bt.rd l 0 0).1, [], (Bt.rd l 0 0).2.1, (Bt.rd l 0 0).2.2)
  else if w = 1 then (if 8 ≤ l.length then (Bt.fv (l.take 8), [], 8, 0) else (0, [], 0, 8))
  else if w = 2 then
    if (Bt.rd l 0 0).2.2 ≠ 0 then (0, [], 0, (Bt.rd l 0 0).2.2)
    else if l.length - (Bt.rd l 0 0).2.1 < (Bt.rd l 0 0).1 then (0, [], 0, 8)
    else (0, (l.drop (Bt.rd l 0 0).2.1).take (Bt.rd l 0 0).1, (Bt.rd l 0 0).2.1 + (Bt.rd l 0 0).1, 0)
  else (if 4 ≤ l.length then (Bt.fv (l.take 4), [], 4, 0) else (0, [], 0, 8))
/-- A field at the begin of bytes: the field, how many bytes, the error. -/
def rdf (l : List UInt8) : Fd × Nat × Nat :=
  if (Bt.rd l 0 0).2.2 ≠ 0 then (⟨0, 0, 0, []⟩, 0, (Bt.rd l 0 0).2.2)
  else if 4294967296 ≤ (Bt.rd l 0 0).1 ∨ mayk ((Bt.rd l 0 0).1 / 8) ((Bt.rd l 0 0).1 % 8) = false then (⟨0, 0, 0, []⟩, 0, 4)
  else
    let x := rdv ((Bt.rd l 0 0).1 % 8) (l.drop (Bt.rd l 0 0).2.1)
    if x.2.2.2 ≠ 0 then (⟨0, 0, 0, []⟩, 0, x.2.2.2) else (⟨(Bt.rd l 0 0).1 / 8, (Bt.rd l 0 0).1 % 8, x.1, x.2.1⟩, (Bt.rd l 0 0).2.1 + x.2.2.1, 0)
theorem mayk_w {n w : Nat} (h : mayk n w = true) : 1 ≤ n ∧ n ≤ 536870911 ∧ (w = 0 ∨ w = 1 ∨ w = 2 ∨ w = 5) := by
  unfold mayk at h
  simp only [Bool.and_eq_true, decide_eq_true_eq] at h
  exact ⟨h.1.1, h.1.2, h.2⟩
theorem take_pre0 {a b : List UInt8} {k : Nat} (h : a.length = k) : (a ++ b).take k = a := by subst h; simp
theorem drop_pre0 {a b : List UInt8} {k : Nat} (h : a.length = k) : (a ++ b).drop k = b := by subst h; simp
theorem e8 : (256 : Nat) ^ 8 = 18446744073709551616 := by decide
theorem e4 : (256 : Nat) ^ 4 = 4294967296 := by decide
/-- What is written of a value is read as it is. -/
theorem rdv_vby (f : Fd) (h : f.ok) (r : List UInt8) : rdv f.w (vby f ++ r) = (f.v, f.t, (vby f).length, 0) := by
  obtain ⟨n, w, v, t⟩ := f
  obtain ⟨h1, h2, h3, h4, h5⟩ := h
  obtain ⟨-, -, hw⟩ := mayk_w h1
  dsimp only at h2 h3 h4 h5 hw ⊢
  rcases hw with rfl | rfl | rfl | rfl
  · have ht := h5 (by decide)
    subst ht
    have hv := h2 (.inl rfl)
    simp only [rdv, vby, if_true]
    rw [Bt.rd_put hv, Bt.vint_length]
  · have ht := h5 (by decide)
    subst ht
    have hv := h2 (.inr rfl)
    have hl : (Bt.fx 8 v).length = 8 := Bt.fx_length _ _
    simp only [rdv, vby, if_true, show ¬ (1 : Nat) = 0 from by decide, if_false]
    rw [if_pos (by rw [List.length_append]; omega), take_pre0 hl, Bt.fv_fx 8 v (by rw [e8]; exact hv), hl]
  · obtain ⟨hv, ht⟩ := h4 rfl
    subst hv
    simp only [rdv, vby, if_true, show ¬ (2 : Nat) = 0 from by decide, show ¬ (2 : Nat) = 1 from by decide, if_false]
    rw [List.append_assoc, Bt.rd_put ht]
    have hl : (Bt.vint t.length).length = Bt.vlen t.length := Bt.vint_length _
    dsimp only
    rw [if_neg (by decide), if_neg (by rw [List.length_append, List.length_append, hl]; omega), drop_pre0 hl, take_pre0 rfl, List.length_append, hl]
  · have ht := h5 (by decide)
    subst ht
    have hv := h3 rfl
    have hl : (Bt.fx 4 v).length = 4 := Bt.fx_length _ _
    simp only [rdv, vby, show ¬ (5 : Nat) = 0 from by decide, show ¬ (5 : Nat) = 1 from by decide, show ¬ (5 : Nat) = 2 from by decide, if_false]
    rw [if_pos (by rw [List.length_append]; omega), take_pre0 hl, Bt.fv_fx 4 v (by rw [e4]; exact hv), hl]
theorem rdf_fby (f : Fd) (h : f.ok) (r : List UInt8) : rdf (fby f ++ r) = (f, (fby f).length, 0) := by
  obtain ⟨h1, h2, h3⟩ := mayk_w h.may
  have hk : f.n * 8 + f.w < 4294967296 := by omega
  have hq : (f.n * 8 + f.w) / 8 = f.n := by omega
  have hr : (f.n * 8 + f.w) % 8 = f.w := by omega
  have hl : (Bt.vint (f.n * 8 + f.w)).length = Bt.vlen (f.n * 8 + f.w) := Bt.vint_length _
  unfold rdf fby
  rw [List.append_assoc, Bt.rd_put (by omega)]
  dsimp only
  rw [if_neg (by decide), hq, hr, if_neg (by rw [h.may]; simp; omega), drop_pre0 hl, rdv_vby f h r]
  dsimp only
  rw [if_neg (by decide), List.length_append, hl]
end Go.Proofs.YtioflicmpnkfeaaGreat
