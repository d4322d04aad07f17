/- Plain numbers: texts as numbers, combined; one bit turned. Nothing of the program. -/
import Derived.Test.YtkbifmgddbilmaaDoorSb
namespace Go.Proofs.YtkbifmgddbilmaaDoor.Sm
open Go Go.RowKit
theorem pow_mul_xor (k a b : Nat) : 2 ^ k * (a ^^^ b) = 2 ^ k * a ^^^ 2 ^ k * b := by
  apply Nat.eq_of_testBit_eq
  intro i
  rw [Nat.testBit_xor, Nat.testBit_two_pow_mul, Nat.testBit_two_pow_mul, Nat.testBit_two_pow_mul, Nat.testBit_xor]
  by_cases h : k ≤ i <;> simp [h]
theorem xor_swap (a b c d : Nat) : (a ^^^ b) ^^^ (c ^^^ d) = (a ^^^ c) ^^^ (b ^^^ d) := by
  rw [Nat.xor_assoc, ← Nat.xor_assoc b, Nat.xor_comm b c, Nat.xor_assoc c, ← Nat.xor_assoc]
theorem num_zip : ∀ (l r : List UInt8), l.length = r.length → num (List.zipWith (fun a b => a ^^^ b) l r) = num l ^^^ num r
  | [], [], _ => rfl
  | [], _ :: _, h => by simp at h
  | _ :: _, [], h => by simp at h
  | a :: l, b :: r, h => by
    have ih := num_zip l r (by simpa using h)
    rw [List.zipWith_cons_cons, num_cons, num_cons, num_cons, ih, UInt8.toNat_xor]
    have e := pow_mul_xor 8 (num l) (num r)
    have e2 : (2 : Nat) ^ 8 = 256 := rfl
    rw [e2] at e
    rw [e]
    exact xor_swap _ _ _ _
theorem num_lt (l : List UInt8) : num l < 256 ^ l.length := by
  induction l with
  | nil => simp [num]
  | cons b r ih =>
    rw [num, List.length_cons, Nat.pow_succ]
    have := b.toNat_lt
    omega
theorem num_inj : ∀ (l r : List UInt8), l.length = r.length → num l = num r → l = r
  | [], [], _, _ => rfl
  | [], _ :: _, h, _ => by simp at h
  | _ :: _, [], h, _ => by simp at h
  | a :: l, b :: r, h, e => by
    rw [num, num] at e
    have ha := a.toNat_lt
    have hb := b.toNat_lt
    have e1 : num l = num r := by omega
    have e2 : a.toNat = b.toNat := by omega
    rw [num_inj l r (by simpa using h) e1, UInt8.toNat.inj e2]

/-- One byte turned. -/
theorem num_set : ∀ (l : List UInt8) (i : Nat) (h : i < l.length) (c : UInt8), num (l.set i (l[i] ^^^ c)) = num l ^^^ 2 ^ (8 * i) * c.toNat
  | [], i, h, _ => by simp at h
  | b :: r, 0, _, c => by
    rw [List.set_cons_zero, List.getElem_cons_zero, num_cons, num_cons, UInt8.toNat_xor, Nat.mul_zero, Nat.pow_zero, Nat.one_mul, Nat.xor_assoc]
  | b :: r, i + 1, h, c => by
    have ih := num_set r i (by simpa using h) c
    rw [List.set_cons_succ, List.getElem_cons_succ, num_cons, num_cons, ih]
    have e := pow_mul_xor 8 (num r) (2 ^ (8 * i) * c.toNat)
    have e2 : (2 : Nat) ^ 8 = 256 := rfl
    have e3 : 2 ^ 8 * (2 ^ (8 * i) * c.toNat) = 2 ^ (8 * (i + 1)) * c.toNat := by rw [← Nat.mul_assoc, ← Nat.pow_add, Nat.mul_succ, Nat.add_comm]
    rw [e3, e2] at e
    rw [e, Nat.xor_assoc, Nat.xor_comm (2 ^ _ * _), ← Nat.xor_assoc]
/-- The bits of n from a place on, up to k of them, turned. -/
theorem burst_step (x f n k : Nat) : x ^^^ 2 ^ f * (n % 2 ^ (k + 1)) = if n / 2 ^ k % 2 = 1 then (x ^^^ 2 ^ f * (n % 2 ^ k)) ^^^ 2 ^ (f + k) else x ^^^ 2 ^ f * (n % 2 ^ k) := by
  rw [mod_step, Nat.toNat_testBit, pow_mul_xor]
  rcases Nat.mod_two_eq_zero_or_one (n / 2 ^ k) with h | h <;> rw [h]
  · rw [Nat.zero_mul, Nat.mul_zero, Nat.zero_xor]; rfl
  · rw [Nat.one_mul, ← Nat.pow_add, Nat.xor_comm (2 ^ (f + k)), Nat.xor_assoc]; rfl
theorem place (p : Nat) : 2 ^ (8 * (p / 8)) * 2 ^ (p % 8) = 2 ^ p := by rw [← Nat.pow_add, Nat.div_add_mod]
theorem xor_eq_zero {a b : Nat} (h : a ^^^ b = 0) : a = b := by
  have := xor_cancel b a
  rw [Nat.xor_comm b a, h, Nat.xor_zero] at this
  exact this.symm
theorem burst_end (l r : List UInt8) (f W : Nat) (hl : l.length = r.length) (hf : f ≤ 8 * r.length) (hW : W < 4294967296) (h : num l = num r ^^^ 2 ^ f * W) : add 0 l = add 0 r ↔ l = r := by
  constructor
  · intro e
    have e1 : crc 4294967295 l = crc 4294967295 r := by
      have := congrArg (4294967295 ^^^ ·) e
      simpa only [add, xor_cancel, Nat.xor_zero] using this
    rw [crc_num, crc_num, hl] at e1
    have e2 : it (8 * r.length) (2 ^ f * W) = 0 := by
      have h2 : 4294967295 ^^^ num l = (4294967295 ^^^ num r) ^^^ 2 ^ f * W := by rw [h, Nat.xor_assoc]
      rw [h2, it_xor] at e1
      generalize it (8 * r.length) (4294967295 ^^^ num r) = p at e1
      have h3 := congrArg (p ^^^ ·) e1
      simpa only [xor_cancel, Nat.xor_self] using h3
    have e3 : 8 * r.length = f + (8 * r.length - f) := by omega
    rw [e3, it_add, it_shift] at e2
    have hz := it_eq_zero _ hW e2
    refine num_inj l r hl ?_
    rw [h, hz, Nat.mul_zero, Nat.xor_zero]
  · intro e; rw [e]
end Go.Proofs.YtkbifmgddbilmaaDoor.Sm
