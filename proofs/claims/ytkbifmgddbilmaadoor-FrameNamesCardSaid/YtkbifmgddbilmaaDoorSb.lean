/- Plain numbers: the document's own ways (bit by bit), turning. Nothing of the program. -/
import Derived.Test.YtkbifmgddbilmaaDoorSa
namespace Go.Proofs.YtkbifmgddbilmaaDoor.Sm
open Go Go.RowKit

/-- The document's step: with a bit that comes. -/
theorem st_bit (c b : Nat) (hb : b < 2) : st (c ^^^ b) = if c % 2 = b then c / 2 else c / 2 ^^^ 2197175160 := by
  unfold st
  rw [xor_div2, show b / 2 = 0 from by omega, Nat.xor_zero, xor_mod2, show b % 2 = b from by omega]
  rcases Nat.mod_two_eq_zero_or_one c with h | h <;> rw [h] <;> rcases (show b = 0 ∨ b = 1 by omega) with h' | h' <;> subst h' <;> rfl
theorem byte_step (c y k : Nat) : st (it k (c ^^^ y % 2 ^ k) ^^^ (y / 2 ^ k % 2)) = it (k + 1) (c ^^^ y % 2 ^ (k + 1)) := by
  have e : c ^^^ y % 2 ^ (k + 1) = (c ^^^ y % 2 ^ k) ^^^ 2 ^ k * (y / 2 ^ k % 2) := by
    rw [mod_step, Nat.toNat_testBit, Nat.mul_comm, Nat.xor_comm (2 ^ k * _), Nat.xor_assoc]
  rw [e, ← st_it, it_xor k (c ^^^ y % 2 ^ k), it_shift]
theorem byte_start (c y : Nat) : it 0 (c ^^^ y % 2 ^ 0) = c := by rw [Nat.pow_zero, Nat.mod_one, Nat.xor_zero]; rfl
theorem byte_end (c y : Nat) (h : y < 256) : it 8 (c ^^^ y % 2 ^ 8) = it 8 (c ^^^ y) := by rw [Nat.mod_eq_of_lt (by omega)]

/-- Turned by one bit; by so many. -/
def one (c : Nat) : Nat := c / 2 + c % 2 * 2147483648
def left (c : Nat) : Nat := c % 2147483648 * 2 + c / 2147483648
theorem one_lt {c : Nat} (h : c < 4294967296) : one c < 4294967296 := by unfold one; omega
theorem left_lt {c : Nat} (h : c < 4294967296) : left c < 4294967296 := by unfold left; omega
theorem one_left (c : Nat) (h : c < 4294967296) : one (left c) = c := by unfold one left; omega
def rr : Nat → Nat → Nat
  | 0, c => c
  | n + 1, c => one (rr n c)
theorem rr_succ (n c : Nat) : rr (n + 1) c = one (rr n c) := rfl
theorem rr_one (n c : Nat) : rr n (one c) = one (rr n c) := by
  induction n with
  | zero => rfl
  | succ n ih => rw [rr_succ, ih, rr_succ]
theorem rr_form (n c : Nat) (h : n ≤ 32) : rr n c = c / 2 ^ n + c % 2 ^ n * 2 ^ (32 - n) := by
  induction n with
  | zero => rw [Nat.pow_zero, Nat.mod_one, Nat.div_one, Nat.zero_mul]; rfl
  | succ n ih =>
    have e1 : 2 ^ (32 - n) = 2 * 2 ^ (32 - (n + 1)) := by rw [show 32 - n = (32 - (n + 1)) + 1 from by omega, Nat.pow_succ, Nat.mul_comm]
    have e2 : 2 ^ n * 2 ^ (32 - (n + 1)) = 2147483648 := by rw [← Nat.pow_add, show n + (32 - (n + 1)) = 31 from by omega]
    rw [rr_succ, ih (by omega), one, e1, Nat.mod_pow_succ, Nat.add_mul, Nat.mul_right_comm, e2, Nat.pow_succ, ← Nat.div_div_eq_div_mul, Nat.mul_left_comm]
    generalize c % 2 ^ n * 2 ^ (32 - (n + 1)) = x
    omega
theorem rr_rot (c : Nat) : rr 15 c = rot c := by rw [rr_form 15 c (by omega)]; rfl
theorem rr_back (q d : Nat) (h : q < 4294967296) (e : rr 15 q = d) : q = back d := by rw [← e, rr_rot, back_rot q h]

/-- What carrying makes of each of the 32 bits. -/
def car (n : Nat) : List Nat := (List.range 32).map fun i => it n (2 ^ i)
theorem car_length (n : Nat) : (car n).length = 32 := by simp [car]
theorem car_at (n i : Nat) (h : i < 32) : (car n)[i]? = some (it n (2 ^ i)) := by simp [car, h]
theorem car_take (n i : Nat) (h : i < 32) : (car n).take (i + 1) = (car n).take i ++ [it n (2 ^ i)] := by
  rw [List.take_add_one, car_at n i h]; rfl
theorem pow_lt (i : Nat) (h : i < 32) : 2 ^ i < 4294967296 := Nat.pow_lt_pow_right (by omega) h
theorem apply_step (n c i : Nat) : it n (c % 2 ^ (i + 1)) = if c / 2 ^ i % 2 = 1 then it n (c % 2 ^ i) ^^^ it n (2 ^ i) else it n (c % 2 ^ i) := by
  rw [mod_step, Nat.toNat_testBit, it_xor]
  rcases Nat.mod_two_eq_zero_or_one (c / 2 ^ i) with h | h <;> rw [h]
  · rw [Nat.zero_mul, it_zero, Nat.zero_xor]; rfl
  · rw [Nat.one_mul, Nat.xor_comm]; rfl
end Go.Proofs.YtkbifmgddbilmaaDoor.Sm
