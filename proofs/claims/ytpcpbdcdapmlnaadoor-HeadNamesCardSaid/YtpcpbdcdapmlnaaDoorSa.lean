/- Plain numbers: what carrying makes of a number, the checksum of a text as one number, masking. Nothing of the program. -/
import Derived.Laws.BitsAllLaws
import Derived.RowKit
import Derived.IntWalk
namespace Go.Proofs.YtpcpbdcdapmlnaaDoor.Sm
open Go Go.RowKit
/-- One step of carrying. -/
def st (c : Nat) : Nat := if c % 2 = 1 then c / 2 ^^^ 2197175160 else c / 2
/-- So many steps. -/
def it : Nat → Nat → Nat
  | 0, c => c
  | n + 1, c => it n (st c)
theorem xor_div2 (a b : Nat) : (a ^^^ b) / 2 = a / 2 ^^^ b / 2 := by
  have := Nat.shiftRight_xor_distrib (a := a) (b := b) (i := 1)
  simpa [Nat.shiftRight_eq_div_pow] using this
theorem xor_mod2 (a b : Nat) : (a ^^^ b) % 2 = a % 2 ^^^ b % 2 := Nat.xor_mod_two_pow (n := 1)
theorem xor_cancel (m x : Nat) : m ^^^ (m ^^^ x) = x := by rw [← Nat.xor_assoc, Nat.xor_self, Nat.zero_xor]
theorem st_xor (a b : Nat) : st (a ^^^ b) = st a ^^^ st b := by
  unfold st
  rw [xor_div2, xor_mod2]
  rcases Nat.mod_two_eq_zero_or_one a with ha | ha <;> rcases Nat.mod_two_eq_zero_or_one b with hb | hb <;> rw [ha, hb]
  · rfl
  · rw [if_pos (by decide), if_neg (by decide), if_pos rfl, Nat.xor_assoc]
  · rw [if_pos (by decide), if_pos rfl, if_neg (by decide), Nat.xor_assoc, Nat.xor_comm (b / 2), ← Nat.xor_assoc]
  · rw [if_neg (by decide), if_pos rfl, if_pos rfl, Nat.xor_comm (b / 2), Nat.xor_assoc (a / 2), xor_cancel]
theorem st_zero : st 0 = 0 := rfl
theorem st_even (x : Nat) : st (2 * x) = x := by unfold st; rw [if_neg (by omega)]; omega
theorem it_succ (n c : Nat) : it (n + 1) c = it n (st c) := rfl
theorem it_one (c : Nat) : it 1 c = st c := rfl
theorem it_add (m n c : Nat) : it (m + n) c = it n (it m c) := by
  induction m generalizing c with
  | zero => rw [Nat.zero_add]; rfl
  | succ m ih => rw [Nat.succ_add, it_succ, ih, it_succ]
theorem it_comm (m n c : Nat) : it m (it n c) = it n (it m c) := by rw [← it_add, ← it_add, Nat.add_comm]
theorem st_it (n c : Nat) : st (it n c) = it (n + 1) c := by rw [it_add n 1 c, it_one]
theorem it_xor (n a b : Nat) : it n (a ^^^ b) = it n a ^^^ it n b := by
  induction n generalizing a b with
  | zero => rfl
  | succ n ih => rw [it_succ, st_xor, ih, it_succ, it_succ]
theorem it_zero (n : Nat) : it n 0 = 0 := by
  induction n with
  | zero => rfl
  | succ n ih => rw [it_succ, st_zero, ih]
theorem it_shift (n x : Nat) : it n (2 ^ n * x) = x := by
  induction n generalizing x with
  | zero => simp [it]
  | succ n ih => rw [it_succ, Nat.pow_succ, Nat.mul_comm (2 ^ n) 2, Nat.mul_assoc, st_even, ih]
theorem st_lt {c : Nat} (h : c < 4294967296) : st c < 4294967296 := by
  unfold st
  split
  · exact Nat.xor_lt_two_pow (n := 32) (by omega) (by omega)
  · omega
theorem it_lt {c : Nat} (n : Nat) (h : c < 4294967296) : it n c < 4294967296 := by
  induction n generalizing c with
  | zero => exact h
  | succ n ih => exact ih (st_lt h)
theorem xor_lt {a b : Nat} (h : a < 4294967296) (h' : b < 4294967296) : a ^^^ b < 4294967296 := Nat.xor_lt_two_pow (n := 32) h h'
/-- A number that is carried to 0 is 0. -/
theorem st_eq_zero {c : Nat} (h : c < 4294967296) (h0 : st c = 0) : c = 0 := by
  unfold st at h0
  split at h0
  · exfalso
    have e : c / 2 = 2197175160 := by
      have := congrArg (· ^^^ 2197175160) h0
      simpa [Nat.xor_assoc] using this
    omega
  · omega
theorem it_eq_zero {c : Nat} (n : Nat) (h : c < 4294967296) (h0 : it n c = 0) : c = 0 := by
  induction n generalizing c with
  | zero => exact h0
  | succ n ih => exact st_eq_zero h (ih (st_lt h) h0)

/-- Two numbers with no bit in common. -/
theorem add_eq_xor (k x y : Nat) (h : y < 2 ^ k) : 2 ^ k * x + y = 2 ^ k * x ^^^ y := by
  apply Nat.eq_of_testBit_eq
  intro i
  rw [Nat.testBit_two_pow_mul_add x h, Nat.testBit_xor, Nat.testBit_two_pow_mul]
  by_cases hi : i < k
  · rw [if_pos hi]
    have : decide (k ≤ i) = false := decide_eq_false (by omega)
    simp [this]
  · rw [if_neg hi, Nat.testBit_lt_two_pow (Nat.lt_of_lt_of_le h (Nat.pow_le_pow_right (by omega) (by omega)))]
    have : decide (k ≤ i) = true := decide_eq_true (by omega)
    simp [this]
theorem split_xor (k c : Nat) : c = 2 ^ k * (c / 2 ^ k) ^^^ c % 2 ^ k := by
  rw [← add_eq_xor k _ _ (Nat.mod_lt _ (Nat.two_pow_pos k))]
  exact (Nat.div_add_mod c (2 ^ k)).symm

/-- The table. -/
def tab : List Nat := [0, 274646895, 549293790, 820201905, 1098587580, 1361435347, 1640403810, 1905808397, 2197175160, 2460548119, 2722870694, 2987750089, 3280807620, 3553878443, 3811616794, 4084100981]
theorem tab_it : ∀ r, r < 16 → tab.getD r 0 = it 4 r := by decide
theorem four (c : Nat) : it 4 c = c / 16 ^^^ tab.getD (c % 16) 0 := by
  conv => lhs; rw [split_xor 4 c, it_xor, it_shift]
  rw [tab_it _ (Nat.mod_lt _ (by omega))]
theorem eight (c : Nat) : it 8 c = it 4 (it 4 c) := it_add 4 4 c
theorem tab_lt (r : Nat) (h : r < 16) : tab.getD r 0 < 4294967296 := by
  rw [tab_it r h]; exact it_lt _ (by omega)

/-- A text as one number: its first byte is lowest. -/
def num : List UInt8 → Nat
  | [] => 0
  | b :: r => b.toNat + 256 * num r
/-- The register behind a text. -/
def crc (c : Nat) (l : List UInt8) : Nat := l.foldl (fun c b => it 8 (c ^^^ b.toNat)) c
theorem crc_nil (c : Nat) : crc c [] = c := rfl
theorem crc_cons (c : Nat) (b : UInt8) (r : List UInt8) : crc c (b :: r) = crc (it 8 (c ^^^ b.toNat)) r := List.foldl_cons ..
theorem num_cons (b : UInt8) (r : List UInt8) : num (b :: r) = 256 * num r ^^^ b.toNat := by
  rw [num, Nat.add_comm]
  exact add_eq_xor 8 (num r) b.toNat b.toNat_lt
theorem crc_num (c : Nat) (l : List UInt8) : crc c l = it (8 * l.length) (c ^^^ num l) := by
  induction l generalizing c with
  | nil => rw [crc_nil, num, Nat.xor_zero]; rfl
  | cons b r ih =>
    rw [crc_cons, ih, num_cons, List.length_cons, Nat.mul_succ, Nat.add_comm, it_add 8]
    have e : it 8 (c ^^^ (256 * num r ^^^ b.toNat)) = it 8 (c ^^^ b.toNat) ^^^ num r := by
      rw [show c ^^^ (256 * num r ^^^ b.toNat) = (c ^^^ b.toNat) ^^^ 2 ^ 8 * num r from by rw [Nat.xor_assoc, Nat.xor_comm b.toNat], it_xor, it_shift]
    rw [e]
theorem crc_append (c : Nat) (l r : List UInt8) : crc c (l ++ r) = crc (crc c l) r := List.foldl_append ..
theorem crc_snoc (c : Nat) (l : List UInt8) (b : UInt8) : crc c (l ++ [b]) = it 8 (crc c l ^^^ b.toNat) := by rw [crc_append, crc_cons, crc_nil]
theorem crc_lt {c : Nat} (h : c < 4294967296) (l : List UInt8) : crc c l < 4294967296 := by
  induction l generalizing c with
  | nil => exact h
  | cons b r ih => rw [crc_cons]; exact ih (it_lt _ (xor_lt h (by have := b.toNat_lt; omega)))
/-- Add: the checksum of a text whose checksum is c, and l behind it. -/
def add (c : Nat) (l : List UInt8) : Nat := 4294967295 ^^^ crc (4294967295 ^^^ c) l
theorem add_lt {c : Nat} (h : c < 4294967296) (l : List UInt8) : add c l < 4294967296 := xor_lt (by omega) (crc_lt (xor_lt (by omega) h) l)
def join (a b : Nat) (n : Int) : Nat := it (8 * n.toNat) a ^^^ b
theorem join_lt {a b : Nat} (n : Int) (h : a < 4294967296) (h' : b < 4294967296) : join a b n < 4294967296 := xor_lt (it_lt _ h) h'
theorem add_nil (c : Nat) : add c [] = c := xor_cancel _ _
theorem add_append (c : Nat) (l r : List UInt8) : add (add c l) r = add c (l ++ r) := by
  unfold add
  rw [xor_cancel, crc_append]
theorem join_zero (a : Nat) : join a 0 0 = a := by unfold join; simp [it]
theorem join_of (l r : List UInt8) : join (add 0 l) (add 0 r) r.length = add 0 (l ++ r) := by
  unfold join add
  rw [Int.toNat_natCast, crc_append, crc_num _ r, crc_num _ r, Nat.xor_zero]
  generalize crc 4294967295 l = x
  rw [it_xor _ 4294967295 x, it_xor _ 4294967295 (num r), it_xor _ x (num r)]
  generalize it (8 * r.length) 4294967295 = p
  generalize it (8 * r.length) x = q
  generalize it (8 * r.length) (num r) = s
  rw [← Nat.xor_assoc 4294967295 p s, Nat.xor_comm 4294967295 p, Nat.xor_assoc p 4294967295 s, Nat.xor_assoc p q, Nat.xor_comm q, ← Nat.xor_assoc p _ q, xor_cancel, Nat.xor_assoc, Nat.xor_comm s q]
theorem xor3 (m a b c : Nat) : (m ^^^ a) ^^^ (m ^^^ b) ^^^ (m ^^^ c) = m ^^^ (a ^^^ b ^^^ c) := by
  rw [Nat.xor_comm m a, Nat.xor_assoc a m, xor_cancel, Nat.xor_comm m c, ← Nat.xor_assoc, Nat.xor_comm m]
theorem add3 (k : Nat) (l r s t : List UInt8) (h1 : l.length = k) (h2 : r.length = k) (h3 : s.length = k) (h4 : t.length = k) (h : num t = num l ^^^ num r ^^^ num s) :
    add 0 t = add 0 l ^^^ add 0 r ^^^ add 0 s := by
  unfold add
  rw [crc_num, crc_num, crc_num, crc_num, h1, h2, h3, h4, xor3, ← it_xor, ← it_xor, Nat.xor_zero, xor3, h]

/-- Masking. -/
def rot (c : Nat) : Nat := c / 32768 + c % 32768 * 131072
def back (c : Nat) : Nat := c % 131072 * 32768 + c / 131072
theorem rot_lt {c : Nat} (h : c < 4294967296) : rot c < 4294967296 := by unfold rot; omega
theorem back_lt {c : Nat} (h : c < 4294967296) : back c < 4294967296 := by unfold back; omega
theorem back_rot (c : Nat) (h : c < 4294967296) : back (rot c) = c := by unfold rot back; omega
theorem rot_back (c : Nat) (h : c < 4294967296) : rot (back c) = c := by unfold rot back; omega
def up (c : Nat) : Nat := (c + 2726488792) % 4294967296
def down (c : Nat) : Nat := (c + 4294967296 - 2726488792) % 4294967296
theorem up_lt (c : Nat) : up c < 4294967296 := Nat.mod_lt _ (by omega)
theorem down_lt (c : Nat) : down c < 4294967296 := Nat.mod_lt _ (by omega)
theorem down_up (c : Nat) (h : c < 4294967296) : down (up c) = c := by unfold up down; omega
theorem up_down (c : Nat) (h : c < 4294967296) : up (down c) = c := by unfold up down; omega
def mask (c : Nat) : Nat := up (rot c)
def plain (m : Nat) : Nat := back (down m)
theorem mask_lt (c : Nat) : mask c < 4294967296 := up_lt _
theorem plain_lt (m : Nat) : plain m < 4294967296 := back_lt (down_lt _)
theorem plain_mask (c : Nat) (h : c < 4294967296) : plain (mask c) = c := by
  unfold plain mask; rw [down_up _ (rot_lt h), back_rot _ h]
theorem mask_plain (c : Nat) (h : c < 4294967296) : mask (plain c) = c := by
  unfold plain mask; rw [rot_back _ (down_lt _), up_down _ h]
theorem mask_inj (a b : Nat) (h : a < 4294967296) (h' : b < 4294967296) : mask a = mask b ↔ a = b :=
  ⟨fun e => by rw [← plain_mask a h, e, plain_mask b h'], fun e => by rw [e]⟩

/-- The highest bit, carried. -/
theorem it_unit (i : Nat) (h : i ≤ 31) : it i 2147483648 = 2 ^ (31 - i) := by
  have e : 2147483648 = 2 ^ i * 2 ^ (31 - i) := by rw [← Nat.pow_add, show i + (31 - i) = 31 from by omega]
  rw [e, it_shift]
theorem unit_div (i : Nat) (h : i ≤ 31) : 2147483648 / 2 ^ i = 2 ^ (31 - i) := by
  have e : 2147483648 = 2 ^ i * 2 ^ (31 - i) := by rw [← Nat.pow_add, show i + (31 - i) = 31 from by omega]
  rw [e, Nat.mul_div_cancel_left _ (Nat.two_pow_pos i)]
theorem mod_step (a j : Nat) : a % 2 ^ (j + 1) = (a.testBit j).toNat * 2 ^ j ^^^ a % 2 ^ j := by
  rw [Nat.mul_comm, ← add_eq_xor j _ _ (Nat.mod_lt _ (Nat.two_pow_pos j)), Nat.mod_pow_succ, Nat.toNat_testBit, Nat.add_comm]
theorem and_pow (a j : Nat) : a &&& 2 ^ j = (a.testBit j).toNat * 2 ^ j := by
  apply Nat.eq_of_testBit_eq
  intro i
  rw [Nat.testBit_and, Nat.testBit_two_pow, Nat.mul_comm, Nat.testBit_two_pow_mul]
  by_cases h : j = i
  · subst h
    simp
    cases a.testBit j <;> rfl
  · by_cases h2 : j ≤ i
    · have : (a.testBit j).toNat.testBit (i - j) = false := by
        have e : i - j = (i - j - 1) + 1 := by omega
        rw [e, Nat.testBit_succ]
        cases a.testBit j <;> simp
      simp [h, this]
    · simp [h, h2]
theorem times_end (n a : Nat) : it n (a % 2 ^ (32 - 32)) = 0 := by rw [Nat.sub_self, Nat.pow_zero, Nat.mod_one, it_zero]
theorem times_step (n a i p q b : Nat) (hi : i ≤ 31) (hq : q = 2147483648 / 2 ^ i) (hb : b = it (n + i) 2147483648) (h : p ^^^ it n (a % 2 ^ (32 - i)) = it n a) :
    (a &&& q = 0 → p ^^^ it n (a % 2 ^ (32 - (i + 1))) = it n a) ∧ (a &&& q ≠ 0 → p ^^^ b ^^^ it n (a % 2 ^ (32 - (i + 1))) = it n a) := by
  have hq2 : q = 2 ^ (31 - i) := by rw [hq, unit_div i hi]
  have hb2 : b = it n (2 ^ (31 - i)) := by rw [hb, Nat.add_comm, it_add, it_unit i hi]
  have e1 : a &&& q = (a.testBit (31 - i)).toNat * q := by rw [hq2]; exact and_pow a (31 - i)
  have e2 := mod_step a (31 - i)
  rw [show 31 - i + 1 = 32 - i from by omega] at e2
  have hQ : (a.testBit (31 - i)).toNat * 2 ^ (31 - i) = (a.testBit (31 - i)).toNat * q := by rw [hq2]
  rw [e2, it_xor, hQ] at h
  rw [show 32 - (i + 1) = 31 - i from by omega]
  have hp : 0 < q := by rw [hq2]; exact Nat.two_pow_pos _
  cases hB : a.testBit (31 - i) with
  | false =>
    rw [hB] at h e1
    simp only [Bool.toNat_false, Nat.zero_mul, it_zero, Nat.zero_xor] at h e1
    exact ⟨fun _ => h, fun hn => absurd e1 hn⟩
  | true =>
    rw [hB] at h e1
    simp only [Bool.toNat_true, Nat.one_mul] at h e1
    refine ⟨fun h0 => by omega, fun _ => ?_⟩
    have hb3 : b = it n q := by rw [hb2, hq2]
    rw [hb3, Nat.xor_assoc]; exact h
theorem unit_ne (i : Nat) (h : i ≤ 31) : 2147483648 / 2 ^ i ≠ 0 := by
  rw [unit_div i h]; exact Nat.ne_of_gt (Nat.two_pow_pos _)
theorem unit_lt (i : Nat) : 2147483648 / 2 ^ i < 4294967296 := by
  have := Nat.div_le_self 2147483648 (2 ^ i); omega
theorem unit_half (i : Nat) : 2147483648 / 2 ^ i / 2 = 2147483648 / 2 ^ (i + 1) := by rw [Nat.div_div_eq_div_mul, Nat.pow_succ]
theorem join_step (a k m : Nat) : it (8 * (2 ^ (k + 1) * (m / 2))) (if m % 2 = 1 then it (8 * 2 ^ k) a else a) = it (8 * (2 ^ k * m)) a := by
  have e : m = 2 * (m / 2) + m % 2 := by omega
  split
  · rename_i h
    rw [← it_add]
    congr 1
    rw [← Nat.mul_add]
    congr 1
    conv => rhs; rw [e, h, Nat.mul_add, Nat.mul_one]
    rw [Nat.pow_succ, Nat.mul_assoc, Nat.add_comm]
  · rename_i h
    congr 2
    conv => rhs; rw [e, show m % 2 = 0 from by omega, Nat.add_zero]
    rw [Nat.pow_succ, Nat.mul_assoc]
end Go.Proofs.YtpcpbdcdapmlnaaDoor.Sm
namespace Go.Proofs.YtpcpbdcdapmlnaaDoor.Sm
open Go Go.RowKit

/-- The document's step: with a bit that comes. -/
theorem st_bit (c b : Nat) (hb : b < 2) : st (c ^^^ b) = if c % 2 = b then c / 2 else c / 2 ^^^ 2197175160 := by
  unfold st
  rw [xor_div2, show b / 2 = 0 from by omega, Nat.xor_zero, xor_mod2, show b % 2 = b from by omega]
  rcases Nat.mod_two_eq_zero_or_one c with h | h <;> rw [h] <;> rcases (show b = 0 ∨ b = 1 by omega) with h' | h' <;> subst h' <;> rfl
theorem byte_step (c y k : Nat) : st (it k (c ^^^ y % 2 ^ k) ^^^ (y / 2 ^ k % 2)) = it (k + 1) (c ^^^ y % 2 ^ (k + 1)) := by
  have e : c ^^^ y % 2 ^ (k + 1) = (c ^^^ y % 2 ^ k) ^^^ 2 ^ k * (y / 2 ^ k % 2) := by
    rw [mod_step, Nat.toNat_testBit, Nat.mul_comm, Nat.xor_comm (2 ^ k * _), Nat.xor_assoc]
  rw [e, ← st_it, it_xor k (c ^^^ y % 2 ^ k), it_shift]
theorem byte_start (c y : Nat) : it 0 (c ^^^ y % 2 ^ 0) = c := by rw [Nat.pow_zero, Nat.mod_one, Nat.xor_zero]; rfl
theorem byte_end (c y : Nat) (h : y < 256) : it 8 (c ^^^ y % 2 ^ 8) = it 8 (c ^^^ y) := by rw [Nat.mod_eq_of_lt (by omega)]

/-- Turned by one bit; by so many. -/
def one (c : Nat) : Nat := c / 2 + c % 2 * 2147483648
def left (c : Nat) : Nat := c % 2147483648 * 2 + c / 2147483648
theorem one_lt {c : Nat} (h : c < 4294967296) : one c < 4294967296 := by unfold one; omega
theorem left_lt {c : Nat} (h : c < 4294967296) : left c < 4294967296 := by unfold left; omega
theorem one_left (c : Nat) (h : c < 4294967296) : one (left c) = c := by unfold one left; omega
def rr : Nat → Nat → Nat
  | 0, c => c
  | n + 1, c => one (rr n c)
theorem rr_succ (n c : Nat) : rr (n + 1) c = one (rr n c) := rfl
theorem rr_one (n c : Nat) : rr n (one c) = one (rr n c) := by
  induction n with
  | zero => rfl
  | succ n ih => rw [rr_succ, ih, rr_succ]
theorem rr_form (n c : Nat) (h : n ≤ 32) : rr n c = c / 2 ^ n + c % 2 ^ n * 2 ^ (32 - n) := by
  induction n with
  | zero => rw [Nat.pow_zero, Nat.mod_one, Nat.div_one, Nat.zero_mul]; rfl
  | succ n ih =>
    have e1 : 2 ^ (32 - n) = 2 * 2 ^ (32 - (n + 1)) := by rw [show 32 - n = (32 - (n + 1)) + 1 from by omega, Nat.pow_succ, Nat.mul_comm]
    have e2 : 2 ^ n * 2 ^ (32 - (n + 1)) = 2147483648 := by rw [← Nat.pow_add, show n + (32 - (n + 1)) = 31 from by omega]
    rw [rr_succ, ih (by omega), one, e1, Nat.mod_pow_succ, Nat.add_mul, Nat.mul_right_comm, e2, Nat.pow_succ, ← Nat.div_div_eq_div_mul, Nat.mul_left_comm]
    generalize c % 2 ^ n * 2 ^ (32 - (n + 1)) = x
    omega
theorem rr_rot (c : Nat) : rr 15 c = rot c := by rw [rr_form 15 c (by omega)]; rfl
theorem rr_back (q d : Nat) (h : q < 4294967296) (e : rr 15 q = d) : q = back d := by rw [← e, rr_rot, back_rot q h]

/-- What carrying makes of each of the 32 bits. -/
def car (n : Nat) : List Nat := (List.range 32).map fun i => it n (2 ^ i)
theorem car_length (n : Nat) : (car n).length = 32 := by simp [car]
theorem car_at (n i : Nat) (h : i < 32) : (car n)[i]? = some (it n (2 ^ i)) := by simp [car, h]
theorem car_take (n i : Nat) (h : i < 32) : (car n).take (i + 1) = (car n).take i ++ [it n (2 ^ i)] := by
  rw [List.take_add_one, car_at n i h]; rfl
theorem pow_lt (i : Nat) (h : i < 32) : 2 ^ i < 4294967296 := Nat.pow_lt_pow_right (by omega) h
theorem apply_step (n c i : Nat) : it n (c % 2 ^ (i + 1)) = if c / 2 ^ i % 2 = 1 then it n (c % 2 ^ i) ^^^ it n (2 ^ i) else it n (c % 2 ^ i) := by
  rw [mod_step, Nat.toNat_testBit, it_xor]
  rcases Nat.mod_two_eq_zero_or_one (c / 2 ^ i) with h | h <;> rw [h]
  · rw [Nat.zero_mul, it_zero, Nat.zero_xor]; rfl
  · rw [Nat.one_mul, Nat.xor_comm]; rfl
end Go.Proofs.YtpcpbdcdapmlnaaDoor.Sm
namespace Go.Proofs.YtpcpbdcdapmlnaaDoor.Sm
open Go Go.RowKit
theorem pow_mul_xor (k a b : Nat) : 2 ^ k * (a ^^^ b) = 2 ^ k * a ^^^ 2 ^ k * b := by
  apply Nat.eq_of_testBit_eq
  intro i
  rw [Nat.testBit_xor, Nat.testBit_two_pow_mul, Nat.testBit_two_pow_mul, Nat.testBit_two_pow_mul, Nat.testBit_xor]
  by_cases h : k ≤ i <;> simp [h]
theorem xor_swap (a b c d : Nat) : (a ^^^ b) ^^^ (c ^^^ d) = (a ^^^ c) ^^^ (b ^^^ d) := by
  rw [Nat.xor_assoc, ← Nat.xor_assoc b, Nat.xor_comm b c, Nat.xor_assoc c, ← Nat.xor_assoc]
theorem num_zip : ∀ (l r : List UInt8), l.length = r.length → num (List.zipWith (fun a b => a ^^^ b) l r) = num l ^^^ num r
  | [], [], _ => rfl
  | [], _ :: _, h => by simp at h
  | _ :: _, [], h => by simp at h
  | a :: l, b :: r, h => by
    have ih := num_zip l r (by simpa using h)
    rw [List.zipWith_cons_cons, num_cons, num_cons, num_cons, ih, UInt8.toNat_xor]
    have e := pow_mul_xor 8 (num l) (num r)
    have e2 : (2 : Nat) ^ 8 = 256 := rfl
    rw [e2] at e
    rw [e]
    exact xor_swap _ _ _ _
theorem num_lt (l : List UInt8) : num l < 256 ^ l.length := by
  induction l with
  | nil => simp [num]
  | cons b r ih =>
    rw [num, List.length_cons, Nat.pow_succ]
    have := b.toNat_lt
    omega
theorem num_inj : ∀ (l r : List UInt8), l.length = r.length → num l = num r → l = r
  | [], [], _, _ => rfl
  | [], _ :: _, h, _ => by simp at h
  | _ :: _, [], h, _ => by simp at h
  | a :: l, b :: r, h, e => by
    rw [num, num] at e
    have ha := a.toNat_lt
    have hb := b.toNat_lt
    have e1 : num l = num r := by omega
    have e2 : a.toNat = b.toNat := by omega
    rw [num_inj l r (by simpa using h) e1, UInt8.toNat.inj e2]

/-- One byte turned. -/
theorem num_set : ∀ (l : List UInt8) (i : Nat) (h : i < l.length) (c : UInt8), num (l.set i (l[i] ^^^ c)) = num l ^^^ 2 ^ (8 * i) * c.toNat
  | [], i, h, _ => by simp at h
  | b :: r, 0, _, c => by
    rw [List.set_cons_zero, List.getElem_cons_zero, num_cons, num_cons, UInt8.toNat_xor, Nat.mul_zero, Nat.pow_zero, Nat.one_mul, Nat.xor_assoc]
  | b :: r, i + 1, h, c => by
    have ih := num_set r i (by simpa using h) c
    rw [List.set_cons_succ, List.getElem_cons_succ, num_cons, num_cons, ih]
    have e := pow_mul_xor 8 (num r) (2 ^ (8 * i) * c.toNat)
    have e2 : (2 : Nat) ^ 8 = 256 := rfl
    have e3 : 2 ^ 8 * (2 ^ (8 * i) * c.toNat) = 2 ^ (8 * (i + 1)) * c.toNat := by rw [← Nat.mul_assoc, ← Nat.pow_add, Nat.mul_succ, Nat.add_comm]
    rw [e3, e2] at e
    rw [e, Nat.xor_assoc, Nat.xor_comm (2 ^ _ * _), ← Nat.xor_assoc]
/-- The bits of n from a place on, up to k of them, turned. -/
theorem burst_step (x f n k : Nat) : x ^^^ 2 ^ f * (n % 2 ^ (k + 1)) = if n / 2 ^ k % 2 = 1 then (x ^^^ 2 ^ f * (n % 2 ^ k)) ^^^ 2 ^ (f + k) else x ^^^ 2 ^ f * (n % 2 ^ k) := by
  rw [mod_step, Nat.toNat_testBit, pow_mul_xor]
  rcases Nat.mod_two_eq_zero_or_one (n / 2 ^ k) with h | h <;> rw [h]
  · rw [Nat.zero_mul, Nat.mul_zero, Nat.zero_xor]; rfl
  · rw [Nat.one_mul, ← Nat.pow_add, Nat.xor_comm (2 ^ (f + k)), Nat.xor_assoc]; rfl
theorem place (p : Nat) : 2 ^ (8 * (p / 8)) * 2 ^ (p % 8) = 2 ^ p := by rw [← Nat.pow_add, Nat.div_add_mod]
theorem xor_eq_zero {a b : Nat} (h : a ^^^ b = 0) : a = b := by
  have := xor_cancel b a
  rw [Nat.xor_comm b a, h, Nat.xor_zero] at this
  exact this.symm
theorem burst_end (l r : List UInt8) (f W : Nat) (hl : l.length = r.length) (hf : f ≤ 8 * r.length) (hW : W < 4294967296) (h : num l = num r ^^^ 2 ^ f * W) : add 0 l = add 0 r ↔ l = r := by
  constructor
  · intro e
    have e1 : crc 4294967295 l = crc 4294967295 r := by
      have := congrArg (4294967295 ^^^ ·) e
      simpa only [add, xor_cancel, Nat.xor_zero] using this
    rw [crc_num, crc_num, hl] at e1
    have e2 : it (8 * r.length) (2 ^ f * W) = 0 := by
      have h2 : 4294967295 ^^^ num l = (4294967295 ^^^ num r) ^^^ 2 ^ f * W := by rw [h, Nat.xor_assoc]
      rw [h2, it_xor] at e1
      generalize it (8 * r.length) (4294967295 ^^^ num r) = p at e1
      have h3 := congrArg (p ^^^ ·) e1
      simpa only [xor_cancel, Nat.xor_self] using h3
    have e3 : 8 * r.length = f + (8 * r.length - f) := by omega
    rw [e3, it_add, it_shift] at e2
    have hz := it_eq_zero _ hW e2
    refine num_inj l r hl ?_
    rw [h, hz, Nat.mul_zero, Nat.xor_zero]
  · intro e; rw [e]
end Go.Proofs.YtpcpbdcdapmlnaaDoor.Sm
