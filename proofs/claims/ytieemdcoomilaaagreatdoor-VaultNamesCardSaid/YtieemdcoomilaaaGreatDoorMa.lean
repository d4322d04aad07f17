/- Plain numbers and lists of bytes: what a varint is, how it is read. Nothing of the program. -/
import Derived.Laws.BitsAllLaws
import Derived.RowKit
import Derived.IntWalk
import Derived.Test.YtieemdcoomilaaaGreatDoorSa
set_option linter.unusedVariables false
set_option linter.unusedSimpArgs false
namespace Go.Proofs.YtieemdcoomilaaaGreatDoor.Bt
open Go Go.RowKit
/-- The varint that begins a list of bytes, behind i bytes that gave n: the number, how many bytes it has in all, the error. -/
def rd : List UInt8 → Nat → Nat → Nat × Nat × Nat
  | [], _, _ => (0, 0, 8)
  | b :: r, i, n => if i = 9 ∧ 1 < b.toNat then (0, 0, 4) else if b.toNat < 128 then (n + b.toNat * 128 ^ i, i + 1, 0) else rd r (i + 1) (n + (b.toNat - 128) * 128 ^ i)

theorem pow_split (k : Nat) : (2 : Nat) ^ (7 * k) = 128 ^ k := by rw [Nat.pow_mul]
theorem pow9 {k : Nat} (h : k ≤ 9) : 128 ^ k ≤ 9223372036854775808 := by
  have := Nat.pow_le_pow_right (n := 128) (by omega) h
  have e : (128 : Nat) ^ 9 = 9223372036854775808 := by decide
  omega
/-- What is or-ed on, above what is there, is added. -/
theorem or_nat (acc x k : Nat) (ha : acc < 128 ^ k) (hs : x * 128 ^ k + acc < 18446744073709551616) :
    bits .or .u64 (acc : Int) ((x * 128 ^ k : Nat) : Int) = ((acc + x * 128 ^ k : Nat) : Int) := by
  rw [u64_or_nat _ _ (by omega) (by omega), Nat.or_comm]
  rw [nat_join (7 * k) (x * 128 ^ k) acc (by rw [pow_split]; exact Nat.mul_mod_left _ _) (by rw [pow_split]; exact ha)]
  rw [Nat.add_comm]
theorem fits (acc x k : Nat) (hk : k ≤ 8) (ha : acc < 128 ^ k) (hx : x < 128) : acc + x * 128 ^ k < 128 ^ (k + 1) ∧ x * 128 ^ k + acc < 9223372036854775808 := by
  have h1 := pow9 (k := k + 1) (by omega)
  rw [Nat.pow_succ] at h1 ⊢
  have h2 : x * 128 ^ k + 128 ^ k ≤ 128 ^ k * 128 := by
    rw [Nat.mul_comm (128 ^ k) 128, ← Nat.succ_mul]; exact Nat.mul_le_mul_right _ hx
  omega
theorem or_step (acc x k : Nat) (hk : k ≤ 8) (ha : acc < 128 ^ k) (hx : x < 128) :
    bits .or .u64 (acc : Int) (IntKind.u64.wrap ((x : Int) * 2 ^ (7 * k))) = ((acc + x * 128 ^ k : Nat) : Int) := by
  have h := fits acc x k hk ha hx
  have e : ((x : Int) * 2 ^ (7 * k)) = ((x * 128 ^ k : Nat) : Int) := by
    rw [← pow_split]; push_cast; rfl
  rw [e, IntKind.wrap_u64, Int.emod_eq_of_lt (by omega) (by omega)]
  exact or_nat acc x k ha (by omega)
theorem or_step' (acc k : Nat) (b : UInt8) (hk : k ≤ 8) (ha : acc < 128 ^ k) (hx : 128 ≤ b.toNat) :
    bits .or .u64 (acc : Int) (IntKind.u64.wrap (((b.toNat : Int) - 128) * 2 ^ (7 * k))) = ((acc + (b.toNat - 128) * 128 ^ k : Nat) : Int) := by
  have hb := b.toNat_lt
  have e : ((b.toNat : Int) - 128) = ((b.toNat - 128 : Nat) : Int) := by omega
  rw [e]
  exact or_step acc _ k hk ha (by omega)
theorem or_last (acc : Nat) (x : Nat) (ha : acc < 128 ^ 9) (hx : x ≤ 1) :
    bits .or .u64 (acc : Int) ((x : Int) * 9223372036854775808) = ((acc + x * 128 ^ 9 : Nat) : Int) := by
  have e9 : (128 : Nat) ^ 9 = 9223372036854775808 := by decide
  have e : (x : Int) * 9223372036854775808 = ((x * 128 ^ 9 : Nat) : Int) := by rw [e9]; omega
  rw [e]
  exact or_nat acc x 9 ha (by rw [e9] at ha ⊢; omega)

theorem drop_cons {l : List UInt8} {j : Nat} (h : j < l.length) : l.drop j = l[j] :: l.drop (j + 1) := List.drop_eq_getElem_cons h
theorem rd_nil (i n : Nat) : rd [] i n = (0, 0, 8) := rfl
theorem rd_form {b : UInt8} (r : List UInt8) (n : Nat) (h : 1 < b.toNat) : rd (b :: r) 9 n = (0, 0, 4) := by rw [rd, if_pos ⟨rfl, h⟩]
theorem rd_end {b : UInt8} (r : List UInt8) (i n : Nat) (h : ¬ (i = 9 ∧ 1 < b.toNat)) (hb : b.toNat < 128) : rd (b :: r) i n = (n + b.toNat * 128 ^ i, i + 1, 0) := by rw [rd, if_neg h, if_pos hb]
theorem rd_more {b : UInt8} (r : List UInt8) (i n : Nat) (h : ¬ (i = 9 ∧ 1 < b.toNat)) (hb : 128 ≤ b.toNat) : rd (b :: r) i n = rd r (i + 1) (n + (b.toNat - 128) * 128 ^ i) := by
  rw [rd, if_neg h, if_neg (by omega)]
/-- What is read is what fits; how many bytes it has; how it is refused. -/
theorem rd_facts : ∀ (l : List UInt8) (i n : Nat), i ≤ 9 → n < 128 ^ i →
    (rd l i n).1 < 18446744073709551616 ∧ ((rd l i n).2.2 = 0 → i + 1 ≤ (rd l i n).2.1 ∧ (rd l i n).2.1 ≤ 10 ∧ (rd l i n).2.1 ≤ i + l.length) ∧
    ((rd l i n).2.2 = 0 ∨ rd l i n = (0, 0, 4) ∨ rd l i n = (0, 0, 8))
  | [], i, n, _, _ => by simp [rd]
  | b :: r, i, n, hi, hn => by
    by_cases h1 : i = 9 ∧ 1 < b.toNat
    · rw [rd, if_pos h1]; simp
    · have h9 := pow9 hi
      have e9 : (128 : Nat) ^ 9 = 9223372036854775808 := by decide
      have hbl := b.toNat_lt
      by_cases h2 : b.toNat < 128
      · rw [rd_end r i n h1 h2]
        refine ⟨?_, fun _ => ⟨by simp, by simp; omega, by simp⟩, .inl rfl⟩
        by_cases h8 : i ≤ 8
        · have := fits n b.toNat i h8 hn h2
          simp only; omega
        · obtain rfl : i = 9 := by omega
          simp only [e9] at hn ⊢
          omega
      · have h8 : i ≤ 8 := by omega
        rw [rd_more r i n h1 (by omega)]
        have hf := fits n (b.toNat - 128) i h8 hn (by omega)
        have ih := rd_facts r (i + 1) (n + (b.toNat - 128) * 128 ^ i) (by omega) hf.1
        refine ⟨ih.1, fun h => ?_, ih.2.2⟩
        have := ih.2.1 h
        simp only [List.length_cons]
        omega

/-- A varint's bytes. -/
def vint (n : Nat) : List UInt8 := if n < 128 then [UInt8.ofNat n] else UInt8.ofNat (n % 128 + 128) :: vint (n / 128)
termination_by n
decreasing_by omega
def vlen (n : Nat) : Nat := if n < 128 then 1 else 1 + vlen (n / 128)
termination_by n
decreasing_by omega
theorem vint_small {n : Nat} (h : n < 128) : vint n = [UInt8.ofNat n] := by rw [vint, if_pos h]
theorem vint_big {n : Nat} (h : 128 ≤ n) : vint n = UInt8.ofNat (n % 128 + 128) :: vint (n / 128) := by rw [vint, if_neg (by omega)]
theorem vlen_small {n : Nat} (h : n < 128) : vlen n = 1 := by rw [vlen, if_pos h]
theorem vlen_big {n : Nat} (h : 128 ≤ n) : vlen n = 1 + vlen (n / 128) := by rw [vlen, if_neg (by omega)]
theorem vint_length (n : Nat) : (vint n).length = vlen n := by
  induction n using Nat.strongRecOn with
  | _ n ih =>
    by_cases h : n < 128
    · rw [vint_small h, vlen_small h]; rfl
    · rw [vint_big (by omega), vlen_big (by omega), List.length_cons, ih _ (by omega)]; omega
theorem vlen_pos (n : Nat) : 1 ≤ vlen n := by
  by_cases h : n < 128
  · rw [vlen_small h]; omega
  · rw [vlen_big (by omega)]; omega
theorem vlen_le : ∀ (k n : Nat), n < 128 ^ (k + 1) → vlen n ≤ k + 1
  | 0, n, h => by rw [vlen_small (by simpa using h)]; omega
  | k + 1, n, h => by
    by_cases h1 : n < 128
    · rw [vlen_small h1]; omega
    · rw [vlen_big (by omega)]
      have := vlen_le k (n / 128) (by rw [Nat.div_lt_iff_lt_mul (by omega)]; rw [Nat.pow_succ] at h; exact h)
      omega
theorem vlen_u64 {n : Nat} (h : n < 18446744073709551616) : vlen n ≤ 10 := by
  refine vlen_le 9 n ?_
  have e : (128 : Nat) ^ 10 = 1180591620717411303424 := by decide
  omega
theorem or128 (n : Nat) : bits .or .u8 (IntKind.u8.wrap (n : Int)) 128 = ((n % 128 + 128 : Nat) : Int) := by
  rw [IntKind.wrap_u8']
  have e : (n : Int) % 256 = ((n % 256 : Nat) : Int) := by omega
  rw [e, show (128 : Int) = ((128 : Nat) : Int) from rfl, u8_or_nat _ _ (by omega) (by omega)]
  congr 1
  by_cases h : n % 256 < 128
  · rw [Nat.or_comm, nat_join 7 128 (n % 256) (by decide) h]; omega
  · have h2 : n % 256 = 128 + n % 128 := by omega
    rw [h2]
    rw [← nat_join 7 128 (n % 128) (by decide) (by omega), Nat.or_assoc, Nat.or_comm (n % 128) 128, ← Nat.or_assoc, Nat.or_self, nat_join 7 128 (n % 128) (by decide) (by omega)]
    omega
theorem or128' (n : Nat) : bits .or .u8 ((n : Int) % 256) 128 = ((n % 128 + 128 : Nat) : Int) := by
  rw [← or128, IntKind.wrap_u8']
theorem wrap_u8 (n : Int) : IntKind.u8.wrap n = n % 256 := IntKind.wrap_u8' n
theorem wrap8 (n : Nat) : IntKind.u8.wrap (n : Int) = ((UInt8.ofNat n).toNat : Int) := by
  rw [IntKind.wrap_u8']; simp
theorem ofNat_toNat {n : Nat} (h : n < 256) : ((UInt8.ofNat n).toNat : Int) = (n : Int) := by
  simp; omega

/-- Signed numbers as varints: by numbers. -/
def zig (n : Int) : Int := if 0 ≤ n then 2 * n else -2 * n - 1
def zag (n : Int) : Int := if n % 2 = 0 then n / 2 else -(n / 2) - 1
theorem allOnes64 : BitVec.ofInt 64 (-1) = BitVec.allOnes 64 := by decide
theorem xor_zero_u64 (a : Int) (h0 : 0 ≤ a) (h1 : a < 18446744073709551616) : bits .xor .u64 a 0 = a := by
  obtain ⟨A, rfl⟩ := Int.eq_ofNat_of_zero_le h0
  have := u64_xor_nat A 0 (by omega) (by omega)
  simpa using this
theorem xor_ones_u64 (a : Int) (h0 : 0 ≤ a) (h1 : a < 18446744073709551616) : bits .xor .u64 a 18446744073709551615 = 18446744073709551615 - a := by
  obtain ⟨A, rfl⟩ := Int.eq_ofNat_of_zero_le h0
  show IntKind.u64.wrap ((BitVec.ofInt 64 (A : Int) ^^^ BitVec.ofInt 64 18446744073709551615).toNat : Int) = _
  rw [show BitVec.ofInt 64 18446744073709551615 = BitVec.allOnes 64 from by decide, BitVec.xor_allOnes, BitVec.toNat_not, ofInt_u64 A (by omega), IntKind.wrap_u64]
  omega
theorem wrap_i64 (n : Int) : IntKind.i64.wrap n = (n + 9223372036854775808) % 18446744073709551616 - 9223372036854775808 := by
  simp only [IntKind.wrap, IntKind.bits, IntKind.signed]
  simp only [Bool.true_and, decide_eq_true_eq, ge_iff_le]
  split <;> omega
theorem xor_zero_i64 (a : Int) (h0 : 0 ≤ a) (h1 : a ≤ 9223372036854775807) : bits .xor .i64 a 0 = a := by
  obtain ⟨A, rfl⟩ := Int.eq_ofNat_of_zero_le h0
  show IntKind.i64.wrap ((BitVec.ofInt 64 (A : Int) ^^^ BitVec.ofInt 64 0).toNat : Int) = _
  rw [show BitVec.ofInt 64 0 = 0#64 from by decide, BitVec.xor_zero, ofInt_u64 A (by omega), wrap_i64]
  omega
theorem xor_ones_i64 (a : Int) (h0 : 0 ≤ a) (h1 : a ≤ 9223372036854775807) : bits .xor .i64 a (-1) = -a - 1 := by
  obtain ⟨A, rfl⟩ := Int.eq_ofNat_of_zero_le h0
  show IntKind.i64.wrap ((BitVec.ofInt 64 (A : Int) ^^^ BitVec.ofInt 64 (-1)).toNat : Int) = _
  rw [allOnes64, BitVec.xor_allOnes, BitVec.toNat_not, ofInt_u64 A (by omega), wrap_i64]
  omega
theorem zig_walk (n : Int) (h0 : -9223372036854775808 ≤ n) (h1 : n ≤ 9223372036854775807) :
    bits .xor .u64 (IntKind.u64.wrap (IntKind.u64.wrap n * 2)) (IntKind.u64.wrap (n / 9223372036854775808)) = zig n := by
  simp only [IntKind.wrap_u64]
  unfold zig
  split
  · rw [show n / 9223372036854775808 % 18446744073709551616 = 0 from by omega, xor_zero_u64 _ (by omega) (by omega)]
    omega
  · rw [show n / 9223372036854775808 % 18446744073709551616 = 18446744073709551615 from by omega, xor_ones_u64 _ (by omega) (by omega)]
    omega
theorem and_one (n : Int) (h0 : 0 ≤ n) (h1 : n ≤ 18446744073709551615) : bits .and .u64 n 1 = n % 2 := by
  rw [u64_and n 1 h0 (by omega) (by omega) (by omega)]
  simp only [Int.toNat_one, nat_mask1]
  omega
theorem zag_walk (n : Int) (h0 : 0 ≤ n) (h1 : n ≤ 18446744073709551615) :
    bits .xor .i64 (n / 2) (wrap64 (-wrap64 (bits .and .u64 n 1))) = zag n := by
  rw [and_one n h0 h1]
  unfold zag
  split
  · rename_i h
    rw [h, show wrap64 (-wrap64 0) = 0 from by simp [wrap64], xor_zero_i64 _ (by omega) (by omega)]
  · rw [show n % 2 = 1 from by omega, show wrap64 (-wrap64 1) = -1 from by simp [wrap64], xor_ones_i64 _ (by omega) (by omega)]
theorem zig_range {n : Int} (h0 : -9223372036854775808 ≤ n) (h1 : n ≤ 9223372036854775807) : 0 ≤ zig n ∧ zig n ≤ 18446744073709551615 := by unfold zig; split <;> omega
theorem zag_range {n : Int} (h0 : 0 ≤ n) (h1 : n ≤ 18446744073709551615) : -9223372036854775808 ≤ zag n ∧ zag n ≤ 9223372036854775807 := by unfold zag; split <;> omega
theorem zig_zag (n : Int) (h0 : 0 ≤ n) : zig (zag n) = n := by unfold zig zag; split <;> split <;> omega
theorem zag_zig (n : Int) : zag (zig n) = n := by unfold zig zag; split <;> split <;> omega
theorem zig_mono {a b : Int} (h : 0 ≤ a) (h' : a ≤ b) : zig a ≤ zig b := by unfold zig; split <;> split <;> omega
theorem zig_anti {a b : Int} (h : a < 0) (h' : b ≤ a) : zig a ≤ zig b := by unfold zig; split <;> split <;> omega
theorem zig_neg {a : Int} (h : 1 ≤ a) : zig (-a) + 1 = zig a := by unfold zig; split <;> split <;> omega

/-- A fixed number's k bytes. -/
def fx : Nat → Nat → List UInt8
  | 0, _ => []
  | k + 1, n => UInt8.ofNat n :: fx k (n / 256)
theorem fx_length : ∀ k n, (fx k n).length = k
  | 0, _ => rfl
  | k + 1, n => by rw [fx, List.length_cons, fx_length k]
theorem ofNat_mod (n : Nat) : UInt8.ofNat (n % 256) = UInt8.ofNat n := by
  apply UInt8.toNat_inj.1; simp
theorem fx_mod : ∀ (k n m : Nat), n % 256 ^ k = m % 256 ^ k → fx k n = fx k m
  | 0, _, _, _ => rfl
  | k + 1, n, m, h => by
    rw [Nat.pow_succ, Nat.mul_comm] at h
    have h1 : n % 256 = m % 256 := by
      have := congrArg (· % 256) h
      simpa [Nat.mod_mul_right_mod] using this
    have h2 : n / 256 % 256 ^ k = m / 256 % 256 ^ k := by
      have := congrArg (· / 256) h
      simpa [Nat.mod_mul_right_div_self] using this
    rw [fx, fx, fx_mod k _ _ h2, ← ofNat_mod n, ← ofNat_mod m, h1]
theorem fx4_mod (n : Nat) : fx 4 (n % 4294967296) = fx 4 n := fx_mod 4 _ _ (by rw [show (256 : Nat) ^ 4 = 4294967296 from by decide]; exact Nat.mod_mod _ _)
theorem r_zero {r : Nat} (h : r + 1 = 256 ^ 0) : r = 0 := by simpa using h
theorem r_succ {r k : Nat} (h : r + 1 = 256 ^ (k + 1)) : 0 < r ∧ r / 256 + 1 = 256 ^ k := by
  rw [Nat.pow_succ] at h
  have := Nat.pow_pos (a := 256) (n := k) (by omega)
  omega

/-- A varint is read as its number, and what is behind it is left. -/
theorem rd_vint : ∀ (n i acc : Nat) (r : List UInt8), i ≤ 9 → acc < 128 ^ i → acc + n * 128 ^ i < 18446744073709551616 → rd (vint n ++ r) i acc = (acc + n * 128 ^ i, i + vlen n, 0) := by
  intro n
  induction n using Nat.strongRecOn with
  | _ n ih =>
    intro i acc r hi ha hs
    have e9 : (128 : Nat) ^ 9 = 9223372036854775808 := by decide
    by_cases h : n < 128
    · have e : (UInt8.ofNat n).toNat = n := by simp; omega
      rw [vint_small h, vlen_small h, List.singleton_append, rd_end r i acc _ (by omega), e]
      rintro ⟨rfl, h1⟩
      rw [e] at h1
      omega
    · have e : (UInt8.ofNat (n % 128 + 128)).toNat = n % 128 + 128 := by simp; omega
      have h8 : i ≤ 8 := by
        rcases Nat.lt_or_ge i 9 with h9 | h9
        · omega
        · obtain rfl : i = 9 := by omega
          omega
      have hd : acc + n * 128 ^ i = acc + n % 128 * 128 ^ i + n / 128 * 128 ^ (i + 1) := by
        have h1 : n * 128 ^ i = (128 * (n / 128) + n % 128) * 128 ^ i := by rw [Nat.div_add_mod]
        rw [h1, Nat.add_mul, Nat.pow_succ, Nat.mul_comm 128 (n / 128), Nat.mul_assoc, Nat.mul_comm 128 (128 ^ i)]
        omega
      have hf := fits acc (n % 128) i h8 ha (by omega)
      rw [vint_big (by omega), vlen_big (by omega), List.cons_append, rd_more _ i acc (by omega) (by rw [e]; omega), e, show n % 128 + 128 - 128 = n % 128 from by omega, ih (n / 128) (by omega) (i + 1) _ r (by omega) hf.1 (by rw [← hd]; exact hs), ← hd, ← Nat.add_assoc]
theorem rd_put {n : Nat} (h : n < 18446744073709551616) (r : List UInt8) : rd (vint n ++ r) 0 0 = (n, vlen n, 0) := by
  have := rd_vint n 0 0 r (by omega) (by simp) (by simpa using h)
  simpa using this
theorem vint_inj {a b : Nat} (ha : a < 18446744073709551616) (hb : b < 18446744073709551616) (h : vint a = vint b) : a = b := by
  have h1 := rd_put ha []
  rw [h, rd_put hb []] at h1
  exact (Prod.mk.inj h1).1.symm
theorem vlen_mono : ∀ (a b : Nat), b ≤ a → vlen b ≤ vlen a := by
  intro a
  induction a using Nat.strongRecOn with
  | _ a ih =>
    intro b hb
    by_cases h : b < 128
    · rw [vlen_small h]; exact vlen_pos a
    · rw [vlen_big (by omega), vlen_big (n := a) (by omega)]
      have := ih (a / 128) (by omega) (b / 128) (Nat.div_le_div_right hb)
      omega
theorem vint_last : ∀ (n : Nat), 1 < (vint n).length → ∀ h : (vint n).length - 1 < (vint n).length, (vint n)[(vint n).length - 1].toNat ≠ 0 := by
  intro n
  induction n using Nat.strongRecOn with
  | _ n ih =>
    intro h1 h
    have hn : 128 ≤ n := by
      rcases Nat.lt_or_ge n 128 with h2 | h2
      · rw [vint_length, vlen_small h2] at h1; omega
      · exact h2
    simp only [vint_big hn, List.length_cons, Nat.add_sub_cancel]
    by_cases hs : n / 128 < 128
    · have e : (vint (n / 128)).length = 1 := by rw [vint_length, vlen_small hs]
      simp only [vint_small hs, List.length_singleton, List.getElem_cons_succ, List.getElem_cons_zero]
      simp; omega
    · have hl : 1 < (vint (n / 128)).length := by
        rw [vint_length, vlen_big (by omega)]; have := vlen_pos (n / 128 / 128); omega
      have := ih (n / 128) (by omega) hl (by omega)
      rw [List.getElem_cons]
      split
      · omega
      · exact this

/-- What bytes come to, seven bits each. -/
def val : List UInt8 → Nat
  | [] => 0
  | b :: r => b.toNat % 128 + 128 * val r
theorem val_snoc : ∀ (l : List UInt8) (c : UInt8), val (l ++ [c]) = val l + c.toNat % 128 * 128 ^ l.length
  | [], c => by simp [val]
  | b :: r, c => by
    rw [List.cons_append, val, val, val_snoc r c, List.length_cons, Nat.pow_succ, Nat.mul_add, ← Nat.mul_assoc 128, Nat.mul_comm 128 (c.toNat % 128), Nat.mul_assoc, Nat.mul_comm 128 (128 ^ r.length)]
    omega
/-- A varint, as few bytes or more: all but the last one go on; they come to n. -/
def Vi (n : Nat) (xs : List UInt8) : Prop := ∃ pre c, xs = pre ++ [c] ∧ (∀ b ∈ pre, 128 ≤ b.toNat) ∧ c.toNat < 128 ∧ val xs = n
theorem vi_vint : ∀ n, Vi n (vint n) := by
  intro n
  induction n using Nat.strongRecOn with
  | _ n ih =>
    by_cases h : n < 128
    · refine ⟨[], UInt8.ofNat n, by rw [vint_small h]; rfl, by simp, by simp; omega, ?_⟩
      rw [vint_small h]; simp [val]; omega
    · obtain ⟨pre, c, h1, h2, h3, h4⟩ := ih (n / 128) (by omega)
      refine ⟨UInt8.ofNat (n % 128 + 128) :: pre, c, by rw [vint_big (by omega), h1]; rfl, ?_, h3, ?_⟩
      · intro b hb
        rcases List.mem_cons.1 hb with rfl | hb
        · simp; omega
        · exact h2 b hb
      · rw [vint_big (by omega), val, h4]; simp; omega
theorem or_c (c : UInt8) (h : c.toNat < 128) : bits .or .u8 (c.toNat : Int) 128 = ((UInt8.ofNat (c.toNat + 128)).toNat : Int) := by
  rw [show (c.toNat : Int) = (c.toNat : Int) % 256 from by omega, or128', ofNat_toNat (by omega)]
  omega
theorem vi_more {n : Nat} {pre : List UInt8} {c : UInt8} (h2 : ∀ b ∈ pre, 128 ≤ b.toNat) (h3 : c.toNat < 128) (h4 : val (pre ++ [c]) = n) : Vi n (pre ++ [UInt8.ofNat (c.toNat + 128)] ++ [0]) := by
  refine ⟨_, 0, rfl, ?_, by decide, ?_⟩
  · intro b hb
    rcases List.mem_append.1 hb with hb | hb
    · exact h2 b hb
    · simp at hb; subst hb; simp; omega
  · rw [val_snoc, val_snoc, ← h4, val_snoc]
    have : (0 : UInt8).toNat = 0 := rfl
    have e : (UInt8.ofNat (c.toNat + 128)).toNat % 128 = c.toNat % 128 := by simp
    rw [e, this]; simp
theorem rd_val : ∀ (pre : List UInt8) (c : UInt8) (r : List UInt8) (i acc : Nat), (∀ b ∈ pre, 128 ≤ b.toNat) → c.toNat < 128 → i + pre.length ≤ 9 → acc < 128 ^ i → acc + val (pre ++ [c]) * 128 ^ i < 18446744073709551616 →
    rd (pre ++ c :: r) i acc = (acc + val (pre ++ [c]) * 128 ^ i, i + pre.length + 1, 0)
  | [], c, r, i, acc, _, hc, hi, ha, hs => by
    have e9 : (128 : Nat) ^ 9 = 9223372036854775808 := by decide
    have hv : val ([] ++ [c]) = c.toNat := by simp [val]; omega
    rw [hv] at hs ⊢
    rw [List.nil_append, rd_end r i acc ?_ hc]
    · rfl
    · rintro ⟨rfl, h1⟩; omega
  | b :: pre, c, r, i, acc, hp, hc, hi, ha, hs => by
    have hb := hp b (by simp)
    have hbl := b.toNat_lt
    simp only [List.length_cons] at hi ⊢
    simp only [List.cons_append, val] at hs ⊢
    have hd : acc + (b.toNat % 128 + 128 * val (pre ++ [c])) * 128 ^ i = acc + (b.toNat - 128) * 128 ^ i + val (pre ++ [c]) * 128 ^ (i + 1) := by
      rw [Nat.add_mul, Nat.pow_succ, Nat.mul_comm 128 (val _), Nat.mul_assoc, Nat.mul_comm 128 (128 ^ i), show b.toNat % 128 = b.toNat - 128 from by omega]
      omega
    have hf := fits acc (b.toNat - 128) i (by omega) ha (by omega)
    rw [rd_more _ i acc (by omega) hb, rd_val pre c r (i + 1) _ (fun x hx => hp x (by simp [hx])) hc (by omega) hf.1 (by rw [← hd]; exact hs), ← hd]
    simp only [Prod.mk.injEq, true_and, and_true]
    omega
theorem rd_long : ∀ (pre : List UInt8) (r : List UInt8) (i acc : Nat), (∀ b ∈ pre, 128 ≤ b.toNat) → 10 ≤ i + pre.length → i ≤ 9 → rd (pre ++ r) i acc = (0, 0, 4)
  | [], _, _, _, _, h, hi => by simp at h; omega
  | b :: pre, r, i, acc, hp, h, hi => by
    have hb := hp b (by simp)
    by_cases h9 : i = 9
    · subst h9; rw [List.cons_append, rd_form _ _ (by omega)]
    · rw [List.cons_append, rd_more _ i acc (by omega) hb]
      exact rd_long pre r (i + 1) _ (fun x hx => hp x (by simp [hx])) (by simp at h; omega) (by omega)
theorem vi_rd {n : Nat} {xs : List UInt8} (hv : Vi n xs) (hn : n < 18446744073709551616) (r : List UInt8) :
    (xs.length ≤ 10 → rd (xs ++ r) 0 0 = (n, xs.length, 0)) ∧ (10 < xs.length → rd (xs ++ r) 0 0 = (0, 0, 4)) := by
  obtain ⟨pre, c, rfl, h2, h3, h4⟩ := hv
  refine ⟨fun h => ?_, fun h => ?_⟩
  · simp only [List.length_append, List.length_singleton] at h
    rw [List.append_assoc, List.singleton_append, rd_val pre c r 0 0 h2 h3 (by omega) (by simp) (by rw [h4]; simpa using hn), h4]
    simp
  · simp only [List.length_append, List.length_singleton] at h
    rw [List.append_assoc]
    exact rd_long pre _ 0 0 h2 (by omega) (by omega)
end Go.Proofs.YtieemdcoomilaaaGreatDoor.Bt
namespace Go.Proofs.YtieemdcoomilaaaGreatDoor.Bt
open Go Go.RowKit
/-- The number of bytes, the least first. -/
def fv : List UInt8 → Nat
  | [] => 0
  | b :: r => b.toNat + 256 * fv r
theorem fv_lt : ∀ (l : List UInt8), fv l < 256 ^ l.length
  | [] => by simp [fv]
  | b :: r => by
    have := fv_lt r
    have := b.toNat_lt
    rw [fv, List.length_cons, Nat.pow_succ]
    omega
theorem fv_snoc : ∀ (l : List UInt8) (c : UInt8), fv (l ++ [c]) = fv l + c.toNat * 256 ^ l.length
  | [], c => by simp [fv]
  | b :: r, c => by
    rw [List.cons_append, fv, fv, fv_snoc r c, List.length_cons, Nat.pow_succ, Nat.mul_add, ← Nat.mul_assoc 256, Nat.mul_comm 256 c.toNat, Nat.mul_assoc, Nat.mul_comm 256 (256 ^ r.length)]
    omega
/-- z bytes at a place. -/
def fat (l : List UInt8) (a z : Nat) : Nat := fv ((l.drop a).take z)
theorem fat_succ {l : List UInt8} {a z : Nat} (h : a + z < l.length) : fat l a (z + 1) = fat l a z + l[a + z].toNat * 256 ^ z := by
  unfold fat
  have h1 : (l.drop a).take (z + 1) = (l.drop a).take z ++ [l[a + z]] := by
    rw [List.take_succ_eq_append_getElem (by simp; omega), List.getElem_drop]
  have h2 : ((l.drop a).take z).length = z := by simp; omega
  rw [h1, fv_snoc, h2]
theorem fat_cons {l : List UInt8} {a z : Nat} (h : a < l.length) : fat l a (z + 1) = l[a].toNat + 256 * fat l (a + 1) z := by
  unfold fat
  rw [drop_cons h, List.take_succ_cons, fv]
theorem fat_lt {l : List UInt8} {a z : Nat} : fat l a z < 256 ^ z := by
  have h := fv_lt ((l.drop a).take z)
  have h2 : ((l.drop a).take z).length ≤ z := by simp; omega
  exact Nat.lt_of_lt_of_le h (Nat.pow_le_pow_right (by omega) h2)
theorem fat_zero (l : List UInt8) (a : Nat) : fat l a 0 = 0 := rfl
theorem pow_split8 (k : Nat) : (2 : Nat) ^ (8 * k) = 256 ^ k := by rw [Nat.pow_mul]
theorem or_fix (acc k : Nat) (b : UInt8) (hk : k ≤ 7) (ha : acc < 256 ^ k) :
    bits .or .u64 (acc : Int) (IntKind.u64.wrap ((b.toNat : Int) * 2 ^ (8 * k))) = ((acc + b.toNat * 256 ^ k : Nat) : Int) := by
  have hb := b.toNat_lt
  have e8 : (256 : Nat) ^ 8 = 18446744073709551616 := by decide
  have h1 := Nat.pow_le_pow_right (n := 256) (by omega) (show k + 1 ≤ 8 by omega)
  rw [Nat.pow_succ, e8] at h1
  have h2 : b.toNat * 256 ^ k + 256 ^ k ≤ 256 ^ k * 256 := by
    rw [Nat.mul_comm (256 ^ k) 256, ← Nat.succ_mul]; exact Nat.mul_le_mul_right _ hb
  have e : ((b.toNat : Int) * 2 ^ (8 * k)) = ((b.toNat * 256 ^ k : Nat) : Int) := by
    rw [← pow_split8]; push_cast; rfl
  rw [e, IntKind.wrap_u64, Int.emod_eq_of_lt (by omega) (by omega), u64_or_nat _ _ (by omega) (by omega), Nat.or_comm,
    nat_join (8 * k) (b.toNat * 256 ^ k) acc (by rw [pow_split8]; exact Nat.mul_mod_left _ _) (by rw [pow_split8]; exact ha), Nat.add_comm]
/-- The document's step: what is added. -/
theorem ref_step (acc T k : Nat) (b : UInt8) (hT : T = 128 ^ k) (hk : k ≤ 9) (ha : acc < 128 ^ k) (h9 : ¬ (k = 9 ∧ 1 < b.toNat)) :
    IntKind.u64.wrap ((acc : Int) + IntKind.u64.wrap ((T : Int) * ((b.toNat : Int) % 128))) = ((acc + b.toNat % 128 * 128 ^ k : Nat) : Int) ∧ acc + b.toNat % 128 * 128 ^ k < 18446744073709551616 := by
  subst hT
  have e9 : (128 : Nat) ^ 9 = 9223372036854775808 := by decide
  have hs : acc + b.toNat % 128 * 128 ^ k < 18446744073709551616 := by
    rcases Nat.lt_or_ge k 9 with h | h
    · have := fits acc (b.toNat % 128) k (by omega) ha (by omega); omega
    · obtain rfl : k = 9 := by omega
      have hb : b.toNat ≤ 1 := by omega
      rw [e9] at ha ⊢; omega
  refine ⟨?_, hs⟩
  have e : ((128 ^ k : Nat) : Int) * ((b.toNat : Int) % 128) = ((b.toNat % 128 * 128 ^ k : Nat) : Int) := by
    rw [Nat.mul_comm, Int.natCast_mul]; rfl
  rw [e]
  simp only [IntKind.wrap_u64]
  omega
end Go.Proofs.YtieemdcoomilaaaGreatDoor.Bt
namespace Go.Proofs.YtieemdcoomilaaaGreatDoor.Sm
open Go Go.RowKit

/-- The document's step: with a bit that comes. -/
theorem st_bit (c b : Nat) (hb : b < 2) : st (c ^^^ b) = if c % 2 = b then c / 2 else c / 2 ^^^ 2197175160 := by
  unfold st
  rw [xor_div2, show b / 2 = 0 from by omega, Nat.xor_zero, xor_mod2, show b % 2 = b from by omega]
  rcases Nat.mod_two_eq_zero_or_one c with h | h <;> rw [h] <;> rcases (show b = 0 ∨ b = 1 by omega) with h' | h' <;> subst h' <;> rfl
theorem byte_step (c y k : Nat) : st (it k (c ^^^ y % 2 ^ k) ^^^ (y / 2 ^ k % 2)) = it (k + 1) (c ^^^ y % 2 ^ (k + 1)) := by
  have e : c ^^^ y % 2 ^ (k + 1) = (c ^^^ y % 2 ^ k) ^^^ 2 ^ k * (y / 2 ^ k % 2) := by
    rw [mod_step, Nat.toNat_testBit, Nat.mul_comm, Nat.xor_comm (2 ^ k * _), Nat.xor_assoc]
  rw [e, ← st_it, it_xor k (c ^^^ y % 2 ^ k), it_shift]
theorem byte_start (c y : Nat) : it 0 (c ^^^ y % 2 ^ 0) = c := by rw [Nat.pow_zero, Nat.mod_one, Nat.xor_zero]; rfl
theorem byte_end (c y : Nat) (h : y < 256) : it 8 (c ^^^ y % 2 ^ 8) = it 8 (c ^^^ y) := by rw [Nat.mod_eq_of_lt (by omega)]

/-- Turned by one bit; by so many. -/
def one (c : Nat) : Nat := c / 2 + c % 2 * 2147483648
def left (c : Nat) : Nat := c % 2147483648 * 2 + c / 2147483648
theorem one_lt {c : Nat} (h : c < 4294967296) : one c < 4294967296 := by unfold one; omega
theorem left_lt {c : Nat} (h : c < 4294967296) : left c < 4294967296 := by unfold left; omega
theorem one_left (c : Nat) (h : c < 4294967296) : one (left c) = c := by unfold one left; omega
def rr : Nat → Nat → Nat
  | 0, c => c
  | n + 1, c => one (rr n c)
theorem rr_succ (n c : Nat) : rr (n + 1) c = one (rr n c) := rfl
theorem rr_one (n c : Nat) : rr n (one c) = one (rr n c) := by
  induction n with
  | zero => rfl
  | succ n ih => rw [rr_succ, ih, rr_succ]
theorem rr_form (n c : Nat) (h : n ≤ 32) : rr n c = c / 2 ^ n + c % 2 ^ n * 2 ^ (32 - n) := by
  induction n with
  | zero => rw [Nat.pow_zero, Nat.mod_one, Nat.div_one, Nat.zero_mul]; rfl
  | succ n ih =>
    have e1 : 2 ^ (32 - n) = 2 * 2 ^ (32 - (n + 1)) := by rw [show 32 - n = (32 - (n + 1)) + 1 from by omega, Nat.pow_succ, Nat.mul_comm]
    have e2 : 2 ^ n * 2 ^ (32 - (n + 1)) = 2147483648 := by rw [← Nat.pow_add, show n + (32 - (n + 1)) = 31 from by omega]
    rw [rr_succ, ih (by omega), one, e1, Nat.mod_pow_succ, Nat.add_mul, Nat.mul_right_comm, e2, Nat.pow_succ, ← Nat.div_div_eq_div_mul, Nat.mul_left_comm]
    generalize c % 2 ^ n * 2 ^ (32 - (n + 1)) = x
    omega
theorem rr_rot (c : Nat) : rr 15 c = rot c := by rw [rr_form 15 c (by omega)]; rfl
theorem rr_back (q d : Nat) (h : q < 4294967296) (e : rr 15 q = d) : q = back d := by rw [← e, rr_rot, back_rot q h]

/-- What carrying makes of each of the 32 bits. -/
def car (n : Nat) : List Nat := (List.range 32).map fun i => it n (2 ^ i)
theorem car_length (n : Nat) : (car n).length = 32 := by simp [car]
theorem car_at (n i : Nat) (h : i < 32) : (car n)[i]? = some (it n (2 ^ i)) := by simp [car, h]
theorem car_take (n i : Nat) (h : i < 32) : (car n).take (i + 1) = (car n).take i ++ [it n (2 ^ i)] := by
  rw [List.take_add_one, car_at n i h]; rfl
theorem pow_lt (i : Nat) (h : i < 32) : 2 ^ i < 4294967296 := Nat.pow_lt_pow_right (by omega) h
theorem apply_step (n c i : Nat) : it n (c % 2 ^ (i + 1)) = if c / 2 ^ i % 2 = 1 then it n (c % 2 ^ i) ^^^ it n (2 ^ i) else it n (c % 2 ^ i) := by
  rw [mod_step, Nat.toNat_testBit, it_xor]
  rcases Nat.mod_two_eq_zero_or_one (c / 2 ^ i) with h | h <;> rw [h]
  · rw [Nat.zero_mul, it_zero, Nat.zero_xor]; rfl
  · rw [Nat.one_mul, Nat.xor_comm]; rfl
end Go.Proofs.YtieemdcoomilaaaGreatDoor.Sm
