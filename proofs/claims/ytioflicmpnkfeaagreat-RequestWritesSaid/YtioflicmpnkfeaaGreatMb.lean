/- More plain numbers: fixed numbers as they are read; the document's way of reading a varint. -/
import Derived.Test.YtioflicmpnkfeaaGreatMa
namespace Go.Proofs.YtioflicmpnkfeaaGreat.Bt
open Go Go.RowKit
/-- The number of bytes, the least first. -/
def fv : List UInt8 → Nat
  | [] => 0
  | b :: r => b.toNat + 256 * fv r
theorem fv_lt : ∀ (l : List UInt8), fv l < 256 ^ l.length
  | [] => by simp [fv]
  | b :: r => by
    have := fv_lt r
    have := b.toNat_lt
    rw [fv, List.length_cons, Nat.pow_succ]
    omega
theorem fv_snoc : ∀ (l : List UInt8) (c : UInt8), fv (l ++ [c]) = fv l + c.toNat * 256 ^ l.length
  | [], c => by simp [fv]
  | b :: r, c => by
    rw [List.cons_append, fv, fv, fv_snoc r c, List.length_cons, Nat.pow_succ, Nat.mul_add, ← Nat.mul_assoc 256, Nat.mul_comm 256 c.toNat, Nat.mul_assoc, Nat.mul_comm 256 (256 ^ r.length)]
    omega
/-- z bytes at a place. -/
def fat (l : List UInt8) (a z : Nat) : Nat := fv ((l.drop a).take z)
theorem fat_succ {l : List UInt8} {a z : Nat} (h : a + z < l.length) : fat l a (z + 1) = fat l a z + l[a + z].toNat * 256 ^ z := by
  unfold fat
  have h1 : (l.drop a).take (z + 1) = (l.drop a).take z ++ [l[a + z]] := by
    rw [List.take_succ_eq_append_getElem (by simp; omega), List.getElem_drop]
  have h2 : ((l.drop a).take z).length = z := by simp; omega
  rw [h1, fv_snoc, h2]
theorem fat_cons {l : List UInt8} {a z : Nat} (h : a < l.length) : fat l a (z + 1) = l[a].toNat + 256 * fat l (a + 1) z := by
  unfold fat
  rw [drop_cons h, List.take_succ_cons, fv]
theorem fat_lt {l : List UInt8} {a z : Nat} : fat l a z < 256 ^ z := by
  have h := fv_lt ((l.drop a).take z)
  have h2 : ((l.drop a).take z).length ≤ z := by simp; omega
  exact Nat.lt_of_lt_of_le h (Nat.pow_le_pow_right (by omega) h2)
theorem fat_zero (l : List UInt8) (a : Nat) : fat l a 0 = 0 := rfl
theorem pow_split8 (k : Nat) : (2 : Nat) ^ (8 * k) = 256 ^ k := by rw [Nat.pow_mul]
theorem or_fix (acc k : Nat) (b : UInt8) (hk : k ≤ 7) (ha : acc < 256 ^ k) :
    bits .or .u64 (acc : Int) (IntKind.u64.wrap ((b.toNat : Int) * 2 ^ (8 * k))) = ((acc + b.toNat * 256 ^ k : Nat) : Int) := by
  have hb := b.toNat_lt
  have e8 : (256 : Nat) ^ 8 = 18446744073709551616 := by decide
  have h1 := Nat.pow_le_pow_right (n := 256) (by omega) (show k + 1 ≤ 8 by omega)
  rw [Nat.pow_succ, e8] at h1
  have h2 : b.toNat * 256 ^ k + 256 ^ k ≤ 256 ^ k * 256 := by
    rw [Nat.mul_comm (256 ^ k) 256, ← Nat.succ_mul]; exact Nat.mul_le_mul_right _ hb
  have e : ((b.toNat : Int) * 2 ^ (8 * k)) = ((b.toNat * 256 ^ k : Nat) : Int) := by
    rw [← pow_split8]; push_cast; rfl
  rw [e, IntKind.wrap_u64, Int.emod_eq_of_lt (by omega) (by omega), u64_or_nat _ _ (by omega) (by omega), Nat.or_comm,
    nat_join (8 * k) (b.toNat * 256 ^ k) acc (by rw [pow_split8]; exact Nat.mul_mod_left _ _) (by rw [pow_split8]; exact ha), Nat.add_comm]
/-- The document's step: what is added. -/
theorem ref_step (acc T k : Nat) (b : UInt8) (hT : T = 128 ^ k) (hk : k ≤ 9) (ha : acc < 128 ^ k) (h9 : ¬ (k = 9 ∧ 1 < b.toNat)) :
    IntKind.u64.wrap ((acc : Int) + IntKind.u64.wrap ((T : Int) * ((b.toNat : Int) % 128))) = ((acc + b.toNat % 128 * 128 ^ k : Nat) : Int) ∧ acc + b.toNat % 128 * 128 ^ k < 18446744073709551616 := by
  subst hT
  have e9 : (128 : Nat) ^ 9 = 9223372036854775808 := by decide
  have hs : acc + b.toNat % 128 * 128 ^ k < 18446744073709551616 := by
    rcases Nat.lt_or_ge k 9 with h | h
    · have := fits acc (b.toNat % 128) k (by omega) ha (by omega); omega
    · obtain rfl : k = 9 := by omega
      have hb : b.toNat ≤ 1 := by omega
      rw [e9] at ha ⊢; omega
  refine ⟨?_, hs⟩
  have e : ((128 ^ k : Nat) : Int) * ((b.toNat : Int) % 128) = ((b.toNat % 128 * 128 ^ k : Nat) : Int) := by
    rw [Nat.mul_comm, Int.natCast_mul]; rfl
  rw [e]
  simp only [IntKind.wrap_u64]
  omega
end Go.Proofs.YtioflicmpnkfeaaGreat.Bt
