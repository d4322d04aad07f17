/- Plain: what is read of bytes that were cut short; fixed numbers as they were put. -/
import Derived.Test.YtnoejddhdgmkcaaMb
namespace Go.Proofs.Ytnoejddhdgmkcaa.Bt
open Go Go.RowKit
theorem rd_pre : ∀ (pre : List UInt8) (i acc : Nat), (∀ b ∈ pre, 128 ≤ b.toNat) → i + pre.length ≤ 9 → rd pre i acc = (0, 0, 8)
  | [], _, _, _, _ => rfl
  | b :: pre, i, acc, hp, h => by
    have hb := hp b (by simp)
    simp only [List.length_cons] at h
    rw [rd_more _ i acc (by omega) hb]
    exact rd_pre pre (i + 1) _ (fun x hx => hp x (by simp [hx])) (by omega)
theorem rd_cut {n m : Nat} (hn : n < 18446744073709551616) (hm : m < (vint n).length) : rd ((vint n).take m) 0 0 = (0, 0, 8) := by
  have hl := vint_length n
  have h10 := vlen_u64 hn
  obtain ⟨pre, c, h1, h2, _, _⟩ := vi_vint n
  have hpl : (vint n).length = pre.length + 1 := by rw [h1]; simp
  have ht : (vint n).take m = pre.take m := by rw [h1, List.take_append_of_le_length (by omega)]
  rw [ht]
  refine rd_pre _ 0 0 (fun b hb => h2 b (List.mem_of_mem_take hb)) ?_
  simp only [List.length_take]; omega
theorem fv_fx : ∀ (k n : Nat), fv (fx k n) = n % 256 ^ k
  | 0, n => by simp [fx, fv, Nat.mod_one]
  | k + 1, n => by
    rw [fx, fv, fv_fx k, Nat.pow_succ, Nat.mul_comm (256 ^ k) 256, Nat.mod_mul]
    simp
theorem fat_put (k n : Nat) (r l : List UInt8) (a : Nat) (h : l.drop a = fx k n ++ r) : fat l a k = n % 256 ^ k := by
  unfold fat
  rw [h, List.take_append_of_le_length (by rw [fx_length]; omega), List.take_of_length_le (by rw [fx_length]; omega), fv_fx]
/-- An item's bytes. -/
def enc (W : Int) (N : Nat) (S : ByteArray) : List UInt8 :=
  if W = 0 then vint N else if W = 1 then vint (zig (wrap64 N)).toNat else if W = 2 then fx 4 N else if W = 3 then fx 8 N else vint S.size ++ S.data.toList
theorem enc0 (N : Nat) (S : ByteArray) : enc 0 N S = vint N := by unfold enc; rw [if_pos rfl]
theorem enc1 (N : Nat) (S : ByteArray) : enc 1 N S = vint (zig (wrap64 N)).toNat := by unfold enc; rw [if_neg (by omega), if_pos rfl]
theorem enc2 (N : Nat) (S : ByteArray) : enc 2 N S = fx 4 N := by unfold enc; rw [if_neg (by omega), if_neg (by omega), if_pos rfl]
theorem enc3 (N : Nat) (S : ByteArray) : enc 3 N S = fx 8 N := by unfold enc; rw [if_neg (by omega), if_neg (by omega), if_neg (by omega), if_pos rfl]
theorem enc5 {W : Int} (N : Nat) (S : ByteArray) (h0 : W ≠ 0) (h1 : W ≠ 1) (h2 : W ≠ 2) (h3 : W ≠ 3) : enc W N S = vint S.size ++ S.data.toList := by
  unfold enc; rw [if_neg h0, if_neg h1, if_neg h2, if_neg h3]
theorem wrap64_range (n : Int) : -9223372036854775808 ≤ wrap64 n ∧ wrap64 n ≤ 9223372036854775807 := by unfold wrap64; omega
theorem enc_length (W : Int) (N : Nat) (S : ByteArray) (hN : N ≤ 18446744073709551615) (hS0 : S.size ≤ 6000) : (enc W N S).length ≤ 10 + S.size := by
  have hz := zig_range (wrap64_range N).1 (wrap64_range N).2
  unfold enc
  split
  · rw [vint_length]; have := vlen_u64 (n := N) (by omega); omega
  · split
    · rw [vint_length]; have := vlen_u64 (n := (zig (wrap64 N)).toNat) (by omega); omega
    · split
      · rw [fx_length]; omega
      · split
        · rw [fx_length]; omega
        · rw [List.length_append, vint_length]
          have hS : S.data.toList.length = S.size := by simp
          rw [hS]
          have := vlen_u64 (n := S.size) (by omega)
          omega
end Go.Proofs.Ytnoejddhdgmkcaa.Bt
