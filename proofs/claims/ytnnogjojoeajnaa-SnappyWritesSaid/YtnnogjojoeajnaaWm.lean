/- Blocks, plainly: what parts are written as is read as them. -/
import Derived.Test.YtnnogjojoeajnaaPq
import Derived.Test.YtnnogjojoeajnaaEx
namespace Go.Proofs.Ytnnogjojoeajnaa
open Go.RowKit
theorem low_fx : ∀ (k n : Nat), n < 256 ^ k → low (Bt.fx k n) = n
  | 0, n, h => by
    have : n = 0 := by simpa using h
    subst this
    rfl
  | k + 1, n, h => by
    rw [Nat.pow_succ] at h
    rw [Bt.fx, low, low_fx k (n / 256) (by omega)]
    have : (UInt8.ofNat n).toNat = n % 256 := by simp
    omega
theorem take_pre {a b : List UInt8} {k : Nat} (h : a.length = k) : (a ++ b).take k = a := by
  subst h; simp
theorem drop_pre {a b : List UInt8} {k : Nat} (h : a.length = k) : (a ++ b).drop k = b := by
  subst h; simp
theorem u8_nat {n : Nat} (h : n < 256) : (UInt8.ofNat n).toNat = n := by simp; omega
theorem el_lit (t : ByteArray) (h1 : 1 ≤ t.size) (h2 : t.size ≤ 65536) (r : List UInt8) : ∃ c u, lhead t.size ++ t.data.toList = c :: u ∧ el c (u ++ r) = (⟨false, t, 0, 0⟩, u.length, true) := by
  obtain ⟨N, hN⟩ : ∃ N, t.size = N + 1 := ⟨t.size - 1, by omega⟩
  have hl : t.data.toList.length = N + 1 := by rw [← hN]; simp
  unfold lhead
  rw [hN, Nat.add_sub_cancel]
  by_cases h : N < 60
  · rw [if_pos h]
    refine ⟨UInt8.ofNat (N * 4), t.data.toList, rfl, ?_⟩
    have e : (UInt8.ofNat (N * 4)).toNat = N * 4 := u8_nat (by omega)
    unfold el
    rw [e, if_pos (by omega), if_pos (by omega), show N * 4 / 4 = N by omega, lit, if_pos (by rw [List.length_append]; omega), List.drop_zero, take_pre hl, bs_of, Nat.zero_add, hl]
  · rw [if_neg h]
    have hk : ∃ K, nsz N = K ∧ 1 ≤ K ∧ K ≤ 2 ∧ N < 256 ^ K := by
      unfold nsz
      by_cases h3 : N < 256
      · exact ⟨1, by rw [if_pos h3], by omega, by omega, by omega⟩
      · exact ⟨2, by rw [if_neg h3, if_pos (by omega)], by omega, by omega, by omega⟩
    obtain ⟨K, hK, hK1, hK2, hK3⟩ := hk
    rw [hK]
    refine ⟨UInt8.ofNat ((59 + K) * 4), Bt.fx K N ++ t.data.toList, rfl, ?_⟩
    have e : (UInt8.ofNat ((59 + K) * 4)).toNat = (59 + K) * 4 := u8_nat (by omega)
    have hf : (Bt.fx K N).length = K := Bt.fx_length _ _
    unfold el
    rw [e, if_pos (by omega), if_neg (by omega), show (59 + K) * 4 / 4 - 59 = K by omega, List.append_assoc, if_pos (by rw [List.length_append]; omega), take_pre hf, low_fx K N hK3, lit, if_pos (by rw [List.length_append, List.length_append]; omega), drop_pre hf, take_pre hl, bs_of, List.length_append, hf, hl]
theorem el_near {o L : Nat} (ho : o < 2048) (hL : L ≤ 7) (r : List UInt8) : el (UInt8.ofNat (o / 256 * 32 + L * 4 + 1)) (UInt8.ofNat o :: r) = (⟨true, bs [], o, (L + 4 : Nat)⟩, 1, true) := by
  have e : (UInt8.ofNat (o / 256 * 32 + L * 4 + 1)).toNat = o / 256 * 32 + L * 4 + 1 := u8_nat (by omega)
  have e2 : (UInt8.ofNat o).toNat = o % 256 := by simp
  unfold el
  rw [e, if_neg (by omega), if_pos (by omega)]
  unfold cpy
  rw [if_pos (by simp), show (o / 256 * 32 + L * 4 + 1) / 4 % 8 + 4 = L + 4 by omega]
  have e3 : (o / 256 * 32 + L * 4 + 1) / 32 * 256 + low ((UInt8.ofNat o :: r).take 1) = o := by
    simp only [List.take_succ_cons, List.take_zero, low, e2]
    omega
  rw [e3]
theorem el_far {o L k m : Nat} (hkm : (k = 2 ∧ m = 2) ∨ (k = 3 ∧ m = 4)) (hL : L ≤ 63) (ho : o < 256 ^ m) (r : List UInt8) : el (UInt8.ofNat (L * 4 + k)) (Bt.fx m o ++ r) = (⟨true, bs [], o, (L + 1 : Nat)⟩, m, true) := by
  have e : (UInt8.ofNat (L * 4 + k)).toNat = L * 4 + k := u8_nat (by omega)
  have hf : (Bt.fx m o).length = m := Bt.fx_length _ _
  unfold el
  rw [e, if_neg (by omega), if_neg (by omega)]
  rcases hkm with ⟨rfl, rfl⟩ | ⟨rfl, rfl⟩
  · rw [if_pos (by omega), take_pre hf, low_fx _ _ ho, show (L * 4 + 2) / 4 + 1 = L + 1 by omega]
    unfold cpy
    rw [if_pos (by rw [List.length_append]; omega)]
  · rw [if_neg (by omega), take_pre hf, low_fx _ _ ho, show (L * 4 + 3) / 4 + 1 = L + 1 by omega]
    unfold cpy
    rw [if_pos (by rw [List.length_append]; omega)]
theorem el_wrt (p : Pt) (hp : may p = true) (r : List UInt8) : ∃ c u, wrt p = c :: u ∧ el c (u ++ r) = (p, u.length, true) := by
  obtain ⟨c, t, o, l⟩ := p
  unfold may at hp
  cases c
  · simp only [Bool.false_eq_true, if_false, Bool.and_eq_true, decide_eq_true_eq] at hp
    obtain ⟨⟨h1, h2⟩, h3, h4⟩ := hp
    subst h3
    subst h4
    exact el_lit t h1 h2 r
  · simp only [if_true, Bool.and_eq_true, decide_eq_true_eq, beq_iff_eq] at hp
    have ht : t = ⟨#[]⟩ := ba_empty hp.1
    subst ht
    obtain ⟨O, rfl⟩ := Int.eq_ofNat_of_zero_le (show 0 ≤ o by omega)
    obtain ⟨K, rfl⟩ := Int.eq_ofNat_of_zero_le (show 0 ≤ l by omega)
    obtain ⟨L, rfl⟩ : ∃ L, K = L + 1 := ⟨K - 1, by omega⟩
    have e1 : ((O : Int)).toNat = O := by omega
    have e2 : (((L + 1 : Nat) : Int)).toNat = L + 1 := by omega
    have e3 : L + 1 - 1 = L := by omega
    simp only [wrt, if_true, e1, e2, e3]
    by_cases hn : 4 ≤ ((L + 1 : Nat) : Int) ∧ ((L + 1 : Nat) : Int) ≤ 11 ∧ ((O : Nat) : Int) < 2048
    · rw [if_pos hn]
      refine ⟨_, _, rfl, ?_⟩
      have := el_near (o := O) (L := L + 1 - 4) (by omega) (by omega) r
      rw [show L + 1 - 4 + 4 = L + 1 by omega] at this
      exact this
    · rw [if_neg hn]
      by_cases hf : ((O : Nat) : Int) < 65536
      · rw [if_pos hf]
        refine ⟨_, _, rfl, ?_⟩
        rw [Bt.fx_length]
        exact el_far (.inl ⟨rfl, rfl⟩) (by omega) (by omega) r
      · rw [if_neg hf]
        refine ⟨_, _, rfl, ?_⟩
        rw [Bt.fx_length]
        exact el_far (.inr ⟨rfl, rfl⟩) (by omega) (by omega) r
theorem its_wrt : ∀ (l : List Pt), (∀ p ∈ l, may p = true) → its (l.flatMap wrt) = l.map fun p => (p, (0 : Int))
  | [], _ => by rw [List.flatMap_nil, its]; rfl
  | p :: l, h => by
    obtain ⟨c, u, e1, e2⟩ := el_wrt p (h p (by simp)) (l.flatMap wrt)
    rw [List.flatMap_cons, e1, List.cons_append, its, e2]
    dsimp only
    rw [if_pos rfl, drop_pre rfl, its_wrt l (fun q hq => h q (by simp [hq]))]
    rfl
theorem may_l {p : Pt} (h : may p = true) : 0 ≤ p.l := by
  obtain ⟨c, t, o, l⟩ := p
  unfold may at h
  cases c
  · simp only [Bool.false_eq_true, if_false, Bool.and_eq_true, decide_eq_true_eq] at h; dsimp only; omega
  · simp only [if_true, Bool.and_eq_true, decide_eq_true_eq] at h; dsimp only; omega
theorem may_cnt {p : Pt} (h : may p = true) : 1 ≤ cnt p ∧ cnt p ≤ 65536 := by
  obtain ⟨c, t, o, l⟩ := p
  unfold may at h
  unfold cnt
  cases c
  · simp only [Bool.false_eq_true, if_false, Bool.and_eq_true, decide_eq_true_eq] at h ⊢; omega
  · simp only [if_true, Bool.and_eq_true, decide_eq_true_eq] at h ⊢; omega
/-- A step of Expand that goes well. -/
theorem expand_cons {most : Int} {p : Pt} {l : List Pt} {b out : List UInt8} (h : expand most (p :: l) b = (out, 0)) :
    may p = true ∧ here p b.length = true ∧ (b.length : Int) + cnt p ≤ most ∧ expand most l (gro b p) = (out, 0) := by
  rw [expand] at h
  split at h
  · simp at h
  · rename_i h1
    split at h
    · simp at h
    · rename_i h2
      simp only [Bool.or_eq_true, Bool.not_eq_true', not_or, Bool.not_eq_false] at h1
      exact ⟨h1.1, h1.2, by omega, h⟩
theorem expand_step {most : Int} {p : Pt} {l : List Pt} {b : List UInt8} (h1 : may p = true) (h2 : here p b.length = true) (h3 : (b.length : Int) + cnt p ≤ most) : expand most (p :: l) b = expand most l (gro b p) := by
  rw [expand, h1, h2, if_neg (by simp), if_neg (by omega)]
theorem expand_may {most : Int} : ∀ {l : List Pt} {b out : List UInt8}, expand most l b = (out, 0) → ∀ p ∈ l, may p = true
  | [], _, _, _, p, hp => by simp at hp
  | q :: l, b, out, h, p, hp => by
    obtain ⟨h1, _, _, h4⟩ := expand_cons h
    rcases List.mem_cons.1 hp with rfl | hp
    · exact h1
    · exact expand_may h4 p hp
theorem expand_grows {most : Int} : ∀ {l : List Pt} {b out : List UInt8}, expand most l b = (out, 0) → b.length + l.length ≤ out.length ∧ ((out.length : Int) ≤ most ∨ l = [])
  | [], b, out, h => by
    rw [expand] at h
    simp only [Prod.mk.injEq, and_true] at h
    subst h
    simp
  | q :: l, b, out, h => by
    obtain ⟨h1, _, h3, h4⟩ := expand_cons h
    have := expand_grows h4
    have h5 := gro_length b q (may_l h1)
    have h6 := may_cnt h1
    rw [List.length_cons]
    refine ⟨by omega, .inl ?_⟩
    rcases this.2 with h | h
    · exact h
    · subst h
      rw [expand] at h4
      simp only [Prod.mk.injEq, and_true] at h4
      rw [← h4]
      omega
theorem expand_app {most : Int} : ∀ {l m : List Pt} {b out : List UInt8}, expand most l b = (out, 0) → expand most (l ++ m) b = expand most m out
  | [], m, b, out, h => by
    rw [expand] at h
    simp only [Prod.mk.injEq, and_true] at h
    subst h
    rfl
  | q :: l, m, b, out, h => by
    obtain ⟨h1, h2, h3, h4⟩ := expand_cons h
    rw [List.cons_append, expand_step h1 h2 h3, expand_app h4]
theorem dcd_expand {most : Int} : ∀ {l : List Pt} {b out : List UInt8}, expand most l b = (out, 0) → dcd out.length (l.map fun p => (p, (0 : Int))) b = (out, 0)
  | [], b, out, h => by
    rw [expand] at h
    simp only [Prod.mk.injEq, and_true] at h
    subst h
    rw [List.map_nil, dcd, if_neg (by omega)]
  | q :: l, b, out, h => by
    obtain ⟨h1, h2, h3, h4⟩ := expand_cons h
    have h5 := gro_length b q (may_l h1)
    have h6 := (expand_grows h4).1
    rw [List.map_cons, dcd, if_neg (by simp), h2, if_neg (by simp; omega), dcd_expand h4]
/-- The block of parts that stand for a text. -/
def blk (l : List Pt) (out : List UInt8) : List UInt8 := Bt.vint out.length ++ l.flatMap wrt
theorem szs_blk {n : Nat} (hn : n < 4294967296) (r : List UInt8) : szs (Bt.vint n ++ r) = (n, Bt.vlen n, 0) := by
  unfold szs
  rw [Bt.rd_put (by omega)]
  dsimp only
  rw [if_neg (by simp), if_neg (by omega)]
theorem decode_blk {most m : Int} {l : List Pt} {out : List UInt8} (h : expand most l [] = (out, 0)) (hn : out.length < 4294967296) : decode (blk l out) m = if m < out.length then ([], 40) else (out, 0) := by
  unfold decode blk
  rw [szs_blk hn]
  dsimp only
  rw [if_neg (by simp), drop_pre (Bt.vint_length _), its_wrt l (expand_may h), dcd_expand h]
  by_cases hm : m < (out.length : Int)
  · rw [if_pos hm, if_pos (.inr hm)]
  · rw [if_neg hm, if_neg (by omega)]
def write (l : List Pt) : List UInt8 × Int := if (expand 65536 l []).2 ≠ 0 then ([], (expand 65536 l []).2) else (blk l (expand 65536 l []).1, 0)
theorem wrt_length {p : Pt} (h : may p = true) : (wrt p).length ≤ 65541 := by
  obtain ⟨c, t, o, l⟩ := p
  unfold may at h
  unfold wrt
  cases c
  · simp only [Bool.false_eq_true, if_false, Bool.and_eq_true, decide_eq_true_eq] at h ⊢
    have hll : (lhead t.size).length ≤ 5 := by unfold lhead nsz; split <;> simp [Bt.fx_length]; (repeat' split) <;> omega
    have : t.data.toList.length = t.size := by simp
    rw [List.length_append]
    omega
  · simp only [if_true]
    (repeat' split) <;> simp [Bt.fx_length]
theorem wrts_length : ∀ {l : List Pt}, (∀ p ∈ l, may p = true) → (l.flatMap wrt).length ≤ 65541 * l.length
  | [], _ => by simp
  | p :: l, h => by
    have h1 := wrt_length (h p (by simp))
    have h2 := wrts_length (l := l) (fun q hq => h q (by simp [hq]))
    rw [List.flatMap_cons, List.length_append, List.length_cons]
    omega
end Go.Proofs.Ytnnogjojoeajnaa
