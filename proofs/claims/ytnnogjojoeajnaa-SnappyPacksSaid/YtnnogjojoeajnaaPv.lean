/- put: any part that may be. -/
import Derived.Test.YtnnogjojoeajnaaPt
namespace Go.Proofs.Ytnnogjojoeajnaa
open Go.RowKit
theorem putp_own (p : Pt) (hp : may p = true) (base : Nat) (v : Value) (xs : List UInt8) (w : World) (hown : Own w base v (xs.map bv)) (hb : base ≤ w.heap.size) (hl : xs.length ≤ 1000000000000) :
    Calls Try.prog 42 #[v, pv p] w (OwnRet w base v (xs ++ wrt p)) := by
  obtain ⟨c, t, o, l⟩ := p
  unfold may at hp
  cases c
  · simp only [Bool.false_eq_true, if_false, Bool.and_eq_true, decide_eq_true_eq] at hp
    obtain ⟨⟨h1, h2⟩, h3, h4⟩ := hp
    subst h3
    subst h4
    exact put_lit t (by omega) (by omega) base v xs w hown hb hl
  · simp only [if_true, Bool.and_eq_true, decide_eq_true_eq, beq_iff_eq] at hp
    obtain ⟨h0, h1, h2, h3, h4⟩ := hp
    have ht : t = ⟨#[]⟩ := ba_empty h0
    subst ht
    obtain ⟨O, rfl⟩ := Int.eq_ofNat_of_zero_le (show 0 ≤ o by omega)
    obtain ⟨K, rfl⟩ := Int.eq_ofNat_of_zero_le (show 0 ≤ l by omega)
    obtain ⟨L, rfl⟩ : ∃ L, K = L + 1 := ⟨K - 1, by omega⟩
    have e1 : ((O : Int)).toNat = O := by omega
    have e2 : (((L + 1 : Nat) : Int)).toNat = L + 1 := by omega
    have e3 : L + 1 - 1 = L := by omega
    simp only [wrt, pv, if_true, e1, e2, e3]
    by_cases hn : 4 ≤ ((L + 1 : Nat) : Int) ∧ ((L + 1 : Nat) : Int) ≤ 11 ∧ ((O : Nat) : Int) < 2048
    · rw [if_pos hn]
      exact near_in O (L + 1) (L + 1 - 4) (by omega) (by omega) (by omega) _ rfl base v xs w hown hb hl
    · rw [if_neg hn]
      by_cases hf : ((O : Nat) : Int) < 65536
      · rw [if_pos hf]
        by_cases ha : L + 1 < 4
        · exact far_a O (L + 1) L rfl (by omega) (by omega) ha _ rfl base v xs w hown hb hl
        · by_cases hbb : 11 < L + 1
          · exact far_b O (L + 1) L rfl (by omega) (by omega) hbb _ rfl base v xs w hown hb hl
          · exact far_c O (L + 1) L rfl (by omega) (by omega) (by omega) (by omega) (by omega) _ rfl base v xs w hown hb hl
      · rw [if_neg hf]
        by_cases ha : L + 1 < 4
        · exact fst_a O (L + 1) L rfl (by omega) (by omega) (by omega) ha _ rfl base v xs w hown hb hl
        · by_cases hbb : 11 < L + 1
          · exact fst_b O (L + 1) L rfl (by omega) (by omega) (by omega) hbb _ rfl base v xs w hown hb hl
          · exact fst_c O (L + 1) L rfl (by omega) (by omega) (by omega) (by omega) (by omega) _ rfl base v xs w hown hb hl
end Go.Proofs.Ytnnogjojoeajnaa
