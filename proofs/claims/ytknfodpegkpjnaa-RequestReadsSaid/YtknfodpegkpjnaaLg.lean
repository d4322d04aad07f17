/- The law's 'large': what it counts; the bytes of series that are not large. -/
import Derived.Test.YtknfodpegkpjnaaSd
import Derived.Lib.Strings
namespace Go.Proofs.Ytknfodpegkpjnaa
open Go Go.RowKit
set_option maxRecDepth 100000
def lgL : List Lb → Nat → Nat
  | [], n => n
  | x :: r, n => if n < 4000 then lgL r (n + 10 + min 4000 x.n.size + min 4000 x.v.size) else n
def lg : List Sr → Nat → Nat
  | [], n => n
  | x :: r, n => if n < 4000 then lg r (lgL x.ls (n + 10 + min 4000 (20 * x.ss.length))) else n
theorem lgL_le : ∀ (l : List Lb) (n : Nat), n ≤ lgL l n
  | [], n => Nat.le_refl _
  | x :: r, n => by
    rw [lgL]
    split
    · have := lgL_le r (n + 10 + min 4000 x.n.size + min 4000 x.v.size); omega
    · exact Nat.le_refl _
theorem lg_le : ∀ (l : List Sr) (n : Nat), n ≤ lg l n
  | [], n => Nat.le_refl _
  | x :: r, n => by
    rw [lg]
    split
    · have h1 := lg_le r (lgL x.ls (n + 10 + min 4000 (20 * x.ss.length)))
      have h2 := lgL_le x.ls (n + 10 + min 4000 (20 * x.ss.length))
      omega
    · exact Nat.le_refl _
theorem lgL_top : ∀ (l : List Lb) (n : Nat), n ≤ 12010 → lgL l n ≤ 12010
  | [], n, h => h
  | x :: r, n, h => by
    rw [lgL]
    split
    · exact lgL_top r _ (by omega)
    · exact h
/-- Bytes of labels, of series, as counted. -/
theorem lgL_len : ∀ (l : List Lb) (n : Nat), lgL l n < 4000 → (eM (l.map fun y => part 1 (eLb y))).length + 4 * n ≤ 4 * lgL l n
  | [], n, h => by simp [lgL, eM]
  | x :: r, n, h => by
    rw [lgL] at h ⊢
    by_cases hn : n < 4000
    · rw [if_pos hn] at h ⊢
      have ih := lgL_len r _ h
      have hle := lgL_le r (n + 10 + min 4000 x.n.size + min 4000 x.v.size)
      have h4 := eLb_len x
      have e1 : x.n.data.toList.length = x.n.size := by simp
      have e2 : x.v.data.toList.length = x.v.size := by simp
      have h5 : nLen x ≤ x.n.size + 11 := by
        unfold nLen
        split
        · omega
        · rw [part_len, e1]
          have a1 := Bt.vlen_u64 (n := x.n.size) (by omega)
          have a2 : Bt.vlen (1 * 8 + 2) = 1 := by rw [← Bt.vint_length, vint8 (by decide)]; rfl
          omega
      have h6 : vLen x ≤ x.v.size + 11 := by
        unfold vLen
        split
        · omega
        · rw [part_len, e2]
          have a1 := Bt.vlen_u64 (n := x.v.size) (by omega)
          have a2 : Bt.vlen (2 * 8 + 2) = 1 := by rw [← Bt.vint_length, vint8 (by decide)]; rfl
          omega
      rw [List.map_cons, eM_cons, List.length_append, part_len]
      have a1 := Bt.vlen_u64 (n := (eLb x).length) (by omega)
      have a2 : Bt.vlen (1 * 8 + 2) = 1 := by rw [← Bt.vint_length, vint8 (by decide)]; rfl
      omega
    · rw [if_neg hn] at h; omega
theorem eSm_le (y : Sm) (h : y.ok) : (eSm y).length ≤ 20 := by
  rw [eSm_len]
  have h1 : bLen y ≤ 9 := by
    unfold bLen
    split
    · omega
    · unfold fby vby
      rw [List.length_append, if_neg (by simp), if_pos (by simp), vint8 (show (1 : Nat) * 8 + 1 < 128 by decide)]
      have := Bt.fx_length 8 y.b
      simp [this]
  have h2 : tLen y ≤ 11 := by
    unfold tLen
    split
    · omega
    · unfold fby vby
      rw [List.length_append, if_pos (by simp), vint8 (show (2 : Nat) * 8 + 0 < 128 by decide), Bt.vint_length]
      have := Bt.vlen_u64 (n := tn y.t) (tn_lt _)
      simp only [List.length_cons, List.length_nil]
      omega
  omega
theorem ss_len : ∀ (l : List Sm), (∀ y ∈ l, y.ok) → (eM (l.map fun y => part 2 (eSm y))).length ≤ 22 * l.length
  | [], _ => by simp [eM]
  | y :: r, h => by
    have ih := ss_len r (fun z hz => h z (by simp [hz]))
    have hy := eSm_le y (h y (by simp))
    rw [List.map_cons, eM_cons, List.length_append, part_len, List.length_cons]
    have a1 : Bt.vlen (eSm y).length = 1 := by rw [← Bt.vint_length, vint8 (by omega)]; rfl
    have a2 : Bt.vlen (2 * 8 + 2) = 1 := by rw [← Bt.vint_length, vint8 (by decide)]; rfl
    omega
theorem lg_len : ∀ (l : List Sr) (n : Nat), (∀ x ∈ l, ∀ y ∈ x.ss, y.ok) → lg l n < 4000 → (eRq l).length + 4 * n ≤ 4 * lg l n
  | [], n, _, h => by simp [lg, eRq, fRq, eM]
  | x :: r, n, ho, h => by
    rw [lg] at h ⊢
    by_cases hn : n < 4000
    · rw [if_pos hn] at h ⊢
      have ih := lg_len r _ (fun z hz => ho z (by simp [hz])) h
      have hle := lg_le r (lgL x.ls (n + 10 + min 4000 (20 * x.ss.length)))
      have hL := lgL_len x.ls (n + 10 + min 4000 (20 * x.ss.length)) (by omega)
      have hle2 := lgL_le x.ls (n + 10 + min 4000 (20 * x.ss.length))
      have hS := ss_len x.ss (ho x (by simp))
      have e : eRq (x :: r) = fby (part 1 (eSr x)) ++ eRq r := rfl
      have e2 : (eSr x).length = (eM (x.ls.map fun y => part 1 (eLb y))).length + (eM (x.ss.map fun y => part 2 (eSm y))).length := by
        unfold eSr fSr
        rw [eM_app, List.length_append]
      rw [e, List.length_append, part_len]
      have a1 := Bt.vlen_u64 (n := (eSr x).length) (by omega)
      have a2 : Bt.vlen (1 * 8 + 2) = 1 := by rw [← Bt.vint_length, vint8 (by decide)]; rfl
      omega
    · rw [if_neg hn] at h; omega
/-- Series that a call was handed. -/
structure WideZ (z : Zr) : Prop where
  l : z.x.ls.length ≤ maxLen
  s : z.x.ss.length ≤ 8796093022208
  w : ∀ y ∈ z.x.ls, y.n.size ≤ maxLen ∧ y.v.size ≤ maxLen
  o : ∀ y ∈ z.x.ss, y.ok
end Go.Proofs.Ytknfodpegkpjnaa
