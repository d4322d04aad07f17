/- Plain numbers: texts as numbers, combined; one bit turned. Nothing of the program. -/
import Derived.Test.YtieemdcoomilaaaGreatDoorMa
set_option linter.unusedVariables false
set_option linter.unusedSimpArgs false
namespace Go.Proofs.YtieemdcoomilaaaGreatDoor.Sm
open Go Go.RowKit
theorem pow_mul_xor (k a b : Nat) : 2 ^ k * (a ^^^ b) = 2 ^ k * a ^^^ 2 ^ k * b := by
  apply Nat.eq_of_testBit_eq
  intro i
  rw [Nat.testBit_xor, Nat.testBit_two_pow_mul, Nat.testBit_two_pow_mul, Nat.testBit_two_pow_mul, Nat.testBit_xor]
  by_cases h : k ≤ i <;> simp [h]
theorem xor_swap (a b c d : Nat) : (a ^^^ b) ^^^ (c ^^^ d) = (a ^^^ c) ^^^ (b ^^^ d) := by
  rw [Nat.xor_assoc, ← Nat.xor_assoc b, Nat.xor_comm b c, Nat.xor_assoc c, ← Nat.xor_assoc]
theorem num_zip : ∀ (l r : List UInt8), l.length = r.length → num (List.zipWith (fun a b => a ^^^ b) l r) = num l ^^^ num r
  | [], [], _ => rfl
  | [], _ :: _, h => by simp at h
  | _ :: _, [], h => by simp at h
  | a :: l, b :: r, h => by
    have ih := num_zip l r (by simpa using h)
    rw [List.zipWith_cons_cons, num_cons, num_cons, num_cons, ih, UInt8.toNat_xor]
    have e := pow_mul_xor 8 (num l) (num r)
    have e2 : (2 : Nat) ^ 8 = 256 := rfl
    rw [e2] at e
    rw [e]
    exact xor_swap _ _ _ _
theorem num_lt (l : List UInt8) : num l < 256 ^ l.length := by
  induction l with
  | nil => simp [num]
  | cons b r ih =>
    rw [num, List.length_cons, Nat.pow_succ]
    have := b.toNat_lt
    omega
theorem num_inj : ∀ (l r : List UInt8), l.length = r.length → num l = num r → l = r
  | [], [], _, _ => rfl
  | [], _ :: _, h, _ => by simp at h
  | _ :: _, [], h, _ => by simp at h
  | a :: l, b :: r, h, e => by
    rw [num, num] at e
    have ha := a.toNat_lt
    have hb := b.toNat_lt
    have e1 : num l = num r := by omega
    have e2 : a.toNat = b.toNat := by omega
    rw [num_inj l r (by simpa using h) e1, UInt8.toNat.inj e2]

/-- One byte turned. -/
theorem num_set : ∀ (l : List UInt8) (i : Nat) (h : i < l.length) (c : UInt8), num (l.set i (l[i] ^^^ c)) = num l ^^^ 2 ^ (8 * i) * c.toNat
  | [], i, h, _ => by simp at h
  | b :: r, 0, _, c => by
    rw [List.set_cons_zero, List.getElem_cons_zero, num_cons, num_cons, UInt8.toNat_xor, Nat.mul_zero, Nat.pow_zero, Nat.one_mul, Nat.xor_assoc]
  | b :: r, i + 1, h, c => by
    have ih := num_set r i (by simpa using h) c
    rw [List.set_cons_succ, List.getElem_cons_succ, num_cons, num_cons, ih]
    have e := pow_mul_xor 8 (num r) (2 ^ (8 * i) * c.toNat)
    have e2 : (2 : Nat) ^ 8 = 256 := rfl
    have e3 : 2 ^ 8 * (2 ^ (8 * i) * c.toNat) = 2 ^ (8 * (i + 1)) * c.toNat := by rw [← Nat.mul_assoc, ← Nat.pow_add, Nat.mul_succ, Nat.add_comm]
    rw [e3, e2] at e
    rw [e, Nat.xor_assoc, Nat.xor_comm (2 ^ _ * _), ← Nat.xor_assoc]
/-- The bits of n from a place on, up to k of them, turned. -/
theorem burst_step (x f n k : Nat) : x ^^^ 2 ^ f * (n % 2 ^ (k + 1)) = if n / 2 ^ k % 2 = 1 then (x ^^^ 2 ^ f * (n % 2 ^ k)) ^^^ 2 ^ (f + k) else x ^^^ 2 ^ f * (n % 2 ^ k) := by
  rw [mod_step, Nat.toNat_testBit, pow_mul_xor]
  rcases Nat.mod_two_eq_zero_or_one (n / 2 ^ k) with h | h <;> rw [h]
  · rw [Nat.zero_mul, Nat.mul_zero, Nat.zero_xor]; rfl
  · rw [Nat.one_mul, ← Nat.pow_add, Nat.xor_comm (2 ^ (f + k)), Nat.xor_assoc]; rfl
theorem place (p : Nat) : 2 ^ (8 * (p / 8)) * 2 ^ (p % 8) = 2 ^ p := by rw [← Nat.pow_add, Nat.div_add_mod]
theorem xor_eq_zero {a b : Nat} (h : a ^^^ b = 0) : a = b := by
  have := xor_cancel b a
  rw [Nat.xor_comm b a, h, Nat.xor_zero] at this
  exact this.symm
theorem burst_end (l r : List UInt8) (f W : Nat) (hl : l.length = r.length) (hf : f ≤ 8 * r.length) (hW : W < 4294967296) (h : num l = num r ^^^ 2 ^ f * W) : add 0 l = add 0 r ↔ l = r := by
  constructor
  · intro e
    have e1 : crc 4294967295 l = crc 4294967295 r := by
      have := congrArg (4294967295 ^^^ ·) e
      simpa only [add, xor_cancel, Nat.xor_zero] using this
    rw [crc_num, crc_num, hl] at e1
    have e2 : it (8 * r.length) (2 ^ f * W) = 0 := by
      have h2 : 4294967295 ^^^ num l = (4294967295 ^^^ num r) ^^^ 2 ^ f * W := by rw [h, Nat.xor_assoc]
      rw [h2, it_xor] at e1
      generalize it (8 * r.length) (4294967295 ^^^ num r) = p at e1
      have h3 := congrArg (p ^^^ ·) e1
      simpa only [xor_cancel, Nat.xor_self] using h3
    have e3 : 8 * r.length = f + (8 * r.length - f) := by omega
    rw [e3, it_add, it_shift] at e2
    have hz := it_eq_zero _ hW e2
    refine num_inj l r hl ?_
    rw [h, hz, Nat.mul_zero, Nat.xor_zero]
  · intro e; rw [e]
end Go.Proofs.YtieemdcoomilaaaGreatDoor.Sm
namespace Go.Proofs.YtieemdcoomilaaaGreatDoor.Fr
open Go Go.RowKit
/-- The masked checksum of a text. -/
def ck (l : List UInt8) : Nat := Sm.mask (Sm.add 0 l)
theorem ck_lt (l : List UInt8) : ck l < 4294967296 := Sm.mask_lt _
/-- A frame's bytes. -/
def frm (k : UInt8) (p : List UInt8) : List UInt8 := Bt.fx 4 p.length ++ (Bt.fx 4 (ck (k :: p)) ++ (k :: p))
theorem frm_length (k : UInt8) (p : List UInt8) : (frm k p).length = 9 + p.length := by
  simp only [frm, List.length_append, Bt.fx_length, List.length_cons]; omega
def ln (l : List UInt8) : Nat := Bt.fat l 0 4
def cs (l : List UInt8) : Nat := Bt.fat l 4 4
def kd (l : List UInt8) : UInt8 := l.getD 8 0
def pl (l : List UInt8) : List UInt8 := (l.drop 9).take (ln l)
/-- How bytes are refused that should begin by a frame; 0: they do. -/
def er (l : List UInt8) : Nat :=
  if l.length < 9 then 8 else if 262144 < ln l then 40 else if l.length < 9 + ln l then 8 else if cs l ≠ ck (kd l :: pl l) then 42 else if (kd l).toNat < 1 ∨ 3 < (kd l).toNat then 4 else 0
structure Good (l : List UInt8) : Prop where
  nine : 9 ≤ l.length
  most : ln l ≤ 262144
  whole : 9 + ln l ≤ l.length
  sum : cs l = ck (kd l :: pl l)
  kind : 1 ≤ (kd l).toNat ∧ (kd l).toNat ≤ 3
theorem er_good {l : List UInt8} : er l = 0 ↔ Good l := by
  unfold er
  constructor
  · intro h
    split at h
    · omega
    split at h
    · omega
    split at h
    · omega
    split at h
    · omega
    split at h
    · omega
    · rename_i h1 h2 h3 h4 h5
      exact ⟨by omega, by omega, by omega, Classical.not_not.1 h4, by omega⟩
  · intro h
    rw [if_neg (by have := h.nine; omega), if_neg (by have := h.most; omega), if_neg (by have := h.whole; omega), if_neg (by rw [h.sum]; simp), if_neg (by have := h.kind; omega)]
theorem fx_fv : ∀ (l : List UInt8), Bt.fx l.length (Bt.fv l) = l
  | [] => rfl
  | b :: r => by
    have hb := b.toNat_lt
    rw [List.length_cons, Bt.fx, Bt.fv, show (b.toNat + 256 * Bt.fv r) / 256 = Bt.fv r by omega, fx_fv r]
    congr 1
    apply UInt8.toNat.inj
    simp
theorem fv_fx : ∀ (k n : Nat), Bt.fv (Bt.fx k n) = n % 256 ^ k
  | 0, n => by simp [Bt.fx, Bt.fv, Nat.mod_one]
  | k + 1, n => by
    rw [Bt.fx, Bt.fv, fv_fx k, Nat.pow_succ, Nat.mul_comm (256 ^ k) 256, Nat.mod_mul]
    simp
theorem fx_fat (l : List UInt8) (a z : Nat) (h : a + z ≤ l.length) : Bt.fx z (Bt.fat l a z) = (l.drop a).take z := by
  have h2 : ((l.drop a).take z).length = z := by simp; omega
  have := fx_fv ((l.drop a).take z)
  rw [h2] at this
  exact this
theorem fat_put (k n : Nat) (r l : List UInt8) (a : Nat) (h : l.drop a = Bt.fx k n ++ r) : Bt.fat l a k = n % 256 ^ k := by
  unfold Bt.fat
  rw [h, List.take_append_of_le_length (by rw [Bt.fx_length]; omega), List.take_of_length_le (by rw [Bt.fx_length]; omega), fv_fx]
theorem pl_length {l : List UInt8} (h : Good l) : (pl l).length = ln l := by
  have := h.whole
  unfold pl; rw [List.length_take, List.length_drop]; omega
theorem kd_drop {l : List UInt8} (h : 9 ≤ l.length) : l.drop 8 = kd l :: l.drop 9 := by
  have h8 : 8 < l.length := by omega
  rw [List.drop_eq_getElem_cons h8]
  unfold kd
  rw [List.getD_eq_getElem?_getD, List.getElem?_eq_getElem h8]; rfl
theorem body_take {l : List UInt8} (h : Good l) : (l.drop 8).take (1 + ln l) = kd l :: pl l := by
  rw [kd_drop h.nine, Nat.add_comm, List.take_succ_cons]; rfl
/-- What begins by a frame is that frame, and what stands behind it. -/
theorem good_frm {l : List UInt8} (h : Good l) : l.take (9 + ln l) = frm (kd l) (pl l) := by
  have hw := h.whole
  have hm := h.most
  unfold frm
  rw [pl_length h, ← h.sum]
  have e1 : Bt.fx 4 (ln l) = l.take 4 := by have := fx_fat l 0 4 (by omega); rw [List.drop_zero] at this; exact this
  have e2 : Bt.fx 4 (cs l) = (l.drop 4).take 4 := fx_fat l 4 4 (by omega)
  rw [e1, e2, ← body_take h]
  rw [show 9 + ln l = 4 + (4 + (1 + ln l)) by omega, List.take_add, List.take_add, List.drop_drop]
theorem good_split {l : List UInt8} (h : Good l) : l = frm (kd l) (pl l) ++ l.drop (9 + ln l) := by
  rw [← good_frm h, List.take_append_drop]
/-- A kind, and a payload, of which a frame is made. -/
def Ok (k : UInt8) (p : List UInt8) : Prop := (1 ≤ k.toNat ∧ k.toNat ≤ 3) ∧ p.length ≤ 262144
theorem ln_frm (k : UInt8) (p r : List UInt8) (h : p.length ≤ 262144) : ln (frm k p ++ r) = p.length := by
  unfold ln
  rw [fat_put 4 p.length (Bt.fx 4 (ck (k :: p)) ++ (k :: p) ++ r) _ 0 (by unfold frm; simp)]
  exact Nat.mod_eq_of_lt (by rw [show (256 : Nat) ^ 4 = 4294967296 from by decide]; omega)
theorem drop_fx (n : Nat) (r : List UInt8) : (Bt.fx 4 n ++ r).drop 4 = r := List.drop_left' (Bt.fx_length 4 n)
theorem drop8_frm (k : UInt8) (p r : List UInt8) : (frm k p ++ r).drop 8 = k :: (p ++ r) := by
  unfold frm
  rw [List.append_assoc, List.append_assoc, show 8 = 4 + 4 from rfl, ← List.drop_drop, drop_fx, drop_fx]; rfl
theorem drop4_frm (k : UInt8) (p r : List UInt8) : (frm k p ++ r).drop 4 = Bt.fx 4 (ck (k :: p)) ++ (k :: (p ++ r)) := by
  unfold frm
  rw [List.append_assoc, List.append_assoc, drop_fx]; rfl
theorem cs_frm (k : UInt8) (p r : List UInt8) : cs (frm k p ++ r) = ck (k :: p) := by
  unfold cs
  rw [fat_put 4 (ck (k :: p)) (k :: (p ++ r)) _ 4 (drop4_frm k p r)]
  exact Nat.mod_eq_of_lt (by rw [show (256 : Nat) ^ 4 = 4294967296 from by decide]; exact ck_lt _)
theorem kd_frm (k : UInt8) (p r : List UInt8) : kd (frm k p ++ r) = k := by
  have h := kd_drop (l := frm k p ++ r) (by rw [List.length_append, frm_length]; omega)
  rw [drop8_frm] at h
  exact (List.cons.inj h).1.symm
theorem drop9_frm (k : UInt8) (p r : List UInt8) : (frm k p ++ r).drop 9 = p ++ r := by
  have h := kd_drop (l := frm k p ++ r) (by rw [List.length_append, frm_length]; omega)
  rw [drop8_frm] at h
  exact (List.cons.inj h).2.symm
theorem pl_frm (k : UInt8) (p r : List UInt8) (h : p.length ≤ 262144) : pl (frm k p ++ r) = p := by
  unfold pl
  rw [drop9_frm, ln_frm k p r h, List.take_left' rfl]
theorem good_of (k : UInt8) (p r : List UInt8) (h : Ok k p) : Good (frm k p ++ r) := by
  have h2 := h.2
  refine ⟨by rw [List.length_append, frm_length]; omega, by rw [ln_frm k p r h2]; exact h2, by rw [ln_frm k p r h2, List.length_append, frm_length]; omega, ?_, by rw [kd_frm]; exact h.1⟩
  rw [cs_frm, kd_frm, pl_frm k p r h2]
theorem good_ok {l : List UInt8} (h : Good l) : Ok (kd l) (pl l) := ⟨h.kind, by rw [pl_length h]; exact h.most⟩
theorem frm_rest (k : UInt8) (p r : List UInt8) (h : p.length ≤ 262144) : (frm k p ++ r).drop (9 + ln (frm k p ++ r)) = r := by
  rw [ln_frm k p r h, List.drop_left' (frm_length k p)]
/-- A frame that is scanned. -/
structure Fm where
  k : UInt8
  p : List UInt8
  a : Nat
def scn (l : List UInt8) (a : Nat) : List Fm × Nat :=
  if _h : er l = 0 then (⟨kd l, pl l, a⟩ :: (scn (l.drop (9 + ln l)) (a + 9 + ln l)).1, (scn (l.drop (9 + ln l)) (a + 9 + ln l)).2) else ([], a)
termination_by l.length
decreasing_by all_goals (have := (er_good.1 _h).nine; rw [List.length_drop]; omega)
theorem scn_good {l : List UInt8} (a : Nat) (h : er l = 0) : scn l a = (⟨kd l, pl l, a⟩ :: (scn (l.drop (9 + ln l)) (a + 9 + ln l)).1, (scn (l.drop (9 + ln l)) (a + 9 + ln l)).2) := by
  rw [scn, dif_pos h]
theorem scn_bad {l : List UInt8} (a : Nat) (h : er l ≠ 0) : scn l a = ([], a) := by rw [scn, dif_neg h]
theorem scn_frm (k : UInt8) (p r : List UInt8) (a : Nat) (h : Ok k p) : scn (frm k p ++ r) a = (⟨k, p, a⟩ :: (scn r (a + 9 + p.length)).1, (scn r (a + 9 + p.length)).2) := by
  rw [scn_good a (er_good.2 (good_of k p r h)), kd_frm, pl_frm k p r h.2, frm_rest k p r h.2, ln_frm k p r h.2]
/-- Frames, put together; what they are scanned as, from a place on. -/
def row : List (UInt8 × List UInt8) → List UInt8
  | [] => []
  | x :: r => frm x.1 x.2 ++ row r
def wnt : List (UInt8 × List UInt8) → Nat → List Fm
  | [], _ => []
  | x :: r, a => ⟨x.1, x.2, a⟩ :: wnt r (a + 9 + x.2.length)
theorem row_append : ∀ (l r : List (UInt8 × List UInt8)), row (l ++ r) = row l ++ row r
  | [], r => rfl
  | x :: l, r => by rw [List.cons_append, row, row, row_append l r, List.append_assoc]
theorem wnt_append : ∀ (l r : List (UInt8 × List UInt8)) (a : Nat), wnt (l ++ r) a = wnt l a ++ wnt r (a + (row l).length)
  | [], r, a => rfl
  | x :: l, r, a => by
    rw [List.cons_append, wnt, wnt, wnt_append l r, row, List.length_append, frm_length, List.cons_append, show a + 9 + x.2.length + (row l).length = a + (9 + x.2.length + (row l).length) by omega]
theorem wnt_length : ∀ (l : List (UInt8 × List UInt8)) (a : Nat), (wnt l a).length = l.length
  | [], _ => rfl
  | x :: l, a => by rw [wnt, List.length_cons, List.length_cons, wnt_length l]
theorem row_snoc (l : List (UInt8 × List UInt8)) (k : UInt8) (p : List UInt8) : row (l ++ [(k, p)]) = row l ++ frm k p := by
  rw [row_append, row, row, List.append_nil]
theorem wnt_snoc (l : List (UInt8 × List UInt8)) (k : UInt8) (p : List UInt8) (a : Nat) : wnt (l ++ [(k, p)]) a = wnt l a ++ [⟨k, p, a + (row l).length⟩] := by
  rw [wnt_append]; rfl
/-- Frames, put together, with any bytes behind. -/
theorem scn_row : ∀ (l : List (UInt8 × List UInt8)) (t : List UInt8) (a : Nat), (∀ x ∈ l, Ok x.1 x.2) → scn (row l ++ t) a = (wnt l a ++ (scn t (a + (row l).length)).1, (scn t (a + (row l).length)).2)
  | [], t, a, _ => by simp [row, wnt]
  | x :: l, t, a, h => by
    rw [row, List.append_assoc, scn_frm _ _ _ _ (h x (by simp)), scn_row l t _ (fun y hy => h y (by simp [hy])), wnt, List.length_append, frm_length,
      show a + 9 + x.2.length + (row l).length = a + (9 + x.2.length + (row l).length) by omega]
    rfl
theorem scn_row_end (l : List (UInt8 × List UInt8)) (t : List UInt8) (a : Nat) (h : ∀ x ∈ l, Ok x.1 x.2) (ht : er t ≠ 0) : scn (row l ++ t) a = (wnt l a, a + (row l).length) := by
  rw [scn_row l t a h, scn_bad _ ht, List.append_nil]
/-- A part of a frame is none. -/
theorem er_part (k : UInt8) (p : List UInt8) (j : Nat) (hp : p.length ≤ 262144) (hj : j < 9 + p.length) : er ((frm k p).take j) ≠ 0 := by
  intro h
  have hg := er_good.1 h
  have hn := hg.nine
  have hw := hg.whole
  rw [List.length_take, frm_length] at hn hw
  have e : ln ((frm k p).take j) = p.length := by
    have e1 := ln_frm k p [] hp
    rw [List.append_nil] at e1
    rw [← e1]
    unfold ln Bt.fat
    rw [List.drop_zero, List.drop_zero, List.take_take, Nat.min_eq_left (by omega)]
  rw [e] at hw
  omega
/-- Frames, cut short: whole ones, and a part of one. -/
theorem row_take (l : List (UInt8 × List UInt8)) (w : Nat) (hw : w < l.length) (j : Nat) (h1 : (row (l.take w)).length ≤ j) (h2 : j < (row (l.take w)).length + (9 + l[w].2.length)) :
    (row l).take j = row (l.take w) ++ (frm l[w].1 l[w].2).take (j - (row (l.take w)).length) := by
  have e : l = l.take w ++ (l[w] :: l.drop (w + 1)) := by rw [List.getElem_cons_drop, List.take_append_drop]
  conv => lhs; rw [e]
  rw [row_append, row, List.take_append, List.take_of_length_le h1, List.take_append_of_le_length (by rw [frm_length]; omega)]
theorem scn_torn (l : List (UInt8 × List UInt8)) (h : ∀ x ∈ l, Ok x.1 x.2) (w : Nat) (j : Nat) (h1 : (row (l.take w)).length ≤ j) (h2 : (w = l.length ∧ j ≤ (row l).length) ∨ ∃ hw : w < l.length, j < (row (l.take w)).length + (9 + l[w].2.length)) :
    scn ((row l).take j) 0 = (wnt (l.take w) 0, (row (l.take w)).length) := by
  rcases h2 with ⟨rfl, h3⟩ | ⟨hw, h3⟩
  · rw [List.take_length] at *
    rw [show j = (row l).length by omega, List.take_length]
    have := scn_row_end l [] 0 h (by decide)
    rw [List.append_nil, Nat.zero_add] at this
    exact this
  · rw [row_take l w hw j h1 h3]
    have := scn_row_end (l.take w) ((frm l[w].1 l[w].2).take (j - (row (l.take w)).length)) 0 (fun x hx => h x (List.mem_of_mem_take hx)) (er_part _ _ _ (h _ (List.getElem_mem hw)).2 (by omega))
    rw [Nat.zero_add] at this
    exact this
end Go.Proofs.YtieemdcoomilaaaGreatDoor.Fr
