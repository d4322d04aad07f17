/- Package keys: plain facts of keys: which are alike, what begins by what. -/
import Derived.Test.YtbiokdphjildcaaKf
namespace Go.Proofs.Ytbiokdphjildcaa
open Go Go.RowKit
set_option maxRecDepth 100000
set_option maxHeartbeats 1000000
theorem bl_nil_l (a : UInt8) (l : List UInt8) : Op.bytesLess [] (a :: l) = true := rfl
theorem bl_nil_r (l : List UInt8) : Op.bytesLess l [] = false := by cases l <;> rfl
theorem bl_cons (a b : UInt8) (x y : List UInt8) : Op.bytesLess (a :: x) (b :: y) = (decide (a < b) || (a == b && Op.bytesLess x y)) := rfl
theorem between {x : UInt8} (hx : x.toNat + 1 < 256) : ∀ (q k : List UInt8), Lib.hasPrefix k (q ++ [x]) = (!(Op.bytesLess k (q ++ [x])) && Op.bytesLess k (q ++ [x + 1]))
  | [], [] => rfl
  | [], b :: r => by
    have hx1 : (x + 1).toNat = x.toNat + 1 := by rw [UInt8.toNat_add]; simp; omega
    have e : Lib.hasPrefix (b :: r) ([] ++ [x]) = (x == b) := by show (x == b && ([] : List UInt8).isPrefixOf r) = _; cases r <;> simp [List.isPrefixOf]
    rw [e, List.nil_append, List.nil_append, bl_cons, bl_cons, bl_nil_r, Bool.and_false, Bool.and_false, Bool.or_false, Bool.or_false, Bool.eq_iff_iff]
    simp only [Bool.and_eq_true, Bool.not_eq_true', decide_eq_false_iff_not, decide_eq_true_eq, beq_iff_eq, UInt8.lt_iff_toNat_lt, hx1]
    constructor
    · rintro rfl; omega
    · intro h; exact UInt8.toNat_inj.1 (by omega)
  | a :: q, [] => rfl
  | a :: q, b :: r => by
    have e : Lib.hasPrefix (b :: r) (a :: q ++ [x]) = ((a == b) && Lib.hasPrefix r (q ++ [x])) := rfl
    rw [e, List.cons_append, List.cons_append, bl_cons, bl_cons, between hx q r]
    by_cases h : a = b
    · subst h
      simp
    · have h1 : (a == b) = false := by simpa using h
      have h2 : (b == a) = false := by simpa using fun h3 => h h3.symm
      rw [h1, h2]
      cases hd : decide (b < a) <;> simp
theorem end_eq {l : List UInt8} (h : l ≠ []) (hp : prefB l = true) : ∃ q x, l = q ++ [x] ∧ endL l = q ++ [x + 1] ∧ x.toNat + 1 < 256 := by
  refine ⟨l.dropLast, l.getLast h, (List.dropLast_concat_getLast h).symm, ?_, ?_⟩
  · unfold endL
    have hl : l.length ≠ 0 := by intro e; exact h (List.eq_nil_of_length_eq_zero e)
    rw [if_pos ⟨hl, hp⟩, List.dropLast_eq_take]
    congr 2
    rw [List.getLast_eq_getElem, List.getD_eq_getElem?_getD, List.getElem?_eq_getElem (by omega)]; rfl
  · have : kyc (l.getLast h) = true := by
      unfold prefB allK at hp
      simp only [Bool.and_eq_true, decide_eq_true_eq, List.all_eq_true] at hp
      exact hp.2 _ (List.getLast_mem h)
    unfold kyc at this
    have := wh_lt (of_decide_eq_true this)
    omega
theorem bl_self (l : List UInt8) : Op.bytesLess l l = false := by
  induction l with
  | nil => rfl
  | cons a l ih => rw [bl_cons, ih]; simp [UInt8.lt_irrefl]
theorem bl_end {x : UInt8} (hx : x.toNat + 1 < 256) (q : List UInt8) : Op.bytesLess (q ++ [x + 1]) (q ++ [x]) = false ∧ (q ++ [x + 1] == q ++ [x]) = false := by
  have hx1 : (x + 1).toNat = x.toNat + 1 := by rw [UInt8.toNat_add]; simp; omega
  have hne : x + 1 ≠ x := by intro h; have := congrArg UInt8.toNat h; omega
  constructor
  · induction q with
    | nil =>
      rw [List.nil_append, List.nil_append, bl_cons, bl_nil_r, Bool.and_false, Bool.or_false, decide_eq_false_iff_not, UInt8.lt_iff_toNat_lt]; omega
    | cons a q ih => rw [List.cons_append, List.cons_append, bl_cons, ih]; simp [UInt8.lt_irrefl]
  · rw [beq_eq_false_iff_ne]
    intro h
    have := List.append_cancel_left h
    injection this with h1
    exact hne h1
theorem allK_of {l : List UInt8} (h : allN l = true) : allK l = true := by
  unfold allN at h; unfold allK
  rw [List.all_eq_true] at *
  intro x hx; exact kyc_nmc (h x hx)
theorem name_all {l : List UInt8} (h : nameB l = true) : allN l = true := by
  unfold nameB at h
  simp only [Bool.and_eq_true] at h
  exact h.2
theorem kyc47 : kyc 47 = true := by decide
theorem name_key {l : List UInt8} (h : nameB l = true) : keyB l = true := by
  have h1 := name_len h
  unfold keyB
  rw [decide_eq_true (by omega), decide_eq_true (by omega), allK_of (name_all h)]; rfl
theorem key_pref {l : List UInt8} (h : keyB l = true) : prefB l = true := by
  unfold keyB at h; unfold prefB
  simp only [Bool.and_eq_true, decide_eq_true_eq] at *
  exact ⟨h.1.2, h.2⟩
theorem clu_key {a b : List UInt8} (h : nameB a = true) (k : nameB b = true) : keyB (cluL a b) = true ∧ cluL a b ≠ [] ∧ cluL a b = 99 :: 47 :: (a ++ 47 :: b) := by
  have e : cluL a b = 99 :: 47 :: (a ++ 47 :: b) := by unfold cluL; rw [h, k]; rfl
  have h1 := name_len h
  have k1 := name_len k
  refine ⟨?_, by rw [e]; simp, e⟩
  rw [e]
  unfold keyB
  have h2 := allK_of (name_all h)
  have k2 := allK_of (name_all k)
  unfold allK at *
  rw [decide_eq_true (by simp), decide_eq_true (by simp; omega)]
  simp only [List.all_cons, List.all_append, h2, k2, kyc47, show kyc 99 = true from by decide]
  rfl
theorem ten_key {a : List UInt8} (h : nameB a = true) : keyB (tenL a) = true ∧ tenL a ≠ [] ∧ tenL a = 116 :: 47 :: a := by
  have e : tenL a = 116 :: 47 :: a := by unfold tenL; rw [h]; rfl
  have h1 := name_len h
  refine ⟨?_, by rw [e]; simp, e⟩
  rw [e]
  unfold keyB
  have h2 := allK_of (name_all h)
  unfold allK at *
  rw [decide_eq_true (by simp), decide_eq_true (by simp; omega)]
  simp only [List.all_cons, h2, kyc47, show kyc 116 = true from by decide]
  rfl
theorem cls_pref {a : List UInt8} (h : nameB a = true) : prefB (clsL a) = true ∧ clsL a ≠ [] ∧ clsL a = 99 :: 47 :: (a ++ [47]) := by
  have e : clsL a = 99 :: 47 :: (a ++ [47]) := by unfold clsL; rw [h]; rfl
  have h1 := name_len h
  refine ⟨?_, by rw [e]; simp, e⟩
  rw [e]
  unfold prefB
  have h2 := allK_of (name_all h)
  unfold allK at *
  rw [decide_eq_true (by simp; omega)]
  simp only [List.all_cons, List.all_append, h2, kyc47, show kyc 99 = true from by decide, List.all_nil]
  rfl
theorem clu_no {a b : List UInt8} (h : (nameB a && nameB b) = false) : cluL a b = [] := by unfold cluL; rw [h]; rfl
theorem ten_no {a : List UInt8} (h : nameB a = false) : tenL a = [] := by unfold tenL; rw [h]; rfl
theorem cls_no {a : List UInt8} (h : nameB a = false) : clsL a = [] := by unfold clsL; rw [h]; rfl
theorem clu_ten {a b c : List UInt8} (h : nameB a = true) (k : nameB b = true) : (cluL a b == tenL c) = false := by
  rw [beq_eq_false_iff_ne, (clu_key h k).2.2]
  unfold tenL
  split <;> simp
theorem clu_clu {a b c d : List UInt8} (h : nameB a = true) (k : nameB b = true) : (cluL a b == cluL c d) = ((a == c) && (b == d)) := by
  rw [Bool.eq_iff_iff, Bool.and_eq_true, beq_iff_eq, beq_iff_eq, beq_iff_eq]
  constructor
  · intro e
    have h1 := rd_c h k
    rw [← (clu_key h k).2.2, e] at h1
    cases hn : (nameB c && nameB d) with
    | false => rw [clu_no hn] at e; exact absurd e (clu_key h k).2.1
    | true =>
      rw [Bool.and_eq_true] at hn
      have h2 := rd_c hn.1 hn.2
      rw [← (clu_key hn.1 hn.2).2.2, h1] at h2
      simp only [Prod.mk.injEq] at h2
      exact ⟨h2.1, h2.2.1⟩
  · rintro ⟨rfl, rfl⟩; rfl
theorem ten_ten {a c : List UInt8} (h : nameB a = true) : (tenL a == tenL c) = (a == c) := by
  rw [Bool.eq_iff_iff, beq_iff_eq, beq_iff_eq]
  constructor
  · intro e
    rw [(ten_key h).2.2] at e
    unfold tenL at e
    split at e
    · simpa using e
    · cases e
  · rintro rfl; rfl
theorem cls_clu {a c d : List UInt8} (h : nameB a = true) (hc : nameB c = true) (hd : nameB d = true) : Lib.hasPrefix (cluL c d) (clsL a) = (a == c) := by
  rw [(cls_pref h).2.2, (clu_key hc hd).2.2]
  unfold Lib.hasPrefix
  rw [Bool.eq_iff_iff, List.isPrefixOf_iff_prefix, beq_iff_eq]
  constructor
  · rintro ⟨r, hr⟩
    simp only [List.cons_append, List.cons.injEq, true_and, List.append_assoc, List.nil_append] at hr
    have e1 := ct_at (y := r) (name_ns h)
    have e2 := ct_at (y := d) (name_ns hc)
    rw [hr] at e1
    rw [← e1.1, e2.1]
  · rintro rfl
    exact ⟨d, by simp⟩
theorem cls_ten {a c : List UInt8} (h : nameB a = true) : Lib.hasPrefix (tenL c) (clsL a) = false := by
  rw [(cls_pref h).2.2]
  unfold Lib.hasPrefix tenL
  split
  · simp [List.isPrefixOf]
  · rfl
theorem prefB_all (l : List UInt8) : prefB l = (decide (l.length ≤ 64) && l.all fun c => keyB [c]) := by
  unfold prefB allK
  congr 1
  congr 1
  funext c
  unfold keyB allK
  simp
theorem prefB_app {a b : List UInt8} (h : prefB a = true) (k : prefB b = true) : prefB (a ++ b) = decide (a.length + b.length ≤ 64) := by
  unfold prefB allK at *
  simp only [Bool.and_eq_true] at h k
  rw [List.all_append, h.2, k.2, List.length_append]; simp
theorem ext_one {s : ByteArray} {k : Nat} (h : k < s.size) : (s.extract k (k + 1)).data.toList = [s[k]'h] := by
  have hk : k < s.data.toList.length := by rw [← Lib.size_eq]; exact h
  rw [← Lib.toList_data, Lib.extract_toList, show k + 1 - k = 1 from by omega, List.drop_eq_getElem_cons hk]
  rfl
end Go.Proofs.Ytbiokdphjildcaa
