/- Reading what was written; how long what is read becomes when it is written. -/
import Derived.Test.YtpcpbdcdapmlnaaDoorHo
namespace Go.Proofs.YtpcpbdcdapmlnaaDoor
open Go Go.RowKit
set_option maxRecDepth 100000
theorem vr_put (s : ByteArray) (most a n : Nat) (r : List UInt8) (h : s.data.toList.drop a = Bt.vint n ++ r) (hn : n ≤ most) (hb : n < 18446744073709551616) : vr s most a 0 = (n, a + Bt.vlen n, 0) := by
  unfold vr
  rw [if_neg (by simp), h, Bt.rd_put hb r, if_neg (by simp), if_neg (by simp; omega)]
theorem drop_put (l : List UInt8) (a n : Nat) (r : List UInt8) (h : l.drop a = Bt.vint n ++ r) : l.drop (a + Bt.vlen n) = r := by
  rw [← List.drop_drop, h, ← Bt.vint_length, List.drop_left]
theorem vrs_put (s : ByteArray) (l : List Int) (hl : ∀ t ∈ l, 2 ≤ t ∧ t < 32) (a : Nat) (h : s.data.toList.drop a = encL l) : ∀ k, k ≤ l.length →
    vrs s k a 0 = ((l.take k).map Int.toNat, a + (encL (l.take k)).length, 0) ∧ s.data.toList.drop (a + (encL (l.take k)).length) = encL (l.drop k)
  | 0, _ => ⟨by simp [vrs, encL], by simpa [encL] using h⟩
  | k + 1, hk => by
    obtain ⟨h1, h2⟩ := vrs_put s l hl a h k (by omega)
    have hm := hl l[k] (List.getElem_mem (by omega))
    have e : encL (l.drop k) = Bt.vint l[k].toNat ++ encL (l.drop (k + 1)) := by rw [List.drop_eq_getElem_cons (show k < l.length by omega)]; rfl
    rw [e] at h2
    have h3 := vr_put s 31 _ l[k].toNat _ h2 (by omega) (by omega)
    have h4 := drop_put _ _ _ _ h2
    have e2 : encL (l.take (k + 1)) = encL (l.take k) ++ Bt.vint l[k].toNat := by rw [List.take_succ_eq_append_getElem (show k < l.length by omega), encL_snoc]
    refine ⟨?_, ?_⟩
    · show ((vrs s k a 0).1 ++ [(vr s 31 (vrs s k a 0).2.1 (vrs s k a 0).2.2).1], (vr s 31 (vrs s k a 0).2.1 (vrs s k a 0).2.2).2) = _
      rw [h1, h3, e2, List.take_succ_eq_append_getElem (show k < l.length by omega), List.map_append, List.length_append, Bt.vint_length]
      simp only [List.map_cons, List.map_nil, Nat.add_assoc]
    · rw [e2, List.length_append, Bt.vint_length, ← Nat.add_assoc]
      exact h4
theorem nat2_toNat {l : List Int} (h : ∀ t ∈ l, 2 ≤ t ∧ t < 32) : nat2 (l.map Int.toNat) = l := by
  unfold nat2
  rw [List.map_map]
  have : ∀ t ∈ l, (Int.ofNat ∘ Int.toNat) t = t := fun t ht => by
    have := h t ht
    show ((t.toNat : Nat) : Int) = t
    omega
  rw [List.map_congr_left this, List.map_id']
theorem dec_enc {h : He} (hm : mayB h = true) : dcR (bs (enc h)) = (h, 0) := by
  have ok := mayB_ok hm
  have g1 := ok.g1; have g2 := ok.g2; have b1 := ok.b1; have b2 := ok.b2; have s1 := ok.s1; have s2 := ok.s2; have ln := ok.len
  have h0 : (bs (enc h)).data.toList.drop 0 = Bt.vint h.gen.toNat ++ (Bt.vint h.base.toNat ++ (Bt.vint h.snap.toNat ++ (Bt.vint h.log.length ++ encL h.log))) := rfl
  have e1 : r1 (bs (enc h)) = (h.gen.toNat, 0 + Bt.vlen h.gen.toNat, 0) := vr_put _ _ _ _ _ h0 (by omega) (by omega)
  have h1 := drop_put _ _ _ _ h0
  have e2 : r2 (bs (enc h)) = (h.base.toNat, 0 + Bt.vlen h.gen.toNat + Bt.vlen h.base.toNat, 0) := by unfold r2; rw [e1]; exact vr_put _ _ _ _ _ h1 (by omega) (by omega)
  have h2 := drop_put _ _ _ _ h1
  have e3 : r3 (bs (enc h)) = (h.snap.toNat, 0 + Bt.vlen h.gen.toNat + Bt.vlen h.base.toNat + Bt.vlen h.snap.toNat, 0) := by unfold r3; rw [e2]; exact vr_put _ _ _ _ _ h2 (by omega) (by omega)
  have h3 := drop_put _ _ _ _ h2
  have e4 : r4 (bs (enc h)) = (h.log.length, 0 + Bt.vlen h.gen.toNat + Bt.vlen h.base.toNat + Bt.vlen h.snap.toNat + Bt.vlen h.log.length, 0) := by unfold r4; rw [e3]; exact vr_put _ _ _ _ _ h3 (by omega) (by omega)
  have h4 := drop_put _ _ _ _ h3
  have e5 := (vrs_put _ h.log ok.mem _ h4 h.log.length (Nat.le_refl _)).1
  rw [List.take_length] at e5
  have e5' : r5 (bs (enc h)) = (h.log.map Int.toNat, 0 + Bt.vlen h.gen.toNat + Bt.vlen h.base.toNat + Bt.vlen h.snap.toNat + Bt.vlen h.log.length + (encL h.log).length, 0) := by unfold r5; rw [e4]; exact e5
  have hz : (bs (enc h)).size = 0 + Bt.vlen h.gen.toNat + Bt.vlen h.base.toNat + Bt.vlen h.snap.toNat + Bt.vlen h.log.length + (encL h.log).length := by
    rw [bs_size]; unfold enc; simp only [List.length_append, Bt.vint_length]; omega
  have hE : rdE (bs (enc h)) = 0 := by unfold rdE endE; rw [e5', if_neg (by simp), if_neg (by simp only [hz]; omega)]
  have hH : rdH (bs (enc h)) = h := by
    unfold rdH
    rw [e1, e2, e3, e5']
    dsimp only
    rw [nat2_toNat ok.mem]
    rw [Int.toNat_of_nonneg (show 0 ≤ h.gen by omega), Int.toNat_of_nonneg b1, Int.toNat_of_nonneg s1]
  unfold dcR
  rw [hE, if_neg (by simp), hH, hm, if_pos rfl]
theorem of_whl {h : He} (hm : mayB h = true) : ofB (whl h) = (h, true) := by
  have hok : Fr.Ok 3 (enc h) := ⟨by decide, by have := enc_len (mayB_ok hm); omega⟩
  have hg : Fr.er (Fr.frm 3 (enc h)) = 0 := by
    have := Fr.er_good.2 (Fr.good_of 3 (enc h) [] hok)
    rwa [List.append_nil] at this
  have hk : Fr.kd (Fr.frm 3 (enc h)) = 3 := by
    have := Fr.kd_frm 3 (enc h) []
    rwa [List.append_nil] at this
  have hp : Fr.pl (Fr.frm 3 (enc h)) = enc h := by
    have := Fr.pl_frm 3 (enc h) [] hok.2
    rwa [List.append_nil] at this
  unfold ofB whl
  rw [bs_data, if_neg (by rw [hg]; simp), if_neg (by rw [hk]; decide), hp, dec_enc hm]
  rfl
/-- What is read has no more bytes when it is written. -/
theorem rd_lt : ∀ (l : List UInt8) (i acc : Nat), acc < 128 ^ i → (Bt.rd l i acc).2.2 = 0 → (Bt.rd l i acc).1 < 128 ^ (Bt.rd l i acc).2.1 ∧ 1 ≤ (Bt.rd l i acc).2.1
  | [], i, acc, _, h => by simp [Bt.rd] at h
  | b :: r, i, acc, ha, h => by
    by_cases h1 : i = 9 ∧ 1 < b.toNat
    · rw [Bt.rd, if_pos h1] at h; simp at h
    · by_cases h2 : b.toNat < 128
      · rw [Bt.rd_end r i acc h1 h2]
        refine ⟨?_, by show 1 ≤ i + 1; omega⟩
        show acc + b.toNat * 128 ^ i < 128 ^ (i + 1)
        rw [Nat.pow_succ]
        have : b.toNat * 128 ^ i ≤ 127 * 128 ^ i := Nat.mul_le_mul_right _ (by omega)
        omega
      · rw [Bt.rd_more r i acc h1 (by omega)] at h ⊢
        refine rd_lt r (i + 1) _ ?_ h
        rw [Nat.pow_succ]
        have hb := b.toNat_lt
        have : (b.toNat - 128) * 128 ^ i ≤ 127 * 128 ^ i := Nat.mul_le_mul_right _ (by omega)
        omega
theorem vr_len (s : ByteArray) (most a e : Nat) (h : (vr s most a e).2.2 = 0) : e = 0 ∧ a + Bt.vlen (vr s most a e).1 ≤ (vr s most a e).2.1 := by
  unfold vr at *
  by_cases he : e ≠ 0
  · rw [if_pos he] at h; exact absurd h he
  rw [if_neg he] at h ⊢
  refine ⟨by omega, ?_⟩
  by_cases hK : (Bt.rd (s.data.toList.drop a) 0 0).2.2 ≠ 0
  · rw [if_pos hK] at h; exact absurd h hK
  rw [if_neg hK] at h ⊢
  by_cases hm : most < (Bt.rd (s.data.toList.drop a) 0 0).1
  · rw [if_pos hm] at h; simp at h
  rw [if_neg hm]
  obtain ⟨h1, h2⟩ := rd_lt (s.data.toList.drop a) 0 0 (by simp) (by omega)
  have h3 := Bt.vlen_le ((Bt.rd (s.data.toList.drop a) 0 0).2.1 - 1) _ (by rw [Nat.sub_add_cancel h2]; exact h1)
  show a + Bt.vlen (Bt.rd (s.data.toList.drop a) 0 0).1 ≤ a + (Bt.rd (s.data.toList.drop a) 0 0).2.1
  omega
theorem encL_nat_snoc (l : List Nat) (t : Nat) : (encL (nat2 (l ++ [t]))).length = (encL (nat2 l)).length + Bt.vlen t := by
  have : nat2 (l ++ [t]) = nat2 l ++ [(t : Int)] := by unfold nat2; simp
  rw [this, encL_snoc, List.length_append, Bt.vint_length]
  rfl
theorem vrs_len (s : ByteArray) : ∀ (k a e : Nat), (vrs s k a e).2.2 = 0 → e = 0 ∧ a + (encL (nat2 (vrs s k a e).1)).length ≤ (vrs s k a e).2.1
  | 0, a, e, h => ⟨h, by simp [vrs, nat2, encL]⟩
  | k + 1, a, e, h => by
    obtain ⟨h1, h2⟩ := vr_len s 31 (vrs s k a e).2.1 (vrs s k a e).2.2 h
    obtain ⟨h3, h4⟩ := vrs_len s k a e h1
    refine ⟨h3, ?_⟩
    show a + (encL (nat2 ((vrs s k a e).1 ++ [(vr s 31 (vrs s k a e).2.1 (vrs s k a e).2.2).1]))).length ≤ (vr s 31 (vrs s k a e).2.1 (vrs s k a e).2.2).2.1
    rw [encL_nat_snoc]
    omega
theorem dec_good {s : ByteArray} (h : (dcR s).2 = 0) : mayB (dcR s).1 = true ∧ (enc (dcR s).1).length ≤ s.size := by
  unfold dcR at *
  by_cases hE : rdE s ≠ 0
  · rw [if_pos hE] at h; exact absurd h hE
  rw [if_neg hE] at h ⊢
  cases hm : mayB (rdH s)
  · rw [hm, if_neg (by simp)] at h; simp at h
  rw [if_pos rfl]
  refine ⟨hm, ?_⟩
  dsimp only
  have h5 : (r5 s).2.2 = 0 := by
    unfold rdE endE at hE
    by_cases h : (r5 s).2.2 ≠ 0
    · rw [if_pos h] at hE; omega
    · omega
  have f1 := vr_facts s 1099511627776 0 0 (Nat.zero_le _)
  have f2 := vr_facts s 1099511627776 (r1 s).2.1 (r1 s).2.2 f1.2.1
  have f3 := vr_facts s 31 (r2 s).2.1 (r2 s).2.2 f2.2.1
  have f4 := vr_facts s 31 (r3 s).2.1 (r3 s).2.2 f3.2.1
  have f5 := vrs_facts s (r4 s).1 (r4 s).2.1 (r4 s).2.2 f4.2.1
  obtain ⟨e4, l5⟩ := vrs_len s (r4 s).1 (r4 s).2.1 (r4 s).2.2 h5
  obtain ⟨e3, l4⟩ := vr_len s 31 (r3 s).2.1 (r3 s).2.2 e4
  obtain ⟨e2, l3⟩ := vr_len s 31 (r2 s).2.1 (r2 s).2.2 e3
  obtain ⟨e1, l2⟩ := vr_len s 1099511627776 (r1 s).2.1 (r1 s).2.2 e2
  obtain ⟨_, l1⟩ := vr_len s 1099511627776 0 0 e1
  have hlen : (rdH s).log.length = (r4 s).1 := by show (nat2 (r5 s).1).length = _; unfold nat2; rw [List.length_map]; exact f5.1
  have hsz : (r5 s).2.1 ≤ s.size := f5.2.1
  have l5' : (r4 s).2.1 + (encL (rdH s).log).length ≤ (r5 s).2.1 := l5
  have l4' : (r3 s).2.1 + Bt.vlen (r4 s).1 ≤ (r4 s).2.1 := l4
  have l3' : (r2 s).2.1 + Bt.vlen (r3 s).1 ≤ (r3 s).2.1 := l3
  have l2' : (r1 s).2.1 + Bt.vlen (r2 s).1 ≤ (r2 s).2.1 := l2
  have l1' : 0 + Bt.vlen (r1 s).1 ≤ (r1 s).2.1 := l1
  have k1 : (rdH s).gen.toNat = (r1 s).1 := rfl
  have k2 : (rdH s).base.toNat = (r2 s).1 := rfl
  have k3 : (rdH s).snap.toNat = (r3 s).1 := rfl
  unfold enc
  rw [k1, k2, k3, hlen]
  simp only [List.length_append, Bt.vint_length]
  omega
theorem dec_bad {s : ByteArray} (h : (dcR s).2 ≠ 0) : (dcR s).1 = he0 := by
  unfold dcR at *
  by_cases hE : rdE s ≠ 0
  · rw [if_pos hE]
  rw [if_neg hE] at h ⊢
  cases hm : mayB (rdH s)
  · rw [if_neg (by simp)]
  · rw [hm, if_pos rfl] at h; exact absurd rfl h
end Go.Proofs.YtpcpbdcdapmlnaaDoor
namespace Go.Proofs.YtpcpbdcdapmlnaaDoor
open Go Go.RowKit
set_option maxRecDepth 100000
def lf (d : Dk) : Nat := if d.dm = true then d.left - 1 else d.left
def room (d : Dk) (t : Nat) (s : ByteArray) : Prop := s.size + d.used ≤ d.cap + (d.T t).s.size
theorem res_in (d : Dk) (t : Nat) (ht : t < 32) (g : Tp → Tp × Nat) : res d (t : Int) g = g (d.T t) := by
  unfold res; rw [if_pos ⟨by omega, by omega⟩, Int.toNat_natCast]
theorem upd_upd (T : Nat → Tp) (t : Nat) (x y : Tp) : upd (upd T t x) t y = upd T t y := by
  funext j
  by_cases e : j = t
  · subst e; rw [upd_same, upd_same]
  · rw [upd_other _ _ e, upd_other _ _ e, upd_other _ _ e]
theorem st1_eq {d : Dk} (hdn : d.dn = false) {t : Nat} (ht : t < 32) :
    st1 d t = if d.dm = true ∧ d.left = 0 then (fallen d, 45) else ({ d with T := upd d.T t t0, left := lf d }, 0) := by
  unfold st1 doD
  rw [res_in d t ht, hdn, if_neg (by simp)]
  by_cases h : d.dm = true ∧ d.left = 0
  · rw [if_pos h, if_pos h, if_neg (by simp)]
  · rw [if_neg h, if_neg h, if_neg (show ¬ (wi (d.T t)).2 ≠ 0 from fun e => e rfl)]
    rfl
theorem used_wiped (d : Dk) {t : Nat} (ht : t < 32) (n : Nat) : ({ d with T := upd d.T t t0, left := n } : Dk).used + (d.T t).s.size = d.used := by
  have := sumT_upd d.T t t0 32 ht
  unfold Dk.used
  show sumT (upd d.T t t0) 32 + (d.T t).s.size = sumT d.T 32
  have h0 : t0.s.size = 0 := rfl
  omega
theorem empty_app (s : ByteArray) : t0.s ++ s = s := by
  have : t0.s = ByteArray.empty := rfl
  rw [this, ByteArray.empty_append]
theorem wf_eq {d1 : Dk} {t : Nat} (h0 : d1.T t = t0) {s : ByteArray} (hs : s.size ≤ 1048576) : wf d1 s (d1.T t) = if d1.cap < s.size + d1.used then (t0, 44) else (⟨s, 0⟩, 0) := by
  have hw : wr t0 s = (⟨s, 0⟩, 0) := by
    unfold wr
    rw [if_neg (show ¬ 1048576 < s.size + t0.s.size by have : t0.s.size = 0 := rfl; omega), empty_app]
    rfl
  unfold wf
  rw [h0, hw]
  by_cases h : d1.cap < s.size + d1.used
  · rw [if_pos ⟨rfl, h⟩, if_pos h]
  · rw [if_neg (by simp [h]), if_neg h]
/-- The second step, on a disk whose tape was wiped. -/
theorem st2_of {d1 : Dk} (hdn : d1.dn = false) {t : Nat} (ht : t < 32) (h0 : d1.T t = t0) {s : ByteArray} (hs : s.size ≤ 1048576) :
    doD d1 t true (wf d1 s) = if d1.dm = true ∧ d1.left = 0 then (if d1.cap < s.size + d1.used then fallen d1 else { fallen d1 with T := upd d1.T t ⟨s, 0⟩ }, 45)
      else if d1.cap < s.size + d1.used then (d1, 44) else ({ d1 with T := upd d1.T t ⟨s, 0⟩, left := lf d1 }, 0) := by
  unfold doD
  rw [res_in d1 t ht, hdn, if_neg (by simp), wf_eq h0 hs]
  by_cases h : d1.dm = true ∧ d1.left = 0
  · rw [if_pos h, if_pos h]
    by_cases hr : d1.cap < s.size + d1.used
    · rw [if_pos hr, if_pos hr, if_neg (by simp)]
    · rw [if_neg hr, if_neg hr, if_pos ⟨rfl, rfl⟩]; rfl
  · rw [if_neg h, if_neg h]
    by_cases hr : d1.cap < s.size + d1.used
    · rw [if_pos hr, if_pos hr, if_pos (by simp)]
    · rw [if_neg hr, if_neg hr, if_neg (by simp)]; rfl
theorem st3_of {d2 : Dk} (hdn : d2.dn = false) {t : Nat} (ht : t < 32) {s : ByteArray} (h0 : d2.T t = ⟨s, 0⟩) :
    doD d2 t false sy = if d2.dm = true ∧ d2.left = 0 then (fallen d2, 45) else ({ d2 with T := upd d2.T t ⟨s, s.size⟩, left := lf d2 }, 0) := by
  unfold doD
  rw [res_in d2 t ht, hdn, if_neg (by simp), h0]
  by_cases h : d2.dm = true ∧ d2.left = 0
  · rw [if_pos h, if_pos h, if_neg (by simp)]
  · rw [if_neg h, if_neg h, if_neg (show ¬ (sy ⟨s, 0⟩).2 ≠ 0 from fun e => e rfl)]
    rfl
/-- What a Put's three steps leave of a disk that is up: what they tell, whether it is up, and the tape that is written. -/
structure PutSt (d : Dk) (t : Nat) (s : ByteArray) (P : Dk × Nat) : Prop where
  cap : P.1.cap = d.cap
  oth : ∀ j, j ≠ t → P.1.T j = d.T j
  how : (P.2 = 0 ∧ P.1.dn = false ∧ P.1.T t = ⟨s, s.size⟩) ∨ (P.2 = 44 ∧ P.1.dn = false ∧ P.1.T t = t0 ∧ ¬ room d t s) ∨
    (P.2 = 45 ∧ P.1.dn = true ∧ d.dm = true ∧ d.left ≤ 2 ∧ (P.1.T t = d.T t ∨ P.1.T t = t0 ∨ P.1.T t = ⟨s, 0⟩) ∧ (d.left = 2 → room d t s → P.1.T t = ⟨s, 0⟩))
  fail : d.dm = true → d.left ≤ 2 → P.2 ≠ 0
  calm : d.dm = false → room d t s → P = ({ d with T := upd d.T t ⟨s, s.size⟩ }, 0)
theorem stP_st {d : Dk} (hdn : d.dn = false) {t : Nat} (ht : t < 32) {s : ByteArray} (hs : s.size ≤ 1048576) : PutSt d t s (stP d t s) := by
  have h1 := st1_eq hdn ht
  unfold stP
  by_cases a1 : d.dm = true ∧ d.left = 0
  · rw [if_pos a1] at h1
    rw [h1, if_pos (by simp)]
    exact ⟨rfl, fun j _ => rfl, .inr (.inr ⟨rfl, rfl, a1.1, by omega, .inl rfl, fun h => by omega⟩), fun _ _ => by simp, fun h => by rw [h] at a1; simp at a1⟩
  · rw [if_neg a1] at h1
    have e1 : (st1 d t).2 = 0 := by rw [h1]
    have ed : (st1 d t).1 = { d with T := upd d.T t t0, left := lf d } := by rw [h1]
    rw [e1, if_neg (by simp)]
    have hu := used_wiped d ht (lf d)
    have hz : ((st1 d t).1).T t = t0 := by rw [ed]; exact upd_same _ _ _
    have h2 : st2 d t s = _ := st2_of (d1 := (st1 d t).1) (by rw [ed]; exact hdn) ht hz hs
    rw [ed] at h2
    have hr : (d.cap < s.size + ({ d with T := upd d.T t t0, left := lf d } : Dk).used) ↔ ¬ room d t s := by unfold room; omega
    dsimp only at h2
    by_cases a2 : d.dm = true ∧ lf d = 0
    · rw [if_pos a2] at h2
      have hl : d.left ≤ 1 := by have := a2.2; unfold lf at this; rw [a2.1, if_pos rfl] at this; omega
      rw [h2, if_pos (by simp)]
      refine ⟨?_, fun j hj => ?_, .inr (.inr ⟨rfl, ?_, a2.1, by omega, ?_, fun h => by omega⟩), fun _ _ => by simp, fun h => by rw [h] at a2; simp at a2⟩
      · split <;> rfl
      · split
        · exact upd_other _ _ hj
        · show upd (upd d.T t t0) t ⟨s, 0⟩ j = _
          rw [upd_other _ _ hj, upd_other _ _ hj]
      · split <;> rfl
      · split
        · exact .inr (.inl (upd_same _ _ _))
        · exact .inr (.inr (upd_same _ _ _))
    · rw [if_neg a2] at h2
      by_cases a3 : room d t s
      · rw [if_neg (fun h => (hr.1 h) a3)] at h2
        have e2 : (st2 d t s).2 = 0 := by rw [h2]
        have ed2 : (st2 d t s).1 = { ({ d with T := upd d.T t t0, left := lf d } : Dk) with T := upd (upd d.T t t0) t ⟨s, 0⟩, left := lf { d with T := upd d.T t t0, left := lf d } } := by rw [h2]
        rw [e2, if_neg (by simp)]
        have h3 : st3 d t s = _ := st3_of (d2 := (st2 d t s).1) (by rw [ed2]; exact hdn) ht (by rw [ed2]; exact upd_same _ _ _)
        rw [ed2] at h3
        dsimp only at h3
        by_cases a4 : d.dm = true ∧ lf { d with T := upd d.T t t0, left := lf d } = 0
        · rw [if_pos a4] at h3
          have hl : d.left ≤ 2 := by
            have h4 := a4.2
            have h5 := a4.1
            simp only [lf, h5, if_true] at h4
            omega
          rw [h3]
          refine ⟨rfl, fun j hj => ?_, .inr (.inr ⟨rfl, rfl, a4.1, hl, .inr (.inr (upd_same _ _ _)), fun _ _ => upd_same _ _ _⟩), fun _ _ => by simp, fun h => by rw [h] at a4; simp at a4⟩
          show upd (upd d.T t t0) t ⟨s, 0⟩ j = _
          rw [upd_other _ _ hj, upd_other _ _ hj]
        · rw [if_neg a4] at h3
          rw [h3]
          refine ⟨rfl, fun j hj => ?_, .inl ⟨rfl, hdn, upd_same _ _ _⟩, fun h5 h6 => absurd ⟨h5, by simp only [lf, h5, if_true]; omega⟩ a4, fun h _ => ?_⟩
          · show upd (upd (upd d.T t t0) t ⟨s, 0⟩) t ⟨s, s.size⟩ j = _
            rw [upd_other _ _ hj, upd_other _ _ hj, upd_other _ _ hj]
          · rw [upd_upd, upd_upd]
            unfold lf
            simp only [h]
            rfl
      · rw [if_pos (hr.2 a3)] at h2
        rw [h2, if_pos (by simp)]
        exact ⟨rfl, fun j hj => upd_other _ _ hj, .inr (.inl ⟨rfl, hdn, upd_same _ _ _, a3⟩), fun _ _ => by simp, fun _ h => absurd h a3⟩
end Go.Proofs.YtpcpbdcdapmlnaaDoor
namespace Go.Proofs.YtpcpbdcdapmlnaaDoor
open Go Go.RowKit
set_option maxRecDepth 100000
theorem of_facts (s : ByteArray) : ((ofB s).2 = true ∧ mayB (ofB s).1 = true) ∨ ((ofB s).2 = false ∧ (ofB s).1 = he0) := by
  unfold ofB
  by_cases h1 : Fr.er s.data.toList ≠ 0
  · rw [if_pos h1]; exact .inr ⟨rfl, rfl⟩
  rw [if_neg h1]
  by_cases h2 : (Fr.kd s.data.toList).toNat ≠ 3
  · rw [if_pos h2]; exact .inr ⟨rfl, rfl⟩
  rw [if_neg h2]
  have f1 := fun h => (dec_good (s := bs (Fr.pl s.data.toList)) h).1
  have f2 := fun h => dec_bad (s := bs (Fr.pl s.data.toList)) h
  generalize dcR (bs (Fr.pl s.data.toList)) = R at *
  by_cases h3 : R.2 = 0
  · exact .inl ⟨decide_eq_true h3, f1 h3⟩
  · exact .inr ⟨decide_eq_false h3, f2 h3⟩
theorem of_gen (s : ByteArray) : ((ofB s).1 = he0 ∧ (ofB s).1.gen = 0) ∨ 1 ≤ (ofB s).1.gen := by
  rcases of_facts s with ⟨_, h⟩ | ⟨_, h⟩
  · exact .inr (mayB_ok h).g1
  · exact .inl ⟨h, by rw [h]; rfl⟩
theorem of_empty : (ofB ⟨#[]⟩).1 = he0 := rfl
theorem of_torn {h : He} (hm : mayB h = true) {k : Nat} (hk : k < (whl h).size) : (ofB ((whl h).extract 0 k)).1 = he0 := by
  have e : ((whl h).extract 0 k).data.toList = (Fr.frm 3 (enc h)).take k := by
    rw [ext_toList]; simp only [List.drop_zero]; rfl
  have he : Fr.er ((whl h).extract 0 k).data.toList ≠ 0 := by
    rw [e]
    rw [whl_size] at hk
    exact Fr.er_part 3 (enc h) k (by have := enc_len (mayB_ok hm); omega) hk
  unfold ofB
  rw [if_pos he]
theorem cIs_iff (a b : Int) : cIs a b = true ↔ (0 < a ∨ 0 < b) := by
  unfold cIs
  rw [decide_eq_true_iff]
  split <;> omega
theorem ld_up {d : Dk} (hd : d.dn = false) : ldR d = (ldH d, ldT d, ldI d, 0) := by unfold ldR; rw [hd, if_neg (by simp)]
theorem pt_up {d : Dk} (hd : d.dn = false) : ptT d = if ldI d = true then 1 - ldT d else 0 := by
  unfold ptT nxT; rw [ld_up hd]
  dsimp only
  rw [if_neg (by simp)]
theorem load_new {d d' : Dk} (hd : d.dn = false) (hd' : d'.dn = false) (h : He) (hm : mayB h = true) (ho : ∀ j, j ≤ 1 → j ≠ ptT d → d'.T j = d.T j) (hs : (d'.T (ptT d)).s = whl h) (hg : ldI d = true → (ldH d).gen < h.gen) : ldR d' = (h, ptT d, true, 0) := by
  rw [ld_up hd']
  have hw := of_whl hm
  have h1 := (mayB_ok hm).g1
  have hp := pt_up hd
  have hi := cIs_iff (ofB (d.T 0).s).1.gen (ofB (d.T 1).s).1.gen
  cases hI : ldI d
  · rw [hI, if_neg (by simp)] at hp
    rw [hp] at ho hs
    have hn : ¬ (0 < (ofB (d.T 0).s).1.gen ∨ 0 < (ofB (d.T 1).s).1.gen) := fun e => by have := hi.2 e; rw [show cIs _ _ = ldI d from rfl, hI] at this; cases this
    unfold ldH ldT ldI
    rw [hs, hw, ho 1 (by decide) (by decide), hp]
    have hlt : ¬ h.gen < (ofB (d.T 1).s).1.gen := by omega
    have e1 : cHead h (ofB (d.T 1).s).1 = h := if_neg hlt
    have e2 : cTape h.gen (ofB (d.T 1).s).1.gen = 0 := if_neg hlt
    have e3 : cIs h.gen (ofB (d.T 1).s).1.gen = true := (cIs_iff _ _).2 (.inl (by omega))
    dsimp only
    rw [e1, e2, e3]
  · rw [hI, if_pos rfl] at hp
    have hg := hg hI
    by_cases hlt0 : (ofB (d.T 0).s).1.gen < (ofB (d.T 1).s).1.gen
    · have hT : ldT d = 1 := if_pos hlt0
      have hH : ldH d = (ofB (d.T 1).s).1 := if_pos hlt0
      rw [hH] at hg
      rw [hT] at hp
      rw [hp] at ho hs
      unfold ldH ldT ldI
      rw [hs, hw, ho 1 (by decide) (by decide), hp]
      have hlt : ¬ h.gen < (ofB (d.T 1).s).1.gen := by omega
      have e1 : cHead h (ofB (d.T 1).s).1 = h := if_neg hlt
      have e2 : cTape h.gen (ofB (d.T 1).s).1.gen = 0 := if_neg hlt
      have e3 : cIs h.gen (ofB (d.T 1).s).1.gen = true := (cIs_iff _ _).2 (.inl (by omega))
      dsimp only
      rw [e1, e2, e3]
    · have hT : ldT d = 0 := if_neg hlt0
      have hH : ldH d = (ofB (d.T 0).s).1 := if_neg hlt0
      rw [hH] at hg
      rw [hT] at hp
      rw [hp] at ho hs
      unfold ldH ldT ldI
      rw [show (1 - 0 : Nat) = 1 from rfl] at ho hs hp
      rw [hs, hw, ho 0 (by decide) (by decide), hp]
      have e1 : cHead (ofB (d.T 0).s).1 h = h := if_pos hg
      have e2 : cTape (ofB (d.T 0).s).1.gen h.gen = 1 := if_pos hg
      have e3 : cIs (ofB (d.T 0).s).1.gen h.gen = true := (cIs_iff _ _).2 (.inr (by omega))
      dsimp only
      rw [e1, e2, e3]
theorem load_old {d d' : Dk} (hd : d.dn = false) (hd' : d'.dn = false) (ho : ∀ j, j ≤ 1 → j ≠ ptT d → (d'.T j).s = (d.T j).s) (hs : (ofB (d'.T (ptT d)).s).1 = he0) : ldR d' = (ldH d, if ldI d = true then ldT d else 0, ldI d, 0) := by
  rw [ld_up hd']
  have hp := pt_up hd
  have hi := cIs_iff (ofB (d.T 0).s).1.gen (ofB (d.T 1).s).1.gen
  have g0 := of_gen (d.T 0).s
  have g1 := of_gen (d.T 1).s
  cases hI : ldI d
  · rw [hI, if_neg (by simp)] at hp
    rw [hp] at ho hs
    have hn : ¬ (0 < (ofB (d.T 0).s).1.gen ∨ 0 < (ofB (d.T 1).s).1.gen) := fun e => by have := hi.2 e; rw [show cIs _ _ = ldI d from rfl, hI] at this; cases this
    have z0 : (ofB (d.T 0).s).1 = he0 := by rcases g0 with h | h; exact h.1; omega
    have z1 : (ofB (d.T 1).s).1 = he0 := by rcases g1 with h | h; exact h.1; omega
    unfold ldH ldT ldI
    rw [hs, ho 1 (by decide) (by decide), z0, z1]
    rfl
  · rw [hI, if_pos rfl] at hp
    by_cases hlt0 : (ofB (d.T 0).s).1.gen < (ofB (d.T 1).s).1.gen
    · have hT : ldT d = 1 := if_pos hlt0
      have hH : ldH d = (ofB (d.T 1).s).1 := if_pos hlt0
      rw [hT] at hp
      rw [hp] at ho hs
      rw [hT, hH]
      unfold ldH ldT ldI
      rw [hs, ho 1 (by decide) (by decide)]
      have hlt : he0.gen < (ofB (d.T 1).s).1.gen := by show (0 : Int) < _; rcases g0 with h | h <;> omega
      have e1 : cHead he0 (ofB (d.T 1).s).1 = (ofB (d.T 1).s).1 := if_pos hlt
      have e2 : cTape he0.gen (ofB (d.T 1).s).1.gen = 1 := if_pos hlt
      have e3 : cIs he0.gen (ofB (d.T 1).s).1.gen = true := (cIs_iff _ _).2 (.inr hlt)
      rw [e1, e2, e3]; rfl
    · have hT : ldT d = 0 := if_neg hlt0
      have hH : ldH d = (ofB (d.T 0).s).1 := if_neg hlt0
      rw [hT] at hp
      rw [hp] at ho hs
      rw [hT, hH]
      unfold ldH ldT ldI
      rw [show (1 - 0 : Nat) = 1 from rfl] at ho hs
      rw [hs, ho 0 (by decide) (by decide)]
      have hpos : 0 < (ofB (d.T 0).s).1.gen := by have := hi.1 hI; omega
      have hlt : ¬ (ofB (d.T 0).s).1.gen < he0.gen := by show ¬ _ < (0 : Int); omega
      have e1 : cHead (ofB (d.T 0).s).1 he0 = (ofB (d.T 0).s).1 := if_neg hlt
      have e2 : cTape (ofB (d.T 0).s).1.gen he0.gen = 0 := if_neg hlt
      have e3 : cIs (ofB (d.T 0).s).1.gen he0.gen = true := (cIs_iff _ _).2 (.inl hpos)
      rw [e1, e2, e3]; rfl
end Go.Proofs.YtpcpbdcdapmlnaaDoor
