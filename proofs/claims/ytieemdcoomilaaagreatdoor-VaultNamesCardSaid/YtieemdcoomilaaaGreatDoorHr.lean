/- What a Put leaves, plainly; which head counts then. -/
import Derived.Test.YtieemdcoomilaaaGreatDoorWb
set_option linter.unusedVariables false
set_option linter.unusedSimpArgs false
namespace Go.Proofs.YtieemdcoomilaaaGreatDoor
open Go Go.RowKit
set_option maxRecDepth 100000
def lf (d : Dk) : Nat := if d.dm = true then d.left - 1 else d.left
def room (d : Dk) (t : Nat) (s : ByteArray) : Prop := s.size + d.used ≤ d.cap + (d.T t).s.size
theorem res_in (d : Dk) (t : Nat) (ht : t < 32) (g : Tp → Tp × Nat) : res d (t : Int) g = g (d.T t) := by
  unfold res; rw [if_pos ⟨by omega, by omega⟩, Int.toNat_natCast]
theorem upd_upd (T : Nat → Tp) (t : Nat) (x y : Tp) : upd (upd T t x) t y = upd T t y := by
  funext j
  by_cases e : j = t
  · subst e; rw [upd_same, upd_same]
  · rw [upd_other _ _ e, upd_other _ _ e, upd_other _ _ e]
theorem st1_eq {d : Dk} (hdn : d.dn = false) {t : Nat} (ht : t < 32) :
    st1 d t = if d.dm = true ∧ d.left = 0 then (fallen d, 45) else ({ d with T := upd d.T t t0, left := lf d }, 0) := by
  unfold st1 doD
  rw [res_in d t ht, hdn, if_neg (by simp)]
  by_cases h : d.dm = true ∧ d.left = 0
  · rw [if_pos h, if_pos h, if_neg (by simp)]
  · rw [if_neg h, if_neg h, if_neg (show ¬ (wi (d.T t)).2 ≠ 0 from fun e => e rfl)]
    rfl
theorem used_wiped (d : Dk) {t : Nat} (ht : t < 32) (n : Nat) : ({ d with T := upd d.T t t0, left := n } : Dk).used + (d.T t).s.size = d.used := by
  have := sumT_upd d.T t t0 32 ht
  unfold Dk.used
  show sumT (upd d.T t t0) 32 + (d.T t).s.size = sumT d.T 32
  have h0 : t0.s.size = 0 := rfl
  omega
theorem empty_app (s : ByteArray) : t0.s ++ s = s := by
  have : t0.s = ByteArray.empty := rfl
  rw [this, ByteArray.empty_append]
theorem wf_eq {d1 : Dk} {t : Nat} (h0 : d1.T t = t0) {s : ByteArray} (hs : s.size ≤ 1048576) : wf d1 s (d1.T t) = if d1.cap < s.size + d1.used then (t0, 44) else (⟨s, 0⟩, 0) := by
  have hw : wr t0 s = (⟨s, 0⟩, 0) := by
    unfold wr
    rw [if_neg (show ¬ 1048576 < s.size + t0.s.size by have : t0.s.size = 0 := rfl; omega), empty_app]
    rfl
  unfold wf
  rw [h0, hw]
  by_cases h : d1.cap < s.size + d1.used
  · rw [if_pos ⟨rfl, h⟩, if_pos h]
  · rw [if_neg (by simp [h]), if_neg h]
/-- The second step, on a disk whose tape was wiped. -/
theorem st2_of {d1 : Dk} (hdn : d1.dn = false) {t : Nat} (ht : t < 32) (h0 : d1.T t = t0) {s : ByteArray} (hs : s.size ≤ 1048576) :
    doD d1 t true (wf d1 s) = if d1.dm = true ∧ d1.left = 0 then (if d1.cap < s.size + d1.used then fallen d1 else { fallen d1 with T := upd d1.T t ⟨s, 0⟩ }, 45)
      else if d1.cap < s.size + d1.used then (d1, 44) else ({ d1 with T := upd d1.T t ⟨s, 0⟩, left := lf d1 }, 0) := by
  unfold doD
  rw [res_in d1 t ht, hdn, if_neg (by simp), wf_eq h0 hs]
  by_cases h : d1.dm = true ∧ d1.left = 0
  · rw [if_pos h, if_pos h]
    by_cases hr : d1.cap < s.size + d1.used
    · rw [if_pos hr, if_pos hr, if_neg (by simp)]
    · rw [if_neg hr, if_neg hr, if_pos ⟨rfl, rfl⟩]; rfl
  · rw [if_neg h, if_neg h]
    by_cases hr : d1.cap < s.size + d1.used
    · rw [if_pos hr, if_pos hr, if_pos (by simp)]
    · rw [if_neg hr, if_neg hr, if_neg (by simp)]; rfl
theorem st3_of {d2 : Dk} (hdn : d2.dn = false) {t : Nat} (ht : t < 32) {s : ByteArray} (h0 : d2.T t = ⟨s, 0⟩) :
    doD d2 t false sy = if d2.dm = true ∧ d2.left = 0 then (fallen d2, 45) else ({ d2 with T := upd d2.T t ⟨s, s.size⟩, left := lf d2 }, 0) := by
  unfold doD
  rw [res_in d2 t ht, hdn, if_neg (by simp), h0]
  by_cases h : d2.dm = true ∧ d2.left = 0
  · rw [if_pos h, if_pos h, if_neg (by simp)]
  · rw [if_neg h, if_neg h, if_neg (show ¬ (sy ⟨s, 0⟩).2 ≠ 0 from fun e => e rfl)]
    rfl
/-- What a Put's three steps leave of a disk that is up: what they tell, whether it is up, and the tape that is written. -/
structure PutSt (d : Dk) (t : Nat) (s : ByteArray) (P : Dk × Nat) : Prop where
  cap : P.1.cap = d.cap
  oth : ∀ j, j ≠ t → P.1.T j = d.T j
  how : (P.2 = 0 ∧ P.1.dn = false ∧ P.1.T t = ⟨s, s.size⟩) ∨ (P.2 = 44 ∧ P.1.dn = false ∧ P.1.T t = t0 ∧ ¬ room d t s) ∨
    (P.2 = 45 ∧ P.1.dn = true ∧ d.dm = true ∧ d.left ≤ 2 ∧ (P.1.T t = d.T t ∨ P.1.T t = t0 ∨ P.1.T t = ⟨s, 0⟩) ∧ (d.left = 2 → room d t s → P.1.T t = ⟨s, 0⟩))
  fail : d.dm = true → d.left ≤ 2 → P.2 ≠ 0
  calm : d.dm = false → room d t s → P = ({ d with T := upd d.T t ⟨s, s.size⟩ }, 0)
theorem stP_st {d : Dk} (hdn : d.dn = false) {t : Nat} (ht : t < 32) {s : ByteArray} (hs : s.size ≤ 1048576) : PutSt d t s (stP d t s) := by
  have h1 := st1_eq hdn ht
  unfold stP
  by_cases a1 : d.dm = true ∧ d.left = 0
  · rw [if_pos a1] at h1
    rw [h1, if_pos (by simp)]
    exact ⟨rfl, fun j _ => rfl, .inr (.inr ⟨rfl, rfl, a1.1, by omega, .inl rfl, fun h => by omega⟩), fun _ _ => by simp, fun h => by rw [h] at a1; simp at a1⟩
  · rw [if_neg a1] at h1
    have e1 : (st1 d t).2 = 0 := by rw [h1]
    have ed : (st1 d t).1 = { d with T := upd d.T t t0, left := lf d } := by rw [h1]
    rw [e1, if_neg (by simp)]
    have hu := used_wiped d ht (lf d)
    have hz : ((st1 d t).1).T t = t0 := by rw [ed]; exact upd_same _ _ _
    have h2 : st2 d t s = _ := st2_of (d1 := (st1 d t).1) (by rw [ed]; exact hdn) ht hz hs
    rw [ed] at h2
    have hr : (d.cap < s.size + ({ d with T := upd d.T t t0, left := lf d } : Dk).used) ↔ ¬ room d t s := by unfold room; omega
    dsimp only at h2
    by_cases a2 : d.dm = true ∧ lf d = 0
    · rw [if_pos a2] at h2
      have hl : d.left ≤ 1 := by have := a2.2; unfold lf at this; rw [a2.1, if_pos rfl] at this; omega
      rw [h2, if_pos (by simp)]
      refine ⟨?_, fun j hj => ?_, .inr (.inr ⟨rfl, ?_, a2.1, by omega, ?_, fun h => by omega⟩), fun _ _ => by simp, fun h => by rw [h] at a2; simp at a2⟩
      · split <;> rfl
      · split
        · exact upd_other _ _ hj
        · show upd (upd d.T t t0) t ⟨s, 0⟩ j = _
          rw [upd_other _ _ hj, upd_other _ _ hj]
      · split <;> rfl
      · split
        · exact .inr (.inl (upd_same _ _ _))
        · exact .inr (.inr (upd_same _ _ _))
    · rw [if_neg a2] at h2
      by_cases a3 : room d t s
      · rw [if_neg (fun h => (hr.1 h) a3)] at h2
        have e2 : (st2 d t s).2 = 0 := by rw [h2]
        have ed2 : (st2 d t s).1 = { ({ d with T := upd d.T t t0, left := lf d } : Dk) with T := upd (upd d.T t t0) t ⟨s, 0⟩, left := lf { d with T := upd d.T t t0, left := lf d } } := by rw [h2]
        rw [e2, if_neg (by simp)]
        have h3 : st3 d t s = _ := st3_of (d2 := (st2 d t s).1) (by rw [ed2]; exact hdn) ht (by rw [ed2]; exact upd_same _ _ _)
        rw [ed2] at h3
        dsimp only at h3
        by_cases a4 : d.dm = true ∧ lf { d with T := upd d.T t t0, left := lf d } = 0
        · rw [if_pos a4] at h3
          have hl : d.left ≤ 2 := by
            have h4 := a4.2
            have h5 := a4.1
            simp only [lf, h5, if_true] at h4
            omega
          rw [h3]
          refine ⟨rfl, fun j hj => ?_, .inr (.inr ⟨rfl, rfl, a4.1, hl, .inr (.inr (upd_same _ _ _)), fun _ _ => upd_same _ _ _⟩), fun _ _ => by simp, fun h => by rw [h] at a4; simp at a4⟩
          show upd (upd d.T t t0) t ⟨s, 0⟩ j = _
          rw [upd_other _ _ hj, upd_other _ _ hj]
        · rw [if_neg a4] at h3
          rw [h3]
          refine ⟨rfl, fun j hj => ?_, .inl ⟨rfl, hdn, upd_same _ _ _⟩, fun h5 h6 => absurd ⟨h5, by simp only [lf, h5, if_true]; omega⟩ a4, fun h _ => ?_⟩
          · show upd (upd (upd d.T t t0) t ⟨s, 0⟩) t ⟨s, s.size⟩ j = _
            rw [upd_other _ _ hj, upd_other _ _ hj, upd_other _ _ hj]
          · rw [upd_upd, upd_upd]
            unfold lf
            simp only [h]
            rfl
      · rw [if_pos (hr.2 a3)] at h2
        rw [h2, if_pos (by simp)]
        exact ⟨rfl, fun j hj => upd_other _ _ hj, .inr (.inl ⟨rfl, hdn, upd_same _ _ _, a3⟩), fun _ _ => by simp, fun _ h => absurd h a3⟩
end Go.Proofs.YtieemdcoomilaaaGreatDoor
namespace Go.Proofs.YtieemdcoomilaaaGreatDoor
open Go Go.RowKit
set_option maxRecDepth 100000
theorem of_facts (s : ByteArray) : ((ofB s).2 = true ∧ mayB (ofB s).1 = true) ∨ ((ofB s).2 = false ∧ (ofB s).1 = he0) := by
  unfold ofB
  by_cases h1 : Fr.er s.data.toList ≠ 0
  · rw [if_pos h1]; exact .inr ⟨rfl, rfl⟩
  rw [if_neg h1]
  by_cases h2 : (Fr.kd s.data.toList).toNat ≠ 3
  · rw [if_pos h2]; exact .inr ⟨rfl, rfl⟩
  rw [if_neg h2]
  have f1 := fun h => (dec_good (s := bs (Fr.pl s.data.toList)) h).1
  have f2 := fun h => dec_bad (s := bs (Fr.pl s.data.toList)) h
  generalize dcR (bs (Fr.pl s.data.toList)) = R at *
  by_cases h3 : R.2 = 0
  · exact .inl ⟨decide_eq_true h3, f1 h3⟩
  · exact .inr ⟨decide_eq_false h3, f2 h3⟩
theorem of_gen (s : ByteArray) : ((ofB s).1 = he0 ∧ (ofB s).1.gen = 0) ∨ 1 ≤ (ofB s).1.gen := by
  rcases of_facts s with ⟨_, h⟩ | ⟨_, h⟩
  · exact .inr (mayB_ok h).g1
  · exact .inl ⟨h, by rw [h]; rfl⟩
theorem of_empty : (ofB ⟨#[]⟩).1 = he0 := rfl
theorem of_torn {h : He} (hm : mayB h = true) {k : Nat} (hk : k < (whl h).size) : (ofB ((whl h).extract 0 k)).1 = he0 := by
  have e : ((whl h).extract 0 k).data.toList = (Fr.frm 3 (enc h)).take k := by
    rw [ext_toList]; simp only [List.drop_zero]; rfl
  have he : Fr.er ((whl h).extract 0 k).data.toList ≠ 0 := by
    rw [e]
    rw [whl_size] at hk
    exact Fr.er_part 3 (enc h) k (by have := enc_len (mayB_ok hm); omega) hk
  unfold ofB
  rw [if_pos he]
theorem cIs_iff (a b : Int) : cIs a b = true ↔ (0 < a ∨ 0 < b) := by
  unfold cIs
  rw [decide_eq_true_iff]
  split <;> omega
theorem ld_up {d : Dk} (hd : d.dn = false) : ldR d = (ldH d, ldT d, ldI d, 0) := by unfold ldR; rw [hd, if_neg (by simp)]
theorem pt_up {d : Dk} (hd : d.dn = false) : ptT d = if ldI d = true then 1 - ldT d else 0 := by
  unfold ptT nxT; rw [ld_up hd]
  dsimp only
  rw [if_neg (by simp)]
theorem load_new {d d' : Dk} (hd : d.dn = false) (hd' : d'.dn = false) (h : He) (hm : mayB h = true) (ho : ∀ j, j ≤ 1 → j ≠ ptT d → d'.T j = d.T j) (hs : (d'.T (ptT d)).s = whl h) (hg : ldI d = true → (ldH d).gen < h.gen) : ldR d' = (h, ptT d, true, 0) := by
  rw [ld_up hd']
  have hw := of_whl hm
  have h1 := (mayB_ok hm).g1
  have hp := pt_up hd
  have hi := cIs_iff (ofB (d.T 0).s).1.gen (ofB (d.T 1).s).1.gen
  cases hI : ldI d
  · rw [hI, if_neg (by simp)] at hp
    rw [hp] at ho hs
    have hn : ¬ (0 < (ofB (d.T 0).s).1.gen ∨ 0 < (ofB (d.T 1).s).1.gen) := fun e => by have := hi.2 e; rw [show cIs _ _ = ldI d from rfl, hI] at this; cases this
    unfold ldH ldT ldI
    rw [hs, hw, ho 1 (by decide) (by decide), hp]
    have hlt : ¬ h.gen < (ofB (d.T 1).s).1.gen := by omega
    have e1 : cHead h (ofB (d.T 1).s).1 = h := if_neg hlt
    have e2 : cTape h.gen (ofB (d.T 1).s).1.gen = 0 := if_neg hlt
    have e3 : cIs h.gen (ofB (d.T 1).s).1.gen = true := (cIs_iff _ _).2 (.inl (by omega))
    dsimp only
    rw [e1, e2, e3]
  · rw [hI, if_pos rfl] at hp
    have hg := hg hI
    by_cases hlt0 : (ofB (d.T 0).s).1.gen < (ofB (d.T 1).s).1.gen
    · have hT : ldT d = 1 := if_pos hlt0
      have hH : ldH d = (ofB (d.T 1).s).1 := if_pos hlt0
      rw [hH] at hg
      rw [hT] at hp
      rw [hp] at ho hs
      unfold ldH ldT ldI
      rw [hs, hw, ho 1 (by decide) (by decide), hp]
      have hlt : ¬ h.gen < (ofB (d.T 1).s).1.gen := by omega
      have e1 : cHead h (ofB (d.T 1).s).1 = h := if_neg hlt
      have e2 : cTape h.gen (ofB (d.T 1).s).1.gen = 0 := if_neg hlt
      have e3 : cIs h.gen (ofB (d.T 1).s).1.gen = true := (cIs_iff _ _).2 (.inl (by omega))
      dsimp only
      rw [e1, e2, e3]
    · have hT : ldT d = 0 := if_neg hlt0
      have hH : ldH d = (ofB (d.T 0).s).1 := if_neg hlt0
      rw [hH] at hg
      rw [hT] at hp
      rw [hp] at ho hs
      unfold ldH ldT ldI
      rw [show (1 - 0 : Nat) = 1 from rfl] at ho hs hp
      rw [hs, hw, ho 0 (by decide) (by decide), hp]
      have e1 : cHead (ofB (d.T 0).s).1 h = h := if_pos hg
      have e2 : cTape (ofB (d.T 0).s).1.gen h.gen = 1 := if_pos hg
      have e3 : cIs (ofB (d.T 0).s).1.gen h.gen = true := (cIs_iff _ _).2 (.inr (by omega))
      dsimp only
      rw [e1, e2, e3]
theorem load_old {d d' : Dk} (hd : d.dn = false) (hd' : d'.dn = false) (ho : ∀ j, j ≤ 1 → j ≠ ptT d → (d'.T j).s = (d.T j).s) (hs : (ofB (d'.T (ptT d)).s).1 = he0) : ldR d' = (ldH d, if ldI d = true then ldT d else 0, ldI d, 0) := by
  rw [ld_up hd']
  have hp := pt_up hd
  have hi := cIs_iff (ofB (d.T 0).s).1.gen (ofB (d.T 1).s).1.gen
  have g0 := of_gen (d.T 0).s
  have g1 := of_gen (d.T 1).s
  cases hI : ldI d
  · rw [hI, if_neg (by simp)] at hp
    rw [hp] at ho hs
    have hn : ¬ (0 < (ofB (d.T 0).s).1.gen ∨ 0 < (ofB (d.T 1).s).1.gen) := fun e => by have := hi.2 e; rw [show cIs _ _ = ldI d from rfl, hI] at this; cases this
    have z0 : (ofB (d.T 0).s).1 = he0 := by rcases g0 with h | h; exact h.1; omega
    have z1 : (ofB (d.T 1).s).1 = he0 := by rcases g1 with h | h; exact h.1; omega
    unfold ldH ldT ldI
    rw [hs, ho 1 (by decide) (by decide), z0, z1]
    rfl
  · rw [hI, if_pos rfl] at hp
    by_cases hlt0 : (ofB (d.T 0).s).1.gen < (ofB (d.T 1).s).1.gen
    · have hT : ldT d = 1 := if_pos hlt0
      have hH : ldH d = (ofB (d.T 1).s).1 := if_pos hlt0
      rw [hT] at hp
      rw [hp] at ho hs
      rw [hT, hH]
      unfold ldH ldT ldI
      rw [hs, ho 1 (by decide) (by decide)]
      have hlt : he0.gen < (ofB (d.T 1).s).1.gen := by show (0 : Int) < _; rcases g0 with h | h <;> omega
      have e1 : cHead he0 (ofB (d.T 1).s).1 = (ofB (d.T 1).s).1 := if_pos hlt
      have e2 : cTape he0.gen (ofB (d.T 1).s).1.gen = 1 := if_pos hlt
      have e3 : cIs he0.gen (ofB (d.T 1).s).1.gen = true := (cIs_iff _ _).2 (.inr hlt)
      rw [e1, e2, e3]; rfl
    · have hT : ldT d = 0 := if_neg hlt0
      have hH : ldH d = (ofB (d.T 0).s).1 := if_neg hlt0
      rw [hT] at hp
      rw [hp] at ho hs
      rw [hT, hH]
      unfold ldH ldT ldI
      rw [show (1 - 0 : Nat) = 1 from rfl] at ho hs
      rw [hs, ho 0 (by decide) (by decide)]
      have hpos : 0 < (ofB (d.T 0).s).1.gen := by have := hi.1 hI; omega
      have hlt : ¬ (ofB (d.T 0).s).1.gen < he0.gen := by show ¬ _ < (0 : Int); omega
      have e1 : cHead (ofB (d.T 0).s).1 he0 = (ofB (d.T 0).s).1 := if_neg hlt
      have e2 : cTape (ofB (d.T 0).s).1.gen he0.gen = 0 := if_neg hlt
      have e3 : cIs (ofB (d.T 0).s).1.gen he0.gen = true := (cIs_iff _ _).2 (.inl hpos)
      rw [e1, e2, e3]; rfl
end Go.Proofs.YtieemdcoomilaaaGreatDoor
namespace Go.Proofs.YtieemdcoomilaaaGreatDoor
open Go Go.RowKit
set_option maxRecDepth 100000
def hA (n : Int) : He := ⟨n, 0, 0, [2]⟩
theorem may_A (n : Int) (h1 : 1 ≤ n) (h2 : n ≤ 1000) : mayB (hA n) = true := by
  unfold mayB hA gtop
  dsimp only
  rw [if_neg (by omega), if_neg (by omega), if_neg (by decide), if_neg (by decide), if_neg (by simp), if_pos rfl, if_neg (by simp)]
  decide
theorem enc_A (n : Nat) (h : n < 128) : enc (hA n) = [UInt8.ofNat n, 0, 0, 1, 2] := by
  unfold enc hA
  dsimp only
  rw [Int.toNat_natCast, Bt.vint_small h]
  show _ ++ (Bt.vint 0 ++ (Bt.vint 0 ++ (Bt.vint 1 ++ (Bt.vint 2 ++ [])))) = _
  rw [Bt.vint_small (n := 0) (by decide), Bt.vint_small (n := 1) (by decide), Bt.vint_small (n := 2) (by decide)]
  rfl
theorem size_A (n : Nat) (h : n < 128) : (whl (hA n)).size = 14 := by rw [whl_size, enc_A n h]; rfl
theorem used_upd (d : Dk) {t : Nat} (ht : t < 32) (x : Tp) : ({ d with T := upd d.T t x } : Dk).used + (d.T t).s.size = d.used + x.s.size := sumT_upd d.T t x 32 ht
/-- A Put on a calm disk with room. -/
theorem put_calm {d : Dk} (hdn : d.dn = false) (hdm : d.dm = false) {h : He} (hm : mayB h = true) (hr : room d (ptT d) (whl h)) : putR d h = ({ d with T := upd d.T (ptT d) ⟨whl h, (whl h).size⟩ }, 0) := by
  have hz : (whl h).size ≤ 1048576 := by rw [whl_size]; have := enc_len (mayB_ok hm); omega
  have hs := stP_st hdn (show ptT d < 32 by have := ptT_le d; omega) hz
  unfold putR
  rw [hm, if_pos rfl, ld_up hdn, if_neg (by simp)]
  exact hs.calm hdm hr
theorem made0_T (c i : Nat) : (made0 c []).T i = t0 := rfl
theorem made0_used (c : Nat) : (made0 c []).used = 0 := by
  have : ∀ n, sumT (made0 c []).T n = 0 := fun n => by
    induction n with
    | zero => rfl
    | succ n ih => show sumT _ n + _ = 0; rw [ih]; rfl
  exact this 32
/-- The n-th disk of the example. -/
def aD (k : Nat) (n : Int) (d : Dk) : Dk := { d with T := upd d.T k ⟨whl (hA n), 14⟩ }
structure St (d : Dk) (n : Int) (t u : Nat) : Prop where
  dn : d.dn = false
  dm : d.dm = false
  cap : d.cap = 100
  us : d.used ≤ u
  ld : ldR d = (hA n, t, true, 0)
  T : d.T t = ⟨whl (hA n), 14⟩
theorem St.next {d : Dk} {n t u : Nat} (h : St d n t u) (hu : u ≤ 80) (ht : t ≤ 1) (h1 : 1 ≤ n) (h2 : n ≤ 100) : putR d (hA (n + 1 : Nat)) = (aD (1 - t) (n + 1 : Nat) d, 0) ∧ St (aD (1 - t) (n + 1 : Nat) d) (n + 1 : Nat) (1 - t) (u + 14) ∧ ∀ j, j ≠ 1 - t → (aD (1 - t) (n + 1 : Nat) d).T j = d.T j := by
  have hI : ldI d = true := by have := ld_up h.dn; rw [h.ld] at this; exact (congrArg (fun x => x.2.2.1) this).symm
  have hT : ldT d = t := by have := ld_up h.dn; rw [h.ld] at this; exact (congrArg (fun x => x.2.1) this).symm
  have hH : ldH d = hA n := by have := ld_up h.dn; rw [h.ld] at this; exact (congrArg (fun x => x.1) this).symm
  have hp : ptT d = 1 - t := by rw [pt_up h.dn, hI, if_pos rfl, hT]
  have hz := size_A (n + 1) (by omega)
  have hm := may_A (n + 1 : Nat) (by omega) (by omega)
  have h3 := put_calm h.dn h.dm hm (by unfold room; rw [hz, h.cap]; have := h.us; omega)
  rw [hz, hp] at h3
  refine ⟨h3, ⟨h.dn, h.dm, h.cap, ?_, ?_, upd_same _ _ _⟩, fun j hj => upd_other _ _ hj⟩
  · have := used_upd d (show 1 - t < 32 by omega) ⟨whl (hA (n + 1 : Nat)), 14⟩
    have := h.us
    dsimp only at *
    unfold aD
    omega
  · have := load_new (d' := aD (1 - t) (n + 1 : Nat) d) h.dn h.dn (hA (n + 1 : Nat)) hm (fun j _ hj => upd_other _ _ (by rw [← hp]; exact hj)) (by rw [hp]; show (upd _ _ _ _).s = _; rw [upd_same]) (fun _ => by rw [hH]; show (n : Int) < ((n + 1 : Nat) : Int); omega)
    rw [hp] at this
    exact this
def D0 : Dk := made0 100 []
theorem ld0 : ldR D0 = (he0, 0, false, 0) := rfl
theorem st_1 : putR D0 (hA 1) = (aD 0 1 D0, 0) ∧ St (aD 0 1 D0) 1 0 14 := by
  have hp : ptT D0 = 0 := rfl
  have hz : (whl (hA 1)).size = 14 := size_A 1 (by omega)
  have hm := may_A 1 (by omega) (by omega)
  have hu : D0.used = 0 := made0_used 100
  have h3 := put_calm (d := D0) rfl rfl hm (by unfold room; rw [hz, hu]; show 14 + 0 ≤ 100 + _; omega)
  rw [hz, hp] at h3
  refine ⟨h3, ⟨rfl, rfl, rfl, ?_, ?_, upd_same D0.T 0 ⟨whl (hA 1), 14⟩⟩⟩
  · have := used_upd D0 (show 0 < 32 by omega) ⟨whl (hA 1), 14⟩
    rw [hu] at this
    dsimp only at *
    unfold aD
    omega
  · have := load_new (d' := aD 0 1 D0) (d := D0) rfl rfl (hA 1) hm (fun j _ hj => upd_other _ _ (by rw [← hp]; exact hj)) (by rw [hp]; show (upd _ _ _ _).s = _; rw [upd_same]) (fun h => by cases h)
    rw [hp] at this
    exact this
def D1 : Dk := aD 0 1 D0
def D2 : Dk := aD 1 2 D1
def D3 : Dk := aD 0 3 D2
def D4 : Dk := (failD D3 2).1
def D5 : Dk := (putR D4 (hA 4)).1
def D6 : Dk := backD D5 [13]
theorem st_2 : putR D1 (hA 2) = (D2, 0) ∧ St D2 2 1 28 := by have := st_1.2.next (n := 1) (by omega) (by omega) (by omega) (by omega); exact ⟨this.1, this.2.1⟩
theorem st_3 : putR D2 (hA 3) = (D3, 0) ∧ St D3 3 0 42 := by have := st_2.2.next (n := 2) (by omega) (by omega) (by omega) (by omega); exact ⟨this.1, this.2.1⟩
theorem bkT_keep (T : Nat → Tp) (ks : List Int) (i : Nat) : ∀ k, i < k → (bkT T ks (k + 1)).1 i = (bkT T ks k).1 i := fun k h => by
  by_cases hz : (T k).s.size - (T k).f = 0
  · have e : bkT T ks (k + 1) = bkT T ks k := if_pos hz
    rw [e]
  · have e : (bkT T ks (k + 1)).1 = upd (bkT T ks k).1 k (bk ((bkT T ks k).2.headD 0) (T k)) := by
      show (if (T k).s.size - (T k).f = 0 then _ else _ : (Nat → Tp) × List Int).1 = _
      rw [if_neg hz]
    rw [e, upd_other _ _ (by omega)]
theorem bkT_keeps (T : Nat → Tp) (ks : List Int) (i : Nat) : ∀ n k, i < k → (bkT T ks (k + n)).1 i = (bkT T ks k).1 i
  | 0, k, _ => rfl
  | n + 1, k, h => by rw [← Nat.add_assoc, bkT_keep T ks i (k + n) (by omega), bkT_keeps T ks i n k h]
theorem st_4 : failD D3 2 = (D4, 0) ∧ D4.dn = false ∧ D4.dm = true ∧ D4.left = 2 ∧ D4.T = D3.T ∧ D4.cap = 100 := by
  have h := st_3.2.dn
  have hc := st_3.2.cap
  have e : failD D3 2 = ({ D3 with dm := true, left := 2 }, 0) := by unfold failD; rw [h, if_neg (by simp), if_neg (by decide)]; rfl
  have e2 : D4 = { D3 with dm := true, left := 2 } := by unfold D4; rw [e]
  refine ⟨by rw [e2]; exact e, by rw [e2]; exact h, by rw [e2], by rw [e2], by rw [e2], by rw [e2]; exact hc⟩
theorem ldR_T {d d' : Dk} (h : d.dn = false) (h' : d'.dn = false) (e : d'.T = d.T) : ldR d' = ldR d := by
  rw [ld_up h, ld_up h']; unfold ldH ldT ldI; rw [e]
theorem st_5 : (putR D4 (hA 4)).2 = 45 ∧ ldR D6 = (hA 3, 0, true, 0) := by
  obtain ⟨-, h2, h3, h4, h5, h6⟩ := st_4
  have s3 := st_3.2
  have hl : ldR D4 = (hA 3, 0, true, 0) := by rw [ldR_T s3.dn h2 h5, s3.ld]
  have hI : ldI D4 = true := by have := ld_up h2; rw [hl] at this; exact (congrArg (fun x => x.2.2.1) this).symm
  have hT : ldT D4 = 0 := by have := ld_up h2; rw [hl] at this; exact (congrArg (fun x => x.2.1) this).symm
  have hH : ldH D4 = hA 3 := by have := ld_up h2; rw [hl] at this; exact (congrArg (fun x => x.1) this).symm
  have hp : ptT D4 = 1 := by rw [pt_up h2, hI, if_pos rfl, hT]
  have hz : (whl (hA 4)).size = 14 := size_A 4 (by omega)
  have hm := may_A 4 (by omega) (by omega)
  have hP : putR D4 (hA 4) = stP D4 1 (whl (hA 4)) := by unfold putR; rw [hm, if_pos rfl, hl, if_neg (by simp), hp]
  have hs := stP_st h2 (show 1 < 32 by omega) (s := whl (hA 4)) (by omega)
  rw [← hP] at hs
  have hu : D4.used ≤ 42 := by have := s3.us; unfold Dk.used at *; rw [h5]; exact this
  have hr : room D4 1 (whl (hA 4)) := by unfold room; rw [hz, h6]; omega
  rcases hs.how with h | h | h
  · exact absurd h.1 (hs.fail h3 (by omega))
  · exact absurd hr h.2.2.2
  · obtain ⟨k1, k2, -, -, -, k3⟩ := h
    have hT1 := k3 h4 hr
    refine ⟨k1, ?_⟩
    have hT0 : D5.T 0 = ⟨whl (hA 3), 14⟩ := (hs.oth 0 (by decide)).trans (by rw [h5]; exact s3.T)
    have hz3 : (whl (hA 3)).size = 14 := size_A 3 (by omega)
    have hD5 : D5.T 1 = ⟨whl (hA 4), 0⟩ := hT1
    have b0 : bkT D5.T [13] 1 = (D5.T, [13]) := if_pos (by rw [hT0]; show (whl (hA 3)).size - 14 = 0; omega)
    have b1 : bkT D5.T [13] 2 = (upd D5.T 1 (bk 13 (D5.T 1)), []) := by
      show (if (D5.T 1).s.size - (D5.T 1).f = 0 then _ else _ : (Nat → Tp) × List Int) = _
      rw [if_neg (by rw [hD5]; show ¬ ((whl (hA 4)).size - 0 = 0); omega), b0]
      rfl
    have t1 : D6.T 1 = bk 13 (D5.T 1) := by
      show (bkT D5.T [13] 32).1 1 = _
      rw [bkT_keeps D5.T [13] 1 30 2 (by omega), b1]
      exact upd_same D5.T 1 _
    have t0' : D6.T 0 = D5.T 0 := by
      show (bkT D5.T [13] 32).1 0 = _
      rw [bkT_keeps D5.T [13] 0 30 2 (by omega), b1]
      exact upd_other D5.T (i := 1) (j := 0) (bk 13 (D5.T 1)) (by decide)
    have hb : (D6.T 1).s = (whl (hA 4)).extract 0 13 := by
      rw [t1, hD5]
      show (whl (hA 4)).extract 0 (0 + (IntKind.u64.wrap 13).toNat % ((whl (hA 4)).size - 0 + 1)) = _
      rw [hz]; rfl
    have := load_old (d := D4) (d' := D6) h2 rfl (fun j hj1 hj => ?_) (by rw [hp, hb]; exact of_torn hm (by omega))
    · rw [hI, if_pos rfl, hH, hT] at this
      exact this
    · obtain rfl : j = 0 := by omega
      rw [t0', hT0, h5, s3.T]
end Go.Proofs.YtieemdcoomilaaaGreatDoor
namespace Go.Proofs.YtieemdcoomilaaaGreatDoor
open Go Go.RowKit
set_option maxRecDepth 100000
theorem loadE_nil (c : Nat) : loadE (c : Int) [] = 0 := by
  unfold loadE
  rw [if_neg (by simp), if_neg (by simp), Int.toNat_natCast, if_neg (by rw [made0_used]; omega)]
theorem wf_nat {c : Nat} (hc : c ≤ 1000000000) : (Lit.int .i64 (c : Int)).wf = true := by
  have h1 : IntKind.i64.min = -9223372036854775808 := by decide
  have h2 : IntKind.i64.max = 9223372036854775807 := by decide
  show (decide (IntKind.i64.min ≤ (c : Int)) && decide ((c : Int) ≤ IntKind.i64.max)) = true
  rw [h1, h2, decide_eq_true (by omega), decide_eq_true (by omega)]
  rfl
set_option maxHeartbeats 400000 in
theorem dnew_any (c : Nat) (hc : c ≤ 1000000000) (w : World) : Calls Tryz.prog 52 #[.int .i64 (c : Int)] w fun e w' => ∃ B, w.heap.size ≤ B ∧ e = .returned (.tuple #[.pointer (some ⟨B, 0, none⟩), .int .i64 0]) ∧ DAt w' B (made0 c []) ∧ (made0 c []).ok ∧ Below w.heap.size w w' := by
  have H := Lib.hid (load_any (c : Int) [] (.slice none 0 0) w (At2.nil w) (wf_nat hc) (by simp) (fun q hq => by cases hq))
  go_enter Tryz.func52, Tryz.ntmps52
  go_wp2_with fail
  refine H.out.mono ?_
  rintro e w1 ⟨hb, ⟨h0, -⟩ | ⟨-, c', hc', hok, B, hB, rfl, hd⟩⟩
  · exact absurd (loadE_nil c) h0
  · obtain rfl : c = c' := by omega
    have HB := Lib.hid hb
    have HD := Lib.hid hd
    clear hb hd
    go_wp2
    go_ret2
    exact ⟨B, hB, rfl, HD.out, hok, HB.out⟩
end Go.Proofs.YtieemdcoomilaaaGreatDoor
namespace Go.Proofs.YtieemdcoomilaaaGreatDoor
open Go Go.RowKit
set_option maxRecDepth 100000
/-- How it lies in the example: the log, the head, of generation n. -/
structure Ax (w W : World) (n : Int) : Prop where
  S : W.heap[w.heap.size]? = some (.cells #[.int .i64 2] 3 (0, 0))
  X : Box4 W (w.heap.size + 1) (.int .i64 n) (.int .i64 0) (.int .i64 0) (.slice (some ⟨w.heap.size, 0, none⟩) 1 1)
  B : Below w.heap.size w W
theorem Ax.kat {w W : World} {n : Int} (h : Ax w W n) : KAt W (.slice (some ⟨w.heap.size, 0, none⟩) 1 1) [2] :=
  .inr ⟨w.heap.size, 0, 1, rfl, Nat.le_refl _, fun j hj => by
    obtain rfl : j = 0 := by simpa using hj
    simp [World.cell?, h.S]⟩
theorem Ax.grown {w W W' : World} {n : Int} (h : Ax w W n) {r : Option Nat} (hg : W.grownBy W' r) (hr : ∀ k, r = some k → w.heap.size + 2 ≤ k) : Ax w W' n :=
  ⟨(hg.block _ (Array.getElem?_eq_some_iff.1 h.S).1 (fun e => by have := hr _ e.symm; omega)).trans h.S, h.X.kept hg (fun e => by have := hr _ e.symm; omega), h.B.grown hg h.B.size (fun k hk => by have := hr k hk; omega)⟩
theorem Ax.belowAll {w W W' : World} {n : Int} (h : Ax w W n) (hb : Below W.heap.size W W') : Ax w W' n := h.grown (r := none) (grown_below hb none) (fun k hk => by cases hk)
theorem Ax.gen {w W : World} {n m : Int} (h : Ax w W n) : Ax w (W.setCell ⟨w.heap.size + 1, 0, none⟩ (.int .i64 m)) m :=
  ⟨(Below.heap_setCell _ _ _ _ (by simp)).trans h.S, h.X.set0 _, below_setD h.B (by omega) _ _⟩
theorem enc_1 : encR (hA 1) = (⟨#[1, 0, 0, 1, 2]⟩, 0) := by unfold encR; rw [may_A 1 (by omega) (by omega), if_pos rfl, show hA 1 = hA ((1 : Nat) : Int) from rfl, enc_A 1 (by omega)]; rfl
theorem siz_1 : sizR (hA 1) = 14 := by unfold sizR; rw [may_A 1 (by omega) (by omega), if_pos rfl, show hA 1 = hA ((1 : Nat) : Int) from rfl, enc_A 1 (by omega)]; rfl
def lg1 (w : World) : Value := .slice (some ⟨w.heap.size, 0, none⟩) 1 1
theorem hval_A (n : Int) (v : Value) : hval (hA n) v = .agg #[.int .i64 n, .int .i64 0, .int .i64 0, v] := rfl
theorem ok_1 (h : D0.ok) : D1.ok := by have := putR_ok h (hA 1); rw [st_1.1] at this; exact this
theorem ok_2 (h : D0.ok) : D2.ok := by have := putR_ok (ok_1 h) (hA 2); rw [st_2.1] at this; exact this
theorem ok_3 (h : D0.ok) : D3.ok := by have := putR_ok (ok_2 h) (hA 3); rw [st_3.1] at this; exact this
theorem ok_4 (h : D0.ok) : D4.ok := failD_ok (ok_3 h) 2 (by omega)
theorem ok_5 (h : D0.ok) : D5.ok := putR_ok (ok_4 h) _
theorem put_A (w : World) (hT : Hid (Tab w)) (n : Int) (d d' : Dk) (r : Nat) (hd : d.ok) (hp : putR d (hA n) = (d', r)) (W : World) (h : Ax w W n) (B : Nat) (hB : DAt W B d) : Calls Tryz.prog 102 #[.pointer (some ⟨B, 0, none⟩), .agg #[.int .i64 n, .int .i64 0, .int .i64 0, .slice (some ⟨w.heap.size, 0, none⟩) 1 1]] W (DRet W B (.int .i64 (r : Int)) d') := by
  have := put_any B d (hA n) (.slice (some ⟨w.heap.size, 0, none⟩) 1 1) W hB hd h.kat (by show (1 : Nat) ≤ _; omega) (Lib.hid (hT.out.below h.B))
  rw [hp] at this
  exact this
theorem Ax.disk {w W W' : World} {n : Int} (h : Ax w W n) {B : Nat} (hg : W.grownBy W' (some B)) (hB : w.heap.size + 2 ≤ B) : Ax w W' n := h.grown hg (fun k hk => by cases hk; exact hB)
end Go.Proofs.YtieemdcoomilaaaGreatDoor
