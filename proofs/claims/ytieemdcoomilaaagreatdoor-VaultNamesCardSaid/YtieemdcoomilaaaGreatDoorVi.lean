/- The vault, plainly: whatever stands on a calm disk, what is opened is firm, and opened again the same. Nothing of the program. -/
import Derived.Test.YtieemdcoomilaaaGreatDoorVh
set_option linter.unusedVariables false
set_option linter.unusedSimpArgs false
namespace Go.Proofs.YtieemdcoomilaaaGreatDoor.Vt
open Go Go.RowKit
set_option maxRecDepth 100000
theorem one2_some {l : List UInt8} {s : ByteArray} (h : one2 l = some s) : l = Fr.frm 2 s.data.toList ∧ s.size ≤ 262144 := by
  unfold one2 at h
  by_cases c : Fr.er l = 0 ∧ Fr.kd l = 2 ∧ 9 + Fr.ln l = l.length
  · rw [if_pos c] at h
    obtain ⟨c1, c2, c3⟩ := c
    have hg := Fr.er_good.1 c1
    obtain rfl : bs (Fr.pl l) = s := by simpa using h
    have e := Fr.good_split hg
    rw [c2, c3, List.drop_length, List.append_nil] at e
    refine ⟨by rw [bs_data]; exact e, ?_⟩
    rw [bs_size, Fr.pl_length hg]
    exact hg.most
  · rw [if_neg c] at h; cases h
/-- Frames that are all records. -/
theorem fs_rec {l : List UInt8} (h : (fs l).all (fun x => x.1 == 1) = true) : small ((fs l).map fun x => bs x.2) ∧ Fr.row (fs l) = rb ((fs l).map fun x => bs x.2) := by
  obtain ⟨t, h1, h2, h3, h4⟩ := fs_split l
  refine ⟨fun r hr => ?_, ?_⟩
  · obtain ⟨x, hx, rfl⟩ := List.mem_map.1 hr
    rw [bs_size]
    exact (h4 x hx).2
  · unfold rb rw1
    rw [List.map_map]
    have : (fs l).map ((fun r : ByteArray => ((1 : UInt8), r.data.toList)) ∘ fun x : Fr1 => bs x.2) = fs l := by
      conv => rhs; rw [← List.map_id (fs l)]
      refine List.map_congr_left fun x hx => ?_
      have hk : x.1 = 1 := by have := List.all_eq_true.1 h x hx; simpa using this
      show (1, (bs x.2).data.toList) = x
      rw [bs_data, ← hk]
    rw [this]
/-- The log's tapes, whether they are firm or not. -/
inductive Lw (T : Nat → Tp) : List Int → List ByteArray → Prop
  | last (t : Int) (R : List ByteArray) : small R → tl (T t.toNat) = rb R → Lw T [t] R
  | cons (t : Int) (r : List Int) (X E : List ByteArray) : small X → tl (T t.toNat) = rb X → Lw T r E → Lw T (t :: r) (X ++ E)
theorem Lw.firm {T : Nat → Tp} {l : List Int} {R : List ByteArray} (h : Lw T l R) (hf : ∀ t ∈ l, fm (T t.toNat)) : Lg T l R [] := by
  induction h with
  | last t R h1 h2 =>
    refine .last t R [] (by rw [List.append_nil]; exact h1) (by rw [List.append_nil]; exact h2) ?_
    rw [hf t (by simp), ← tl_len, h2]
    exact Nat.le_refl _
  | cons t r X E h1 h2 _ ih => exact .cons t r X E [] h1 h2 (hf t (by simp)) (ih fun u hu => hf u (by simp [hu]))
theorem Lw.same {T T' : Nat → Tp} {l : List Int} {R : List ByteArray} (h : Lw T l R) (e : ∀ t ∈ l, tl (T' t.toNat) = tl (T t.toNat)) : Lw T' l R := by
  induction h with
  | last t R h1 h2 => exact .last t R h1 (by rw [e t (by simp)]; exact h2)
  | cons t r X E h1 h2 _ ih => exact .cons t r X E h1 (by rw [e t (by simp)]; exact h2) (ih fun u hu => e u (by simp [hu]))
theorem tpD_gen {d : Dk} {t : Nat} (ht : t < 32) (last : Bool) (hdn : d.dn = false) (hok : d.ok) (hdm : d.dm = false) (h0 : (tpD d t last).1.2 = 0) :
    Upd d (tpD d t last).1.1 ∧ (∀ j, j ≠ t → (tpD d t last).1.1.T j = d.T j) ∧ small (tpD d t last).2 ∧ tl ((tpD d t last).1.1.T t) = rb (tpD d t last).2 ∧ (last = false → (tpD d t last).1.1 = d) := by
  obtain ⟨q, h1, h2, h3, h4⟩ := fs_split (tl (d.T t))
  have hz := tl_len (d.T t)
  unfold tpD at h0 ⊢
  rw [hdn, if_neg (by simp)] at h0 ⊢
  by_cases c1 : (fs (tl (d.T t))).all (fun x => x.1 == 1) = false
  · rw [if_pos c1] at h0; cases h0
  rw [if_neg c1] at h0 ⊢
  have c1' : (fs (tl (d.T t))).all (fun x => x.1 == 1) = true := by cases hx : (fs (tl (d.T t))).all (fun x => x.1 == 1); exact absurd hx c1; rfl
  obtain ⟨k1, k2⟩ := fs_rec c1'
  by_cases c2 : en (tl (d.T t)) < (d.T t).s.size
  · rw [if_pos c2] at h0 ⊢
    cases last
    · rw [if_pos rfl] at h0; cases h0
    · rw [if_neg (by simp)] at h0 ⊢
      rcases tr_step hdn hok ht (en (tl (d.T t))) (by omega) with k | k
      · refine ⟨k.upd ⟨hdn, hok, rfl, fun e => e⟩, fun j hj => by rw [k.T]; exact upd_other _ _ hj, k1, ?_, fun e => by cases e⟩
        dsimp only
        rw [k.T, upd_same]
        show ((d.T t).s.extract 0 _).data.toList = _
        rw [ext_toList, List.drop_zero, h3]
        show (tl (d.T t)).take _ = _
        conv => lhs; arg 2; rw [h1]
        rw [List.take_left' rfl, k2]
      · have := k.dm; rw [hdm] at this; cases this
  · rw [if_neg c2] at h0 ⊢
    refine ⟨⟨hdn, hok, rfl, fun e => e⟩, fun _ _ => rfl, k1, ?_, fun _ => rfl⟩
    dsimp only
    have e := congrArg List.length h1
    rw [List.length_append] at e
    have hq : q = [] := List.length_eq_zero_iff.1 (by omega)
    rw [hq, List.append_nil] at h1
    rw [← k2]
    exact h1
theorem lgD_gen : ∀ (l : List Int) (d : Dk), d.dn = false → d.ok → d.dm = false → l ≠ [] → l.Nodup → (∀ t ∈ l, 2 ≤ t ∧ t < 32) → (lgD l d).1.2 = 0 →
    Upd d (lgD l d).1.1 ∧ (∀ j : Nat, j ≠ (lz l).toNat → (lgD l d).1.1.T j = d.T j) ∧ Lw (lgD l d).1.1.T l (lgD l d).2
  | [], _, _, _, _, h, _, _, _ => absurd rfl h
  | [t], d, hdn, hok, hdm, _, _, hl, h0 => by
    have ht := hl t (by simp)
    have e : lgD [t] d = if (tpD d t.toNat true).1.2 ≠ 0 then ((tpD d t.toNat true).1, []) else (((tpD d t.toNat true).1.1, 0), (tpD d t.toNat true).2 ++ []) := rfl
    rw [e] at h0 ⊢
    by_cases c : (tpD d t.toNat true).1.2 ≠ 0
    · rw [if_pos c] at h0; exact absurd h0 c
    · rw [if_neg c] at h0 ⊢
      obtain ⟨k1, k2, k3, k4, -⟩ := tpD_gen (t := t.toNat) (by omega) true hdn hok hdm (by omega)
      rw [List.append_nil]
      exact ⟨k1, fun j hj => k2 j hj, .last t _ k3 k4⟩
  | t :: u :: r, d, hdn, hok, hdm, _, hn, hl, h0 => by
    have ht := hl t (by simp)
    obtain ⟨n1, n2⟩ := List.nodup_cons.1 hn
    have e : lgD (t :: u :: r) d = if (tpD d t.toNat false).1.2 ≠ 0 then ((tpD d t.toNat false).1, []) else (if (lgD (u :: r) (tpD d t.toNat false).1.1).1.2 ≠ 0 then ((lgD (u :: r) (tpD d t.toNat false).1.1).1, []) else ((lgD (u :: r) (tpD d t.toNat false).1.1).1, (tpD d t.toNat false).2 ++ (lgD (u :: r) (tpD d t.toNat false).1.1).2)) := rfl
    rw [e] at h0 ⊢
    by_cases c : (tpD d t.toNat false).1.2 ≠ 0
    · rw [if_pos c] at h0; exact absurd h0 c
    rw [if_neg c] at h0 ⊢
    obtain ⟨-, -, k3, k4, k5⟩ := tpD_gen (t := t.toNat) (by omega) false hdn hok hdm (by omega)
    rw [k5 rfl] at h0 k4 ⊢
    by_cases c2 : (lgD (u :: r) d).1.2 ≠ 0
    · rw [if_pos c2] at h0; exact absurd h0 c2
    rw [if_neg c2] at h0 ⊢
    obtain ⟨i1, i2, i3⟩ := lgD_gen (u :: r) d hdn hok hdm (by simp) n2 (fun v hv => hl v (by simp [List.mem_cons.1 hv])) (by omega)
    have hzr := lz_mem (l := u :: r) (by simp)
    have hne : t.toNat ≠ (lz (u :: r)).toNat := fun e => n1 (by
      have a := hl t (by simp)
      have b := hl (lz (u :: r)) (List.mem_cons_of_mem _ hzr)
      have : t = lz (u :: r) := by omega
      rw [this]; exact hzr)
    refine ⟨i1, fun j hj => i2 j (by rw [lz_cons t (by simp)] at hj; exact hj), .cons t (u :: r) _ _ k3 ?_ i3⟩
    dsimp only
    rw [i2 _ hne]
    exact k4
theorem sl_calm {d : Dk} {t : Nat} (ht : t < 32) (hdn : d.dn = false) (hok : d.ok) (hdm : d.dm = false) : (sl d t).2 = 0 ∧ Upd d (sl d t).1 ∧ Mf d.T (sl d t).1.T ∧ fm ((sl d t).1.T t) ∧ ∀ j, j ≠ t → (sl d t).1.T j = d.T j := by
  unfold sl
  by_cases h : (d.T t).f < (d.T t).s.size
  · rw [if_pos h]
    rcases sy_step hdn hok ht with k | k
    · exact ⟨k.e, k.upd ⟨hdn, hok, rfl, fun e => e⟩, by rw [k.T]; exact mf_sync hok t ht, by rw [k.T, upd_same]; exact fm_fmT _, fun j hj => by rw [k.T]; exact upd_other _ _ hj⟩
    · have := k.dm; rw [hdm] at this; cases this
  · rw [if_neg h]
    exact ⟨rfl, ⟨hdn, hok, rfl, fun e => e⟩, fun j hj => ⟨rfl, Nat.le_refl _, fun e => e⟩, by have := (hok.t t ht).1; unfold fm; dsimp only; omega, fun _ _ => rfl⟩
theorem Upd.trans {a b c : Dk} (h : Upd a b) (k : Upd b c) : Upd a c := ⟨k.dn, k.ok, k.cap.trans h.cap, fun e => k.dm (h.dm e)⟩
theorem Mf.trans {a b c : Nat → Tp} (h : Mf a b) (k : Mf b c) : Mf a c := fun j hj => ⟨(k j hj).1.trans (h j hj).1, Nat.le_trans (h j hj).2.1 (k j hj).2.1, fun e => (k j hj).2.2 ((h j hj).2.2 e)⟩
theorem over_su_calm {d : Dk} {h : He} (hdn : d.dn = false) (hok : d.ok) (hdm : d.dm = false) : (over (su h) tps d).2 = 0 ∧ Upd d (over (su h) tps d).1 ∧ Mf d.T (over (su h) tps d).1.T ∧ ∀ t : Nat, 2 ≤ t → t < 32 → usB h (t : Int) = true → fm ((over (su h) tps d).1.T t) := by
  have key := over_ind (g := su h) (fun l d' => (∀ t : Nat, t ∈ l → 2 ≤ t ∧ t < 32) ∧ Upd d d' ∧ Mf d.T d'.T ∧ (∀ t : Nat, 2 ≤ t → t < 32 → t ∉ l → usB h (t : Int) = true → fm (d'.T t))) (fun _ => False) ?_ tps d ⟨fun t ht => mem_tps.1 ht, ⟨hdn, hok, rfl, fun e => e⟩, fun j hj => ⟨rfl, Nat.le_refl _, fun h => h⟩, fun t h2 h3 h4 _ => absurd (mem_tps.2 ⟨h2, h3⟩) h4⟩
  · rcases key with ⟨e, -, k1, k2, k3⟩ | ⟨_, k⟩
    · exact ⟨e, k1, k2, fun t a b c => k3 t a b (by simp) c⟩
    · exact k.elim
  · rintro t r d' ⟨h1, h2, h3, h4⟩
    have ht := h1 t (by simp)
    unfold su
    cases hu : usB h (t : Int)
    · rw [if_neg (by simp)]
      refine .inl ⟨rfl, fun u hu => h1 u (by simp [hu]), h2, h3, fun u a b c e => ?_⟩
      by_cases hx : u = t
      · subst hx; rw [hu] at e; cases e
      · exact h4 u a b (by simp [hx, c]) e
    · rw [if_pos rfl]
      obtain ⟨k1, k2, k3, k4, k5⟩ := sl_calm ht.2 h2.dn h2.ok (h2.dm hdm)
      refine .inl ⟨k1, fun u hu => h1 u (by simp [hu]), h2.trans k2, h3.trans k3, fun u a b c e => ?_⟩
      by_cases hx : u = t
      · subst hx; exact k4
      · rw [k5 u hx]; exact h4 u a b (by simp [hx, c]) e
theorem head_may (x y : ByteArray) (h : cIs (ofB x).1.gen (ofB y).1.gen = true) : mayB (cHead (ofB x).1 (ofB y).1) = true := by
  have hi := (cIs_iff _ _).1 h
  unfold cHead
  rcases of_facts x with ⟨_, hx⟩ | ⟨_, hx⟩ <;> rcases of_facts y with ⟨_, hy⟩ | ⟨_, hy⟩
  · split
    · exact hy
    · exact hx
  · rw [if_neg (by rw [hy]; have := (mayB_ok hx).g1; show ¬ _ < (0 : Int); omega)]; exact hx
  · rw [if_pos (by rw [hx]; have := (mayB_ok hy).g1; show (0 : Int) < _; omega)]; exact hy
  · rw [hx, hy] at hi
    rcases hi with hi | hi <;> exact absurd hi (by decide)
theorem hNew_may : mayB hNew = true := rfl
theorem bgH_gen {d : Dk} (hdn : d.dn = false) (hok : d.ok) (hdm : d.dm = false) (f0 : fm (d.T 0)) (f1 : fm (d.T 1)) (h0 : (bgH d).1.2 = 0) : Upd d (bgH d).1.1 ∧ HdT (bgH d).1.1.T (bgH d).2 := by
  have hl := ld_up hdn
  unfold bgH at h0 ⊢
  rw [hl, if_neg (by simp)] at h0 ⊢
  cases hI : ldI d
  · rw [hI, if_neg (by simp)] at h0
    rw [if_neg (by simp)]
    rcases wi_step hdn hok (t := 2) (by decide) with q | q
    · have q' : Okd d (upd d.T 2 t0) (doD d 2 false wi) := q
      rw [thn_ok (x := doD d 2 false wi) _ q'.e] at h0 ⊢
      have u1 : Upd d (doD d 2 false wi).1 := q'.upd ⟨hdn, hok, rfl, fun e => e⟩
      have T1 : (doD d 2 false wi).1.T = upd d.T 2 t0 := q'.T
      generalize (doD d 2 false wi).1 = d1 at *
      have hp1 : ptT d1 = ptT d := ptT_same hdn u1.dn (by rw [T1]; rfl) (by rw [T1]; rfl)
      have hp : ptT d1 = 0 := by rw [hp1, pt_up hdn, hI, if_neg (by simp)]
      have hI1 : ldI d1 = false := by
        have := ldR_T01 hdn u1.dn (by rw [T1]; rfl) (by rw [T1]; rfl)
        rw [ld_up hdn, ld_up u1.dn] at this
        exact (congrArg (fun x => x.2.2.1) this).trans hI
      have hz : (whl hNew).size ≤ 1048576 := by rw [whl_size]; have := enc_len (mayB_ok hNew_may); omega
      have hs := stP_st u1.dn (show ptT d1 < 32 by omega) hz
      have e : putR d1 hNew = stP d1 (ptT d1) (whl hNew) := by unfold putR; rw [hNew_may, if_pos rfl, ld_up u1.dn, if_neg (by simp)]
      have ho := putR_ok u1.ok hNew
      dsimp only at h0 ⊢
      rw [← e] at hs
      rcases hs.how with ⟨k1, k2, k3⟩ | ⟨k1, -⟩ | ⟨k1, -⟩
      · have hld := load_new u1.dn k2 hNew hNew_may (fun j _ hj => hs.oth j hj) (by rw [k3]) (fun h => by rw [hI1] at h; cases h)
        rw [ld_up k2] at hld
        have hr : room d1 (ptT d1) (whl hNew) := by
          by_cases hr : room d1 (ptT d1) (whl hNew)
          · exact hr
          · exfalso
            have hu := ho.used
            have hT : (putR d1 hNew).1.T = upd d1.T (ptT d1) ⟨whl hNew, (whl hNew).size⟩ := by
              funext j
              by_cases hj : j = ptT d1
              · rw [hj, upd_same]; exact k3
              · rw [upd_other _ _ hj]; exact hs.oth j hj
            have := used_put (d := d1) (d' := (putR d1 hNew).1) (t := ptT d1) (by omega) hT
            unfold room at hr
            rw [hs.cap] at hu
            dsimp only at this
            omega
        refine ⟨⟨k2, ho, hs.cap.trans u1.cap, fun e => ?_⟩, hNew_may, congrArg (fun x => x.1) hld, congrArg (fun x => x.2.2.1) hld, ?_, ?_⟩
        · rw [hs.calm (u1.dm e) hr]; exact u1.dm e
        · have k3' := k3; rw [hp] at k3'; rw [k3']; rfl
        · rw [hs.oth 1 (by omega), T1]; exact f1
      · rw [k1] at h0; cases h0
      · rw [k1] at h0; cases h0
    · have := q.dm; rw [hdm] at this; cases this
  · rw [if_pos rfl]
    exact ⟨⟨hdn, hok, rfl, fun e => e⟩, head_may _ _ hI, rfl, hI, f0, f1⟩
theorem fd_gen {d : Dk} {h : He} (hdn : d.dn = false) (hok : d.ok) (hdm : d.dm = false) (hh : HdT d.T h) (he : Emp d.T h) (h0 : (fdD h d).1.2 = 0) : Opn d h (fdD h d).2.1 (fdD h d).2.2 (fdD h d).1.1 := by
  have hm := hh.may
  have k := mayB_ok hm
  have m := mayB_more hm
  have e : fdD h d = if h.snap ≠ 0 ∧ (one2 (tl (d.T h.snap.toNat))).isNone = true then ((d, 4), none, []) else
      if (lgD h.log d).1.2 ≠ 0 then ((lgD h.log d).1, none, []) else
      if (over (su h) tps (lgD h.log d).1.1).2 ≠ 0 then (over (su h) tps (lgD h.log d).1.1, none, []) else
      (over (su h) tps (lgD h.log d).1.1, if h.snap ≠ 0 then one2 (tl (d.T h.snap.toNat)) else none, (lgD h.log d).2) := by
    unfold fdD
    rw [hdn, if_neg (by simp)]
  rw [e] at h0 ⊢
  clear e
  by_cases c2 : h.snap ≠ 0 ∧ (one2 (tl (d.T h.snap.toNat))).isNone = true
  · rw [if_pos c2] at h0; cases h0
  rw [if_neg c2] at h0 ⊢
  by_cases c3 : (lgD h.log d).1.2 ≠ 0
  · rw [if_pos c3] at h0
    exact absurd h0 c3
  rw [if_neg c3] at h0 ⊢
  obtain ⟨g1, g2, g3⟩ := lgD_gen h.log d hdn hok hdm k.ne m.nd k.mem (by omega)
  generalize (lgD h.log d).1.1 = dg at *
  generalize (lgD h.log d).2 = R at *
  obtain ⟨s1, s2, s3, s4⟩ := over_su_calm (h := h) g1.dn g1.ok (g1.dm hdm)
  rw [if_neg (by omega)] at h0 ⊢
  dsimp only at h0 ⊢
  have us := g1.trans s2
  generalize (over (su h) tps dg).1 = ds at *
  have hz := k.mem _ (lz_mem k.ne)
  have hhg := hh.same (g2 0 (by omega)) (g2 1 (by omega))
  have heg : Emp dg.T h := he.keep fun j a b c => g2 j fun e => by rw [e, log_us hm (lz_mem k.ne)] at c; cases c
  have hes := heg.mono s3
  have hfs : ∀ j < 32, fm (ds.T j) := fun j hj => by
    rcases Nat.lt_or_ge j 2 with h2 | h2
    · match j, h2 with
      | 0, _ => exact (s3 0 (by decide)).2.2 hhg.f0
      | 1, _ => exact (s3 1 (by decide)).2.2 hhg.f1
    · cases hu : usB h (j : Int)
      · exact fm_of_ok us.ok hj (hes j h2 hj hu)
      · exact s4 j h2 hj hu
  refine ⟨us, ⟨⟨hm, by rw [s3.s (by decide), s3.s (by decide)]; exact hhg.hd, by rw [s3.s (by decide), s3.s (by decide)]; exact hhg.is, hfs 0 (by decide), hfs 1 (by decide)⟩, ?_, (g3.same fun t ht => (s3 _ (log_lt hm t ht)).1).firm fun t ht => hfs _ (log_lt hm t ht)⟩, hes, hfs⟩
  by_cases hs : h.snap = 0
  · exact .inl ⟨hs, by rw [if_neg (by omega)]⟩
  · rw [if_pos hs]
    cases ho : one2 (tl (d.T h.snap.toNat)) with
    | none => exact absurd ⟨hs, by rw [ho]; rfl⟩ c2
    | some s =>
      obtain ⟨o1, o2⟩ := one2_some ho
      have h32 : h.snap.toNat < 32 := by have := k.s1; have := k.s2; omega
      refine .inr ⟨s, rfl, hs, o2, ?_, hfs _ h32⟩
      rw [(s3 _ h32).1, g2 _ (fun e => m.sn hs (by
        have := k.s1
        have : h.snap = lz h.log := by omega
        rw [this]; exact lz_mem k.ne)), o1]
/-- Whatever stands on a calm disk: what is opened. -/
theorem open_gen {d : Dk} (hdn : d.dn = false) (hok : d.ok) (hdm : d.dm = false) (h0 : (opD d).1.2 = 0) : Opn d (opD d).2.1 (opD d).2.2.1 (opD d).2.2.2 (opD d).1.1 := by
  obtain ⟨a1, a2, a3, a4, a5⟩ := sl_calm (t := 0) (by decide) hdn hok hdm
  obtain ⟨b1, b2, b3, b4, b5⟩ := sl_calm (t := 1) (by decide) a2.dn a2.ok (a2.dm hdm)
  have ex : thn (sl d 0) (fun d => sl d 1) = ((sl (sl d 0).1 1).1, 0) := (thn_ok _ a1).trans (Prod.ext rfl b1)
  have ux := a2.trans b2
  have f0 : fm ((sl (sl d 0).1 1).1.T 0) := (b3 0 (by decide)).2.2 a4
  generalize (sl (sl d 0).1 1).1 = dx at *
  have hb : bg d = if (bgH dx).1.2 ≠ 0 then ((bgH dx).1, he0) else (over (wo (bgH dx).2) tps (bgH dx).1.1, (bgH dx).2) := by
    unfold bg
    simp only [ex]
    rfl
  have e : opD d = if (bg d).1.2 ≠ 0 then ((bg d).1, he0, none, []) else if (fdD (bg d).2 (bg d).1.1).1.2 ≠ 0 then ((fdD (bg d).2 (bg d).1.1).1, he0, none, []) else ((fdD (bg d).2 (bg d).1.1).1, (bg d).2, (fdD (bg d).2 (bg d).1.1).2.1, (fdD (bg d).2 (bg d).1.1).2.2) := rfl
  rw [e] at h0 ⊢
  clear e
  by_cases c1 : (bgH dx).1.2 ≠ 0
  · rw [if_pos c1] at hb
    rw [hb, if_pos c1] at h0
    exact absurd h0 c1
  rw [if_neg c1] at hb
  obtain ⟨uy, hh⟩ := bgH_gen ux.dn ux.ok (ux.dm hdm) f0 b4 (by omega)
  generalize (bgH dx).1.1 = dy at *
  generalize (bgH dx).2 = h at *
  have uxy := ux.trans uy
  obtain ⟨w1, w2⟩ := over_wo_calm (h := h) uxy.dn uxy.ok (uxy.dm hdm)
  have hb2 : bg d = (((over (wo h) tps dy).1, 0), h) := hb.trans (by rw [← w1])
  rw [hb2] at h0 ⊢
  clear hb hb2
  generalize (over (wo h) tps dy).1 = dw at *
  have uw := uxy.trans w2.u
  rw [if_neg (by simp)] at h0 ⊢
  dsimp only at h0 ⊢
  by_cases c4 : (fdD h dw).1.2 ≠ 0
  · rw [if_pos c4] at h0
    exact absurd h0 c4
  rw [if_neg c4] at h0 ⊢
  have := fd_gen uw.dn uw.ok (uw.dm hdm) (w2.hd hh) w2.emp (by omega)
  exact ⟨uw.trans this.u, this.std, this.emp, this.fm⟩
end Go.Proofs.YtieemdcoomilaaaGreatDoor.Vt
