/- The vault, plainly: so many small records always have room; what is torn behind them is gone when it is opened. Nothing of the program. -/
import Derived.Test.YtieemdcoomilaaaGreatDoorVk
set_option linter.unusedVariables false
set_option linter.unusedSimpArgs false
namespace Go.Proofs.YtieemdcoomilaaaGreatDoor.Vt
open Go Go.RowKit
set_option maxRecDepth 100000
/-- How many bytes records' frames have. -/
def wt : List ByteArray → Nat
  | [] => 0
  | r :: R => 9 + r.size + wt R
theorem wt_snoc : ∀ (R : List ByteArray) (r : ByteArray), wt (R ++ [r]) = wt R + (9 + r.size)
  | [], r => by simp [wt]
  | x :: R, r => by rw [List.cons_append, wt, wt, wt_snoc R r]; omega
/-- A vault without a snapshot, of records L, on a calm disk of 100000 bytes. -/
structure InvT (d : Dk) (h : He) (L : List ByteArray) : Prop where
  c : InvC d h L.length 200
  st : ∃ E B, StdT d.T h none E B ∧ E ++ B = L
  b0 : h.base = 0
  gen : h.gen = h.log.length
  cap : d.cap = 100000
  used : d.used ≤ wt L + (d.T 0).s.size + (d.T 1).s.size
  h0 : (d.T 0).s.size ≤ 53
  h1 : (d.T 1).s.size ≤ 53
  tp : 200 * h.log.length + (d.T (lz h.log).toNat).s.size ≤ 2 * wt L + 200
  cnt : h.log.length ≤ L.length + 1
theorem snap_none {T : Nat → Tp} {h : He} (hs : SnapT T h none) : h.snap = 0 := by
  rcases hs with h0 | ⟨s, h1, _⟩
  · exact h0.1
  · cases h1
theorem whl_small {h : He} (hm : mayB h = true) : (whl h).size ≤ 53 := by rw [whl_size]; have := enc_len (mayB_ok hm); omega
theorem add_torn {d : Dk} {h : He} {L : List ByteArray} (i : InvT d h L) (hw : wt L + 21 * L.length ≤ 3000) {r : ByteArray} (hr : r.size ≤ 3000) :
    (addD d h L.length 200 r).1.2 = 0 ∧ (addD d h L.length 200 r).2.2 = L.length + 1 ∧ InvT (addD d h L.length 200 r).1.1 (addD d h L.length 200 r).2.1 (L ++ [r]) := by
  obtain ⟨E, B, hs, hEB⟩ := i.st
  have hm := hs.hd.may
  have k := mayB_ok hm
  have hz := k.mem _ (lz_mem k.ne)
  have hz32 : (lz h.log).toNat < 32 := by omega
  have hsn := snap_none hs.snap
  have i1 := i.used; have i2 := i.h0; have i3 := i.h1; have i4 := i.tp; have i5 := i.cnt; have i6 := i.gen; have i7 := i.cap; have i8 := i.b0
  have hp := ptT_le d
  have hno : ¬ AddNo d h L.length 200 r := by
    rintro (c | ⟨-, c | c | ⟨z, rest, c1, c2⟩⟩ | ⟨-, c⟩)
    · omega
    · omega
    · have := parted hm
      rw [c, hsn] at this
      simp at this
      omega
    · obtain ⟨⟨z2, z3⟩, zu⟩ := frL_mem h 32 z (by rw [c1]; simp)
      have z3' : z < 32 := z3
      have hmn := nx_may hm (by omega) z2 z3' zu
      have := siz_may hmn
      have := whl_small hmn
      omega
    · omega
  have hcalm : (addD d h L.length 200 r).1.2 = 0 ∧ InvC (addD d h L.length 200 r).1.1 (addD d h L.length 200 r).2.1 (addD d h L.length 200 r).2.2 200 := by
    rcases add_calm i.c (by decide) r with f | f
    · exact absurd f.2.2.2 hno
    · exact ⟨f.1, f.2.1⟩
  rcases add_std i.c.dn i.c.ok hs i.c.emp L.length 200 (by decide) r with f | ⟨f1, f2, f3, f4, f5, f6, f7⟩ | ⟨f1, f2, f3, f4, f5⟩
  · exact absurd f.2.2.2 hno
  · refine ⟨f1, f3, ?_⟩
    obtain ⟨-, hc⟩ := hcalm
    rw [f3] at hc
    have hlen : L.length + 1 = (L ++ [r]).length := by simp
    have fz := fr1_size r
    have hwt := wt_snoc L r
    rcases f7 with ⟨g1, g2, g3, g4⟩ | ⟨z, g1, z2, z3, g2, g4, zu, -, g3⟩
    · rw [g1] at hc ⊢
      have hu := used_put (d := d) (d' := (addD d h L.length 200 r).1.1) hz32 g3
      have hsz : ((⟨(d.T (lz h.log).toNat).s ++ fr1 r, (d.T (lz h.log).toNat).f⟩ : Tp)).s.size = (d.T (lz h.log).toNat).s.size + (r.size + 9) := by
        show ((d.T (lz h.log).toNat).s ++ fr1 r).size = _
        rw [ByteArray.size_append, fz]
      rw [hsz] at hu
      have e0 : (addD d h L.length 200 r).1.1.T 0 = d.T 0 := by rw [g3]; exact upd_other _ _ (by omega)
      have e1 : (addD d h L.length 200 r).1.1.T 1 = d.T 1 := by rw [g3]; exact upd_other _ _ (by omega)
      have ez : ((addD d h L.length 200 r).1.1.T (lz h.log).toNat).s.size = (d.T (lz h.log).toNat).s.size + (r.size + 9) := by rw [g3, upd_same, hsz]
      refine ⟨by rw [← hlen]; exact hc, ⟨E, B ++ [r], g2, by rw [← List.append_assoc, hEB]⟩, i8, i6, f2.cap.trans i7, ?_, by rw [e0]; exact i2, by rw [e1]; exact i3, ?_, by rw [← hlen]; omega⟩
      · rw [e0, e1, hwt]; omega
      · rw [ez, hwt]; omega
    · rw [g1] at hc ⊢
      have hmn := nx_may hm (by omega) z2 z3 zu
      have hwl := whl_small hmn
      have hzt : z.toNat < 32 := by omega
      have hez : (d.T z.toNat).s.size = 0 := i.c.emp z.toNat (by omega) hzt (by rw [Int.toNat_of_nonneg (by omega)]; exact zu)
      have hnz : z.toNat ≠ (lz h.log).toNat := fun e => by
        have : z = lz h.log := by omega
        rw [this, us_log (lz_mem k.ne)] at zu; cases zu
      generalize hW : whl (nxH h z) = W at *
      have u1 := sumT_upd d.T (lz h.log).toNat (fmT (d.T (lz h.log).toNat)) 32 hz32
      have u2 := sumT_upd (upd d.T (lz h.log).toNat (fmT (d.T (lz h.log).toNat))) z.toNat t0 32 hzt
      have u3 := sumT_upd (upd (upd d.T (lz h.log).toNat (fmT (d.T (lz h.log).toNat))) z.toNat t0) (ptT d) ⟨W, W.size⟩ 32 (by omega)
      have u4 := sumT_upd (upd (upd (upd d.T (lz h.log).toNat (fmT (d.T (lz h.log).toNat))) z.toNat t0) (ptT d) ⟨W, W.size⟩) z.toNat ⟨t0.s ++ fr1 r, 0⟩ 32 hzt
      rw [upd_other _ _ hnz] at u2
      rw [upd_other _ _ (show ptT d ≠ z.toNat by omega), upd_other _ _ (show ptT d ≠ (lz h.log).toNat by omega)] at u3
      rw [upd_other _ _ (show z.toNat ≠ ptT d by omega), upd_same] at u4
      have s1 : (fmT (d.T (lz h.log).toNat)).s.size = (d.T (lz h.log).toNat).s.size := rfl
      have s2 : t0.s.size = 0 := rfl
      have s3 : (⟨W, W.size⟩ : Tp).s.size = W.size := rfl
      have s4 : (⟨t0.s ++ fr1 r, 0⟩ : Tp).s.size = r.size + 9 := by show (t0.s ++ fr1 r).size = _; rw [empty_app, fz]
      have ez : ((addD d h L.length 200 r).1.1.T z.toNat).s.size = r.size + 9 := by rw [g3, upd_same, s4]
      have ej : ∀ j, j < 2 → (addD d h L.length 200 r).1.1.T j = if j = ptT d then ⟨W, W.size⟩ else d.T j := fun j hj => by
        rw [g3, upd_other _ _ (by omega)]
        by_cases e : j = ptT d
        · rw [if_pos e, e, upd_same]
        · rw [if_neg e, upd_other _ _ e, upd_other _ _ (by omega), upd_other _ _ (by omega)]
      have hus : (addD d h L.length 200 r).1.1.used + (d.T (ptT d)).s.size = d.used + W.size + (r.size + 9) := by
        unfold Dk.used at *
        rw [g3]
        omega
      have hzl : lz (nxH h z).log = z := lz_snoc _ _
      have hll : (nxH h z).log.length = h.log.length + 1 := by show (h.log ++ [z]).length = _; simp
      have hp2 : ptT d = 0 ∨ ptT d = 1 := by omega
      have e0 : ((addD d h L.length 200 r).1.1.T 0).s.size = if 0 = ptT d then W.size else (d.T 0).s.size := by rw [ej 0 (by decide)]; split <;> rfl
      have e1 : ((addD d h L.length 200 r).1.1.T 1).s.size = if 1 = ptT d then W.size else (d.T 1).s.size := by rw [ej 1 (by decide)]; split <;> rfl
      refine ⟨by rw [← hlen]; exact hc, ⟨E ++ B, [r], g2, by rw [hEB]⟩, i8, by rw [hll]; show h.gen + 1 = _; omega, f2.cap.trans i7, ?_, ?_, ?_, ?_, by rw [hll, ← hlen]; omega⟩
      · rw [e0, e1, hwt]
        rcases hp2 with e | e <;> rw [e] at hus ⊢ <;> simp <;> omega
      · rw [e0]; split <;> omega
      · rw [e1]; split <;> omega
      · rw [hzl, hll, ez, hwt]
        omega
  · have := i.c.dm; rw [f4] at this; cases this
theorem new_torn (hok : (made0 100000 []).ok) : ∃ d', opD (made0 100000 []) = ((d', 0), hNew, none, []) ∧ InvT d' hNew [] := by
  obtain ⟨d', e, ho, hT⟩ := open_new (c := 100000) (by decide) hok
  obtain ⟨d2, e2, hc, hcap⟩ := new_calm (c := 100000) (most := 200) (by decide) hok
  obtain rfl : d' = d2 := by rw [e] at e2; exact congrArg (fun x => x.1.1) e2
  have hw := whl_new
  have h0 : d'.T 0 = ⟨whl hNew, 14⟩ := by rw [hT]; rfl
  have h1 : d'.T 1 = t0 := by rw [hT]; rfl
  have h2 : d'.T 2 = t0 := by rw [hT]; rfl
  have s0 : (⟨whl hNew, 14⟩ : Tp).s.size = 14 := hw
  have s1 : t0.s.size = 0 := rfl
  have u1 := sumT_upd (made0 100000 []).T 2 t0 32 (by decide)
  have u2 := sumT_upd (upd (made0 100000 []).T 2 t0) 0 ⟨whl hNew, 14⟩ 32 (by decide)
  have z0 : (upd (made0 100000 []).T 2 t0) 0 = t0 := rfl
  have z1 : (made0 100000 []).T 2 = t0 := rfl
  have hu0 : sumT (made0 100000 []).T 32 = 0 := made0_used 100000
  have hus : d'.used = 14 := by
    unfold Dk.used
    rw [hT]
    rw [z0] at u2
    rw [z1] at u1
    omega
  have hz : lz hNew.log = 2 := rfl
  refine ⟨d', e, hc, ⟨[], [], ho.std, rfl⟩, rfl, rfl, hcap, by rw [hus, h0, s0]; omega, by rw [h0, s0]; decide, by rw [h1]; decide, ?_, by decide⟩
  rw [hz, show ((2 : Int).toNat) = 2 from rfl, h2]
  decide
/-- The same tapes. -/
theorem InvT.same {d d' : Dk} {h : He} {L : List ByteArray} (i : InvT d h L) (u : Upd d d') (hT : ∀ j < 32, d'.T j = d.T j) (hs : ∃ E B, StdT d'.T h none E B ∧ E ++ B = L) : InvT d' h L := by
  obtain ⟨E, B, hs', he⟩ := hs
  have hm := hs'.hd.may
  have hus := used_same (d := d) (d' := d') fun j hj => by rw [hT j hj]
  refine ⟨⟨u.dn, u.dm i.c.dm, u.ok, i.c.emp.keep fun j _ b _ => hT j b, ⟨none, E, B, hs', by rw [he]⟩, fun t ht => ?_⟩, ⟨E, B, hs', he⟩, i.b0, i.gen, u.cap.trans i.cap, by rw [hus, hT 0 (by decide), hT 1 (by decide)]; exact i.used, by rw [hT 0 (by decide)]; exact i.h0, by rw [hT 1 (by decide)]; exact i.h1, by rw [hT _ (lz_lt hm)]; exact i.tp, i.cnt⟩
  rw [hT _ (log_lt hm t ht)]
  exact i.c.hld t ht
/-- Behind the last one's frames bytes that begin by none. -/
theorem Lg.junk {T T' : Nat → Tp} {l : List Int} {R B : List ByteArray} (h : Lg T l R B) (hB : B = []) (hn : l.Nodup) {j : List UInt8} (hj : Fr.er j ≠ 0) (hT : ∀ t ∈ l, t ≠ lz l → T' t.toNat = T t.toNat) (hl : tl (T' (lz l).toNat) = tl (T (lz l).toNat) ++ j) (hf : ∀ t ∈ l, Vt.fm (T' t.toNat)) : Lj T' l R := by
  induction h with
  | last t A B h1 h2 h3 =>
    subst hB
    rw [List.append_nil] at h1 h2
    exact .last t A j h1 (by rw [← h2]; exact hl) hj (hf t (by simp))
  | cons t r X E B h1 h2 h3 h4 ih =>
    obtain ⟨n1, n2⟩ := List.nodup_cons.1 hn
    rw [lz_cons t h4.ne] at hT hl
    have e : T' t.toNat = T t.toNat := hT t (by simp) (fun e => n1 (e ▸ lz_mem h4.ne))
    exact .cons t r X E h1 (by rw [e]; exact h2) (by rw [e]; exact h3) (ih hB n2 (fun u hu hz => hT u (by simp [hu]) hz) hl (fun u hu => hf u (by simp [hu])))
/-- Bytes behind the last frame that begin by no frame are gone when it is opened; nothing else is. d: synced. -/
theorem torn_open {d d' : Dk} {h : He} {L : List ByteArray} (i : InvT d h L) (hf : ∀ j < 32, fm (d.T j)) (u : Upd d d') {tail : ByteArray} (ht : Fr.er tail.data.toList ≠ 0) (hT : d'.T = upd d.T (lz h.log).toNat (fmT ⟨(d.T (lz h.log).toNat).s ++ tail, (d.T (lz h.log).toNat).f⟩)) :
    ∃ d2, opD d' = ((d2, 0), h, none, L) ∧ InvT d2 h L ∧ ∀ j < 32, d2.T j = d.T j := by
  obtain ⟨E, B, hs, hEB⟩ := i.st
  have hm := hs.hd.may
  have k := mayB_ok hm
  have m := mayB_more hm
  have hz := k.mem _ (lz_mem k.ne)
  have hz32 : (lz h.log).toNat < 32 := by omega
  have hlg : Lg d.T h.log L [] := by rw [← hEB]; exact hs.lg.all fun t ht => hf _ (log_lt hm t ht)
  obtain ⟨E0, A, _, a1, a2, _, _⟩ := hlg.turn m.nd
  rw [List.append_nil] at a1 a2
  have hf' : ∀ j < 32, fm (d'.T j) := fun j hj => by
    rw [hT]
    by_cases e : j = (lz h.log).toNat
    · rw [e, upd_same]; exact fm_fmT _
    · rw [upd_other _ _ e]; exact hf j hj
  have hlast : tl (d'.T (lz h.log).toNat) = rb A ++ tail.data.toList := by rw [hT, upd_same, tl_fmT, ByteArray.data_append, Array.toList_append, ← a2]; rfl
  have hsn := snap_none hs.snap
  have hr : RdyT d'.T h none L := by
    refine ⟨hs.hd.same (by rw [hT]; exact upd_other _ _ (by omega)) (by rw [hT]; exact upd_other _ _ (by omega)), .inl ⟨hsn, rfl⟩, hlg.junk rfl m.nd ht (fun t ht hn => ?_) (by rw [hlast, a2]) (fun t ht => hf' _ (log_lt hm t ht)), hf'⟩
    rw [hT]
    exact upd_other _ _ fun e => hn (by have := k.mem t ht; omega)
  obtain ⟨d2, e, ho, hk, hl⟩ := open_rdy u.dn u.ok (u.dm i.c.dm) hr
  have hsame : ∀ j < 32, d2.T j = d.T j := fun j hj => by
    have hfj : fm (d2.T j) := ho.fm j hj
    have eq_of : (d2.T j).s = (d.T j).s → d2.T j = d.T j := fun es => by
      have e2 : (d2.T j).f = (d.T j).f := by have := hf j hj; unfold fm at *; rw [hfj, this, es]
      cases hx : d2.T j; cases hy : d.T j
      rw [hx, hy] at es e2
      dsimp only at es e2
      rw [es, e2]
    by_cases e : j = (lz h.log).toNat
    · subst e
      refine eq_of (tl_inj ?_)
      rw [hl, hlast, (fs_rb a1 _ ht).2, List.take_left' rfl, ← a2]; rfl
    · by_cases hc : j < 2 ∨ usB h (j : Int) = true
      · rw [hk j hc e, hT, upd_other _ _ e]
      · have h2 : 2 ≤ j := by omega
        have hu : usB h (j : Int) = false := by cases hx : usB h (j : Int); rfl; exact absurd (.inr hx) hc
        have z1 := ho.emp j h2 hj hu
        have z2 := i.c.emp j h2 hj hu
        refine eq_of (tl_inj ?_)
        have l1 : tl (d2.T j) = [] := List.length_eq_zero_iff.1 (by rw [tl_len]; exact z1)
        have l2 : tl (d.T j) = [] := List.length_eq_zero_iff.1 (by rw [tl_len]; exact z2)
        rw [l1]; exact l2.symm
  exact ⟨d2, e, i.same (u.trans ho.u) hsame ⟨L, [], ho.std, List.append_nil L⟩, hsame⟩
end Go.Proofs.YtieemdcoomilaaaGreatDoor.Vt
namespace Go.Proofs.YtieemdcoomilaaaGreatDoor.Vt
open Go Go.RowKit
set_option maxRecDepth 100000
/-- A disk by its tapes' sizes, which one of the tapes 0 and 1 comes next, the head, the snapshot, the records behind it. -/
structure Zs where
  cap : Nat
  s : List Nat
  p : Nat
  h : He
  S : Option ByteArray
  L : List ByteArray
def Zs.at' (z : Zs) (j : Nat) : Nat := z.s.getD j 0
def sumF (s : List Nat) : Nat → Nat
  | 0 => 0
  | n + 1 => sumF s n + s.getD n 0
/-- How many bytes a head's frame has, its numbers small. -/
def szH (h : He) : Nat := 13 + h.log.length
def addZ (z : Zs) (most : Nat) (r : ByteArray) (rs : Nat) : Option Zs × Nat :=
  if 262144 < rs ∨ 1099511627776 ≤ z.h.base + z.L.length then (none, 40)
  else if 0 < z.at' (lz z.h.log).toNat ∧ most < z.at' (lz z.h.log).toNat + (rs + 9) then
    (if 120 ≤ z.h.gen ∨ 120 ≤ z.h.base then (none, 1) else match frL z.h 32 with
      | [] => (none, 44)
      | t :: _ =>
        if z.cap + z.at' t.toNat + z.at' z.p < sumF z.s 32 + (rs + 9) + szH (nxH z.h t) then (none, 44)
        else (some { z with s := ((z.s.set t.toNat 0).set z.p (szH (nxH z.h t))).set t.toNat (rs + 9), p := 1 - z.p, h := nxH z.h t, L := z.L ++ [r] }, 0))
  else if z.cap < sumF z.s 32 + (rs + 9) then (none, 44)
  else (some { z with s := z.s.set (lz z.h.log).toNat (z.at' (lz z.h.log).toNat + (rs + 9)), L := z.L ++ [r] }, 0)
def z32 : List Nat := List.replicate 32 0
def layZ (z : Zs) (x : ByteArray) (xs : Nat) : Option Zs × Nat :=
  if 262144 < xs ∨ 1099511627776 < z.h.base + z.L.length then (none, 40)
  else if 120 ≤ z.h.gen ∨ 120 ≤ z.h.base + z.L.length then (none, 1) else match frL z.h 32 with
    | a :: b :: _ =>
      if z.cap + z.at' a.toNat < sumF z.s 32 + (xs + 9) ∨ z.cap + z.at' a.toNat + z.at' b.toNat + z.at' z.p < sumF z.s 32 + (xs + 9) + szH (lyH z.h z.L.length a b) then (none, 44)
      else (some { z with s := ((z32.set z.p (szH (lyH z.h z.L.length a b))).set (1 - z.p) (z.at' (1 - z.p))).set a.toNat (xs + 9), p := 1 - z.p, h := lyH z.h z.L.length a b, S := some x, L := [] }, 0)
    | _ => (none, 44)
/-- It is so. -/
structure InvZ (d : Dk) (z : Zs) (most : Nat) : Prop where
  c : InvC d z.h z.L.length most
  st : ∃ E B, StdT d.T z.h z.S E B ∧ E ++ B = z.L
  cap : d.cap = z.cap
  len : z.s.length = 32
  sz : ∀ j < 32, (d.T j).s.size = z.at' j
  p : ptT d = z.p
theorem sumF_eq {T : Nat → Tp} {s : List Nat} : ∀ n, (∀ j < n, (T j).s.size = s.getD j 0) → sumT T n = sumF s n
  | 0, _ => rfl
  | n + 1, h => by
    show sumT T n + _ = sumF s n + _
    rw [sumF_eq n (fun j hj => h j (by omega)), h n (by omega)]
theorem InvZ.used {d : Dk} {z : Zs} {most : Nat} (i : InvZ d z most) : d.used = sumF z.s 32 := sumF_eq 32 i.sz
theorem szH_eq {h : He} (hm : mayB h = true) (g : h.gen < 128) (b : h.base < 128) : (whl h).size = szH h := by
  have k := mayB_ok hm
  rw [whl_size]
  unfold enc szH
  rw [Bt.vint_small (n := h.gen.toNat) (by omega), Bt.vint_small (n := h.base.toNat) (by omega), Bt.vint_small (n := h.snap.toNat) (by have := k.s2; omega), Bt.vint_small (n := h.log.length) (by have := k.len; omega)]
  simp only [List.length_append, List.length_cons, List.length_nil, encL_len _ k.mem]
  omega
theorem at_set {s : List Nat} {j k v : Nat} (hj : j < s.length) : (s.set j v).getD k 0 = if k = j then v else s.getD k 0 := by
  rw [List.getD_eq_getElem?_getD, List.getElem?_set, List.getD_eq_getElem?_getD]
  by_cases e : j = k
  · subst e; rw [if_pos rfl, if_pos rfl, if_pos hj]; rfl
  · rw [if_neg e, if_neg (fun h => e h.symm)]
/-- Which tape a head comes to next. -/
theorem pt_next {d d' : Dk} {h h' : He} (hdn : d.dn = false) (hdn' : d'.dn = false) (hh : HdT d.T h) (hm : mayB h' = true) (hg : h.gen < h'.gen) (hT : ∀ j : Nat, j < 2 → (d'.T j).s = if j = ptT d then whl h' else (d.T j).s) : ptT d' = 1 - ptT d := by
  have hp := ptT_le d
  have hl := load_new (d' := { d with T := fun j => if j = ptT d then ⟨whl h', 0⟩ else d.T j }) hdn hdn h' hm (fun j _ hj => if_neg hj) (by show (if ptT d = ptT d then (⟨whl h', 0⟩ : Tp) else _).s = _; rw [if_pos rfl]) (fun _ => by rw [show ldH d = h from hh.hd]; exact hg)
  have e := ldR_T01 (d := { d with T := fun j => if j = ptT d then ⟨whl h', 0⟩ else d.T j }) (d' := d') hdn hdn' (by rw [hT 0 (by decide)]; dsimp only; split <;> rfl) (by rw [hT 1 (by decide)]; dsimp only; split <;> rfl)
  rw [hl] at e
  unfold ptT
  rw [e]
  rfl
theorem addZ_ok {d : Dk} {z : Zs} {most : Nat} (i : InvZ d z most) (hmost : most ≤ 1048576) (r : ByteArray) {z' : Zs} (hz : addZ z most r r.size = (some z', 0)) :
    (addD d z.h z.L.length most r).1.2 = 0 ∧ (addD d z.h z.L.length most r).2 = (z'.h, z'.L.length) ∧ InvZ (addD d z.h z.L.length most r).1.1 z' most := by
  obtain ⟨E, B, hs, hEB⟩ := i.st
  have hm := hs.hd.may
  have k := mayB_ok hm
  have hl := k.mem _ (lz_mem k.ne)
  have hl32 : (lz z.h.log).toNat < 32 := by omega
  have hus := i.used
  have hcap := i.cap
  have hszl := i.sz _ hl32
  have hp := ptT_le d
  have hpp := i.p
  have hlen := i.len
  have fz := fr1_size r
  have hcalm := add_calm i.c hmost r
  unfold addZ at hz
  by_cases c1 : 262144 < r.size ∨ 1099511627776 ≤ z.h.base + z.L.length
  · rw [if_pos c1] at hz; cases hz
  rw [if_neg c1] at hz
  rw [← hszl] at hz
  by_cases c2 : 0 < (d.T (lz z.h.log).toNat).s.size ∧ most < (d.T (lz z.h.log).toNat).s.size + (r.size + 9)
  · rw [if_pos c2] at hz
    by_cases c3 : 120 ≤ z.h.gen ∨ 120 ≤ z.h.base
    · rw [if_pos c3] at hz; cases hz
    rw [if_neg c3] at hz
    have hF := frL_mem z.h 32
    cases hfl : frL z.h 32 with
    | nil => rw [hfl] at hz; cases hz
    | cons t rest =>
      rw [hfl] at hz hF
      dsimp only at hz
      obtain ⟨⟨t2, t3⟩, tu⟩ := hF t (by simp)
      have t3' : t < 32 := t3
      have ht32 : t.toNat < 32 := by omega
      have hmn := nx_may hm (by omega) t2 t3' tu
      have hsn : (whl (nxH z.h t)).size = szH (nxH z.h t) := szH_eq hmn (by show z.h.gen + 1 < 128; omega) (by show z.h.base < 128; omega)
      have hsr := siz_may hmn
      by_cases c4 : z.cap + z.at' t.toNat + z.at' z.p < sumF z.s 32 + (r.size + 9) + szH (nxH z.h t)
      · rw [if_pos c4] at hz; cases hz
      rw [if_neg c4] at hz
      obtain rfl : _ = z' := by simpa using hz
      have hno : ¬ AddNo d z.h z.L.length most r := by
        rintro (c | ⟨-, c | c | ⟨u, rest', c5, c6⟩⟩ | ⟨c, -⟩)
        · exact c1 c
        · omega
        · rw [hfl] at c; cases c
        · rw [hfl] at c5
          obtain rfl : t = u := (List.cons.inj c5).1
          rw [i.sz _ ht32, i.sz _ (by omega), hpp] at c6
          omega
        · exact c c2
      rcases hcalm with f | ⟨f1, hc, hn, -⟩
      · exact absurd f.2.2.2 hno
      rcases add_std i.c.dn i.c.ok hs i.c.emp z.L.length most hmost r with f | ⟨-, f2, f3, f4, f5, f6, f7⟩ | ⟨_, _, _, f4, _⟩
      · exact absurd f.2.2.2 hno
      · rcases f7 with ⟨_, _, _, g4⟩ | ⟨u, g1, _, _, g2, _, _, ⟨rest', g5⟩, g3⟩
        · exact absurd c2 g4
        rw [hfl] at g5
        obtain rfl : t = u := (List.cons.inj g5).1
        have hnz : t.toNat ≠ (lz z.h.log).toNat := fun e => by
          have : t = lz z.h.log := by omega
          rw [this, us_log (lz_mem k.ne)] at tu; cases tu
        rw [g1, hn] at hc
        have ht0 : (d.T t.toNat).s.size = 0 := i.c.emp t.toNat (by omega) ht32 (by rw [Int.toNat_of_nonneg (by omega)]; exact tu)
        refine ⟨f1, by rw [Prod.ext_iff]; exact ⟨g1, by rw [hn]; simp⟩, ?_⟩
        have hlen2 : (z.L ++ [r]).length = z.L.length + 1 := by simp
        refine ⟨by rw [hlen2]; exact hc, ⟨E ++ B, [r], g2, by rw [hEB]⟩, f2.cap.trans hcap, by simp [hlen], fun j hj => ?_, ?_⟩
        · rw [g3]
          unfold Zs.at'
          dsimp only
          rw [at_set (by simp [hlen, ht32]), at_set (by simp [hlen]; omega), at_set (by rw [hlen]; exact ht32)]
          by_cases e1 : j = t.toNat
          · rw [if_pos e1, e1, upd_same]
            show (t0.s ++ fr1 r).size = _
            rw [empty_app, fz]
          · rw [if_neg e1, upd_other _ _ e1]
            by_cases e2 : j = z.p
            · rw [if_pos e2, e2, ← hpp, upd_same]; exact hsn
            · rw [if_neg e2, if_neg e1, upd_other _ _ (by rw [hpp]; exact e2), upd_other _ _ e1]
              have : (upd d.T (lz z.h.log).toNat (fmT (d.T (lz z.h.log).toNat)) j).s = (d.T j).s := by
                by_cases e3 : j = (lz z.h.log).toNat
                · rw [e3, upd_same]; rfl
                · rw [upd_other _ _ e3]
              rw [this]
              exact i.sz j hj
        · show ptT _ = 1 - z.p
          rw [← hpp]
          refine pt_next i.c.dn f2.dn hs.hd hmn (show z.h.gen < z.h.gen + 1 by omega) fun j hj => ?_
          rw [g3, upd_other _ _ (by omega)]
          by_cases e : j = ptT d
          · rw [if_pos e, e, upd_same]
          · rw [if_neg e, upd_other _ _ e, upd_other _ _ (by omega), upd_other _ _ (by omega)]
      · have := i.c.dm; rw [f4] at this; cases this
  · rw [if_neg c2] at hz
    by_cases c3 : z.cap < sumF z.s 32 + (r.size + 9)
    · rw [if_pos c3] at hz; cases hz
    rw [if_neg c3] at hz
    obtain rfl : _ = z' := by simpa using hz
    have hno : ¬ AddNo d z.h z.L.length most r := by
      rintro (c | ⟨c, -⟩ | ⟨-, c⟩)
      · exact c1 c
      · exact c2 c
      · omega
    rcases hcalm with f | ⟨f1, hc, hn, -⟩
    · exact absurd f.2.2.2 hno
    rcases add_std i.c.dn i.c.ok hs i.c.emp z.L.length most hmost r with f | ⟨-, f2, f3, f4, f5, f6, f7⟩ | ⟨_, _, _, f4, _⟩
    · exact absurd f.2.2.2 hno
    · rcases f7 with ⟨g1, g2, g3, g4⟩ | ⟨u, _, _, _, _, g4, _⟩
      · rw [g1, hn] at hc
        have hlen2 : (z.L ++ [r]).length = z.L.length + 1 := by simp
        refine ⟨f1, by rw [Prod.ext_iff]; exact ⟨g1, by rw [hn]; simp⟩, ?_⟩
        refine ⟨by rw [hlen2]; exact hc, ⟨E, B ++ [r], g2, by rw [← List.append_assoc, hEB]⟩, f2.cap.trans hcap, by simp [hlen], fun j hj => ?_, ?_⟩
        · rw [g3]
          unfold Zs.at'
          dsimp only
          rw [at_set (by rw [hlen]; exact hl32)]
          by_cases e1 : j = (lz z.h.log).toNat
          · rw [if_pos e1, e1, upd_same]
            show ((d.T (lz z.h.log).toNat).s ++ fr1 r).size = _
            rw [ByteArray.size_append, fz]
          · rw [if_neg e1, upd_other _ _ e1]
            exact i.sz j hj
        · show ptT _ = z.p
          rw [← hpp]
          exact ptT_same i.c.dn f2.dn (by rw [g3, upd_other _ _ (by omega)]) (by rw [g3, upd_other _ _ (by omega)])
      · exact absurd g4 c2
    · have := i.c.dm; rw [f4] at this; cases this
theorem addZ_no {d : Dk} {z : Zs} {most : Nat} (i : InvZ d z most) (hmost : most ≤ 1048576) (r : ByteArray) {e : Nat} (hz : addZ z most r r.size = (none, e)) (he : e ≠ 1) : addD d z.h z.L.length most r = ((d, e), z.h, z.L.length) := by
  obtain ⟨E, B, hs, hEB⟩ := i.st
  have hm := hs.hd.may
  have k := mayB_ok hm
  have hl := k.mem _ (lz_mem k.ne)
  have hl32 : (lz z.h.log).toNat < 32 := by omega
  have hus := i.used
  have hcap := i.cap
  have hszl := i.sz _ hl32
  have hp := ptT_le d
  have hpp := i.p
  unfold addZ at hz
  unfold addD
  by_cases c1 : 262144 < r.size ∨ 1099511627776 ≤ z.h.base + z.L.length
  · rw [if_pos c1] at hz ⊢; rw [(Prod.mk.inj hz).2]
  rw [if_neg c1] at hz ⊢
  rw [i.c.dn, if_neg (by simp)]
  rw [← hszl] at hz
  by_cases c2 : 0 < (d.T (lz z.h.log).toNat).s.size ∧ most < (d.T (lz z.h.log).toNat).s.size + (r.size + 9)
  · rw [if_pos c2] at hz ⊢
    by_cases c3 : 120 ≤ z.h.gen ∨ 120 ≤ z.h.base
    · rw [if_pos c3] at hz; exact absurd (Prod.mk.inj hz).2.symm he
    rw [if_neg c3] at hz
    rw [if_neg (by omega)]
    have hF := frL_mem z.h 32
    cases hfl : frL z.h 32 with
    | nil => rw [hfl] at hz; dsimp only at hz ⊢; rw [(Prod.mk.inj hz).2]
    | cons t rest =>
      rw [hfl] at hz hF
      dsimp only at hz ⊢
      obtain ⟨⟨t2, t3⟩, tu⟩ := hF t (by simp)
      have t3' : t < 32 := t3
      have ht32 : t.toNat < 32 := by omega
      have hmn := nx_may hm (by omega) t2 t3' tu
      have hsn : (whl (nxH z.h t)).size = szH (nxH z.h t) := szH_eq hmn (by show z.h.gen + 1 < 128; omega) (by show z.h.base < 128; omega)
      have hsr := siz_may hmn
      by_cases c4 : z.cap + z.at' t.toNat + z.at' z.p < sumF z.s 32 + (r.size + 9) + szH (nxH z.h t)
      · rw [if_pos c4] at hz
        rw [if_pos (by rw [i.sz _ ht32, i.sz _ (by omega), hpp]; omega), (Prod.mk.inj hz).2]
      · rw [if_neg c4] at hz; cases hz
  · rw [if_neg c2] at hz ⊢
    by_cases c3 : z.cap < sumF z.s 32 + (r.size + 9)
    · rw [if_pos c3] at hz
      rw [if_pos (by omega), (Prod.mk.inj hz).2]
    · rw [if_neg c3] at hz; cases hz
end Go.Proofs.YtieemdcoomilaaaGreatDoor.Vt
