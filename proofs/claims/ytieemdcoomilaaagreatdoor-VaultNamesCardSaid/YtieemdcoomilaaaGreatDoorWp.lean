/- Open, plainly, as the program goes; it is the document's. -/
import Derived.Test.YtieemdcoomilaaaGreatDoorWi
import Derived.Test.YtieemdcoomilaaaGreatDoorSh
import Derived.Test.YtieemdcoomilaaaGreatDoorWl
import Derived.Test.YtieemdcoomilaaaGreatDoorWn
import Derived.Test.YtieemdcoomilaaaGreatDoorVi
set_option linter.unusedVariables false
set_option linter.unusedSimpArgs false
namespace Go.Proofs.YtieemdcoomilaaaGreatDoor
open Go Go.RowKit
set_option maxRecDepth 100000
def stF (k : Tp → Tp × Nat) (t : Int) : SF := fun x => (((doD x.1 t false k).1, x.2), (doD x.1 t false k).2)
theorem doD_T {d : Dk} {t : Nat} (ht : t < 32) (torn : Bool) (g : Tp → Tp × Nat) (h : (doD d t torn g).2 = 0) : (doD d t torn g).1.T = upd d.T t (g (d.T t)).1 ∧ (doD d t torn g).1.dn = false := by
  unfold doD at h ⊢
  rw [res_in d t ht] at h ⊢
  by_cases h1 : d.dn = true
  · rw [if_pos h1] at h; cases h
  · rw [if_neg h1] at h ⊢
    by_cases h2 : d.dm = true ∧ d.left = 0
    · rw [if_pos h2] at h; cases h
    · rw [if_neg h2] at h ⊢
      by_cases h3 : (g (d.T t)).2 ≠ 0
      · rw [if_pos h3] at h; exact absurd h h3
      · rw [if_neg h3]; exact ⟨by rw [Int.toNat_natCast], by simpa using h1⟩
theorem chain_eq (k : Tp → Tp × Nat) (c : Nat → Bool) (g : Dk → Nat → Dk × Nat) (d : Dk) (hn : He × Nat) : ∀ (l : List Nat) (d' : Dk), l.Nodup → (∀ t ∈ l, t < 32) → (∀ t ∈ l, d'.T t = d.T t) → (d'.dn = d.dn) →
    (∀ (d'' : Dk) (t : Nat), t ∈ l → d''.T t = d.T t → d''.dn = d.dn → g d'' t = if c t = true then doD d'' t false k else (d'', 0)) →
    runS ((l.filter c).map fun t : Nat => stF k (t : Int)) (d', hn) = (((Vt.over g l d').1, hn), (Vt.over g l d').2)
  | [], d', _, _, _, _, _ => rfl
  | t :: r, d', hnd, hlt, hT, hdn, hg => by
    obtain ⟨n1, n2⟩ := List.nodup_cons.1 hnd
    have hgt := hg d' t (by simp) (hT t (by simp)) hdn
    have ih := fun d1 h1 h2 => chain_eq k c g d hn r d1 n2 (fun u hu => hlt u (by simp [hu])) h1 h2 (fun d'' u hu => hg d'' u (by simp [hu]))
    cases hc : c t
    · rw [hc, if_neg (by simp)] at hgt
      rw [List.filter_cons_of_neg (by rw [hc]; simp), Vt.over, hgt, Vt.thn_ok _ rfl]
      exact ih d' (fun u hu => hT u (by simp [hu])) hdn
    · rw [hc, if_pos rfl] at hgt
      rw [List.filter_cons_of_pos hc, List.map_cons, Vt.over, hgt]
      show (if (doD d' t false k).2 ≠ 0 then _ else _) = _
      by_cases he : (doD d' t false k).2 ≠ 0
      · rw [if_pos he]; unfold Vt.thn; rw [if_pos he]; rfl
      · have he0 : (doD d' t false k).2 = 0 := by omega
        obtain ⟨e1, e2⟩ := doD_T (hlt t (by simp)) false k he0
        rw [if_neg he, Vt.thn_ok _ he0]
        refine ih _ (fun u hu => ?_) ?_
        · rw [e1, upd_other _ _ (fun e => n1 (by rw [← e]; exact hu))]; exact hT u (by simp [hu])
        · rw [e2]
          have : d'.dn = false := by
            cases hd : d'.dn with
            | false => rfl
            | true => unfold doD at he0; rw [if_pos hd] at he0; cases he0
          rw [← hdn, this]
theorem sl_eq (d'' : Dk) (t : Nat) : Vt.sl d'' t = if lsB d'' (t : Int) = true then doD d'' t false sy else (d'', 0) := by
  unfold Vt.sl lsB
  rw [Int.toNat_natCast]
  by_cases h : (d''.T t).f < (d''.T t).s.size
  · rw [if_pos h, if_pos (decide_eq_true h)]
  · rw [if_neg h, if_neg (by simpa using h)]
theorem lsB_T {d d' : Dk} {t : Nat} (h : d'.T t = d.T t) : lsB d' (t : Int) = lsB d (t : Int) := by unfold lsB; rw [Int.toNat_natCast, h]
/-- harden of a rising row of tapes. -/
theorem harden_eq (d : Dk) (hn : He × Nat) (q : Nat → Bool) (l : List Nat) (hnd : l.Nodup) (hlt : ∀ t ∈ l, t < 32) :
    runS (hdL d ((l.filter q).map fun t : Nat => (t : Int))) (d, hn) = (((Vt.over (fun d t => if q t = true then Vt.sl d t else (d, 0)) l d).1, hn), (Vt.over (fun d t => if q t = true then Vt.sl d t else (d, 0)) l d).2) := by
  have e : hdL d ((l.filter q).map fun t : Nat => (t : Int)) = ((l.filter fun t : Nat => q t && lsB d (t : Int)).map fun t : Nat => stF sy (t : Int)) := by
    unfold hdL
    rw [List.filter_map, List.map_map, List.filter_filter]
    congr 1
    congr 1
    funext t
    show (lsB d (t : Int) && q t) = _
    rw [Bool.and_comm]
  rw [e]
  refine chain_eq sy _ _ d hn l d hnd hlt (fun _ _ => rfl) rfl fun d'' t ht hT hdn => ?_
  cases hq : q t
  · rw [if_neg (by simp), if_neg (by simp)]
  · rw [if_pos rfl, Bool.true_and, sl_eq, lsB_T hT]
theorem wipeO_eq (d : Dk) (h : He) (hn : He × Nat) (hdn : d.dn = false) : runS (woL d (frL h 32)) (d, hn) = (((Vt.over (Vt.wo h) Vt.tps d).1, hn), (Vt.over (Vt.wo h) Vt.tps d).2) := by
  have efr : ∀ n : Nat, frL h n = ((List.range n).filter fun t : Nat => decide (2 ≤ t) && !usB h (t : Int)).map fun t : Nat => (t : Int) := fun n => by
    induction n with
    | zero => rfl
    | succ n ih =>
      unfold frL
      rw [List.range_succ, List.filter_append, List.map_append, ← ih]
      by_cases hc : 2 ≤ n ∧ usB h (n : Int) = false
      · rw [if_pos hc, List.filter_cons_of_pos (by simp [hc.1, hc.2])]; rfl
      · rw [if_neg hc, List.filter_cons_of_neg (by
          simp only [Bool.and_eq_true, decide_eq_true_eq, Bool.not_eq_true', not_and, Bool.not_eq_false]
          intro h2
          cases hu : usB h (n : Int) with
          | true => rfl
          | false => exact absurd ⟨h2, hu⟩ hc)]
        simp
  have e2 : (List.range 32).filter (fun t : Nat => decide (2 ≤ t) && !usB h (t : Int)) = Vt.tps.filter (fun t : Nat => !usB h (t : Int)) := by
    have : List.range 32 = 0 :: 1 :: Vt.tps := by decide
    rw [this, List.filter_cons_of_neg (by simp), List.filter_cons_of_neg (by simp)]
    refine List.filter_congr fun t ht => ?_
    rw [decide_eq_true (Vt.mem_tps.1 ht).1, Bool.true_and]
  have e : woL d (frL h 32) = ((Vt.tps.filter fun t : Nat => !usB h (t : Int) && hasB d (t : Int)).map fun t : Nat => stF wi (t : Int)) := by
    unfold woL
    rw [efr 32, e2, List.filter_map, List.map_map, List.filter_filter]
    congr 1
    congr 1
    funext t
    show (hasB d (t : Int) && _) = _
    rw [Bool.and_comm]
  rw [e]
  refine chain_eq wi _ _ d hn Vt.tps d (by unfold Vt.tps; exact List.nodup_range') (fun t ht => (Vt.mem_tps.1 ht).2) (fun _ _ => rfl) rfl fun d'' t ht hT hdn2 => ?_
  have h32 := (Vt.mem_tps.1 ht).2
  have hh : hasB d (t : Int) = decide (0 < (d.T t).s.size) := by
    unfold hasB readD
    rw [hdn, if_neg (by simp), if_pos ⟨by omega, by omega⟩, Int.toNat_natCast]
  unfold Vt.wo
  rw [hh, hT]
  cases hu : usB h (t : Int)
  · by_cases hz : (d.T t).s.size = 0
    · rw [if_pos (.inr hz), if_neg (by simp [hz])]
    · rw [if_neg (by simp [hz]), if_pos (by simp; omega)]
  · rw [if_pos (.inl rfl), if_neg (by simp)]
abbrev OpR := (Dk × Nat) × He × Option ByteArray × List ByteArray
def q5 (d : Dk) (h : He) (S : Option ByteArray) (R : List ByteArray) : OpR := let y := runS (hdL d (nmS h)) (d, h, 0); if y.2 ≠ 0 then ((y.1.1, y.2), he0, none, []) else ((y.1.1, 0), h, S, R)
def q4 (d : Dk) (h : He) (S : Option ByteArray) : OpR := let y := Vt.lgD h.log d; if y.1.2 ≠ 0 then (y.1, he0, none, []) else q5 y.1.1 h S y.2
def q3 (d : Dk) (h : He) : OpR := let y := snR h d; if y.2 ≠ 0 then ((d, y.2), he0, none, []) else q4 d h y.1
def q2 (d : Dk) (h : He) : OpR := let y := runS (woL d (frL h 32)) (d, h, 0); if y.2 ≠ 0 then ((y.1.1, y.2), he0, none, []) else q3 y.1.1 h
def q1 (d : Dk) : OpR := let y := fhS (d, he0, 0); if y.2 ≠ 0 then ((y.1.1, y.2), he0, none, []) else q2 y.1.1 y.1.2.1
def opP (d : Dk) : OpR := let y := runS (hdL d [0, 1]) (d, he0, 0); if y.2 ≠ 0 then ((y.1.1, y.2), he0, none, []) else q1 y.1.1
theorem pair_eta {α β : Type} (x : α × β) (b : β) (h : x.2 = b) : (x.1, b) = x := by rw [← h]
theorem q5_eq (d : Dk) (h : He) (S : Option ByteArray) (R : List ByteArray) : q5 d h S R = if (Vt.over (Vt.su h) Vt.tps d).2 ≠ 0 then (Vt.over (Vt.su h) Vt.tps d, he0, none, []) else (Vt.over (Vt.su h) Vt.tps d, h, S, R) := by
  have e := harden_eq d (h, 0) (fun t => usB h (t : Int)) Vt.tps (by unfold Vt.tps; exact List.nodup_range') (fun t ht => (Vt.mem_tps.1 ht).2)
  unfold q5 nmS
  rw [e]
  show (if (Vt.over (Vt.su h) Vt.tps d).2 ≠ 0 then _ else _) = _
  by_cases hh : (Vt.over (Vt.su h) Vt.tps d).2 ≠ 0
  · rw [if_pos hh, if_pos hh]; rfl
  · rw [if_neg hh, if_neg hh]
    exact congrArg (fun z => (z, h, S, R)) (pair_eta (Vt.over (Vt.su h) Vt.tps d) 0 (by omega))
theorem q3_eq (d : Dk) (h : He) : q3 d h = if (Vt.fdD h d).1.2 ≠ 0 then ((Vt.fdD h d).1, he0, none, []) else ((Vt.fdD h d).1, h, (Vt.fdD h d).2.1, (Vt.fdD h d).2.2) := by
  have h4 : ∀ S : Option ByteArray, q4 d h S = if (Vt.lgD h.log d).1.2 ≠ 0 then ((Vt.lgD h.log d).1, he0, none, []) else if (Vt.over (Vt.su h) Vt.tps (Vt.lgD h.log d).1.1).2 ≠ 0 then (Vt.over (Vt.su h) Vt.tps (Vt.lgD h.log d).1.1, he0, none, []) else (Vt.over (Vt.su h) Vt.tps (Vt.lgD h.log d).1.1, h, S, (Vt.lgD h.log d).2) := fun S => by
    unfold q4
    dsimp only
    rw [q5_eq]
  have tail : ∀ S : Option ByteArray, (if h.snap ≠ 0 then Vt.one2 (Vt.tl (d.T h.snap.toNat)) else none) = S → ¬ (h.snap ≠ 0 ∧ d.dn = true) → ¬ (h.snap ≠ 0 ∧ (Vt.one2 (Vt.tl (d.T h.snap.toNat))).isNone = true) →
      q4 d h S = if (Vt.fdD h d).1.2 ≠ 0 then ((Vt.fdD h d).1, he0, none, []) else ((Vt.fdD h d).1, h, (Vt.fdD h d).2.1, (Vt.fdD h d).2.2) := fun S hS n1 n2 => by
    rw [h4]
    unfold Vt.fdD
    rw [if_neg n1, if_neg n2]
    dsimp only
    by_cases e1 : (Vt.lgD h.log d).1.2 ≠ 0
    · rw [if_pos e1, if_pos e1]; dsimp only; rw [if_pos e1]
    · rw [if_neg e1, if_neg e1]
      by_cases e2 : (Vt.over (Vt.su h) Vt.tps (Vt.lgD h.log d).1.1).2 ≠ 0
      · rw [if_pos e2, if_pos e2]; dsimp only; rw [if_pos e2]
      · rw [if_neg e2, if_neg e2]; dsimp only; rw [if_neg e2, hS]
  unfold q3 snR
  by_cases h0 : h.snap = 0
  · rw [if_pos h0]
    show (if (0 : Nat) ≠ 0 then _ else _) = _
    rw [if_neg (by simp)]
    exact tail none (by rw [if_neg (by simp [h0])]) (fun e => e.1 h0) (fun e => e.1 h0)
  · rw [if_neg h0]
    by_cases hdn : d.dn = true
    · rw [if_pos hdn]
      have e : Vt.fdD h d = ((d, 45), none, []) := by unfold Vt.fdD; rw [if_pos ⟨h0, hdn⟩]
      rw [e]; rfl
    · rw [if_neg hdn]
      cases ho : Vt.one2 (Vt.tl (d.T h.snap.toNat)) with
      | none =>
        have e : Vt.fdD h d = ((d, 4), none, []) := by unfold Vt.fdD; rw [if_neg (fun e => hdn e.2), if_pos ⟨h0, by rw [ho]; rfl⟩]
        rw [e]; rfl
      | some p =>
        dsimp only
        rw [if_neg (by simp)]
        exact tail (some p) (by rw [if_pos h0, ho]) (fun e => hdn e.2) (fun e => by rw [ho] at e; simp at e)
def opW (Y : (Dk × Nat) × He) : (Dk × Nat) × He := if Y.1.2 ≠ 0 then (Y.1, he0) else (Vt.over (Vt.wo Y.2) Vt.tps Y.1.1, Y.2)
def opX (x : (Dk × Nat) × He) : OpR := if x.1.2 ≠ 0 then (x.1, he0, none, []) else if (Vt.fdD x.2 x.1.1).1.2 ≠ 0 then ((Vt.fdD x.2 x.1.1).1, he0, none, []) else ((Vt.fdD x.2 x.1.1).1, x.2, (Vt.fdD x.2 x.1.1).2.1, (Vt.fdD x.2 x.1.1).2.2)
theorem opX_bad {x : (Dk × Nat) × He} (h : x.1.2 ≠ 0) : opX x = (x.1, he0, none, []) := if_pos h
theorem opX_ok (D : Dk) (h : He) : opX ((D, 0), h) = q3 D h := by
  rw [q3_eq]; exact if_neg (by simp)
theorem q2_fin (P : Dk × Nat) (h : He) (hdn : P.2 = 0 → P.1.dn = false) : (if P.2 ≠ 0 then ((P.1, P.2), he0, none, []) else q2 P.1 h) = opX (opW (P, h)) := by
  by_cases e : P.2 ≠ 0
  · have e1 : opW (P, h) = (P, he0) := if_pos e
    rw [if_pos e, e1, opX_bad e]
  · have e1 : opW (P, h) = (Vt.over (Vt.wo h) Vt.tps P.1, h) := if_neg e
    rw [if_neg e, e1]
    unfold q2
    rw [wipeO_eq P.1 h (h, 0) (hdn (by omega))]
    dsimp only
    by_cases e2 : (Vt.over (Vt.wo h) Vt.tps P.1).2 ≠ 0
    · rw [if_pos e2, opX_bad e2]
    · rw [if_neg e2, ← opX_ok]
      exact congrArg (fun z => opX (z, h)) (pair_eta _ 0 (by omega))
theorem putR_dn {d : Dk} {h : He} (e : (putR d h).2 = 0) : (putR d h).1.dn = false := by
  unfold putR at e ⊢
  by_cases hm : mayB h = true
  · rw [if_pos hm] at e ⊢
    by_cases e2 : (ldR d).2.2.2 ≠ 0
    · rw [if_pos e2] at e; exact absurd e e2
    · rw [if_neg e2] at e ⊢
      unfold stP at e ⊢
      have hp := ptT_le d
      by_cases e3 : (st1 d (ptT d)).2 ≠ 0
      · rw [if_pos e3] at e; exact absurd e e3
      · rw [if_neg e3] at e ⊢
        by_cases e4 : (st2 d (ptT d) (whl h)).2 ≠ 0
        · rw [if_pos e4] at e; exact absurd e e4
        · rw [if_neg e4] at e ⊢
          exact (doD_T (by omega) false sy e).2
  · rw [if_neg hm] at e; cases e
theorem q1_eq (d1 : Dk) : q1 d1 = opX (opW (Vt.bgH d1)) := by
  have hF : fhS (d1, he0, 0) = if (ldR d1).2.2.2 = 0 ∧ (ldR d1).2.2.1 = false then runS [wiSt 2, puSt Vt.hNew 0] (d1, he0, 0) else ((d1, (ldR d1).1, 0), (ldR d1).2.2.2) := rfl
  have hQ : q1 d1 = if (fhS (d1, he0, 0)).2 ≠ 0 then (((fhS (d1, he0, 0)).1.1, (fhS (d1, he0, 0)).2), he0, none, []) else q2 (fhS (d1, he0, 0)).1.1 (fhS (d1, he0, 0)).1.2.1 := rfl
  by_cases hr : (ldR d1).2.2.2 ≠ 0
  · have e1 : Vt.bgH d1 = ((d1, (ldR d1).2.2.2), he0) := if_pos hr
    have e2 : opW ((d1, (ldR d1).2.2.2), he0) = ((d1, (ldR d1).2.2.2), he0) := if_pos hr
    have hF' := hF.trans (if_neg (fun e => hr e.1))
    rw [hQ, hF', e1, e2, opX_bad hr]
    exact if_pos hr
  · have hdn : d1.dn = false := by
      cases hd : d1.dn with
      | false => rfl
      | true => exact absurd (by unfold ldR; rw [if_pos hd]; simp) hr
    cases hi : (ldR d1).2.2.1
    · have e1 : Vt.bgH d1 = (Vt.thn (doD d1 2 false wi) (fun d => putR d Vt.hNew), Vt.hNew) := by unfold Vt.bgH; rw [if_neg hr, hi, if_neg (by simp)]
      have hF' := hF.trans (if_pos ⟨by omega, hi⟩)
      rw [e1, hQ, hF']
      have hpd : (Vt.thn (doD d1 2 false wi) (fun d => putR d Vt.hNew)).2 = 0 → (Vt.thn (doD d1 2 false wi) (fun d => putR d Vt.hNew)).1.dn = false := fun e => by
        unfold Vt.thn at e ⊢
        by_cases e1 : (doD d1 2 false wi).2 ≠ 0
        · rw [if_pos e1] at e; exact absurd e e1
        · rw [if_neg e1] at e ⊢; exact putR_dn e
      rw [← q2_fin _ _ hpd]
      have hrun : (runS [wiSt 2, puSt Vt.hNew 0] (d1, he0, 0)).1.1 = (Vt.thn (doD d1 2 false wi) (fun d => putR d Vt.hNew)).1 ∧ (runS [wiSt 2, puSt Vt.hNew 0] (d1, he0, 0)).2 = (Vt.thn (doD d1 2 false wi) (fun d => putR d Vt.hNew)).2 ∧ ((runS [wiSt 2, puSt Vt.hNew 0] (d1, he0, 0)).2 = 0 → (runS [wiSt 2, puSt Vt.hNew 0] (d1, he0, 0)).1.2.1 = Vt.hNew) := by
        have r1 : runS [wiSt 2, puSt Vt.hNew 0] (d1, he0, 0) = if (doD d1 2 false wi).2 ≠ 0 then (((doD d1 2 false wi).1, he0, 0), (doD d1 2 false wi).2) else if (putR (doD d1 2 false wi).1 Vt.hNew).2 ≠ 0 then puSt Vt.hNew 0 ((doD d1 2 false wi).1, he0, 0) else ((puSt Vt.hNew 0 ((doD d1 2 false wi).1, he0, 0)).1, 0) := rfl
        rw [r1]
        by_cases e1 : (doD d1 2 false wi).2 ≠ 0
        · have hT : Vt.thn (doD d1 2 false wi) (fun d => putR d Vt.hNew) = doD d1 2 false wi := if_pos e1
          rw [if_pos e1, hT]; exact ⟨rfl, rfl, fun e => absurd e e1⟩
        · have hT : Vt.thn (doD d1 2 false wi) (fun d => putR d Vt.hNew) = putR (doD d1 2 false wi).1 Vt.hNew := if_neg e1
          rw [if_neg e1, hT]
          by_cases e2 : (putR (doD d1 2 false wi).1 Vt.hNew).2 ≠ 0
          · rw [if_pos e2]; exact ⟨rfl, rfl, fun e => absurd e e2⟩
          · rw [if_neg e2]
            refine ⟨rfl, by show (0 : Nat) = _; omega, fun _ => ?_⟩
            show (if (putR (doD d1 2 false wi).1 Vt.hNew).2 = 0 then (Vt.hNew, 0) else (he0, 0)).1 = Vt.hNew
            rw [if_pos (by omega)]
      obtain ⟨r1, r2, r3⟩ := hrun
      rw [r1, r2]
      by_cases e : (Vt.thn (doD d1 2 false wi) (fun d => putR d Vt.hNew)).2 ≠ 0
      · rw [if_pos e, if_pos e]
      · rw [if_neg e, if_neg e, r3 (by rw [r2]; omega)]
    · have e1 : Vt.bgH d1 = ((d1, 0), (ldR d1).1) := by unfold Vt.bgH; rw [if_neg hr, hi, if_pos rfl]
      have h0' : (ldR d1).2.2.2 = 0 := by omega
      have hF' := hF.trans (if_neg (by rw [hi]; simp))
      rw [e1, hQ, hF', h0', ← q2_fin (d1, 0) _ (fun _ => hdn)]
theorem opP_eq (d : Dk) : opP d = Vt.opD d := by
  have e0 := harden_eq d (he0, 0) (fun _ => true) [0, 1] (by decide) (by decide)
  have el : hdL d (([0, 1].filter fun _ => true).map fun t : Nat => (t : Int)) = hdL d [0, 1] := rfl
  rw [el] at e0
  have eo : Vt.over (fun d t => if (fun _ => true) t = true then Vt.sl d t else (d, 0)) [0, 1] d = Vt.thn (Vt.sl d 0) (fun d => Vt.sl d 1) := by
    show Vt.thn (Vt.sl d 0) (fun d => Vt.thn (Vt.sl d 1) (fun d => (d, 0))) = _
    congr 1
    funext d'
    unfold Vt.thn
    by_cases e : (Vt.sl d' 1).2 ≠ 0
    · rw [if_pos e]
    · rw [if_neg e]; exact pair_eta _ 0 (by omega)
  rw [eo] at e0
  have h1 : opP d = if (Vt.thn (Vt.sl d 0) (fun d => Vt.sl d 1)).2 ≠ 0 then (Vt.thn (Vt.sl d 0) (fun d => Vt.sl d 1), he0, none, []) else q1 (Vt.thn (Vt.sl d 0) (fun d => Vt.sl d 1)).1 := by
    unfold opP; rw [e0]
  have h2 : Vt.opD d = opX (Vt.bg d) := rfl
  have h3 : Vt.bg d = if (Vt.thn (Vt.sl d 0) (fun d => Vt.sl d 1)).2 ≠ 0 then (Vt.thn (Vt.sl d 0) (fun d => Vt.sl d 1), he0) else opW (Vt.bgH (Vt.thn (Vt.sl d 0) (fun d => Vt.sl d 1)).1) := rfl
  rw [h1, h2, h3]
  by_cases h0 : (Vt.thn (Vt.sl d 0) (fun d => Vt.sl d 1)).2 ≠ 0
  · rw [if_pos h0, if_pos h0, opX_bad h0]
  · rw [if_neg h0, if_neg h0, q1_eq]
end Go.Proofs.YtieemdcoomilaaaGreatDoor
namespace Go.Proofs.YtieemdcoomilaaaGreatDoor
open Go Go.RowKit Go.Sort
set_option maxRecDepth 100000
theorem runS_hn : ∀ (l : List SF) (x : VS), (∀ f ∈ l, ∀ x, (f x).1.2 = x.2) → (runS l x).1.2 = x.2
  | [], _, _ => rfl
  | f :: r, x, h => by
    show (if (f x).2 ≠ 0 then f x else runS r (f x).1).1.2 = x.2
    by_cases e : (f x).2 ≠ 0
    · rw [if_pos e]; exact h f (by simp) x
    · rw [if_neg e, runS_hn r _ (fun g hg => h g (by simp [hg]))]; exact h f (by simp) x
theorem hdL_hn (d : Dk) (l : List Int) (x : VS) : (runS (hdL d l) x).1.2 = x.2 := runS_hn _ _ fun f hf y => by
  unfold hdL at hf
  obtain ⟨t, _, rfl⟩ := List.mem_map.1 hf
  rfl
theorem woL_hn (d : Dk) (l : List Int) (x : VS) : (runS (woL d l) x).1.2 = x.2 := runS_hn _ _ fun f hf y => by
  unfold woL at hf
  obtain ⟨t, _, rfl⟩ := List.mem_map.1 hf
  rfl
set_option maxHeartbeats 400000 in
theorem open1_any (bt V B mo : Nat) (x : VS) (w : World) (c1 : w.cell? ⟨bt, 0, none⟩ = some (.pointer (some ⟨V, 0, none⟩))) (hx : VSt w V B mo x) : Calls Tryz.prog 42 #[.pointer (some ⟨bt, 0, none⟩)] w (StD w V B mo (runS (hdL x.1 [0, 1]) x)) := by
  have hA := below_one w (.cells #[.int .i64 0, .int .i64 1] 3)
  have hk : KAt (w.alloc (.cells #[.int .i64 0, .int .i64 1] 3)) (.slice (some ⟨w.heap.size, 0, none⟩) 2 2) [0, 1] := .inr ⟨w.heap.size, 0, 2, rfl, Nat.le_refl _, fun j hj => by
    rw [Nat.zero_add, World.cell?_alloc_mark]
    match j, hj with
    | 0, _ => rfl
    | 1, _ => rfl⟩
  have H := Lib.hid (harden_any V B mo x [0, 1] _ _ (hx.below hA (Nat.le_refl _)) hk (by simp) (fun t ht => by simp only [List.mem_cons, List.not_mem_nil, or_false] at ht; omega))
  have HA := Lib.hid hA
  clear hk hA hx
  go_enter Tryz.func42, Tryz.ntmps42
  go_wp2_with fail
  refine H.out.mono ?_
  rintro e w2 ⟨rfl, h2, g2⟩
  have H2 := Lib.hid h2
  have G2 := Lib.hid g2
  clear h2 g2
  go_wp2
  go_ret
  exact ⟨rfl, H2.out, (Gv.of_below HA.out B V).trans G2.out⟩
set_option maxHeartbeats 400000 in
theorem open2_any (bt : Nat) (pv pf : Value) (w : World) (Q : Int → World → Prop) (c1 : w.cell? ⟨bt, 0, none⟩ = some pv)
    (H : Calls Tryz.prog 47 #[pv, pf] w fun e w' => ∃ r : Int, e = .returned (.int .i64 r) ∧ Q r w') : Calls Tryz.prog 46 #[.pointer (some ⟨bt, 0, none⟩), pf] w fun e w' => ∃ r : Int, e = .returned (.int .i64 r) ∧ Q r w' := by
  have HH := Lib.hid H
  clear H
  go_enter Tryz.func46, Tryz.ntmps46
  go_wp2_with fail
  refine HH.out.mono ?_
  rintro e w' ⟨r, rfl, hr⟩
  have HR := Lib.hid hr
  clear hr
  go_wp2
  go_ret
  exact ⟨r, rfl, HR.out⟩
set_option maxHeartbeats 400000 in
theorem open3_any (bt : Nat) (pv pf : Value) (w : World) (Q : Int → World → Prop) (c1 : w.cell? ⟨bt, 0, none⟩ = some pv)
    (H : Calls Tryz.prog 49 #[pv, pf] w fun e w' => ∃ r : Int, e = .returned (.int .i64 r) ∧ Q r w') : Calls Tryz.prog 48 #[.pointer (some ⟨bt, 0, none⟩), pf] w fun e w' => ∃ r : Int, e = .returned (.int .i64 r) ∧ Q r w' := by
  have HH := Lib.hid H
  clear H
  go_enter Tryz.func48, Tryz.ntmps48
  go_wp2_with fail
  refine HH.out.mono ?_
  rintro e w' ⟨r, rfl, hr⟩
  have HR := Lib.hid hr
  clear hr
  go_wp2
  go_ret
  exact ⟨r, rfl, HR.out⟩
theorem below_undrew {w w1 : World} (h : Below w.drew.heap.size w.drew w1) : Below w.heap.size w w1 := ⟨h.os, h.tape, h.output, h.size, h.block⟩
theorem nmS_len {h : He} (hm : mayB h = true) : (nmS h).length ≤ 31 := by
  have k := mayB_ok hm
  have hp : (nmS h).length = (nmP h).length := by
    rw [← nm_sort hm]; exact List.length_mergeSort _
  rw [hp]
  unfold nmP
  rw [List.length_append]
  have := k.len
  split
  · simp only [List.length_cons, List.length_nil]; omega
  · simp only [List.length_nil]; omega
theorem nmS_in (h : He) (t : Int) (ht : t ∈ nmS h) : 0 ≤ t ∧ t < 32 := by
  unfold nmS at ht
  obtain ⟨a, ha, rfl⟩ := List.mem_map.1 ht
  have := (Vt.mem_tps.1 (List.mem_filter.1 ha).1)
  omega
set_option maxHeartbeats 1000000 in
theorem open4_any (bt V B mo : Nat) (x : VS) (w : World) (c1 : w.cell? ⟨bt, 0, none⟩ = some (.pointer (some ⟨V, 0, none⟩))) (hm : mayB x.2.1 = true) (hx : VSt w V B mo x) : Calls Tryz.prog 50 #[.pointer (some ⟨bt, 0, none⟩)] w (StD w V B mo (runS (hdL x.1 (nmS x.2.1)) x)) := by
  obtain ⟨v, hv⟩ := hx.v
  obtain ⟨va, vc, hva⟩ := hv.k.slice
  obtain ⟨L0, hL0⟩ : ∃ L0, x.2.1.log.length = L0 := ⟨_, rfl⟩
  rw [hL0] at hva
  have b2 := hv.g; have b3 := hv.b; have b4 := hv.s; have b5 := hv.l
  rw [hva] at b5
  have HN : Hid (Calls Tryz.prog 51 #[.agg #[.int .i64 x.2.1.gen, .int .i64 x.2.1.base, .int .i64 x.2.1.snap, .slice va L0 vc]] w.drew (NRet w.drew (nmS x.2.1))) := Lib.hid (by
    have := named_any x.2.1 v w.drew hv.k.drew hm
    unfold hval at this; rw [hva] at this; exact this)
  have HH := Lib.hid (fun u W (hW : Below w.heap.size w W) (hk : KAt W u (nmS x.2.1)) => harden_any V B mo x (nmS x.2.1) u W (hx.below hW (Nat.le_refl _)) hk (by have := nmS_len hm; omega) (nmS_in x.2.1))
  have hlt := World.block_lt_of_cell? w _ c1
  clear hv hva hL0 hx
  generalize nmS x.2.1 = l at *
  go_enter Tryz.func50, Tryz.ntmps50
  go_wp2_with fail
  go_region_with (first
    | (go_at_call 51; refine HN.out.mono ?_; rintro e w1 ⟨u, rfl, hu, hb1⟩; have HU := Lib.hid hu.kat'; have HB1 := Lib.hid (below_undrew hb1); have c2 := (World.cell?_of_block (a := ⟨bt, 0, none⟩) ((below_undrew hb1).block bt hlt)).trans c1; clear hu hb1)
    | (go_at_call 43; refine (HH.out _ _ HB1.out HU.out).mono ?_; rintro e w2 ⟨rfl, h2, g2⟩; have H2 := Lib.hid h2; have G2 := Lib.hid g2; clear h2 g2))
  all_goals
    go_wp2
    go_ret
    exact ⟨rfl, H2.out, (Gv.of_below HB1.out B V).trans G2.out⟩
end Go.Proofs.YtieemdcoomilaaaGreatDoor
