/- The vault, plainly: what adding a record leaves. Nothing of the program. -/
import Derived.Test.YtieemdcoomilaaaGreatDoorVd
set_option linter.unusedVariables false
set_option linter.unusedSimpArgs false
namespace Go.Proofs.YtieemdcoomilaaaGreatDoor.Vt
open Go Go.RowKit
set_option maxRecDepth 100000
theorem used_same {d d' : Dk} (h : ∀ j < 32, (d'.T j).s.size = (d.T j).s.size) : d'.used = d.used :=
  Nat.le_antisymm (sumT_mono 32 fun j hj => Nat.le_of_eq (h j hj)) (sumT_mono 32 fun j hj => Nat.le_of_eq (h j hj).symm)
theorem ptT_same {d d' : Dk} (h : d.dn = false) (h' : d'.dn = false) (e0 : (d'.T 0).s = (d.T 0).s) (e1 : (d'.T 1).s = (d.T 1).s) : ptT d' = ptT d := by
  unfold ptT; rw [ldR_T01 h h' e0 e1]
theorem siz_may {h : He} (hm : mayB h = true) : sizR h = (whl h).size := by unfold sizR; rw [if_pos hm, whl_size]
theorem used_put {d d' : Dk} {t : Nat} (ht : t < 32) {x : Tp} (h : d'.T = upd d.T t x) : d'.used + (d.T t).s.size = d.used + x.s.size := by
  unfold Dk.used; rw [h]; exact sumT_upd d.T t x 32 ht
/-- A tape that no head names is wiped, and a new head put: what it leaves. h: the head that counts; h': the new one, whose log and snapshot stand there. -/
theorem put_new {d : Dk} {h h' : He} {S' : Option ByteArray} {E' : List ByteArray} (hdn : d.dn = false) (hok : d.ok) (hh : HdT d.T h) (hm : mayB h' = true) (hg : h.gen < h'.gen) (hr : room d (ptT d) (whl h')) (hsn : SnapT d.T h' S') (hl : Lg d.T h'.log E' []) :
    (Okd d (upd d.T (ptT d) ⟨whl h', (whl h').size⟩) (putR d h') ∧ StdT (putR d h').1.T h' S' E' []) ∨
    Bad d (fun T => ∀ T', Beg T T' → (∀ {S E B}, StdT d.T h S E B → ∃ k, k ≤ B.length ∧ RdyT T' h S (E ++ B.take k)) ∨ RdyT T' h' S' E') (putR d h') := by
  have hp := ptT_le d
  have k := mayB_ok hm
  have hne : ∀ (x : Tp) (j : Nat), 2 ≤ j → upd d.T (ptT d) x j = d.T j := fun x j hj => upd_other _ _ (by omega)
  have hsn' : ∀ x, SnapT (upd d.T (ptT d) x) h' S' := fun x => hsn.keep fun hs => hne x _ (by have := (mayB_more hm).s2 hs; omega)
  have hl' : ∀ x, Lg (upd d.T (ptT d) x) h'.log E' [] := fun x => hl.congr fun t ht => hne x _ (by have := k.mem t ht; omega)
  rcases put_step hdn hok hm hr with q | q
  · refine .inl ⟨q, ?_⟩
    rw [q.T]
    exact ⟨put_head hdn hh hm hg, hsn' _, hl' _⟩
  · refine .inr ⟨q.e, q.dn, q.ok, q.dm, ?_⟩
    obtain ⟨x, hT, hx⟩ := q.q
    intro T' hb
    rw [hT] at hb
    rcases put_fall hdn hh hm hg hx hb with c | c
    · refine .inl fun {S E B} hs => ?_
      have ko := mayB_ok hs.hd.may
      have hl2 : Lg (upd d.T (ptT d) x) h.log E B := hs.lg.congr fun t ht => hne x _ (by have := ko.mem t ht; omega)
      obtain ⟨j, hj, hlj⟩ := hl2.beg (log_lt hs.hd.may) hb
      refine ⟨j, hj, c, ?_, hlj, fun i hi => (hb i hi).1⟩
      refine hs.snap.keep fun hsn => ?_
      have h2 := (mayB_more hs.hd.may).s2 hsn
      rcases hs.snap with h0 | ⟨s, h1, h2', h3, h4, h5⟩
      · exact absurd h0.1 hsn
      · rw [hb.same (by have := ko.s2; omega) (by rw [hne x _ (by omega)]; exact h5), hne x _ (by omega)]
    · obtain ⟨j, hj, hlj⟩ := (hl' x).beg (log_lt hm) hb
      have : ([] : List ByteArray).take j = [] := List.take_nil
      rw [this, List.append_nil] at hlj
      refine .inr ⟨c, ?_, hlj, fun i hi => (hb i hi).1⟩
      refine (hsn' x).keep fun hs => ?_
      have h2 := (mayB_more hm).s2 hs
      rcases hsn' x with h0 | ⟨s, h1, h2', h3, h4, h5⟩
      · exact absurd h0.1 hs
      · exact hb.same (by have := k.s2; omega) h5
/-- What adding a record leaves. -/
def AddOk (d : Dk) (h : He) (n most : Nat) (S : Option ByteArray) (E B : List ByteArray) (r : ByteArray) (P : (Dk × Nat) × He × Nat) : Prop :=
  P.1.2 = 0 ∧ Upd d P.1.1 ∧ P.2.2 = n + 1 ∧ r.size ≤ 262144 ∧ h.base + n < 1099511627776 ∧ Emp P.1.1.T P.2.1 ∧
    ((P.2.1 = h ∧ StdT P.1.1.T h S E (B ++ [r]) ∧ P.1.1.T = upd d.T (lz h.log).toNat ⟨(d.T (lz h.log).toNat).s ++ fr1 r, (d.T (lz h.log).toNat).f⟩ ∧ ¬ (0 < (d.T (lz h.log).toNat).s.size ∧ most < (d.T (lz h.log).toNat).s.size + (r.size + 9))) ∨
     (∃ z, P.2.1 = nxH h z ∧ 2 ≤ z ∧ z < 32 ∧ StdT P.1.1.T (nxH h z) S (E ++ B) [r] ∧ (0 < (d.T (lz h.log).toNat).s.size ∧ most < (d.T (lz h.log).toNat).s.size + (r.size + 9)) ∧ usB h z = false ∧ (∃ rest, frL h 32 = z :: rest) ∧
      P.1.1.T = upd (upd (upd (upd d.T (lz h.log).toNat (fmT (d.T (lz h.log).toNat))) z.toNat t0) (ptT d) ⟨whl (nxH h z), (whl (nxH h z)).size⟩) z.toNat ⟨t0.s ++ fr1 r, 0⟩))
/-- Why it is refused. -/
def AddNo (d : Dk) (h : He) (n most : Nat) (r : ByteArray) : Prop :=
  (262144 < r.size ∨ 1099511627776 ≤ h.base + n) ∨
  ((0 < (d.T (lz h.log).toNat).s.size ∧ most < (d.T (lz h.log).toNat).s.size + (r.size + 9)) ∧ (1099511627776 ≤ h.gen ∨ frL h 32 = [] ∨ ∃ z rest, frL h 32 = z :: rest ∧ d.cap + (d.T z.toNat).s.size + (d.T (ptT d)).s.size < d.used + (r.size + 9) + sizR (nxH h z))) ∨
  (¬ (0 < (d.T (lz h.log).toNat).s.size ∧ most < (d.T (lz h.log).toNat).s.size + (r.size + 9)) ∧ d.cap < d.used + (r.size + 9))
theorem add_std {d : Dk} {h : He} {S : Option ByteArray} {E B : List ByteArray} (hdn : d.dn = false) (hok : d.ok) (hs : StdT d.T h S E B) (he : Emp d.T h) (n most : Nat) (hmost : most ≤ 1048576) (r : ByteArray) :
    ((addD d h n most r).1.1 = d ∧ ((addD d h n most r).1.2 = 40 ∨ (addD d h n most r).1.2 = 44) ∧ (addD d h n most r).2 = (h, n) ∧ AddNo d h n most r) ∨
    AddOk d h n most S E B r (addD d h n most r) ∨
    ((addD d h n most r).1.2 = 45 ∧ (addD d h n most r).1.1.dn = true ∧ (addD d h n most r).1.1.ok ∧ d.dm = true ∧ Fall (addD d h n most r).1.1.T h S E (B ++ [r])) := by
  have hm := hs.hd.may
  have k := mayB_ok hm
  have hz := k.mem _ (lz_mem k.ne)
  have hz32 : (lz h.log).toNat < 32 := by omega
  unfold addD
  by_cases c1 : 262144 < r.size ∨ 1099511627776 ≤ h.base + n
  · rw [if_pos c1]; exact .inl ⟨rfl, .inl rfl, rfl, .inl c1⟩
  rw [if_neg c1, hdn, if_neg (by simp)]
  have hrs : r.size ≤ 262144 := by omega
  have hbn : h.base + n < 1099511627776 := by omega
  by_cases c2 : 0 < (d.T (lz h.log).toNat).s.size ∧ most < (d.T (lz h.log).toNat).s.size + (r.size + 9)
  · rw [if_pos c2]
    by_cases c3 : 1099511627776 ≤ h.gen
    · rw [if_pos c3]; exact .inl ⟨rfl, .inl rfl, rfl, .inr (.inl ⟨c2, .inl c3⟩)⟩
    rw [if_neg c3]
    have hF := frL_mem h 32
    cases hfl : frL h 32 with
    | nil => exact .inl ⟨rfl, .inr rfl, rfl, .inr (.inl ⟨c2, .inr (.inl hfl)⟩)⟩
    | cons z rest =>
      obtain ⟨⟨z2, z3⟩, zu⟩ := hF z (by rw [hfl]; simp)
      have z3' : z < 32 := z3
      have hzt : z.toNat < 32 := by omega
      have hzi : (z.toNat : Int) = z := Int.toNat_of_nonneg (by omega)
      dsimp only
      by_cases c4 : d.cap + (d.T z.toNat).s.size + (d.T (ptT d)).s.size < d.used + (r.size + 9) + sizR (nxH h z)
      · rw [if_pos c4]; exact .inl ⟨rfl, .inr rfl, rfl, .inr (.inl ⟨c2, .inr (.inr ⟨z, rest, hfl, c4⟩)⟩)⟩
      rw [if_neg c4]
      have hmn := nx_may hm (by omega) z2 z3' zu
      have hez : (d.T z.toNat).s.size = 0 := he z.toNat (by omega) hzt (by rw [hzi]; exact zu)
      have hp := ptT_le d
      rcases sync_std hdn hok hs he with ⟨q1, s1, e1, m1⟩ | q1
      · rw [thn_ok _ q1.e]
        have u1 : Upd d (syD d h).1 := q1.upd ⟨hdn, hok, rfl, fun e => e⟩
        have T1 := q1.T
        generalize (syD d h).1 = d1 at *
        rcases wi_step u1.dn u1.ok hzt with q2 | q2
        · rw [thn_ok _ q2.e]
          have u2 := q2.upd u1
          have T2 := q2.T
          have cap2 := u2.cap
          generalize (doD d1 z.toNat false wi).1 = d2 at *
          have s2 : StdT d2.T h S (E ++ B) [] := s1.keep fun j hj hc => by
            rw [T2]
            exact upd_other _ _ fun e => by
              subst e
              rcases hc with hc | hc
              · omega
              · rw [hzi, zu] at hc; cases hc
          have hfz : d2.T z.toNat = t0 := by rw [T2, upd_same]
          have hfl2 : ∀ t ∈ h.log, fm (d2.T t.toNat) := fun t ht => by
            by_cases et : t = lz h.log
            · subst et
              rw [T2, upd_other _ _ (fun e => by rw [← hzi, ← e, log_us hm (lz_mem k.ne)] at zu; cases zu), T1, upd_same]; rfl
            · exact s2.lg.fm t ht et
          have hln : Lg d2.T (nxH h z).log (E ++ B) [] := s2.lg.snoc rfl hfl2 (by rw [hfz]; rfl)
          have hsz : ∀ j < 32, (d2.T j).s.size = (d.T j).s.size := fun j hj => by
            rw [T2]
            by_cases ej : j = z.toNat
            · subst ej; rw [upd_same, hez]; rfl
            · rw [upd_other _ _ ej, m1.s hj]
          have hus := used_same hsz
          have hpt : ptT d2 = ptT d := ptT_same hdn u2.dn (by rw [T2, upd_other _ _ (by omega), m1.s (by decide)]) (by rw [T2, upd_other _ _ (by omega), m1.s (by decide)])
          have hsr := siz_may hmn
          have hroom : room d2 (ptT d2) (whl (nxH h z)) := by
            unfold room
            rw [hus, hpt, hsz _ (by omega), cap2]
            omega
          rcases put_new u2.dn u2.ok s2.hd hmn (show h.gen < h.gen + 1 by omega) hroom (show SnapT d2.T (nxH h z) S from s2.snap) hln with ⟨q3, s3⟩ | q3
          · rw [if_neg (by rw [q3.e]; simp)]
            have u3 := q3.upd u2
            have T3 := q3.T
            generalize (putR d2 (nxH h z)).1 = d3 at *
            have hu3 := used_put (d := d2) (d' := d3) (t := ptT d2) (by omega) T3
            have hz3 : d3.T z.toNat = t0 := by rw [T3, upd_other _ _ (by omega), hfz]
            have hz30 : (d3.T z.toNat).s.size = 0 := by rw [hz3]; rfl
            have hlz : lz (nxH h z).log = z := lz_snoc _ _
            have fz := fr1_size r
            have e3 : Emp d3.T (nxH h z) := fun t a b c => by
              rw [us_nx, Bool.or_eq_false_iff] at c
              have htz : t ≠ z.toNat := fun e => by have := of_decide_eq_false c.2; omega
              rw [T3, upd_other _ _ (by omega), hsz t b]
              exact he t a b c.1
            have s4 := s3.write hrs
            rw [hlz] at s4
            have hT4 : ∀ T, T = upd d3.T z.toNat ⟨(d3.T z.toNat).s ++ fr1 r, (d3.T z.toNat).f⟩ → T = upd (upd (upd (upd d.T (lz h.log).toNat (fmT (d.T (lz h.log).toNat))) z.toNat t0) (ptT d) ⟨whl (nxH h z), (whl (nxH h z)).size⟩) z.toNat ⟨t0.s ++ fr1 r, 0⟩ := fun T hT => by
              rw [hT, hz3, T3, hpt, T2, T1]; rfl
            rcases wr_step u3.dn u3.ok hzt (fr1 r) (by omega) (by
              have a1 : (whl (nxH h z)).size = sizR (nxH h z) := hsr.symm
              have a2 := hsz (ptT d2) (by omega)
              have a3 := u3.cap
              have a4 : (⟨whl (nxH h z), (whl (nxH h z)).size⟩ : Tp).s.size = (whl (nxH h z)).size := rfl
              rw [hpt] at hu3 a2
              omega) with q4 | q4
            · refine .inr (.inl ⟨q4.e, q4.upd u3, by rw [if_pos q4.e], hrs, hbn, ?_, .inr ⟨z, rfl, z2, z3', ?_, c2, zu, ⟨rest, hfl⟩, hT4 _ q4.T⟩⟩)
              · dsimp only
                rw [q4.T]
                refine e3.keep fun j a b c => upd_other _ _ fun e => ?_
                rw [us_nx, Bool.or_eq_false_iff] at c
                have := of_decide_eq_false c.2
                omega
              · dsimp only
                rw [q4.T]
                exact s4
            · refine .inr (.inr ⟨q4.e, q4.dn, q4.ok, ?_, ?_⟩)
              · cases hdm : d.dm
                · have := u3.dm hdm; rw [q4.dm] at this; cases this
                · rfl
              · dsimp only
                rw [q4.q]
                intro T' hb
                obtain ⟨i, hi, hr⟩ := s4.beg hb
                refine ⟨nxH h z, B.length + i, by simp at hi ⊢; omega, rfl, ?_⟩
                have : (B ++ [r]).take (B.length + i) = B ++ [r].take i := by rw [List.take_append, List.take_of_length_le (by omega), Nat.add_sub_cancel_left]
                rw [this, ← List.append_assoc]
                exact hr
          · rw [if_pos (by rw [q3.e]; decide)]
            refine .inr (.inr ⟨q3.e, q3.dn, q3.ok, ?_, ?_⟩)
            · cases hdm : d.dm
              · have := u2.dm hdm; rw [q3.dm] at this; cases this
              · rfl
            · refine Fall.more (fun T' hb => ?_) [r]
              rcases q3.q T' hb with c | c
              · obtain ⟨i, hi, hr⟩ := c s2
                exact ⟨h, i, hi, rfl, hr⟩
              · exact ⟨nxH h z, 0, Nat.le_refl _, rfl, by rw [List.take_nil, List.append_nil]; exact c⟩
        · rw [thn_bad (x := doD d1 z.toNat false wi) _ q2.e, if_pos (by rw [q2.e]; decide)]
          refine .inr (.inr ⟨q2.e, q2.dn, q2.ok, ?_, ?_⟩)
          · cases hdm : d.dm
            · have := u1.dm hdm; rw [q2.dm] at this; cases this
            · rfl
          · dsimp only
            rw [q2.q]
            exact Fall.more (by have := s1.fall []; exact this) [r]
      · rw [thn_bad (x := syD d h) _ q1.e, thn_bad _ q1.e, if_pos (by rw [q1.e]; decide)]
        refine .inr (.inr ⟨q1.e, q1.dn, q1.ok, q1.dm, ?_⟩)
        dsimp only
        rw [q1.q]
        exact hs.fall [r]
  · rw [if_neg c2]
    by_cases c3 : d.cap < d.used + (r.size + 9)
    · rw [if_pos c3]; exact .inl ⟨rfl, .inr rfl, rfl, .inr (.inr ⟨c2, c3⟩)⟩
    rw [if_neg c3]
    have fz := fr1_size r
    have s4 := hs.write hrs
    rcases wr_step hdn hok hz32 (fr1 r) (by omega) (by omega) with q4 | q4
    · refine .inr (.inl ⟨q4.e, q4.upd ⟨hdn, hok, rfl, fun e => e⟩, by dsimp only; rw [if_pos q4.e], hrs, hbn, ?_, .inl ⟨rfl, ?_, q4.T, c2⟩⟩)
      · dsimp only
        rw [q4.T]
        exact he.keep fun j a b c => upd_other _ _ fun e => by rw [e, log_us hm (lz_mem k.ne)] at c; cases c
      · dsimp only
        rw [q4.T]
        exact s4
    · refine .inr (.inr ⟨q4.e, q4.dn, q4.ok, q4.dm, ?_⟩)
      dsimp only
      rw [q4.q]
      have := s4.fall []
      rw [List.append_nil] at this
      exact this
end Go.Proofs.YtieemdcoomilaaaGreatDoor.Vt
