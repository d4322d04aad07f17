/- The vault, plainly: opening it finds what stands there. Nothing of the program. -/
import Derived.Test.YtieemdcoomilaaaGreatDoorVc
set_option linter.unusedVariables false
set_option linter.unusedSimpArgs false
namespace Go.Proofs.YtieemdcoomilaaaGreatDoor.Vt
open Go Go.RowKit
set_option maxRecDepth 100000
theorem rw1_back (R : List ByteArray) : (rw1 R).map (fun x => bs x.2) = R := by
  unfold rw1
  rw [List.map_map]
  have : ((fun x : Fr1 => bs x.2) ∘ fun r : ByteArray => ((1 : UInt8), r.data.toList)) = id := funext fun r => bs_of r
  rw [this, List.map_id]
theorem rw1_one (R : List ByteArray) : (rw1 R).all (fun x => x.1 == 1) = true := by
  unfold rw1
  rw [List.all_map]
  exact List.all_eq_true.2 fun r _ => rfl
theorem fs_rb {R : List ByteArray} (h : small R) (j : List UInt8) (hj : Fr.er j ≠ 0) : fs (rb R ++ j) = rw1 R ∧ en (rb R ++ j) = (rb R).length := fs_row (rw1 R) j (rw1_ok h) hj
theorem fs_rb0 {R : List ByteArray} (h : small R) : fs (rb R) = rw1 R ∧ en (rb R) = (rb R).length := fs_row0 (rw1 R) (rw1_ok h)
theorem tpD_whole {d : Dk} {t : Nat} {R : List ByteArray} (last : Bool) (hdn : d.dn = false) (hs : small R) (h : tl (d.T t) = rb R) : tpD d t last = ((d, 0), R) := by
  have he : (rb R).length = (d.T t).s.size := by rw [← h, tl_len]
  unfold tpD
  rw [hdn, if_neg (by simp), h, (fs_rb0 hs).1, (fs_rb0 hs).2, rw1_one, if_neg (by simp), if_neg (by omega), rw1_back]
theorem lgD_std {d : Dk} {l : List Int} {E B : List ByteArray} (hdn : d.dn = false) (h : Lg d.T l E B) : lgD l d = ((d, 0), E ++ B) := by
  have key : ∀ {T l E B}, Lg T l E B → T = d.T → lgD l d = ((d, 0), E ++ B) := fun {T l E B} h => by
    induction h with
    | last t A B h1 h2 h3 =>
      intro hT
      subst hT
      unfold lgD
      rw [tpD_whole _ hdn h1 h2]
      simp [lgD]
    | cons t r X E B h1 h2 h3 _ ih =>
      intro hT
      have ih := ih hT
      subst hT
      unfold lgD
      rw [tpD_whole _ hdn h1 h2]
      simp [ih]
  exact key h rfl
/-- On a calm disk what is torn behind the last one's frames is trimmed. -/
structure Trimd (d0 : Dk) (l : List Int) (R : List ByteArray) (d : Dk) : Prop where
  u : Upd d0 d
  keep : ∀ j : Nat, j ≠ (lz l).toNat → d.T j = d0.T j
  lg : Lg d.T l R []
  fm : (∀ j < 32, fm (d0.T j)) → ∀ j < 32, fm (d.T j)
  last : tl (d.T (lz l).toNat) = (tl (d0.T (lz l).toNat)).take (en (tl (d0.T (lz l).toNat)))
theorem lgD_rdy {d : Dk} {l : List Int} {R : List ByteArray} (hdn : d.dn = false) (hok : d.ok) (hdm : d.dm = false) (hn : l.Nodup) (hl : ∀ t ∈ l, 2 ≤ t ∧ t < 32) (h : Lj d.T l R) : ∃ d', lgD l d = ((d', 0), R) ∧ Trimd d l R d' := by
  have key : ∀ {T l R}, Lj T l R → T = d.T → l.Nodup → (∀ t ∈ l, 2 ≤ t ∧ t < 32) → ∃ d', lgD l d = ((d', 0), R) ∧ Trimd d l R d' := fun {T l R} h => by
    induction h with
    | last t R j h1 h2 h3 h4 =>
      intro hT hn hl
      subst hT
      have ht := hl t (by simp)
      have ht' : t.toNat < 32 := by omega
      by_cases hj : j = []
      · subst hj
        rw [List.append_nil] at h2
        refine ⟨d, ?_, ⟨hdn, hok, rfl, fun e => e⟩, fun _ _ => rfl, .last t R [] (by rw [List.append_nil]; exact h1) (by rw [List.append_nil]; exact h2) ?_, fun e => e, by rw [show lz [t] = t from rfl, h2, (fs_rb0 h1).2, List.take_length]⟩
        · unfold lgD
          rw [tpD_whole _ hdn h1 h2]
          simp [lgD]
        · rw [h4, ← tl_len, h2]; exact Nat.le_refl _
      · have hj1 : 0 < j.length := List.length_pos_iff.2 hj
        obtain ⟨f1, f2⟩ := fs_rb h1 j h3
        have hz : (d.T t.toNat).s.size = (rb R).length + j.length := by rw [← tl_len, h2, List.length_append]
        have e1 : tpD d t.toNat true = (doD d t.toNat false (tr (rb R).length), R) := by
          unfold tpD
          rw [hdn, if_neg (by simp), h2, f1, f2, rw1_one, if_neg (by simp), if_pos (by omega), if_neg (by simp), rw1_back]
        rcases tr_step hdn hok ht' (rb R).length (by omega) with k | k
        · refine ⟨(doD d t.toNat false (tr (rb R).length)).1, ?_, k.upd ⟨hdn, hok, rfl, fun e => e⟩, fun i hi => ?_, ?_, fun e i hi => ?_, ?_⟩
          · unfold lgD
            simp only [List.isEmpty_nil]
            rw [e1]
            simp only [k.e, lgD]
            simp [← k.e]
          · rw [k.T]; exact upd_other _ _ hi
          · refine .last t R [] (by rw [List.append_nil]; exact h1) ?_ ?_
            · rw [k.T, upd_same, List.append_nil]
              unfold tl at h2 ⊢
              rw [ext_toList, h2, List.take_left' rfl]; rfl
            · rw [k.T, upd_same]; exact Nat.le_refl _
          · rw [k.T]
            by_cases hi2 : i = t.toNat
            · subst hi2
              rw [upd_same]
              show (rb R).length = ((d.T t.toNat).s.extract 0 (rb R).length).size
              rw [ByteArray.size_extract]; omega
            · rw [upd_other _ _ hi2]; exact e i hi
          · show tl ((doD d t.toNat false (tr (rb R).length)).1.T t.toNat) = (tl (d.T t.toNat)).take (en (tl (d.T t.toNat)))
            rw [k.T, upd_same, h2, f2]
            unfold tl at h2 ⊢
            rw [ext_toList, h2]; rfl
        · have := k.dm; rw [hdm] at this; cases this
    | cons t r X E h1 h2 h3 h4 ih =>
      intro hT hn hl
      obtain ⟨n1, n2⟩ := List.nodup_cons.1 hn
      obtain ⟨d', e, k⟩ := ih hT n2 (fun u hu => hl u (by simp [hu]))
      subst hT
      have hz := lz_mem h4.ne
      have hne : t.toNat ≠ (lz r).toNat := fun e => n1 (by
        have a := hl t (by simp)
        have b := hl (lz r) (by simp [hz])
        have : t = lz r := by omega
        rw [this]; exact hz)
      have e2 := k.keep t.toNat hne
      refine ⟨d', ?_, k.u, fun j hj => k.keep j (by rw [lz_cons t h4.ne] at hj; exact hj), .cons t r X E [] h1 (by rw [e2]; exact h2) (by rw [e2]; exact h3) k.lg, k.fm, by rw [lz_cons t h4.ne]; exact k.last⟩
      unfold lgD
      rw [tpD_whole _ hdn h1 h2]
      simp [e]
  exact key h rfl hn hl
theorem one2_frm (s : ByteArray) (hs : s.size ≤ 262144) : one2 (Fr.frm 2 s.data.toList) = some s := by
  have ok : Fr.Ok 2 s.data.toList := ⟨show 1 ≤ (2 : UInt8).toNat ∧ (2 : UInt8).toNat ≤ 3 by decide, by simpa using hs⟩
  have hg := Fr.good_of 2 s.data.toList [] ok
  have h1 := Fr.kd_frm 2 s.data.toList []
  have h2 := Fr.ln_frm 2 s.data.toList [] ok.2
  have h3 := Fr.pl_frm 2 s.data.toList [] ok.2
  rw [List.append_nil] at hg h1 h2 h3
  unfold one2
  rw [if_pos ⟨Fr.er_good.2 hg, h1, by rw [h2, Fr.frm_length]⟩, h3]
  rfl
theorem SnapT.one {T : Nat → Tp} {h : He} {S : Option ByteArray} (hs : SnapT T h S) : (h.snap ≠ 0 → one2 (tl (T h.snap.toNat)) = S ∧ S.isNone = false) ∧ (if h.snap ≠ 0 then one2 (tl (T h.snap.toNat)) else none) = S := by
  rcases hs with ⟨h0, h1⟩ | ⟨s, h1, h2, h3, h4, h5⟩
  · exact ⟨fun e => absurd h0 e, by rw [if_neg (by omega), h1]⟩
  · have e : one2 (tl (T h.snap.toNat)) = S := by rw [h4, one2_frm s h3, h1]
    exact ⟨fun _ => ⟨e, by rw [h1]; rfl⟩, by rw [if_pos h2, e]⟩
theorem over_su_firm {d : Dk} {h : He} (hf : ∀ j : Nat, j < 32 → usB h (j : Int) = true → fm (d.T j)) : over (su h) tps d = (d, 0) := by
  have key : ∀ l : List Nat, (∀ t : Nat, t ∈ l → 2 ≤ t ∧ t < 32) → over (su h) l d = (d, 0) := fun l => by
    induction l with
    | nil => exact fun _ => rfl
    | cons t r ih =>
      intro hl
      have e : su h d t = (d, 0) := by
        unfold su
        cases hu : usB h (t : Int)
        · rw [if_neg (by simp)]
        · rw [if_pos rfl]; exact sl_firm (hf t (hl t (by simp)).2 hu)
      rw [over, e, thn_ok _ rfl]
      exact ih fun u hu => hl u (by simp [hu])
  exact key tps fun t ht => mem_tps.1 ht
theorem Wiped.hd {d0 d : Dk} {h : He} (k : Wiped d0 h d) (hh : HdT d0.T h) : HdT d.T h := hh.same (k.keep 0 (.inl (by decide))) (k.keep 1 (.inl (by decide)))
theorem SnapT.keep {T T' : Nat → Tp} {h : He} {S : Option ByteArray} (hs : SnapT T h S) (e : h.snap ≠ 0 → T' h.snap.toNat = T h.snap.toNat) : SnapT T' h S := by
  rcases hs with h0 | ⟨s, h1, h2, h3, h4, h5⟩
  · exact .inl h0
  · exact .inr ⟨s, h1, h2, h3, by rw [e h2]; exact h4, by rw [e h2]; exact h5⟩
theorem us_snapN {h : He} (hm : mayB h = true) (hs : h.snap ≠ 0) : usB h (h.snap.toNat : Int) = true := by rw [Int.toNat_of_nonneg (mayB_ok hm).s1]; exact us_snap hs
theorem Lj.congr {T T' : Nat → Tp} {l : List Int} {R : List ByteArray} (h : Lj T l R) (e : ∀ t ∈ l, T' t.toNat = T t.toNat) : Lj T' l R := by
  induction h with
  | last t R j h1 h2 h3 h4 =>
    have := e t (by simp)
    exact .last t R j h1 (by rw [this]; exact h2) h3 (by rw [this]; exact h4)
  | cons t r X E h1 h2 h3 _ ih =>
    have := e t (by simp)
    exact .cons t r X E h1 (by rw [this]; exact h2) (by rw [this]; exact h3) (ih fun u hu => e u (by simp [hu]))
theorem Emp.keep {T T' : Nat → Tp} {h : He} (he : Emp T h) (e : ∀ j : Nat, 2 ≤ j → j < 32 → usB h (j : Int) = false → T' j = T j) : Emp T' h := fun t a b c => by rw [e t a b c]; exact he t a b c
/-- What a vault that is opened leaves, where all went well: all is firm, and no byte stands elsewhere. -/
structure Opn (d0 : Dk) (h : He) (S : Option ByteArray) (R : List ByteArray) (d : Dk) : Prop where
  u : Upd d0 d
  std : StdT d.T h S R []
  emp : Emp d.T h
  fm : ∀ j < 32, fm (d.T j)
/-- Behind a failure, on a calm disk. -/
theorem open_rdy {d : Dk} {h : He} {S : Option ByteArray} {R : List ByteArray} (hdn : d.dn = false) (hok : d.ok) (hdm : d.dm = false) (hr : RdyT d.T h S R) : ∃ d', opD d = ((d', 0), h, S, R) ∧ Opn d h S R d' ∧ (∀ j : Nat, (j < 2 ∨ usB h (j : Int) = true) → j ≠ (lz h.log).toNat → d'.T j = d.T j) ∧ tl (d'.T (lz h.log).toNat) = (tl (d.T (lz h.log).toNat)).take (en (tl (d.T (lz h.log).toNat))) := by
  have hm := hr.hd.may
  have hmo := mayB_more hm
  obtain ⟨e1, k1⟩ := over_wo_calm (h := h) hdn hok hdm
  have e1' : over (wo h) tps d = ((over (wo h) tps d).1, 0) := by rw [← e1]
  have hb : bg d = (((over (wo h) tps d).1, 0), h) := by rw [bg_head hdn hr.hd, e1']
  generalize (over (wo h) tps d).1 = d1 at *
  have hu1 := k1.u
  have hsn1 : SnapT d1.T h S := hr.snap.keep fun hs => k1.keep _ (.inr (us_snapN hm hs))
  have hl1 : Lj d1.T h.log R := hr.lg.congr fun t ht => k1.keep _ (.inr (log_us hm ht))
  obtain ⟨d2, e2, k2⟩ := lgD_rdy hu1.dn hu1.ok (hu1.dm hdm) hmo.nd (mayB_ok hm).mem hl1
  have hf1 := k1.fm hr.fm
  have hf2 := k2.fm hf1
  have e3 : over (su h) tps d2 = (d2, 0) := over_su_firm fun j hj _ => hf2 j hj
  have hz := (mayB_ok hm).mem _ (lz_mem (mayB_ok hm).ne)
  have hfd : fdD h d1 = ((d2, 0), S, R) := by
    unfold fdD
    rw [hu1.dn, if_neg (by simp), if_neg (fun hx => by have := (hsn1.one.1 hx.1); rw [this.1, this.2] at hx; simp at hx), e2]
    simp only [e3]
    rw [hsn1.one.2]
    simp
  refine ⟨d2, ?_, ⟨⟨k2.u.dn, k2.u.ok, k2.u.cap.trans hu1.cap, fun e => k2.u.dm (hu1.dm e)⟩, ⟨?_, ?_, k2.lg⟩, ?_, hf2⟩, fun j hj hz2 => ?_, ?_⟩
  · unfold opD
    rw [hb]
    simp [hfd]
  · exact (k1.hd hr.hd).same (k2.keep 0 (by omega)) (k2.keep 1 (by omega))
  · refine hsn1.keep fun hs => k2.keep _ fun e => hmo.sn hs ?_
    have a := (mayB_ok hm).s1
    have : h.snap = lz h.log := by omega
    rw [this]; exact lz_mem (mayB_ok hm).ne
  · refine k1.emp.keep fun j a b c => k2.keep j fun e => ?_
    rw [e, log_us hm (lz_mem (mayB_ok hm).ne)] at c; cases c
  · rw [k2.keep j hz2, k1.keep j hj]
  · rw [k2.last, k1.keep _ (.inr (log_us hm (lz_mem (mayB_ok hm).ne)))]
/-- Opened again, all firm: nothing is done. -/
theorem open_same {d : Dk} {h : He} {S : Option ByteArray} {E B : List ByteArray} (hdn : d.dn = false) (hs : StdT d.T h S E B) (he : Emp d.T h) (hf : ∀ j < 32, fm (d.T j)) : opD d = ((d, 0), h, S, E ++ B) := by
  have hb : bg d = ((d, 0), h) := by rw [bg_head hdn hs.hd, over_wo_emp he]
  have hfd : fdD h d = ((d, 0), S, E ++ B) := by
    unfold fdD
    rw [hdn, if_neg (by simp), if_neg (fun hx => by have := (hs.snap.one.1 hx.1); rw [this.1, this.2] at hx; simp at hx), lgD_std hdn hs.lg]
    simp only [over_su_firm (h := h) fun j hj _ => hf j hj]
    rw [hs.snap.one.2]
    simp
  unfold opD
  rw [hb]
  simp [hfd]
end Go.Proofs.YtieemdcoomilaaaGreatDoor.Vt
namespace Go.Proofs.YtieemdcoomilaaaGreatDoor.Vt
open Go Go.RowKit
set_option maxRecDepth 100000
/-- The same bytes, more of them firm. -/
def Mf (T T' : Nat → Tp) : Prop := ∀ j < 32, tl (T' j) = tl (T j) ∧ (T j).f ≤ (T' j).f ∧ (fm (T j) → fm (T' j))
theorem Mf.s {T T' : Nat → Tp} (h : Mf T T') {j : Nat} (hj : j < 32) : (T' j).s = (T j).s := tl_inj (h j hj).1
theorem StdT.mono {T T' : Nat → Tp} {h : He} {S : Option ByteArray} {E B : List ByteArray} (hs : StdT T h S E B) (e : Mf T T') : StdT T' h S E B := by
  have hm := hs.hd.may
  refine ⟨⟨hm, by rw [e.s (by decide), e.s (by decide)]; exact hs.hd.hd, by rw [e.s (by decide), e.s (by decide)]; exact hs.hd.is, (e 0 (by decide)).2.2 hs.hd.f0, (e 1 (by decide)).2.2 hs.hd.f1⟩, ?_, hs.lg.mono fun t ht => e _ (log_lt hm t ht)⟩
  rcases hs.snap with h0 | ⟨s, h1, h2, h3, h4, h5⟩
  · exact .inl h0
  · have hk := mayB_ok hm
    obtain ⟨e1, _, e3⟩ := e h.snap.toNat (by have := hk.s2; have := hk.s1; omega)
    exact .inr ⟨s, h1, h2, h3, by rw [e1]; exact h4, e3 h5⟩
theorem Emp.mono {T T' : Nat → Tp} {h : He} (he : Emp T h) (e : Mf T T') : Emp T' h := fun t a b c => by rw [e.s b]; exact he t a b c
theorem mf_sync {d : Dk} (hok : d.ok) (t : Nat) (ht : t < 32) : Mf d.T (upd d.T t (fmT (d.T t))) := fun j hj => by
  by_cases e : j = t
  · subst e; rw [upd_same]; exact ⟨rfl, (hok.t j ht).1, fun _ => rfl⟩
  · rw [upd_other _ _ e]; exact ⟨rfl, Nat.le_refl _, fun h => h⟩
theorem fm_of_ok {d : Dk} (hok : d.ok) {j : Nat} (hj : j < 32) (h : (d.T j).s.size = 0) : fm (d.T j) := by have := (hok.t j hj).1; unfold fm; omega
/-- Where the disk fails in it, or has failed: what stands there is what stood there, or more of it is firm. -/
theorem open_std {d : Dk} {h : He} {S : Option ByteArray} {E B : List ByteArray} (hdn : d.dn = false) (hok : d.ok) (hs : StdT d.T h S E B) (he : Emp d.T h) :
    (∃ d', opD d = ((d', 0), h, S, E ++ B) ∧ Opn d h S (E ++ B) d' ∧ Mf d.T d'.T) ∨ ((opD d).1.2 = 45 ∧ (opD d).1.1.dn = true ∧ (opD d).1.1.ok ∧ StdT (opD d).1.1.T h S E B ∧ (opD d).2.1 = he0 ∧ d.dm = true) := by
  have hm := hs.hd.may
  have hb : bg d = ((d, 0), h) := by rw [bg_head hdn hs.hd, over_wo_emp he]
  have key := over_ind (g := su h) (fun l d' => (∀ t : Nat, t ∈ l → 2 ≤ t ∧ t < 32) ∧ Upd d d' ∧ Mf d.T d'.T ∧ (∀ t : Nat, 2 ≤ t → t < 32 → t ∉ l → usB h (t : Int) = true → fm (d'.T t)))
    (fun d' => d'.dn = true ∧ d'.ok ∧ Mf d.T d'.T ∧ d.dm = true) ?_ tps d ⟨fun t ht => mem_tps.1 ht, ⟨hdn, hok, rfl, fun e => e⟩, fun j hj => ⟨rfl, Nat.le_refl _, fun h => h⟩, fun t h2 h3 h4 _ => absurd (mem_tps.2 ⟨h2, h3⟩) h4⟩
  · have hsn : ¬ (h.snap ≠ 0 ∧ (one2 (tl (d.T h.snap.toNat))).isNone = true) := fun hx => by have := (hs.snap.one.1 hx.1); rw [this.1, this.2] at hx; simp at hx
    rcases key with ⟨e, -, k1, k2, k3⟩ | ⟨e, k1, k2, k3, k4⟩
    · have e' : over (su h) tps d = ((over (su h) tps d).1, 0) := by rw [← e]
      generalize (over (su h) tps d).1 = d2 at *
      have hs2 := hs.mono k2
      have he2 := he.mono k2
      have hf2 : ∀ j < 32, fm (d2.T j) := fun j hj => by
        rcases Nat.lt_or_ge j 2 with h2 | h2
        · match j, h2 with
          | 0, _ => exact hs2.hd.f0
          | 1, _ => exact hs2.hd.f1
        · cases hu : usB h (j : Int)
          · exact fm_of_ok k1.ok hj (he2 j h2 hj hu)
          · exact k3 j h2 hj (by simp) hu
      refine .inl ⟨d2, ?_, ⟨k1, ⟨hs2.hd, hs2.snap, hs2.lg.all fun t ht => hf2 _ (log_lt hm t ht)⟩, he2, hf2⟩, k2⟩
      have hfd : fdD h d = ((d2, 0), S, E ++ B) := by
        unfold fdD
        rw [hdn, if_neg (by simp), if_neg hsn, lgD_std hdn hs.lg]
        simp only [e']
        rw [hs.snap.one.2]
        simp
      unfold opD
      rw [hb]
      simp [hfd]
    · have hfd : fdD h d = (over (su h) tps d, none, []) := by
        unfold fdD
        rw [hdn, if_neg (by simp), if_neg hsn, lgD_std hdn hs.lg]
        simp [e]
      have ho : opD d = (over (su h) tps d, he0, none, []) := by
        unfold opD
        rw [hb]
        simp [hfd, e]
      rw [ho]
      exact .inr ⟨e, k1, k2, hs.mono k3, rfl, k4⟩
  · rintro t r d' ⟨h1, h2, h3, h4⟩
    have ht := h1 t (by simp)
    have same : fm (d'.T t) ∨ usB h (t : Int) = false → ((d', 0) : Dk × Nat).2 = 0 ∧ (∀ u : Nat, u ∈ r → 2 ≤ u ∧ u < 32) ∧ Upd d d' ∧ Mf d.T d'.T ∧ (∀ u : Nat, 2 ≤ u → u < 32 → u ∉ r → usB h (u : Int) = true → fm (d'.T u)) := fun hc =>
      ⟨rfl, fun u hu => h1 u (by simp [hu]), h2, h3, fun u a b c e => by
        by_cases hu : u = t
        · subst hu
          rcases hc with hc | hc
          · exact hc
          · rw [hc] at e; cases e
        · exact h4 u a b (by simp [hu, c]) e⟩
    unfold su
    cases hu : usB h (t : Int)
    · rw [if_neg (by simp)]
      exact .inl (same (.inr hu))
    · rw [if_pos rfl]
      by_cases hf : (d'.T t).f < (d'.T t).s.size
      · unfold sl
        rw [if_pos hf]
        have hmf := mf_sync h2.ok t ht.2
        have hcomp : ∀ {T2}, Mf d'.T T2 → Mf d.T T2 := fun {T2} k j hj => ⟨(k j hj).1.trans (h3 j hj).1, Nat.le_trans (h3 j hj).2.1 (k j hj).2.1, fun e => (k j hj).2.2 ((h3 j hj).2.2 e)⟩
        rcases sy_step h2.dn h2.ok ht.2 with k | k
        · refine .inl ⟨k.e, fun u hu => h1 u (by simp [hu]), k.upd h2, by rw [k.T]; exact hcomp hmf, fun u a b c e => ?_⟩
          rw [k.T]
          by_cases hu : u = t
          · subst hu; rw [upd_same]; rfl
          · rw [upd_other _ _ hu]; exact h4 u a b (by simp [hu, c]) e
        · refine .inr ⟨k.e, k.dn, k.ok, by rw [k.q]; exact h3, ?_⟩
          cases hdm : d.dm
          · have := h2.dm hdm; rw [k.dm] at this; cases this
          · rfl
      · rw [show sl d' t = (d', 0) from if_neg hf]
        exact .inl (same (.inl (by have := (h2.ok.t t ht.2).1; unfold fm; omega)))
/-- The log's last tape is synced. -/
def syD (d : Dk) (h : He) : Dk × Nat := doD d (lz h.log).toNat false sy
theorem lz_lt {h : He} (hm : mayB h = true) : (lz h.log).toNat < 32 := log_lt hm _ (lz_mem (mayB_ok hm).ne)
theorem sync_std {d : Dk} {h : He} {S : Option ByteArray} {E B : List ByteArray} (hdn : d.dn = false) (hok : d.ok) (hs : StdT d.T h S E B) (he : Emp d.T h) :
    (Okd d (upd d.T (lz h.log).toNat (fmT (d.T (lz h.log).toNat))) (syD d h) ∧ StdT (syD d h).1.T h S (E ++ B) [] ∧ Emp (syD d h).1.T h ∧ Mf d.T (syD d h).1.T) ∨ Bad d (fun T => T = d.T) (syD d h) := by
  have hz := lz_lt hs.hd.may
  rcases sy_step hdn hok hz with k | k
  · have hmf : Mf d.T (syD d h).1.T := by rw [show (syD d h).1.T = _ from k.T]; exact mf_sync hok _ hz
    have hs2 := hs.mono hmf
    refine .inl ⟨k, ⟨hs2.hd, hs2.snap, hs2.lg.all fun t ht => ?_⟩, he.mono hmf, hmf⟩
    by_cases e : t = lz h.log
    · subst e
      rw [show (syD d h).1.T = _ from k.T, upd_same]; rfl
    · exact hs2.lg.fm t ht e
  · exact .inr k
/-- What is put is read. -/
theorem put_head {d : Dk} {h h' : He} (hdn : d.dn = false) (hh : HdT d.T h) (hm : mayB h' = true) (hg : h.gen < h'.gen) : HdT (upd d.T (ptT d) ⟨whl h', (whl h').size⟩) h' := by
  have hl := load_new (d' := { d with T := upd d.T (ptT d) ⟨whl h', (whl h').size⟩ }) hdn hdn h' hm (fun j _ hj => upd_other _ _ hj) (by show (upd _ _ _ _).s = _; rw [upd_same]) (fun _ => by rw [show ldH d = h from hh.hd]; exact hg)
  rw [ld_up (d := { d with T := upd d.T (ptT d) ⟨whl h', (whl h').size⟩ }) hdn] at hl
  have fj : ∀ j, fm (d.T j) → fm (upd d.T (ptT d) ⟨whl h', (whl h').size⟩ j) := fun j hf => by
    by_cases e : j = ptT d
    · rw [e, upd_same]; rfl
    · rw [upd_other _ _ e]; exact hf
  exact ⟨hm, congrArg (fun x => x.1) hl, congrArg (fun x => x.2.2.1) hl, fj 0 hh.f0, fj 1 hh.f1⟩
/-- What may stay of a head's writing, wherever it failed: the old one, or the new one. -/
theorem put_fall {d : Dk} {h h' : He} (hdn : d.dn = false) (hh : HdT d.T h) (hm : mayB h' = true) (hg : h.gen < h'.gen) {x : Tp} (hx : x = d.T (ptT d) ∨ x = t0 ∨ x = ⟨whl h', 0⟩) {T' : Nat → Tp} (hb : Beg (upd d.T (ptT d) x) T') : HdT T' h ∨ HdT T' h' := by
  have hp := ptT_le d
  have ho : ∀ j, j ≤ 1 → j ≠ ptT d → T' j = d.T j := fun j hj hn => by
    have hf : fm (d.T j) := by match j, hj with | 0, _ => exact hh.f0 | 1, _ => exact hh.f1
    have := hb.same (j := j) (by omega) (by rw [upd_other _ _ hn]; exact hf)
    rw [this, upd_other _ _ hn]
  have fT : ∀ j, j < 32 → fm (T' j) := fun j hj => (hb j hj).1
  have new : (T' (ptT d)).s = whl h' → HdT T' h' := fun hw => by
    have hl := load_new (d' := { d with T := T' }) hdn hdn h' hm (fun j hj hn => ho j hj hn) hw (fun _ => by rw [show ldH d = h from hh.hd]; exact hg)
    rw [ld_up (d := { d with T := T' }) hdn] at hl
    exact ⟨hm, congrArg (fun x => x.1) hl, congrArg (fun x => x.2.2.1) hl, fT 0 (by decide), fT 1 (by decide)⟩
  have old : (ofB (T' (ptT d)).s).1 = he0 → HdT T' h := fun hw => by
    have hl := load_old (d' := { d with T := T' }) hdn hdn (fun j hj hn => congrArg Tp.s (ho j hj hn)) hw
    rw [ld_up (d := { d with T := T' }) hdn] at hl
    have e1 := congrArg (fun x => x.1) hl
    have e2 := congrArg (fun x => x.2.2.1) hl
    exact ⟨hh.may, e1.trans hh.hd, e2.trans hh.is, fT 0 (by decide), fT 1 (by decide)⟩
  obtain ⟨b1, b2, b3, b4⟩ := hb (ptT d) (by omega)
  rw [upd_same] at b2 b3 b4
  rcases hx with rfl | rfl | rfl
  · have e : T' (ptT d) = d.T (ptT d) := by
      have hf : fm (d.T (ptT d)) := by
        have : ptT d = 0 ∨ ptT d = 1 := by omega
        rcases this with e | e <;> rw [e]
        · exact hh.f0
        · exact hh.f1
      have := hb.same (j := ptT d) (by omega) (by rw [upd_same]; exact hf)
      rw [this, upd_same]
    have hall : ∀ j, j ≤ 1 → T' j = d.T j := fun j hj => by
      by_cases e2 : j = ptT d
      · rw [e2]; exact e
      · exact ho j hj e2
    exact .inl (hh.same (hall 0 (by omega)) (hall 1 (by omega)))
  · have e : (T' (ptT d)).s = ⟨#[]⟩ := by
      refine tl_inj ?_
      rw [b4]
      show List.take _ [] = []
      exact List.take_nil
    exact .inl (old (by rw [e]; rfl))
  · by_cases hk : (T' (ptT d)).s.size < (whl h').size
    · refine .inl (old ?_)
      have e : (T' (ptT d)).s = (whl h').extract 0 (T' (ptT d)).s.size := by
        refine tl_inj ?_
        rw [b4, ext_toList]; rfl
      rw [e]
      exact of_torn hm hk
    · refine .inr (new (tl_inj ?_))
      rw [b4, List.take_of_length_le (by rw [tl_len]; show (whl h').size ≤ _; omega)]
      rfl
end Go.Proofs.YtieemdcoomilaaaGreatDoor.Vt
namespace Go.Proofs.YtieemdcoomilaaaGreatDoor.Vt
open Go Go.RowKit
set_option maxRecDepth 100000
theorem dis_of : ∀ (l : List Int) (S : Nat → Bool), l.Nodup → (∀ t ∈ l, (2 ≤ t ∧ t < 32) ∧ S t.toNat = false) → dis S l = true
  | [], _, _, _ => rfl
  | u :: r, S, hn, h => by
    obtain ⟨n1, n2⟩ := List.nodup_cons.1 hn
    unfold dis
    rw [if_pos (ad_iff.2 (h u (by simp)))]
    refine dis_of r _ n2 fun t ht => ?_
    have a := h t (by simp [ht])
    have b := h u (by simp)
    refine ⟨a.1, ?_⟩
    unfold mark
    rw [if_neg (fun e => n1 (by have : u = t := by omega
                                rw [this]; exact ht))]
    exact a.2
/-- A head that may be. -/
theorem mayB_of {h : He} (g1 : 1 ≤ h.gen) (g2 : h.gen ≤ 1099511627776) (b1 : 0 ≤ h.base) (b2 : h.base ≤ 1099511627776) (ne : h.log ≠ []) (nd : h.log.Nodup) (mem : ∀ t ∈ h.log, 2 ≤ t ∧ t < 32) (s0 : h.snap = 0 → h.base = 0) (s1 : h.snap ≠ 0 → (2 ≤ h.snap ∧ h.snap < 32) ∧ h.snap ∉ h.log) : mayB h = true := by
  unfold mayB gtop
  rw [if_neg (by omega), if_neg (by omega), if_neg (by omega), if_neg (by omega), if_neg ne]
  by_cases hs : h.snap = 0
  · rw [if_pos hs, if_neg (by simp [s0 hs])]
    exact dis_of _ _ nd fun t ht => ⟨mem t ht, rfl⟩
  · obtain ⟨a, b⟩ := s1 hs
    rw [if_neg hs, if_pos (ad_iff.2 ⟨a, rfl⟩)]
    refine dis_of _ _ nd fun t ht => ⟨mem t ht, ?_⟩
    have := mem t ht
    unfold mark
    rw [if_neg (fun e => b (by have : h.snap = t := by omega
                               rw [this]; exact ht))]
    rfl
theorem frL_mem (h : He) : ∀ (n : Nat) (z : Int), z ∈ frL h n → (2 ≤ z ∧ z < n) ∧ usB h z = false
  | 0, z, hz => by cases hz
  | n + 1, z, hz => by
    unfold frL at hz
    by_cases hc : 2 ≤ n ∧ usB h (n : Int) = false
    · rw [if_pos hc] at hz
      rcases List.mem_append.1 hz with hz | hz
      · have := frL_mem h n z hz
        exact ⟨⟨this.1.1, by have := this.1.2; omega⟩, this.2⟩
      · rw [List.mem_singleton] at hz
        subst hz
        exact ⟨⟨by omega, by omega⟩, hc.2⟩
    · rw [if_neg hc] at hz
      have := frL_mem h n z hz
      exact ⟨⟨this.1.1, by have := this.1.2; omega⟩, this.2⟩
theorem frL_rise (h : He) : ∀ n : Nat, (frL h n).Pairwise (· < ·)
  | 0 => List.Pairwise.nil
  | n + 1 => by
    unfold frL
    by_cases hc : 2 ≤ n ∧ usB h (n : Int) = false
    · rw [if_pos hc]
      refine List.pairwise_append.2 ⟨frL_rise h n, List.pairwise_singleton _ _, fun a ha b hb => ?_⟩
      rw [List.mem_singleton] at hb
      subst hb
      exact (frL_mem h n a ha).1.2
    · rw [if_neg hc]; exact frL_rise h n
/-- A head of the next generation, with a tape behind the log's. -/
def nxH (h : He) (z : Int) : He := ⟨h.gen + 1, h.base, h.snap, h.log ++ [z]⟩
theorem us_nx (h : He) (z t : Int) : usB (nxH h z) t = (usB h t || decide (t = z)) := by
  unfold usB nxH
  dsimp only
  rw [show decide (t ∈ h.log ++ [z]) = (decide (t ∈ h.log) || decide (t = z)) by simp [Bool.decide_or]]
  rw [Bool.or_assoc]
theorem nx_may {h : He} (hm : mayB h = true) (hg : h.gen < 1099511627776) {z : Int} (h2 : 2 ≤ z) (h3 : z < 32) (hu : usB h z = false) : mayB (nxH h z) = true := by
  have k := mayB_ok hm
  have m := mayB_more hm
  have hz : z ∉ h.log := fun e => by rw [us_log e] at hu; cases hu
  have hzs : h.snap ≠ 0 → h.snap ≠ z := fun hs e => by rw [← e, us_snap hs] at hu; cases hu
  refine mayB_of (by show 1 ≤ h.gen + 1; have := k.g1; omega) (by show h.gen + 1 ≤ _; omega) k.b1 k.b2 (by show h.log ++ [z] ≠ []; simp) ?_ (fun t ht => ?_) m.b0 (fun hs => ⟨⟨m.s2 hs, k.s2⟩, fun e => ?_⟩)
  · show (h.log ++ [z]).Nodup
    rw [List.nodup_append]
    refine ⟨m.nd, by simp, fun a ha b hb e => ?_⟩
    rw [List.mem_singleton] at hb
    subst hb
    exact hz (e ▸ ha)
  · rcases List.mem_append.1 ht with ht | ht
    · exact k.mem t ht
    · rw [List.mem_singleton] at ht; subst ht; exact ⟨h2, h3⟩
  · rcases List.mem_append.1 e with e | e
    · exact m.sn hs e
    · rw [List.mem_singleton] at e; exact hzs hs e
theorem Lg.snoc {T : Nat → Tp} {l : List Int} {E B : List ByteArray} (h : Lg T l E B) (hB : B = []) (hf : ∀ t ∈ l, Vt.fm (T t.toNat)) {z : Int} (hz : tl (T z.toNat) = []) : Lg T (l ++ [z]) E [] := by
  have last : Lg T [z] [] [] := .last z [] [] (fun r hr => by cases hr) (by rw [hz]; rfl) (Nat.zero_le _)
  induction h with
  | last t A B h1 h2 h3 =>
    subst hB
    rw [List.append_nil] at h1 h2
    have := Lg.cons t [z] A [] [] h1 h2 (hf t (by simp)) last
    rw [List.append_nil] at this
    exact this
  | cons t r X E B h1 h2 h3 _ ih => exact .cons t (r ++ [z]) X E [] h1 h2 h3 (ih hB fun u hu => hf u (by simp [hu]))
/-- A record's frame. -/
def fr1 (r : ByteArray) : ByteArray := bs (Fr.frm 1 r.data.toList)
theorem fr1_size (r : ByteArray) : (fr1 r).size = r.size + 9 := by unfold fr1; rw [bs_size, Fr.frm_length]; simp; omega
/-- A record is added. -/
def addD (d : Dk) (h : He) (n most : Nat) (r : ByteArray) : (Dk × Nat) × He × Nat :=
  if 262144 < r.size ∨ 1099511627776 ≤ h.base + n then ((d, 40), h, n)
  else if d.dn = true then ((d, 45), h, n)
  else if 0 < (d.T (lz h.log).toNat).s.size ∧ most < (d.T (lz h.log).toNat).s.size + (r.size + 9) then
    (if 1099511627776 ≤ h.gen then ((d, 40), h, n)
    else match frL h 32 with
      | [] => ((d, 44), h, n)
      | z :: _ =>
        if d.cap + (d.T z.toNat).s.size + (d.T (ptT d)).s.size < d.used + (r.size + 9) + sizR (nxH h z) then ((d, 44), h, n)
        else
          let x := thn (thn (syD d h) (fun d => doD d z.toNat false wi)) (fun d => putR d (nxH h z))
          if x.2 ≠ 0 then (x, h, n) else
          let y := doD x.1 z.toNat true (wf x.1 (fr1 r))
          (y, nxH h z, if y.2 = 0 then n + 1 else n))
  else if d.cap < d.used + (r.size + 9) then ((d, 44), h, n)
  else
    let y := doD d (lz h.log).toNat true (wf d (fr1 r))
    (y, h, if y.2 = 0 then n + 1 else n)
/-- What may stand there behind a failure, however much of it stayed. -/
def Fall (T : Nat → Tp) (h : He) (S : Option ByteArray) (E B : List ByteArray) : Prop := ∀ T', Beg T T' → ∃ h' k, k ≤ B.length ∧ h'.base = h.base ∧ RdyT T' h' S (E ++ B.take k)
theorem StdT.fall {T : Nat → Tp} {h : He} {S : Option ByteArray} {E B : List ByteArray} (hs : StdT T h S E B) (C : List ByteArray) : Fall T h S E (B ++ C) := fun T' hb => by
  obtain ⟨k, hk, hr⟩ := hs.beg hb
  exact ⟨h, k, by simp; omega, rfl, by rw [List.take_append_of_le_length hk]; exact hr⟩
theorem Fall.more {T : Nat → Tp} {h : He} {S : Option ByteArray} {E B : List ByteArray} (hf : Fall T h S (E ++ B) []) (C : List ByteArray) : Fall T h S E (B ++ C) := fun T' hb => by
  obtain ⟨h', k, hk, h1, h2⟩ := hf T' hb
  refine ⟨h', B.length, by simp, h1, ?_⟩
  rw [List.take_append_of_le_length (Nat.le_refl _), List.take_length]
  have : ([] : List ByteArray).take k = [] := List.take_nil
  rw [this, List.append_nil] at h2
  exact h2
/-- Behind the last record another one, loose. -/
theorem StdT.write {T : Nat → Tp} {h : He} {S : Option ByteArray} {E B : List ByteArray} (hs : StdT T h S E B) {r : ByteArray} (hr : r.size ≤ 262144) : StdT (upd T (lz h.log).toNat ⟨(T (lz h.log).toNat).s ++ fr1 r, (T (lz h.log).toNat).f⟩) h S E (B ++ [r]) := by
  have hm := hs.hd.may
  have k := mayB_ok hm
  have m := mayB_more hm
  have hz := k.mem _ (lz_mem k.ne)
  obtain ⟨E0, A, rfl, h1, h2, h3, h4⟩ := hs.lg.turn m.nd
  refine ⟨hs.hd.same (upd_other _ _ (by omega)) (upd_other _ _ (by omega)), hs.snap.keep fun hsn => upd_other _ _ fun e => m.sn hsn ?_, h4 _ A (B ++ [r]) (fun t ht hn => upd_other _ _ fun e => hn ?_) ?_ ?_ ?_⟩
  · have := k.s1
    have : h.snap = lz h.log := by omega
    rw [this]; exact lz_mem k.ne
  · have := k.mem t ht; omega
  · rw [← List.append_assoc]
    exact small_app.2 ⟨h1, fun x hx => by rw [List.mem_singleton] at hx; subst hx; exact hr⟩
  · rw [upd_same, ← List.append_assoc, rb_app, rb_one, ← h2]
    show ((T (lz h.log).toNat).s ++ fr1 r).data.toList = _
    rw [ByteArray.data_append, Array.toList_append]; rfl
  · rw [upd_same]; exact h3
end Go.Proofs.YtieemdcoomilaaaGreatDoor.Vt
