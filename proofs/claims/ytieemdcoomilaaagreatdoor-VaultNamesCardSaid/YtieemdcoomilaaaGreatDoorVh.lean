/- The vault, plainly: a snapshot is laid down, and what it leaves. Nothing of the program. -/
import Derived.Test.YtieemdcoomilaaaGreatDoorVg
set_option linter.unusedVariables false
set_option linter.unusedSimpArgs false
namespace Go.Proofs.YtieemdcoomilaaaGreatDoor.Vt
open Go Go.RowKit
set_option maxRecDepth 100000
/-- A snapshot's frame. -/
def fr2 (s : ByteArray) : ByteArray := bs (Fr.frm 2 s.data.toList)
theorem fr2_list (s : ByteArray) : (fr2 s).data.toList = Fr.frm 2 s.data.toList := bs_data _
theorem t0_app (x : ByteArray) : (t0.s ++ x).data.toList = x.data.toList := by rw [empty_app]
theorem fr2_size (r : ByteArray) : (fr2 r).size = r.size + 9 := by unfold fr2; rw [bs_size, Fr.frm_length]; simp; omega
theorem fm_fmT (t : Tp) : fm (fmT t) := by unfold fm fmT; rfl
theorem tl_fmT (t : Tp) : tl (fmT t) = t.s.data.toList := by unfold tl fmT; rfl
def lyH (h : He) (n : Nat) (a b : Int) : He := ⟨h.gen + 1, h.base + n, a, [b]⟩
/-- What is done up to the new head. -/
def lyX (d : Dk) (h : He) (a b : Nat) (s : ByteArray) (h' : He) : Dk × Nat :=
  thn (thn (thn (thn (thn (syD d h) (fun d => doD d a false wi)) (fun d => doD d a true (wf d (fr2 s)))) (fun d => doD d a false sy)) (fun d => doD d b false wi)) (fun d => putR d h')
/-- A snapshot is laid down. -/
def layD (d : Dk) (h : He) (n : Nat) (s : ByteArray) : (Dk × Nat) × He × Nat :=
  if 262144 < s.size ∨ 1099511627776 < h.base + n then ((d, 40), h, n)
  else if d.dn = true then ((d, 45), h, n)
  else if 1099511627776 ≤ h.gen then ((d, 40), h, n)
  else match frL h 32 with
    | a :: b :: _ =>
      if d.cap + (d.T a.toNat).s.size < d.used + (s.size + 9) ∨ d.cap + (d.T a.toNat).s.size + (d.T b.toNat).s.size + (d.T (ptT d)).s.size < d.used + (s.size + 9) + sizR (lyH h n a b) then ((d, 44), h, n)
      else
        let x := lyX d h a.toNat b.toNat s (lyH h n a b)
        if x.2 ≠ 0 then (x, h, n) else (over (wu h) tps x.1, lyH h n a b, 0)
    | _ => ((d, 44), h, n)
theorem us_ly (h : He) (n : Nat) (a b t : Int) (ha : a ≠ 0) : usB (lyH h n a b) t = (decide (a = t) || decide (t = b)) := by
  unfold usB lyH
  dsimp only
  rw [decide_eq_true ha, Bool.true_and]
  simp
theorem ly_may {h : He} (hm : mayB h = true) (hg : h.gen < 1099511627776) {n : Nat} (hn : h.base + n ≤ 1099511627776) {a b : Int} (a2 : 2 ≤ a) (a3 : a < 32) (b2 : 2 ≤ b) (b3 : b < 32) (hab : a ≠ b) : mayB (lyH h n a b) = true := by
  have k := mayB_ok hm
  refine mayB_of (by show 1 ≤ h.gen + 1; have := k.g1; omega) (by show h.gen + 1 ≤ _; omega) (by show 0 ≤ h.base + n; have := k.b1; omega) hn (by show [b] ≠ []; simp) (by show [b].Nodup; simp) (fun t ht => ?_) (fun hs => ?_) (fun _ => ⟨⟨a2, a3⟩, fun e => ?_⟩)
  · rw [show (lyH h n a b).log = [b] from rfl, List.mem_singleton] at ht; subst ht; exact ⟨b2, b3⟩
  · exact absurd (show a = 0 from hs) (by omega)
  · rw [show (lyH h n a b).log = [b] from rfl, List.mem_singleton] at e; exact hab e
/-- On a tape that the head does not name anything may stand. -/
theorem StdT.off {T : Nat → Tp} {h : He} {S : Option ByteArray} {E B : List ByteArray} (hs : StdT T h S E B) {t : Nat} (h2 : 2 ≤ t) (hu : usB h (t : Int) = false) (x : Tp) : StdT (upd T t x) h S E B :=
  hs.keep fun j _ hc => upd_other _ _ fun e => by
    subst e
    rcases hc with hc | hc
    · omega
    · rw [hu] at hc; cases hc
/-- Why it is refused. -/
def LayNo (d : Dk) (h : He) (n : Nat) (s : ByteArray) : Prop :=
  (262144 < s.size ∨ 1099511627776 < h.base + n) ∨ 1099511627776 ≤ h.gen ∨ (frL h 32).length < 2 ∨
  ∃ a b rest, frL h 32 = a :: b :: rest ∧ (d.cap + (d.T a.toNat).s.size < d.used + (s.size + 9) ∨ d.cap + (d.T a.toNat).s.size + (d.T b.toNat).s.size + (d.T (ptT d)).s.size < d.used + (s.size + 9) + sizR (lyH h n a b))
/-- What laying a snapshot down leaves. -/
def LayOk (d : Dk) (h : He) (n : Nat) (s : ByteArray) (P : (Dk × Nat) × He × Nat) : Prop :=
  P.1.2 = 0 ∧ Upd d P.1.1 ∧ s.size ≤ 262144 ∧ ∃ a b, P.2 = (lyH h n a b, 0) ∧ 2 ≤ a ∧ a < 32 ∧ usB h a = false ∧ Emp P.1.1.T (lyH h n a b) ∧ StdT P.1.1.T (lyH h n a b) (some s) [] [] ∧ (∃ rest, frL h 32 = a :: b :: rest) ∧ ∀ j : Nat, j < 2 → (P.1.1.T j).s = if j = ptT d then whl (lyH h n a b) else (d.T j).s
def LayFall (T : Nat → Tp) (h : He) (n : Nat) (S : Option ByteArray) (E B : List ByteArray) (s : ByteArray) : Prop :=
  ∀ T', Beg T T' → (∃ k, k ≤ B.length ∧ RdyT T' h S (E ++ B.take k)) ∨ ∃ h', h'.base = h.base + n ∧ RdyT T' h' (some s) []
theorem StdT.lfall {T : Nat → Tp} {h : He} {S : Option ByteArray} {E B : List ByteArray} (hs : StdT T h S (E ++ B) []) (n : Nat) (s : ByteArray) : LayFall T h n S E B s := fun T' hb => by
  obtain ⟨k, hk, hr⟩ := hs.beg hb
  rw [List.take_nil, List.append_nil] at hr
  exact .inl ⟨B.length, Nat.le_refl _, by rw [List.take_length]; exact hr⟩
/-- The tapes that the head names no more are wiped. -/
theorem over_wu {d0 d : Dk} {h h' : He} (hu : Upd d0 d) (hd : ∀ j : Nat, 2 ≤ j → j < 32 → usB h (j : Int) = true → usB h' (j : Int) = false) (he : ∀ j : Nat, 2 ≤ j → j < 32 → usB h (j : Int) = false → usB h' (j : Int) = false → (d.T j).s.size = 0) :
    ((over (wu h) tps d).2 = 0 ∧ Upd d0 (over (wu h) tps d).1 ∧ Emp (over (wu h) tps d).1.T h' ∧ ∀ j : Nat, j < 32 → (j < 2 ∨ usB h' (j : Int) = true) → (over (wu h) tps d).1.T j = d.T j) ∨
    ((over (wu h) tps d).2 = 45 ∧ (over (wu h) tps d).1.dn = true ∧ (over (wu h) tps d).1.ok ∧ d0.dm = true ∧ ∀ j : Nat, j < 32 → (j < 2 ∨ usB h' (j : Int) = true) → (over (wu h) tps d).1.T j = d.T j) := by
  have key := over_ind (g := wu h) (fun l d' => (∀ t : Nat, t ∈ l → 2 ≤ t ∧ t < 32) ∧ Upd d0 d' ∧ (∀ j : Nat, j < 32 → (j < 2 ∨ usB h' (j : Int) = true) → d'.T j = d.T j) ∧ (∀ t : Nat, 2 ≤ t → t < 32 → t ∉ l → usB h (t : Int) = true → (d'.T t).s.size = 0) ∧ (∀ t : Nat, 2 ≤ t → t < 32 → usB h (t : Int) = false → usB h' (t : Int) = false → (d'.T t).s.size = 0))
    (fun d' => d'.dn = true ∧ d'.ok ∧ d0.dm = true ∧ ∀ j : Nat, j < 32 → (j < 2 ∨ usB h' (j : Int) = true) → d'.T j = d.T j) ?_ tps d ⟨fun t ht => mem_tps.1 ht, hu, fun j _ _ => rfl, fun t h2 h3 h4 _ => absurd (mem_tps.2 ⟨h2, h3⟩) h4, he⟩
  · rcases key with ⟨e, -, k1, k2, k3, k4⟩ | ⟨e, k1, k2, k3, k4⟩
    · refine .inl ⟨e, k1, fun t a b c => ?_, k2⟩
      cases hx : usB h (t : Int)
      · exact k4 t a b hx c
      · exact k3 t a b (by simp) hx
    · exact .inr ⟨e, k1, k2, k3, k4⟩
  · rintro t r d' ⟨h1, h2, h3, h4, h5⟩
    have ht := h1 t (by simp)
    unfold wu
    cases hx : usB h (t : Int)
    · rw [if_neg (by simp)]
      refine .inl ⟨rfl, fun u hu => h1 u (by simp [hu]), h2, h3, fun u a b c e => ?_, h5⟩
      by_cases hu : u = t
      · subst hu; rw [hx] at e; cases e
      · exact h4 u a b (by simp [hu, c]) e
    · rw [if_pos rfl]
      have hx' := hd t ht.1 ht.2 hx
      rcases wi_step h2.dn h2.ok ht.2 with k | k
      · refine .inl ⟨k.e, fun u hu => h1 u (by simp [hu]), k.upd h2, fun j hj hc => ?_, fun u a b c e => ?_, fun u a b c e => ?_⟩
        · rw [k.T, upd_other _ _ (fun e => by subst e; rcases hc with hc | hc; omega; rw [hx'] at hc; cases hc)]
          exact h3 j hj hc
        · rw [k.T]
          by_cases hu : u = t
          · subst hu; rw [upd_same]; rfl
          · rw [upd_other _ _ hu]; exact h4 u a b (by simp [hu, c]) e
        · rw [k.T]
          by_cases hu : u = t
          · subst hu; rw [upd_same]; rfl
          · rw [upd_other _ _ hu]; exact h5 u a b c e
      · refine .inr ⟨k.e, k.dn, k.ok, ?_, by rw [k.q]; exact h3⟩
        cases hdm : d0.dm
        · have := h2.dm hdm; rw [k.dm] at this; cases this
        · rfl
theorem lay_std {d : Dk} {h : He} {S : Option ByteArray} {E B : List ByteArray} (hdn : d.dn = false) (hok : d.ok) (hs : StdT d.T h S E B) (he : Emp d.T h) (n : Nat) (s : ByteArray) :
    ((layD d h n s).1.1 = d ∧ ((layD d h n s).1.2 = 40 ∨ (layD d h n s).1.2 = 44) ∧ (layD d h n s).2 = (h, n) ∧ LayNo d h n s) ∨
    LayOk d h n s (layD d h n s) ∨
    ((layD d h n s).1.2 = 45 ∧ (layD d h n s).1.1.dn = true ∧ (layD d h n s).1.1.ok ∧ d.dm = true ∧ LayFall (layD d h n s).1.1.T h n S E B s) := by
  have hm := hs.hd.may
  have k := mayB_ok hm
  unfold layD
  by_cases c1 : 262144 < s.size ∨ 1099511627776 < h.base + n
  · rw [if_pos c1]; exact .inl ⟨rfl, .inl rfl, rfl, .inl c1⟩
  rw [if_neg c1, hdn, if_neg (by simp)]
  have hss : s.size ≤ 262144 := by omega
  have hbn : h.base + n ≤ 1099511627776 := by omega
  by_cases c3 : 1099511627776 ≤ h.gen
  · rw [if_pos c3]; exact .inl ⟨rfl, .inl rfl, rfl, .inr (.inl c3)⟩
  rw [if_neg c3]
  have hF := frL_mem h 32
  have hR := frL_rise h 32
  unfold LayNo LayOk
  generalize frL h 32 = L at hF hR ⊢
  rcases L with _ | ⟨a, _ | ⟨b, rest⟩⟩
  · exact .inl ⟨rfl, .inr rfl, rfl, .inr (.inr (.inl (by simp)))⟩
  · exact .inl ⟨rfl, .inr rfl, rfl, .inr (.inr (.inl (by simp)))⟩
  · obtain ⟨⟨a2, a3⟩, au⟩ := hF a (by simp)
    obtain ⟨⟨b2, b3⟩, bu⟩ := hF b (by simp)
    have a3' : a < 32 := a3
    have b3' : b < 32 := b3
    have hab : a < b := (List.pairwise_cons.1 hR).1 b (by simp)
    clear hF hR
    dsimp only
    obtain ⟨α, rfl⟩ := Int.eq_ofNat_of_zero_le (show 0 ≤ a by omega)
    obtain ⟨β, rfl⟩ := Int.eq_ofNat_of_zero_le (show 0 ≤ b by omega)
    simp only [Int.toNat_natCast]
    by_cases c4 : d.cap + (d.T α).s.size < d.used + (s.size + 9) ∨ d.cap + (d.T α).s.size + (d.T β).s.size + (d.T (ptT d)).s.size < d.used + (s.size + 9) + sizR (lyH h n (α : Int) (β : Int))
    · rw [if_pos c4]; exact .inl ⟨rfl, .inr rfl, rfl, .inr (.inr (.inr ⟨_, _, rest, rfl, by simpa using c4⟩))⟩
    rw [if_neg c4]
    have ha32 : α < 32 := by omega
    have hb32 : β < 32 := by omega
    have hmn := ly_may hm (by omega) hbn a2 a3' b2 b3' (by omega)
    have hea : (d.T α).s.size = 0 := he α (by omega) ha32 au
    have heb : (d.T β).s.size = 0 := he β (by omega) hb32 bu
    have hp := ptT_le d
    have hsr := siz_may hmn
    have fz := fr2_size s
    have hdm : ∀ {d'}, Upd d d' → d'.dm = true → d.dm = true := fun {d'} u e => by
      cases hx : d.dm
      · have := u.dm hx; rw [e] at this; cases this
      · rfl
    have hus : ∀ t : Int, usB (lyH h n (α : Int) (β : Int)) t = (decide ((α : Int) = t) || decide (t = (β : Int))) := fun t => us_ly h n _ _ t (by omega)
    generalize hh' : lyH h n (α : Int) (β : Int) = h' at *
    have hgen : h.gen < h'.gen := by rw [← hh']; show h.gen < h.gen + 1; omega
    have hlog : h'.log = [(β : Int)] := by rw [← hh']; rfl
    have hsnap : h'.snap = (α : Int) := by rw [← hh']; rfl
    have hbase : h'.base = h.base + n := by rw [← hh']; rfl
    have fall : ∀ {P : Dk × Nat} {d' : Dk} {Q}, Upd d d' → Bad d' Q P → (∀ T, Q T → LayFall T h n S E B s) → lyX d h α β s h' = P →
        ((((if (lyX d h α β s h').2 ≠ 0 then (lyX d h α β s h', h, n) else (over (wu h) tps (lyX d h α β s h').1, h', 0)) : (Dk × Nat) × He × Nat).1.2 = 45) ∧ (((if (lyX d h α β s h').2 ≠ 0 then (lyX d h α β s h', h, n) else (over (wu h) tps (lyX d h α β s h').1, h', 0)) : (Dk × Nat) × He × Nat).1.1.dn = true) ∧ (((if (lyX d h α β s h').2 ≠ 0 then (lyX d h α β s h', h, n) else (over (wu h) tps (lyX d h α β s h').1, h', 0)) : (Dk × Nat) × He × Nat).1.1.ok) ∧ d.dm = true ∧ LayFall (((if (lyX d h α β s h').2 ≠ 0 then (lyX d h α β s h', h, n) else (over (wu h) tps (lyX d h α β s h').1, h', 0)) : (Dk × Nat) × He × Nat).1.1.T) h n S E B s) := fun {P d' Q} u q hq e => by
      rw [e, if_pos (by rw [q.e]; decide)]
      exact ⟨q.e, q.dn, q.ok, hdm u q.dm, hq _ q.q⟩
    rcases sync_std hdn hok hs he with ⟨q1, s1, e1, m1⟩ | q1
    · have u1 : Upd d (syD d h).1 := q1.upd ⟨hdn, hok, rfl, fun e => e⟩
      have o1 : ∀ x, thn (thn (thn (thn (thn (syD d h) (fun d => doD d α false wi)) (fun d => doD d α true (wf d (fr2 s)))) (fun d => doD d α false sy)) (fun d => doD d β false wi)) (fun d => putR d h') = x → lyX d h α β s h' = x := fun x e => e
      rw [thn_ok _ q1.e] at o1
      generalize (syD d h).1 = d1 at *
      rcases wi_step u1.dn u1.ok ha32 with q2 | q2
      · rw [thn_ok (x := doD d1 α false wi) _ q2.e] at o1
        have u2 := q2.upd u1
        have T2 := q2.T
        have s2 : StdT (doD d1 α false wi).1.T h S (E ++ B) [] := by rw [T2]; exact s1.off (by omega) au _
        generalize (doD d1 α false wi).1 = d2 at *
        have hsz2 : ∀ j < 32, (d2.T j).s.size = (d.T j).s.size := fun j hj => by
          rw [T2]
          by_cases ej : j = α
          · subst ej; rw [upd_same, hea]; rfl
          · rw [upd_other _ _ ej, m1.s hj]
        have hus2 := used_same hsz2
        have ha2 : d2.T α = t0 := by rw [T2, upd_same]
        have ha20 : (d2.T α).s.size = 0 := by rw [ha2]; rfl
        have cap2 := u2.cap
        rcases wr_step u2.dn u2.ok ha32 (fr2 s) (by omega) (by omega) with q3 | q3
        · rw [thn_ok (x := doD d2 α true (wf d2 (fr2 s))) _ q3.e] at o1
          have u3 := q3.upd u2
          have T3 := q3.T
          have s3 : StdT (doD d2 α true (wf d2 (fr2 s))).1.T h S (E ++ B) [] := by rw [T3]; exact s2.off (by omega) au _
          generalize (doD d2 α true (wf d2 (fr2 s))).1 = d3 at *
          have hu3 := used_put (d := d2) (d' := d3) (t := α) ha32 T3
          rcases sy_step u3.dn u3.ok ha32 with q4 | q4
          · rw [thn_ok (x := doD d3 α false sy) _ q4.e] at o1
            have u4 := q4.upd u3
            have T4 := q4.T
            have s4 : StdT (doD d3 α false sy).1.T h S (E ++ B) [] := by rw [T4]; exact s3.off (by omega) au _
            generalize (doD d3 α false sy).1 = d4 at *
            have hsz4 : ∀ j < 32, (d4.T j).s.size = (d3.T j).s.size := fun j hj => by
              rw [T4]
              by_cases ej : j = α
              · subst ej; rw [upd_same]; rfl
              · rw [upd_other _ _ ej]
            have hus4 := used_same hsz4
            rcases wi_step u4.dn u4.ok hb32 with q5 | q5
            · rw [thn_ok (x := doD d4 β false wi) _ q5.e] at o1
              have u5 := q5.upd u4
              have T5 := q5.T
              have s5 : StdT (doD d4 β false wi).1.T h S (E ++ B) [] := by rw [T5]; exact s4.off (by omega) bu _
              have cap5 := u5.cap
              generalize (doD d4 β false wi).1 = d5 at *
              have ho5 : ∀ j, j ≠ α → j ≠ β → j < 32 → (d5.T j).s = (d.T j).s := fun j ha hb hj => by
                rw [T5, upd_other _ _ hb, T4, upd_other _ _ ha, T3, upd_other _ _ ha, T2, upd_other _ _ ha, m1.s hj]
              have hb5 : d5.T β = t0 := by rw [T5, upd_same]
              have hb4 : (d4.T β).s.size = 0 := by rw [T4, upd_other _ _ (by omega), T3, upd_other _ _ (by omega), hsz2 _ hb32, heb]
              have hu5 := used_put (d := d4) (d' := d5) (t := β) hb32 T5
              have hsa : d5.T α = fmT ⟨t0.s ++ fr2 s, 0⟩ := by
                rw [T5, upd_other _ _ (by omega), T4, upd_same, T3, upd_same, ha2]; rfl
              have hpt : ptT d5 = ptT d := ptT_same hdn u5.dn (ho5 0 (by omega) (by omega) (by decide)) (ho5 1 (by omega) (by omega) (by decide))
              have hpz : (d5.T (ptT d)).s.size = (d.T (ptT d)).s.size := by rw [ho5 _ (by omega) (by omega) (by omega)]
              have hroom : room d5 (ptT d5) (whl h') := by
                unfold room
                rw [hpt, hpz]
                have z0 : t0.s.size = 0 := rfl
                have z1 : (⟨(d2.T α).s ++ fr2 s, (d2.T α).f⟩ : Tp).s.size = (d2.T α).s.size + (fr2 s).size := by show ((d2.T α).s ++ fr2 s).size = _; rw [ByteArray.size_append]
                omega
              have hsn5 : SnapT d5.T h' (some s) := .inr ⟨s, rfl, by rw [hsnap]; omega, hss, by
                rw [hsnap, Int.toNat_natCast, hsa]
                rw [tl_fmT, t0_app, fr2_list], by rw [hsnap, Int.toNat_natCast, hsa]; exact fm_fmT _⟩
              have hlg5 : Lg d5.T h'.log [] [] := by
                rw [hlog]
                refine .last _ [] [] (fun r hr => by cases hr) ?_ (Nat.zero_le _)
                rw [Int.toNat_natCast, hb5]; rfl
              rcases put_new u5.dn u5.ok s5.hd hmn hgen hroom hsn5 hlg5 with ⟨q6, s6⟩ | q6
              · have ex := o1 _ rfl
                have u6 := q6.upd u5
                have T6 := q6.T
                rw [ex, if_neg (by rw [q6.e]; simp)]
                have hdis : ∀ j : Nat, 2 ≤ j → j < 32 → usB h (j : Int) = true → usB h' (j : Int) = false := fun j h2 h3 hj => by
                  rw [hus, Bool.or_eq_false_iff]
                  refine ⟨decide_eq_false fun e => ?_, decide_eq_false fun e => ?_⟩
                  · rw [← e, au] at hj; cases hj
                  · rw [e, bu] at hj; cases hj
                have hemp : ∀ j : Nat, 2 ≤ j → j < 32 → usB h (j : Int) = false → usB h' (j : Int) = false → ((putR d5 h').1.T j).s.size = 0 := fun j h2 h3 hj hj2 => by
                  rw [hus, Bool.or_eq_false_iff] at hj2
                  have na : j ≠ α := fun e => by have := of_decide_eq_false hj2.1; omega
                  have nb : j ≠ β := fun e => by have := of_decide_eq_false hj2.2; omega
                  rw [T6, upd_other _ _ (by have := ptT_le d5; omega), ho5 j na nb h3]
                  exact he j h2 h3 hj
                rcases over_wu u6 hdis hemp with ⟨f1, f2, f3, f4⟩ | ⟨f1, f2, f3, f4, f5⟩
                · refine .inr (.inl ⟨f1, f2, hss, (α : Int), (β : Int), by rw [hh'], a2, a3', au, by rw [hh']; exact f3, by rw [hh']; exact s6.keep f4, ⟨rest, rfl⟩, fun j hj => ?_⟩)
                  rw [hh', f4 j (by omega) (.inl hj), T6, hpt]
                  by_cases ej : j = ptT d
                  · rw [if_pos ej, ej, upd_same]
                  · rw [if_neg ej, upd_other _ _ ej, ho5 j (by omega) (by omega) (by omega)]
                · refine .inr (.inr ⟨f1, f2, f3, f4, fun T' hb => ?_⟩)
                  obtain ⟨i, _, hr⟩ := (s6.keep f5).beg hb
                  rw [List.take_nil] at hr
                  exact .inr ⟨h', hbase, hr⟩
              · refine .inr (.inr (fall u5 q6 (fun T hq T' hb => ?_) (o1 _ rfl)))
                rcases hq T' hb with c | c
                · obtain ⟨i, hi, hr⟩ := c s5
                  rw [List.take_nil, List.append_nil] at hr
                  exact .inl ⟨B.length, Nat.le_refl _, by rw [List.take_length]; exact hr⟩
                · exact .inr ⟨h', hbase, c⟩
            · refine .inr (.inr (fall u4 q5 (fun T hq => by rw [hq]; exact s4.lfall n s) (o1 _ ?_)))
              exact thn_bad _ q5.e
          · refine .inr (.inr (fall u3 q4 (fun T hq => by rw [hq]; exact s3.lfall n s) (o1 _ ?_)))
            rw [thn_bad (x := doD d3 α false sy) _ q4.e]
            exact thn_bad _ q4.e
        · refine .inr (.inr (fall u2 q3 (fun T hq => by rw [hq]; exact (s2.off (by omega) au _).lfall n s) (o1 _ ?_)))
          rw [thn_bad (x := doD d2 α true (wf d2 (fr2 s))) _ q3.e, thn_bad (x := doD d2 α true (wf d2 (fr2 s))) _ q3.e]
          exact thn_bad _ q3.e
      · refine .inr (.inr (fall u1 q2 (fun T hq => by rw [hq]; exact s1.lfall n s) (o1 _ ?_)))
        rw [thn_bad (x := doD d1 α false wi) _ q2.e, thn_bad (x := doD d1 α false wi) _ q2.e, thn_bad (x := doD d1 α false wi) _ q2.e]
        exact thn_bad _ q2.e
    · have : LayFall d.T h n S E B s := fun T' hb => .inl (hs.beg hb)
      refine .inr (.inr (fall ⟨hdn, hok, rfl, fun e => e⟩ q1 (fun T hq => by rw [hq]; exact this) ?_))
      unfold lyX
      rw [thn_bad (x := syD d h) _ q1.e, thn_bad (x := syD d h) _ q1.e, thn_bad (x := syD d h) _ q1.e, thn_bad (x := syD d h) _ q1.e]
      exact thn_bad _ q1.e
end Go.Proofs.YtieemdcoomilaaaGreatDoor.Vt
