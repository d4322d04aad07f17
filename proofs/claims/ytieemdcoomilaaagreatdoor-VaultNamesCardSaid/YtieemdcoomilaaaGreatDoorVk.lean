/- The vault, plainly: what there must be, wherever the disk fails, is there. Nothing of the program. -/
import Derived.Test.YtieemdcoomilaaaGreatDoorJe
set_option linter.unusedVariables false
set_option linter.unusedSimpArgs false
namespace Go.Proofs.YtieemdcoomilaaaGreatDoor.Vt
open Go Go.RowKit
set_option maxRecDepth 100000
def eS : ByteArray := ⟨#[]⟩
/-- What there must be: all records; how many are synced; of how many the last snapshot is; that; what was under way when the disk failed. -/
structure Ke where
  all : List ByteArray
  syn : Nat
  at' : Nat
  has : Bool
  snap : ByteArray
  ad : Bool
  ly : Bool
  un : ByteArray
def Ke.allU (k : Ke) : List ByteArray := if k.ad = true then k.all ++ [k.un] else k.all
/-- Is what is found what there must be? -/
structure BackOk (k : Ke) (h : He) (S : Option ByteArray) (R : List ByteArray) : Prop where
  b0 : 0 ≤ h.base
  how : (S.isSome = k.has ∧ S.getD eS = k.snap ∧ h.base.toNat = k.at') ∨ (k.ly = true ∧ S.isSome = true ∧ S.getD eS = k.un ∧ h.base.toNat = k.all.length)
  syn : k.syn ≤ h.base.toNat + R.length
  len : h.base.toNat + R.length ≤ k.allU.length
  eq : R = (k.allU.drop h.base.toNat).take R.length
def backTo (k : Ke) (h : He) (S : Option ByteArray) (R : List ByteArray) : Ke := ⟨k.allU.take (h.base.toNat + R.length), h.base.toNat + R.length, h.base.toNat, S.isSome, S.getD eS, false, false, eS⟩
/-- A vault that is open on a disk that is up. -/
structure InvU (d : Dk) (h : He) (n : Nat) (k : Ke) : Prop where
  dn : d.dn = false
  ok : d.ok
  emp : Emp d.T h
  st : ∃ S E B P, StdT d.T h S E B ∧ k.all = P ++ (E ++ B) ∧ (P.length : Int) = h.base ∧ n = (E ++ B).length ∧ k.at' = P.length ∧ k.has = S.isSome ∧ k.snap = S.getD eS ∧ k.syn ≤ P.length + E.length
  ad : k.ad = false
  ly : k.ly = false
/-- What stands there behind a failure, however much of it stayed, is what there must be. -/
def Keeps (T : Nat → Tp) (k : Ke) : Prop := ∀ T', Beg T T' → ∃ h S R, RdyT T' h S R ∧ BackOk k h S R
structure InvD (d : Dk) (k : Ke) : Prop where
  dn : d.dn = true
  ok : d.ok
  k : Keeps d.T k
theorem take_pre {P Q : List ByteArray} (j : Nat) : (P ++ Q).drop P.length = Q ∧ (P ++ Q).take (P.length + j) = P ++ Q.take j := by
  refine ⟨List.drop_left, ?_⟩
  rw [List.take_append, List.take_of_length_le (by omega), Nat.add_sub_cancel_left]
/-- Found: the old snapshot, and a beginning of the records behind it. -/
theorem back_old {k : Ke} {h : He} {S : Option ByteArray} {P Q : List ByteArray} (hall : k.allU = P ++ Q) (hb : (P.length : Int) = h.base) (h1 : k.at' = P.length) (h2 : k.has = S.isSome) (h3 : k.snap = S.getD eS) (j : Nat) (hj : j ≤ Q.length) (hs : k.syn ≤ P.length + j) : BackOk k h S (Q.take j) := by
  have e : h.base.toNat = P.length := by omega
  have hl : (Q.take j).length = j := by rw [List.length_take]; omega
  refine ⟨by omega, .inl ⟨h2.symm, h3.symm, by omega⟩, by rw [e, hl]; exact hs, by rw [e, hl, hall, List.length_append]; omega, ?_⟩
  rw [e, hl, hall, (take_pre (P := P) (Q := Q) j).1]
theorem allU_no {k : Ke} (h : k.ad = false) : k.allU = k.all := by unfold Ke.allU; rw [h, if_neg (by simp)]
theorem InvU.keeps {d : Dk} {h : He} {n : Nat} {k : Ke} (i : InvU d h n k) : Keeps d.T k := fun T' hb => by
  obtain ⟨S, E, B, P, hs, e1, e2, e3, e4, e5, e6, e7⟩ := i.st
  obtain ⟨j, hj, hr⟩ := hs.beg hb
  refine ⟨h, S, E ++ B.take j, hr, ?_⟩
  have : E ++ B.take j = (E ++ B).take (E.length + j) := (take_pre (P := E) (Q := B) j).2.symm
  rw [this]
  exact back_old ((allU_no i.ad).trans e1) e2 e4 e5 e6 _ (by rw [List.length_append]; omega) (by omega)
/-- What is opened, where it is found so. -/
theorem open_inv {k : Ke} {h : He} {S : Option ByteArray} {R : List ByteArray} {d0 d : Dk} (ho : Opn d0 h S R d) (hb : BackOk k h S R) : InvU d h R.length (backTo k h S R) := by
  have hp : (k.allU.take h.base.toNat).length = h.base.toNat := by rw [List.length_take]; have := hb.len; omega
  refine ⟨ho.u.dn, ho.u.ok, ho.emp, ⟨S, R, [], k.allU.take h.base.toNat, ho.std, ?_, by rw [hp]; have := hb.b0; omega, by rw [List.append_nil], hp.symm, rfl, rfl, by rw [hp]; exact Nat.le_refl _⟩, rfl, rfl⟩
  rw [List.append_nil]
  show k.allU.take (h.base.toNat + R.length) = _
  rw [List.take_add]
  rw [← hb.eq]
theorem backTo_len {k : Ke} {h : He} {S : Option ByteArray} {R : List ByteArray} (hb : BackOk k h S R) : (backTo k h S R).all.length = (backTo k h S R).syn := by
  show (k.allU.take (h.base.toNat + R.length)).length = h.base.toNat + R.length
  rw [List.length_take]; have := hb.len; omega
/-- It comes back, and a vault is opened. -/
theorem back_open {d : Dk} {k : Ke} (hok : d.ok) (hk : Keeps d.T k) (ks : List Int) : ∃ d' h S R, opD (backD d ks) = ((d', 0), h, S, R) ∧ BackOk k h S R ∧ InvU d' h R.length (backTo k h S R) := by
  obtain ⟨h, S, R, hr, hb⟩ := hk _ (beg_back hok ks)
  obtain ⟨d', e, ho, -⟩ := open_rdy (d := backD d ks) rfl (backD_ok hok ks) rfl hr
  exact ⟨d', h, S, R, e, hb, open_inv ho hb⟩
/-- A vault is opened on a disk that is up. -/
theorem up_open {d : Dk} {h : He} {n : Nat} {k : Ke} (i : InvU d h n k) : (∃ d' S R, opD d = ((d', 0), h, S, R) ∧ BackOk k h S R ∧ InvU d' h R.length (backTo k h S R)) ∨ ((opD d).1.2 = 45 ∧ InvD (opD d).1.1 k) := by
  obtain ⟨S, E, B, P, hs, e1, e2, e3, e4, e5, e6, e7⟩ := i.st
  rcases open_std i.dn i.ok hs i.emp with ⟨d', e, ho, -⟩ | ⟨f1, f2, f3, f4, -, -⟩
  · have hb : BackOk k h S (E ++ B) := by
      have := back_old (S := S) ((allU_no i.ad).trans e1) e2 e4 e5 e6 (E ++ B).length (Nat.le_refl _) (by rw [List.length_append]; omega)
      rw [List.take_length] at this
      exact this
    exact .inl ⟨d', S, E ++ B, e, hb, open_inv ho hb⟩
  · refine .inr ⟨f1, f2, f3, fun T' hb => ?_⟩
    obtain ⟨j, hj, hr⟩ := f4.beg hb
    refine ⟨h, S, E ++ B.take j, hr, ?_⟩
    have : E ++ B.take j = (E ++ B).take (E.length + j) := (take_pre (P := E) (Q := B) j).2.symm
    rw [this]
    exact back_old ((allU_no i.ad).trans e1) e2 e4 e5 e6 _ (by rw [List.length_append]; omega) (by omega)
/-- A record is added. -/
theorem add_inv {d : Dk} {h : He} {n : Nat} {k : Ke} (i : InvU d h n k) (most : Nat) (hmost : most ≤ 1048576) (r : ByteArray) :
    (((addD d h n most r).1.2 = 40 ∨ (addD d h n most r).1.2 = 44) ∧ InvU (addD d h n most r).1.1 (addD d h n most r).2.1 (addD d h n most r).2.2 k) ∨
    ((addD d h n most r).1.2 = 0 ∧ InvU (addD d h n most r).1.1 (addD d h n most r).2.1 (addD d h n most r).2.2 { k with all := k.all ++ [r] }) ∨
    ((addD d h n most r).1.2 = 45 ∧ InvD (addD d h n most r).1.1 { k with ad := true, un := r }) := by
  obtain ⟨S, E, B, P, hs, e1, e2, e3, e4, e5, e6, e7⟩ := i.st
  rcases add_std i.dn i.ok hs i.emp n most hmost r with ⟨f1, f2, f3, -⟩ | ⟨f1, f2, f3, f4, f5, f6, f7⟩ | ⟨f1, f2, f3, f4, f5⟩
  · refine .inl ⟨f2, ?_⟩
    rw [f1, f3]; exact i
  · refine .inr (.inl ⟨f1, f2.dn, f2.ok, f6, ?_, i.ad, i.ly⟩)
    rcases f7 with ⟨g1, g2, -⟩ | ⟨z, g1, -, -, g2, -⟩
    · rw [g1]
      exact ⟨S, E, B ++ [r], P, g2, by show k.all ++ [r] = _; rw [e1]; simp, e2, by rw [f3, e3]; simp [Nat.add_assoc], e4, e5, e6, e7⟩
    · rw [g1]
      exact ⟨S, E ++ B, [r], P, g2, by show k.all ++ [r] = _; rw [e1]; simp, e2, by rw [f3, e3]; simp [Nat.add_assoc], e4, e5, e6, by show k.syn ≤ _; rw [List.length_append]; omega⟩
  · refine .inr (.inr ⟨f1, f2, f3, fun T' hb => ?_⟩)
    obtain ⟨h', j, hj, hbase, hr⟩ := f5 T' hb
    refine ⟨h', S, E ++ (B ++ [r]).take j, hr, ?_⟩
    have : E ++ (B ++ [r]).take j = (E ++ (B ++ [r])).take (E.length + j) := (take_pre (P := E) (Q := B ++ [r]) j).2.symm
    rw [this]
    refine back_old (k := { k with ad := true, un := r }) (P := P) (by show (if true = true then k.all ++ [r] else k.all) = _; rw [if_pos rfl, e1]; simp) (by rw [hbase]; exact e2) e4 e5 e6 _ (by rw [List.length_append]; omega) (by show k.syn ≤ _; omega)
/-- The vault is synced. -/
theorem sync_inv {d : Dk} {h : He} {n : Nat} {k : Ke} (i : InvU d h n k) : ((syD d h).2 = 0 ∧ InvU (syD d h).1 h n { k with syn := k.all.length }) ∨ ((syD d h).2 = 45 ∧ InvD (syD d h).1 k) := by
  obtain ⟨S, E, B, P, hs, e1, e2, e3, e4, e5, e6, e7⟩ := i.st
  rcases sync_std i.dn i.ok hs i.emp with ⟨q, f1, f2, -⟩ | q
  · exact .inl ⟨q.e, q.dn, q.ok, f2, ⟨S, E ++ B, [], P, f1, by show k.all = _; rw [e1]; simp, e2, by rw [e3]; simp, e4, e5, e6, by show k.all.length ≤ _; rw [e1]; simp⟩, i.ad, i.ly⟩
  · refine .inr ⟨q.e, q.dn, q.ok, ?_⟩
    rw [q.q]; exact i.keeps
/-- A snapshot is laid down. -/
theorem lay_inv {d : Dk} {h : He} {n : Nat} {k : Ke} (i : InvU d h n k) (s : ByteArray) :
    (((layD d h n s).1.2 = 40 ∨ (layD d h n s).1.2 = 44) ∧ InvU (layD d h n s).1.1 (layD d h n s).2.1 (layD d h n s).2.2 k) ∨
    ((layD d h n s).1.2 = 0 ∧ InvU (layD d h n s).1.1 (layD d h n s).2.1 (layD d h n s).2.2 { k with syn := k.all.length, at' := k.all.length, has := true, snap := s }) ∨
    ((layD d h n s).1.2 = 45 ∧ InvD (layD d h n s).1.1 { k with ly := true, un := s }) := by
  obtain ⟨S, E, B, P, hs, e1, e2, e3, e4, e5, e6, e7⟩ := i.st
  have hlen : k.all.length = P.length + n := by rw [e1, e3, List.length_append]
  rcases lay_std i.dn i.ok hs i.emp n s with ⟨f1, f2, f3, -⟩ | ⟨f1, f2, f3, a, b, f4, f5, f6, f7, f8, f9, -, -⟩ | ⟨f1, f2, f3, f4, f5⟩
  · refine .inl ⟨f2, ?_⟩
    rw [f1, f3]; exact i
  · refine .inr (.inl ⟨f1, ?_⟩)
    rw [f4]
    refine ⟨f2.dn, f2.ok, f8, ⟨some s, [], [], k.all, f9, by simp, ?_, rfl, rfl, rfl, rfl, by simp⟩, i.ad, i.ly⟩
    show (k.all.length : Int) = h.base + n
    omega
  · refine .inr (.inr ⟨f1, f2, f3, fun T' hb => ?_⟩)
    rcases f5 T' hb with ⟨j, hj, hr⟩ | ⟨h', hb', hr⟩
    · refine ⟨h, S, E ++ B.take j, hr, ?_⟩
      have : E ++ B.take j = (E ++ B).take (E.length + j) := (take_pre (P := E) (Q := B) j).2.symm
      rw [this]
      exact back_old (P := P) ((allU_no (k := { k with ly := true, un := s }) i.ad).trans e1) e2 e4 e5 e6 _ (by rw [List.length_append]; omega) (by show k.syn ≤ _; omega)
    · have hbn : h'.base.toNat = k.all.length := by omega
      have hsy : k.syn ≤ k.all.length := by rw [e1, List.length_append, List.length_append]; omega
      refine ⟨h', some s, [], hr, by omega, .inr ⟨rfl, rfl, rfl, hbn⟩, by show k.syn ≤ _ + 0; omega, ?_, ?_⟩
      · rw [allU_no (k := { k with ly := true, un := s }) i.ad, hbn]; exact Nat.le_refl _
      · exact List.take_zero.symm
/-- The disk is to fail. -/
theorem fail_inv {d : Dk} {h : He} {n : Nat} {k : Ke} (i : InvU d h n k) (m : Nat) (hm : m ≤ 9223372036854775807) : (failD d m).2 = 0 ∧ InvU (failD d m).1 h n k := by
  have e : failD d m = ({ d with dm := true, left := m }, 0) := by
    unfold failD
    rw [i.dn, if_neg (by simp), if_neg (by omega), Int.toNat_natCast]
  have ho := failD_ok i.ok (m : Int) (by omega)
  rw [e] at ho ⊢
  exact ⟨rfl, i.dn, ho, i.emp, i.st, i.ad, i.ly⟩
/-- A new vault. -/
theorem new_inv {c : Nat} (hc : 14 ≤ c) (hok : (made0 c []).ok) : ∃ d', opD (made0 c []) = ((d', 0), hNew, none, []) ∧ InvU d' hNew 0 ⟨[], 0, 0, false, eS, false, false, eS⟩ := by
  obtain ⟨d', e, ho, -⟩ := open_new hc hok
  exact ⟨d', e, ho.u.dn, ho.u.ok, ho.emp, ⟨none, [], [], [], ho.std, rfl, rfl, rfl, rfl, rfl, rfl, Nat.le_refl _⟩, rfl, rfl⟩
end Go.Proofs.YtieemdcoomilaaaGreatDoor.Vt
namespace Go.Proofs.YtieemdcoomilaaaGreatDoor.Vt
open Go Go.RowKit
set_option maxRecDepth 100000
theorem frL_prefix (h : He) (t : Nat) : ∀ n, t ≤ n → ∃ r, frL h n = frL h t ++ r
  | 0, hn => ⟨[], by have e : t = 0 := by omega
                     rw [e, List.append_nil]⟩
  | n + 1, hn => by
    by_cases e : t = n + 1
    · subst e; exact ⟨[], by simp⟩
    · obtain ⟨r, hr⟩ := frL_prefix h t n (by omega)
      show ∃ r, (if 2 ≤ n ∧ usB h (n : Int) = false then frL h n ++ [(n : Int)] else frL h n) = _
      split
      · exact ⟨r ++ [(n : Int)], by rw [hr, List.append_assoc]⟩
      · exact ⟨r, hr⟩
theorem frL_at (h : He) (t : Nat) (h2 : 2 ≤ t) (ht : t < 32) (hu : usB h (t : Int) = false) : ∃ hl : (frL h t).length < (frL h 32).length, (frL h 32)[(frL h t).length] = (t : Int) := by
  obtain ⟨r, hr⟩ := frL_prefix h (t + 1) 32 (by omega)
  have e : frL h (t + 1) = frL h t ++ [(t : Int)] := if_pos ⟨h2, hu⟩
  rw [e] at hr
  have hlen : (frL h t).length < (frL h 32).length := by rw [hr]; simp
  refine ⟨hlen, ?_⟩
  have : (frL h 32)[(frL h t).length]? = some (t : Int) := by
    rw [hr, List.append_assoc, List.getElem?_append_right (Nat.le_refl _), Nat.sub_self]; rfl
  rw [List.getElem?_eq_getElem hlen] at this
  exact Option.some.inj this
theorem frL_succ (h : He) (t : Nat) (h2 : 2 ≤ t) : (frL h (t + 1)).length = (frL h t).length + (if usB h (t : Int) = false then 1 else 0) := by
  show (if 2 ≤ t ∧ usB h (t : Int) = false then frL h t ++ [(t : Int)] else frL h t).length = _
  by_cases hu : usB h (t : Int) = false
  · rw [if_pos ⟨h2, hu⟩, if_pos hu, List.length_append]; rfl
  · rw [if_neg (fun e => hu e.2), if_neg hu]; rfl
theorem frL_two (h : He) : frL h 2 = [] := by
  show (if 2 ≤ 1 ∧ _ then _ else (if 2 ≤ 0 ∧ _ then _ else [])) = _
  rw [if_neg (by omega), if_neg (by omega)]
/-- All tapes of a row, marked. -/
def marks (S : Nat → Bool) : List Int → Nat → Bool
  | [] => S
  | t :: r => marks (mark S t.toNat) r
theorem marks_at : ∀ (l : List Int) (S : Nat → Bool) (j : Nat), (∀ t ∈ l, 2 ≤ t) → marks S l j = (S j || decide ((j : Int) ∈ l))
  | [], S, j, _ => by show S j = _; simp
  | t :: r, S, j, h => by
    show marks (mark S t.toNat) r j = _
    rw [marks_at r _ j (fun u hu => h u (by simp [hu]))]
    have ht := h t (by simp)
    have e : mark S t.toNat j = (S j || decide ((j : Int) = t)) := by
      unfold mark
      by_cases e : j = t.toNat
      · rw [if_pos e, decide_eq_true (show (j : Int) = t by omega), Bool.or_true]
      · rw [if_neg e, decide_eq_false (show ¬ (j : Int) = t by omega), Bool.or_false]
    have e2 : decide ((j : Int) ∈ t :: r) = (decide ((j : Int) = t) || decide ((j : Int) ∈ r)) := by
      rw [decide_eq_decide.2 List.mem_cons, Bool.decide_or]
    rw [e, e2, Bool.or_assoc]
theorem marks_fr : ∀ (l : List Int) (S : Nat → Bool), dis S l = true → fr (marks S l) 32 + l.length = fr S 32
  | [], S, _ => rfl
  | t :: r, S, h => by
    obtain ⟨h1, h2⟩ := dis_cons h
    obtain ⟨h3, h4⟩ := ad_iff.1 h1
    have ih := marks_fr r _ h2
    have := fr_mark S t.toNat (by omega) h4 32
    rw [if_pos (by omega)] at this
    show fr (marks (mark S t.toNat) r) 32 + (r.length + 1) = _
    omega
theorem frL_fr (h : He) (U : Nat → Bool) : ∀ n, n ≤ 32 → (∀ j, 2 ≤ j → j < 32 → U j = usB h (j : Int)) → (frL h n).length = fr U n
  | 0, _, _ => rfl
  | n + 1, hn, hU => by
    have ih := frL_fr h U n (by omega) hU
    show (if 2 ≤ n ∧ usB h (n : Int) = false then frL h n ++ [(n : Int)] else frL h n).length = fr U n + (if 2 ≤ n ∧ U n = false then 1 else 0)
    by_cases h2 : 2 ≤ n
    · rw [hU n h2 (by omega)]
      by_cases hu : usB h (n : Int) = false
      · rw [if_pos ⟨h2, hu⟩, if_pos ⟨h2, hu⟩, List.length_append, ih]; rfl
      · rw [if_neg (fun e => hu e.2), if_neg (fun e => hu e.2), ih]; rfl
    · rw [if_neg (fun e => h2 e.1), if_neg (fun e => h2 e.1), ih]; rfl
theorem parted {h : He} (hm : mayB h = true) : h.log.length + (if h.snap ≠ 0 then 1 else 0) + (frL h 32).length = 30 := by
  have ok := mayB_ok hm
  unfold mayB gtop at hm
  have h1 := ok.g1; have h2 := ok.g2; have h3 := ok.b1; have h4 := ok.b2
  rw [if_neg (by omega), if_neg (by omega), if_neg (by omega), if_neg (by omega), if_neg ok.ne] at hm
  have hl2 : ∀ t ∈ h.log, 2 ≤ t := fun t ht => (ok.mem t ht).1
  by_cases h6 : h.snap = 0
  · rw [if_pos h6] at hm
    by_cases h7 : h.base ≠ 0
    · rw [if_pos h7] at hm; cases hm
    rw [if_neg h7] at hm
    have hf := marks_fr _ _ hm
    rw [fr_no32] at hf
    have := frL_fr h (marks no32 h.log) 32 (Nat.le_refl _) (fun j _ _ => by
      rw [marks_at _ _ _ hl2]
      unfold usB
      rw [decide_eq_false (show ¬ h.snap ≠ 0 from fun e => e h6)]
      rfl)
    rw [if_neg (fun e => e h6)]
    omega
  · rw [if_neg h6] at hm
    cases h7 : ad no32 h.snap
    · rw [h7] at hm; simp at hm
    · rw [h7, if_pos rfl] at hm
      obtain ⟨h8, h9⟩ := ad_iff.1 h7
      have hf := marks_fr _ _ hm
      have hk := fr_mark no32 h.snap.toNat (by omega) h9 32
      rw [fr_no32, if_pos (by omega)] at hk
      have := frL_fr h (marks (mark no32 h.snap.toNat) h.log) 32 (Nat.le_refl _) (fun j _ _ => by
        rw [marks_at _ _ _ hl2]
        unfold usB mark no32
        rw [decide_eq_true (show h.snap ≠ 0 from h6)]
        by_cases e : j = h.snap.toNat
        · rw [if_pos e, decide_eq_true (show h.snap = (j : Int) by omega)]; rfl
        · rw [if_neg e, decide_eq_false (show ¬ h.snap = (j : Int) by omega)]; rfl)
      rw [if_pos h6]
      omega
/-- What stands on each of the log's tapes. -/
def Hld (T : Nat → Tp) (h : He) (most : Nat) : Prop := ∀ t ∈ h.log, ∃ X, small X ∧ tl (T t.toNat) = rb X ∧ (most < (T t.toNat).s.size → X.length = 1) ∧ (X = [] → t = lz h.log)
/-- A vault that is open on a calm disk. -/
structure InvC (d : Dk) (h : He) (n most : Nat) : Prop where
  dn : d.dn = false
  dm : d.dm = false
  ok : d.ok
  emp : Emp d.T h
  st : ∃ S E B, StdT d.T h S E B ∧ n = (E ++ B).length
  hld : Hld d.T h most
theorem tl_app {T : Tp} {x : ByteArray} {n : Nat} : tl ⟨T.s ++ x, n⟩ = tl T ++ x.data.toList := by
  show (T.s ++ x).data.toList = _
  rw [ByteArray.data_append, Array.toList_append]; rfl
theorem tl_t0 : tl t0 = [] := rfl
theorem fr1_list (r : ByteArray) : (fr1 r).data.toList = Fr.frm 1 r.data.toList := bs_data _
theorem rb_size0 {X : List ByteArray} {t : Tp} (h : tl t = rb X) (h0 : 0 < t.s.size) : X ≠ [] := fun e => by
  rw [e] at h
  have := congrArg List.length h
  rw [tl_len, rb_nil, List.length_nil] at this
  omega
theorem rb_size1 {X : List ByteArray} {t : Tp} (h : tl t = rb X) (h0 : t.s.size = 0) : X = [] := by
  cases X with
  | nil => rfl
  | cons x X =>
    have := congrArg List.length h
    rw [tl_len, rb_cons, List.length_append, Fr.frm_length] at this
    omega
/-- A record is added on a calm disk. -/
theorem add_calm {d : Dk} {h : He} {n most : Nat} (i : InvC d h n most) (hmost : most ≤ 1048576) (r : ByteArray) :
    ((addD d h n most r).1.1 = d ∧ ((addD d h n most r).1.2 = 40 ∨ (addD d h n most r).1.2 = 44) ∧ (addD d h n most r).2 = (h, n) ∧ AddNo d h n most r) ∨
    ((addD d h n most r).1.2 = 0 ∧ InvC (addD d h n most r).1.1 (addD d h n most r).2.1 (addD d h n most r).2.2 most ∧ (addD d h n most r).2.2 = n + 1 ∧ ((addD d h n most r).2.1 = h ∨ ∃ z, (addD d h n most r).2.1 = nxH h z)) := by
  obtain ⟨S, E, B, hs, hn⟩ := i.st
  have hm := hs.hd.may
  have k := mayB_ok hm
  have m := mayB_more hm
  have hzz := k.mem _ (lz_mem k.ne)
  rcases add_std i.dn i.ok hs i.emp n most hmost r with f | ⟨f1, f2, f3, f4, f5, f6, f7⟩ | ⟨f1, f2, f3, f4, f5⟩
  · exact .inl f
  · refine .inr ⟨f1, ⟨f2.dn, f2.dm i.dm, f2.ok, f6, ?_, ?_⟩, f3, ?_⟩
    · rcases f7 with ⟨g1, g2, -, -⟩ | ⟨z, g1, -, -, g2, -⟩
      · rw [g1]; exact ⟨S, E, B ++ [r], g2, by rw [f3, hn]; simp only [List.length_append, List.length_cons, List.length_nil]; omega⟩
      · rw [g1]; exact ⟨S, E ++ B, [r], g2, by rw [f3, hn]; simp only [List.length_append, List.length_cons, List.length_nil]⟩
    · rcases f7 with ⟨g1, g2, g3, g4⟩ | ⟨z, g1, z2, z3, g2, g4, zu, -, g3⟩
      · rw [g1, g3]
        intro t ht
        obtain ⟨X, x1, x2, x3, x4⟩ := i.hld t ht
        have htm := k.mem t ht
        by_cases e : t = lz h.log
        · subst e
          refine ⟨X ++ [r], small_app.2 ⟨x1, fun y hy => by rw [List.mem_singleton] at hy; subst hy; exact f4⟩, ?_, fun hz => ?_, fun e => by simp at e⟩
          · rw [upd_same, tl_app, x2, rb_app, rb_one, fr1_list]
          · rw [upd_same] at hz
            dsimp only at hz
            have hsz : ((d.T (lz h.log).toNat).s ++ fr1 r).size = (d.T (lz h.log).toNat).s.size + (r.size + 9) := by rw [ByteArray.size_append, fr1_size]
            have hz2 : most < (d.T (lz h.log).toNat).s.size + (r.size + 9) := by rw [hsz] at hz; exact hz
            have h0 : (d.T (lz h.log).toNat).s.size = 0 := by
              by_cases h0 : (d.T (lz h.log).toNat).s.size = 0
              · exact h0
              · exact absurd ⟨by omega, hz2⟩ g4
            rw [rb_size1 x2 h0]; rfl
        · have hne : t.toNat ≠ (lz h.log).toNat := fun e2 => e (by omega)
          rw [upd_other _ _ hne]
          exact ⟨X, x1, x2, x3, x4⟩
      · rw [g1, g3]
        intro t ht
        have hp := ptT_le d
        rcases List.mem_append.1 (show t ∈ h.log ++ [z] from ht) with ht | ht
        · obtain ⟨X, x1, x2, x3, x4⟩ := i.hld t ht
          have htm := k.mem t ht
          have hnz : t.toNat ≠ z.toNat := fun e => by
            have : t = z := by omega
            rw [← this, us_log ht] at zu; cases zu
          have hT : ∀ a b c : Tp, upd (upd (upd (upd d.T (lz h.log).toNat (fmT (d.T (lz h.log).toNat))) z.toNat a) (ptT d) b) z.toNat c t.toNat = upd d.T (lz h.log).toNat (fmT (d.T (lz h.log).toNat)) t.toNat := fun a b c => by
            rw [upd_other _ _ hnz, upd_other _ _ (by omega), upd_other _ _ hnz]
          rw [hT]
          have hs' : (upd d.T (lz h.log).toNat (fmT (d.T (lz h.log).toNat)) t.toNat).s = (d.T t.toNat).s := by
            by_cases e : t.toNat = (lz h.log).toNat
            · rw [e, upd_same]; rfl
            · rw [upd_other _ _ e]
          refine ⟨X, x1, ?_, by rw [hs']; exact x3, fun e => ?_⟩
          · unfold tl at x2 ⊢; rw [hs']; exact x2
          · have hl := x4 e
            subst hl
            exact absurd e (rb_size0 x2 g4.1)
        · rw [List.mem_singleton] at ht
          subst ht
          refine ⟨[r], fun y hy => by rw [List.mem_singleton] at hy; subst hy; exact f4, ?_, fun _ => rfl, fun e => by cases e⟩
          rw [upd_same, tl_app, fr1_list, rb_one, tl_t0, List.nil_append]
    · rcases f7 with ⟨g1, -⟩ | ⟨z, g1, -⟩
      · exact .inl g1
      · exact .inr ⟨z, g1⟩
  · rw [i.dm] at f4; cases f4
theorem sync_calm {d : Dk} {h : He} {n most : Nat} (i : InvC d h n most) : (syD d h).2 = 0 ∧ InvC (syD d h).1 h n most := by
  obtain ⟨S, E, B, hs, hn⟩ := i.st
  have hm := hs.hd.may
  rcases sync_std i.dn i.ok hs i.emp with ⟨q, f1, f2, f3⟩ | q
  · refine ⟨q.e, q.dn, q.dm i.dm, q.ok, f2, ⟨S, E ++ B, [], f1, by rw [hn]; simp⟩, fun t ht => ?_⟩
    obtain ⟨X, x1, x2, x3, x4⟩ := i.hld t ht
    have h32 := log_lt hm t ht
    exact ⟨X, x1, by rw [(f3 _ h32).1]; exact x2, by rw [f3.s h32]; exact x3, x4⟩
  · have := q.dm; rw [i.dm] at this; cases this
theorem lay_calm {d : Dk} {h : He} {n most : Nat} (i : InvC d h n most) (s : ByteArray) :
    ((layD d h n s).1.1 = d ∧ ((layD d h n s).1.2 = 40 ∨ (layD d h n s).1.2 = 44) ∧ (layD d h n s).2 = (h, n) ∧ LayNo d h n s) ∨
    ((layD d h n s).1.2 = 0 ∧ InvC (layD d h n s).1.1 (layD d h n s).2.1 (layD d h n s).2.2 most ∧ ∃ a b, (layD d h n s).2 = (lyH h n a b, 0) ∧ a ≠ h.snap ∧ (∃ rest, frL h 32 = a :: b :: rest) ∧ (∀ j : Nat, j < 2 → ((layD d h n s).1.1.T j).s = if j = ptT d then whl (lyH h n a b) else (d.T j).s) ∧ StdT (layD d h n s).1.1.T (lyH h n a b) (some s) [] [] ∧ (layD d h n s).1.1.cap = d.cap) := by
  obtain ⟨S, E, B, hs, hn⟩ := i.st
  rcases lay_std i.dn i.ok hs i.emp n s with f | ⟨f1, f2, f3, a, b, f4, f5, f6, f7, f8, f9, g1, g2⟩ | ⟨f1, f2, f3, f4, f5⟩
  · exact .inl f
  · refine .inr ⟨f1, ?_, a, b, f4, fun e => ?_, g1, g2, f9, f2.cap⟩
    · rw [f4]
      refine ⟨f2.dn, f2.dm i.dm, f2.ok, f8, ⟨some s, [], [], f9, rfl⟩, fun t ht => ?_⟩
      have hlg := f9.lg
      rw [show (lyH h n a b).log = [b] from rfl] at hlg ht
      rw [List.mem_singleton] at ht
      subst ht
      obtain ⟨E0, A, hE, h1, h2, -⟩ := hlg.turn (by simp)
      have hA : A = [] := (List.append_eq_nil_iff.1 hE.symm).2
      subst hA
      · have h0 : ((layD d h n s).1.1.T t.toNat).s.size = 0 := by
          have := congrArg List.length h2
          rw [tl_len] at this
          exact this
        exact ⟨[], (fun y hy => by cases hy), h2, fun hz => by rw [h0] at hz; omega, fun _ => rfl⟩
    · rw [e] at f7
      rw [us_snap (by omega)] at f7; cases f7
  · rw [i.dm] at f4; cases f4
theorem new_calm {c most : Nat} (hc : 14 ≤ c) (hok : (made0 c []).ok) : ∃ d', opD (made0 c []) = ((d', 0), hNew, none, []) ∧ InvC d' hNew 0 most ∧ d'.cap = c := by
  obtain ⟨d', e, ho, hT⟩ := open_new hc hok
  refine ⟨d', e, ⟨ho.u.dn, ho.u.dm rfl, ho.u.ok, ho.emp, ⟨none, [], [], ho.std, rfl⟩, fun t ht => ?_⟩, ho.u.cap⟩
  rw [show hNew.log = [2] from rfl, List.mem_singleton] at ht
  subst ht
  have h0 : d'.T (2 : Int).toNat = t0 := by rw [hT]; rfl
  rw [h0]
  exact ⟨[], (fun y hy => by cases hy), rfl, fun hz => absurd hz (by show ¬ most < 0; omega), fun _ => rfl⟩
end Go.Proofs.YtieemdcoomilaaaGreatDoor.Vt
