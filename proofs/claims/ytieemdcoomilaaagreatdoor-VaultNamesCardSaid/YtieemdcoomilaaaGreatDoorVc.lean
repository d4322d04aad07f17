/- The vault, plainly: what stands on a vault's tapes, and how it is opened again. Nothing of the program. -/
import Derived.Test.YtieemdcoomilaaaGreatDoorOx
import Derived.Test.YtieemdcoomilaaaGreatDoorWb
import Derived.Test.YtieemdcoomilaaaGreatDoorHr
import Derived.Lib.QuietBelow
set_option linter.unusedVariables false
set_option linter.unusedSimpArgs false
namespace Go.Proofs.YtieemdcoomilaaaGreatDoor.Vt
open Go Go.RowKit
set_option maxRecDepth 100000
theorem dis_nodup : ∀ (l : List Int) (S : Nat → Bool), dis S l = true → l.Nodup
  | [], _, _ => List.nodup_nil
  | u :: r, S, h => by
    obtain ⟨h1, h2⟩ := dis_cons h
    refine List.nodup_cons.2 ⟨fun hu => ?_, dis_nodup r _ h2⟩
    have := (dis_mem r _ h2 u hu).2
    unfold mark at this
    rw [if_pos rfl] at this
    cases this
/-- More of a head that may be. -/
structure More (h : He) : Prop where
  nd : h.log.Nodup
  s2 : h.snap ≠ 0 → 2 ≤ h.snap
  sn : h.snap ≠ 0 → h.snap ∉ h.log
  b0 : h.snap = 0 → h.base = 0
theorem mayB_more {h : He} (hm : mayB h = true) : More h := by
  unfold mayB gtop at hm
  by_cases h1 : h.gen < 1
  · rw [if_pos h1] at hm; cases hm
  rw [if_neg h1] at hm
  by_cases h2 : 1099511627776 < h.gen
  · rw [if_pos h2] at hm; cases hm
  rw [if_neg h2] at hm
  by_cases h3 : h.base < 0
  · rw [if_pos h3] at hm; cases hm
  rw [if_neg h3] at hm
  by_cases h4 : 1099511627776 < h.base
  · rw [if_pos h4] at hm; cases hm
  rw [if_neg h4] at hm
  by_cases h5 : h.log = []
  · rw [if_pos h5] at hm; cases hm
  rw [if_neg h5] at hm
  by_cases h6 : h.snap = 0
  · rw [if_pos h6] at hm
    by_cases h7 : h.base ≠ 0
    · rw [if_pos h7] at hm; cases hm
    rw [if_neg h7] at hm
    exact ⟨dis_nodup _ _ hm, fun e => absurd h6 e, fun e => absurd h6 e, fun _ => Classical.not_not.1 h7⟩
  · rw [if_neg h6] at hm
    cases h7 : ad no32 h.snap
    · rw [h7] at hm; simp at hm
    · rw [h7, if_pos rfl] at hm
      obtain ⟨h8, h9⟩ := ad_iff.1 h7
      refine ⟨dis_nodup _ _ hm, fun _ => h8.1, fun _ hs => ?_, fun e => absurd e h6⟩
      have := (dis_mem _ _ hm _ hs).2
      unfold mark at this
      rw [if_pos rfl] at this
      cases this
theorem us_log {h : He} {t : Int} (ht : t ∈ h.log) : usB h t = true := by unfold usB; rw [decide_eq_true ht, Bool.or_true]
theorem us_snap {h : He} (hs : h.snap ≠ 0) : usB h h.snap = true := by unfold usB; rw [decide_eq_true hs, decide_eq_true rfl]; rfl
theorem us_iff {h : He} {t : Int} : usB h t = true ↔ (h.snap ≠ 0 ∧ h.snap = t) ∨ t ∈ h.log := by unfold usB; simp
/-- The last one of the log's tapes. -/
def lz : List Int → Int
  | [] => 0
  | [t] => t
  | _ :: r => lz r
theorem lz_cons (t : Int) {r : List Int} (h : r ≠ []) : lz (t :: r) = lz r := by
  match r, h with
  | u :: r, _ => rfl
theorem lz_mem : ∀ {l : List Int}, l ≠ [] → lz l ∈ l
  | [t], _ => by simp [lz]
  | t :: u :: r, _ => by
    rw [lz_cons t (by simp)]
    exact List.mem_cons_of_mem _ (lz_mem (by simp))
theorem lz_snoc : ∀ (l : List Int) (t : Int), lz (l ++ [t]) = t
  | [], t => rfl
  | u :: r, t => by rw [List.cons_append, lz_cons _ (by simp), lz_snoc r t]
/-- The last one, and what it may be turned to. -/
theorem Lg.turn {T : Nat → Tp} {l : List Int} {E B : List ByteArray} (h : Lg T l E B) (hn : l.Nodup) : ∃ E0 A, E = E0 ++ A ∧ Vt.small (A ++ B) ∧ tl (T (lz l).toNat) = rb (A ++ B) ∧ (rb A).length ≤ (T (lz l).toNat).f ∧
    ∀ (T' : Nat → Tp) (A' B' : List ByteArray), (∀ t ∈ l, t ≠ lz l → T' t.toNat = T t.toNat) → Vt.small (A' ++ B') → tl (T' (lz l).toNat) = rb (A' ++ B') → (rb A').length ≤ (T' (lz l).toNat).f → Lg T' l (E0 ++ A') B' := by
  induction h with
  | last t A B h1 h2 h3 => exact ⟨[], A, rfl, h1, h2, h3, fun T' A' B' _ k1 k2 k3 => .last t A' B' k1 k2 k3⟩
  | cons t r X E B h1 h2 h3 h4 ih =>
    obtain ⟨n1, n2⟩ := List.nodup_cons.1 hn
    have hne := h4.ne
    obtain ⟨E0, A, rfl, k1, k2, k3, k4⟩ := ih n2
    rw [lz_cons t hne]
    refine ⟨X ++ E0, A, (List.append_assoc ..).symm, k1, k2, k3, fun T' A' B' hT hs ht hl => ?_⟩
    have e : T' t.toNat = T t.toNat := hT t (by simp) (fun e => n1 (e ▸ lz_mem hne))
    rw [List.append_assoc]
    exact .cons t r X _ B' h1 (by rw [e]; exact h2) (by rw [e]; exact h3) (k4 T' A' B' (fun u hu hz => hT u (by simp [hu]) hz) hs ht hl)
/-- The same bytes, more of them firm. -/
theorem Lg.mono {T T' : Nat → Tp} {l : List Int} {E B : List ByteArray} (h : Lg T l E B) (e : ∀ t ∈ l, tl (T' t.toNat) = tl (T t.toNat) ∧ (T t.toNat).f ≤ (T' t.toNat).f ∧ (fm (T t.toNat) → fm (T' t.toNat))) : Lg T' l E B := by
  induction h with
  | last t A B h1 h2 h3 =>
    obtain ⟨e1, e2, _⟩ := e t (by simp)
    exact .last t A B h1 (by rw [e1]; exact h2) (by omega)
  | cons t r X E B h1 h2 h3 _ ih =>
    obtain ⟨e1, _, e3⟩ := e t (by simp)
    exact .cons t r X E B h1 (by rw [e1]; exact h2) (e3 h3) (ih fun u hu => e u (by simp [hu]))
/-- All of it is firm. -/
theorem Lg.all {T : Nat → Tp} {l : List Int} {E B : List ByteArray} (h : Lg T l E B) (e : ∀ t ∈ l, fm (T t.toNat)) : Lg T l (E ++ B) [] := by
  induction h with
  | last t A B h1 h2 h3 =>
    refine .last t (A ++ B) [] (by rw [List.append_nil]; exact h1) (by rw [List.append_nil]; exact h2) ?_
    rw [e t (by simp), ← tl_len, h2]
    exact Nat.le_refl _
  | cons t r X E B h1 h2 h3 _ ih => rw [List.append_assoc]; exact .cons t r X _ [] h1 h2 h3 (ih fun u hu => e u (by simp [hu]))
/-- All but the last one are firm. -/
theorem Lg.fm {T : Nat → Tp} {l : List Int} {E B : List ByteArray} (h : Lg T l E B) : ∀ t ∈ l, t ≠ lz l → Vt.fm (T t.toNat) := by
  induction h with
  | last t A B h1 h2 h3 => intro u hu hz; rw [List.mem_singleton] at hu; exact absurd hu hz
  | cons t r X E B h1 h2 h3 h4 ih =>
    intro u hu hz
    rw [lz_cons t h4.ne] at hz
    rcases List.mem_cons.1 hu with rfl | hu
    · exact h3
    · exact ih u hu hz
/-- The snapshot. -/
def SnapT (T : Nat → Tp) (h : He) (S : Option ByteArray) : Prop := (h.snap = 0 ∧ S = none) ∨ ∃ s, S = some s ∧ h.snap ≠ 0 ∧ s.size ≤ 262144 ∧ tl (T h.snap.toNat) = Fr.frm 2 s.data.toList ∧ fm (T h.snap.toNat)
/-- The head that counts, and all of the tapes 0 and 1 firm. -/
structure HdT (T : Nat → Tp) (h : He) : Prop where
  may : mayB h = true
  hd : cHead (ofB (T 0).s).1 (ofB (T 1).s).1 = h
  is : cIs (ofB (T 0).s).1.gen (ofB (T 1).s).1.gen = true
  f0 : fm (T 0)
  f1 : fm (T 1)
/-- What stands on a vault's tapes: its head, its snapshot, the records that are firm, and others, that may be loose. -/
structure StdT (T : Nat → Tp) (h : He) (S : Option ByteArray) (E B : List ByteArray) : Prop where
  hd : HdT T h
  snap : SnapT T h S
  lg : Lg T h.log E B
/-- Likewise behind a failure. -/
structure RdyT (T : Nat → Tp) (h : He) (S : Option ByteArray) (R : List ByteArray) : Prop where
  hd : HdT T h
  snap : SnapT T h S
  lg : Lj T h.log R
  fm : ∀ j < 32, fm (T j)
/-- Other tapes have no bytes. -/
def Emp (T : Nat → Tp) (h : He) : Prop := ∀ t : Nat, 2 ≤ t → t < 32 → usB h (t : Int) = false → (T t).s.size = 0
theorem log_lt {h : He} (hm : mayB h = true) : ∀ t ∈ h.log, t.toNat < 32 := fun t ht => by have := (mayB_ok hm).mem t ht; omega
theorem log_us {h : He} (hm : mayB h = true) {t : Int} (ht : t ∈ h.log) : usB h (t.toNat : Int) = true := by
  have := (mayB_ok hm).mem t ht
  rw [Int.toNat_of_nonneg (by omega)]
  exact us_log ht
theorem HdT.same {T T' : Nat → Tp} {h : He} (hh : HdT T h) (e0 : T' 0 = T 0) (e1 : T' 1 = T 1) : HdT T' h := ⟨hh.may, by rw [e0, e1]; exact hh.hd, by rw [e0, e1]; exact hh.is, by rw [e0]; exact hh.f0, by rw [e1]; exact hh.f1⟩
theorem StdT.keep {T T' : Nat → Tp} {h : He} {S : Option ByteArray} {E B : List ByteArray} (hs : StdT T h S E B) (e : ∀ j : Nat, j < 32 → (j < 2 ∨ usB h (j : Int) = true) → T' j = T j) : StdT T' h S E B := by
  have hm := hs.hd.may
  refine ⟨hs.hd.same (e 0 (by decide) (.inl (by decide))) (e 1 (by decide) (.inl (by decide))), ?_, hs.lg.congr fun t ht => e _ (log_lt hm t ht) (.inr (log_us hm ht))⟩
  rcases hs.snap with h0 | ⟨s, h1, h2, h3, h4, h5⟩
  · exact .inl h0
  · have hk := mayB_ok hm
    have e1 : T' h.snap.toNat = T h.snap.toNat := e _ (by have := hk.s2; have := hk.s1; omega) (.inr (by rw [Int.toNat_of_nonneg hk.s1]; exact us_snap h2))
    exact .inr ⟨s, h1, h2, h3, by rw [e1]; exact h4, by rw [e1]; exact h5⟩
theorem StdT.beg {T T' : Nat → Tp} {h : He} {S : Option ByteArray} {E B : List ByteArray} (hs : StdT T h S E B) (hb : Beg T T') : ∃ k, k ≤ B.length ∧ RdyT T' h S (E ++ B.take k) := by
  have hm := hs.hd.may
  obtain ⟨k, hk, hl⟩ := hs.lg.beg (log_lt hm) hb
  refine ⟨k, hk, hs.hd.same (hb.same (by decide) hs.hd.f0) (hb.same (by decide) hs.hd.f1), ?_, hl, fun j hj => (hb j hj).1⟩
  rcases hs.snap with h0 | ⟨s, h1, h2, h3, h4, h5⟩
  · exact .inl h0
  · have hk := mayB_ok hm
    have e1 : T' h.snap.toNat = T h.snap.toNat := hb.same (by have := hk.s2; have := hk.s1; omega) h5
    exact .inr ⟨s, h1, h2, h3, by rw [e1]; exact h4, by rw [e1]; exact h5⟩
/-- A disk's way: up, and what it may be. -/
structure Upd (d0 d : Dk) : Prop where
  dn : d.dn = false
  ok : d.ok
  cap : d.cap = d0.cap
  dm : d0.dm = false → d.dm = false
theorem Okd.upd {d : Dk} {T : Nat → Tp} {P : Dk × Nat} (h : Okd d T P) {d0 : Dk} (h0 : Upd d0 d) : Upd d0 P.1 := ⟨h.dn, h.ok, h.cap.trans h0.cap, fun e => h.dm (h0.dm e)⟩
theorem bg_head {d : Dk} {h : He} (hdn : d.dn = false) (hh : HdT d.T h) : bg d = (over (wo h) tps d, h) := by
  have e1 : thn (sl d 0) (fun d => sl d 1) = (d, 0) := by rw [sl_firm hh.f0, thn_ok _ rfl]; exact sl_firm hh.f1
  have e2 : bgH d = ((d, 0), h) := by
    have hl := ld_up hdn
    unfold bgH
    rw [hl, if_neg (by simp), if_pos (show ldI d = true from hh.is), show ldH d = h from hh.hd]
  unfold bg
  simp only [e1, e2]
  rfl
theorem over_wo_emp {d : Dk} {h : He} (he : Emp d.T h) : over (wo h) tps d = (d, 0) := by
  have key : ∀ l : List Nat, (∀ t : Nat, t ∈ l → 2 ≤ t ∧ t < 32) → over (wo h) l d = (d, 0) := fun l => by
    induction l with
    | nil => exact fun _ => rfl
    | cons t r ih =>
      intro hl
      have e : wo h d t = (d, 0) := by
        unfold wo
        refine if_pos ?_
        cases hu : usB h (t : Int)
        · exact .inr (he t (hl t (by simp)).1 (hl t (by simp)).2 hu)
        · exact .inl rfl
      rw [over, e, thn_ok _ rfl]
      exact ih fun u hu => hl u (by simp [hu])
  exact key tps fun t ht => mem_tps.1 ht
/-- On a calm disk other tapes are wiped. -/
structure Wiped (d0 : Dk) (h : He) (d : Dk) : Prop where
  u : Upd d0 d
  keep : ∀ j : Nat, (j < 2 ∨ usB h (j : Int) = true) → d.T j = d0.T j
  emp : Emp d.T h
  fm : (∀ j < 32, fm (d0.T j)) → ∀ j < 32, fm (d.T j)
theorem over_wo_calm {d : Dk} {h : He} (hdn : d.dn = false) (hok : d.ok) (hdm : d.dm = false) : (over (wo h) tps d).2 = 0 ∧ Wiped d h (over (wo h) tps d).1 := by
  have := over_ind (g := wo h) (fun l d' => (∀ t : Nat, t ∈ l → 2 ≤ t ∧ t < 32) ∧ Upd d d' ∧ (∀ j : Nat, (j < 2 ∨ usB h (j : Int) = true) → d'.T j = d.T j) ∧ (∀ t : Nat, 2 ≤ t → t < 32 → t ∉ l → usB h (t : Int) = false → (d'.T t).s.size = 0) ∧ ((∀ j < 32, fm (d.T j)) → ∀ j < 32, fm (d'.T j))) (fun _ => False) ?_ tps d ⟨fun t ht => mem_tps.1 ht, ⟨hdn, hok, rfl, fun e => e⟩, fun j _ => rfl, fun t h2 h3 h4 _ => absurd (mem_tps.2 ⟨h2, h3⟩) h4, fun e => e⟩
  · rcases this with ⟨e, _, h1, h2, h3, h4⟩ | ⟨_, h1⟩
    · exact ⟨e, h1, h2, fun t a b c => h3 t a b (by simp) c, h4⟩
    · exact h1.elim
  · rintro t r d' ⟨h1, h2, h3, h4, h5⟩
    have ht := h1 t (by simp)
    unfold wo
    by_cases hc : usB h (t : Int) = true ∨ (d'.T t).s.size = 0
    · rw [if_pos hc]
      refine .inl ⟨rfl, fun u hu => h1 u (by simp [hu]), h2, h3, fun u a b c e => ?_, h5⟩
      by_cases hu : u = t
      · subst hu
        rcases hc with hc | hc
        · rw [hc] at e; cases e
        · exact hc
      · exact h4 u a b (by simp [hu, c]) e
    · rw [if_neg hc]
      have hus : usB h (t : Int) = false := by cases hx : usB h (t : Int); rfl; exact absurd (.inl hx) hc
      rcases wi_step h2.dn h2.ok ht.2 with k | k
      · refine .inl ⟨k.e, fun u hu => h1 u (by simp [hu]), k.upd h2, fun j hj => ?_, fun u a b c e => ?_, fun e j hj => ?_⟩
        · rw [k.T, upd_other _ _ (fun e => by subst e; rcases hj with hj | hj; omega; rw [hus] at hj; cases hj)]
          exact h3 j hj
        · rw [k.T]
          by_cases hu : u = t
          · subst hu; rw [upd_same]; rfl
          · rw [upd_other _ _ hu]; exact h4 u a b (by simp [hu, c]) e
        · rw [k.T]
          by_cases hu : j = t
          · subst hu; rw [upd_same]; rfl
          · rw [upd_other _ _ hu]; exact h5 e j hj
      · have := h2.dm hdm
        rw [k.dm] at this; cases this
end Go.Proofs.YtieemdcoomilaaaGreatDoor.Vt
namespace Go.Proofs.YtieemdcoomilaaaGreatDoor
open Go Go.RowKit
set_option maxRecDepth 100000
/-- A closure that does that, in new memory. -/
def MkS (w : World) (V B mo : Nat) (f : VS → VS × Nat) (e : Ending) (w' : World) : Prop := ∃ (c : Clo) (bs : List Nat), e = .returned c.v ∧ Stp w' V B mo bs c f ∧ (∀ b ∈ bs, w.heap.size ≤ b) ∧ Below w.heap.size w w'
/-- Likewise; it leans on what was there too. -/
def MkP (w : World) (V B mo : Nat) (f : VS → VS × Nat) (e : Ending) (w' : World) : Prop := ∃ (c : Clo) (bs : List Nat), e = .returned c.v ∧ Stp w' V B mo bs c f ∧ Below w.heap.size w w'
theorem blk_cell {w W : World} {b : Nat} {u : Value} (h : W.heap[b]? = w.heap[b]?) (c : w.cell? ⟨b, 0, none⟩ = some u) : W.cell? ⟨b, 0, none⟩ = some u := (World.cell?_of_block (a := ⟨b, 0, none⟩) h).trans c
theorem cell_two {w : World} {x y : Value} {s t : TypeId} : ((w.alloc (.cells #[x] s)).alloc (.cells #[y] t)).cell? ⟨w.heap.size, 0, none⟩ = some x ∧ ((w.alloc (.cells #[x] s)).alloc (.cells #[y] t)).cell? ⟨w.heap.size + 1, 0, none⟩ = some y := by
  refine ⟨one_cell (t := s) ((Below.heap_alloc _ _ _ (by simp)).trans (heap_alloc_new _ _)), one_cell (t := t) ?_⟩
  have := heap_alloc_new (w.alloc (.cells #[x] s)) (.cells #[y] t)
  rwa [World.size_alloc] at this
theorem array_nil_app (c : Array Value) : (#[] : Array Value) ++ c = c := by simp
theorem toSync_any (V B mo : Nat) (t : Int) (w : World) (hB : B < w.heap.size) (hV : V < w.heap.size) : Calls Tryz.prog 56 #[.pointer (some ⟨V, 0, none⟩), .int .i64 t] w (MkS w V B mo (sySt t)) := by
  have hmf : ∀ (fn : Fn) (first cap : Array Value) (w : World), (Instr.makeFunc fn first cap).run Tryz.prog w = .ok (.func fn first cap) w := fun _ _ _ _ => rfl
  go_enter Tryz.func56, Tryz.ntmps56
  go_wp2
  go_ret
  obtain ⟨c1, c2⟩ := cell_two (w := w) (x := .pointer (some ⟨V, 0, none⟩)) (y := .int .i64 t) (s := 23) (t := 3)
  refine ⟨⟨96, #[], #[.pointer (some ⟨w.heap.size, 0, none⟩), .pointer (some ⟨w.heap.size + 1, 0, none⟩)]⟩, [w.heap.size, w.heap.size + 1], rfl, ⟨fun args W => by kernel_rfl, fun b hb => ?_, fun W x hW hx => ?_⟩, fun b hb => ?_, below_two _ _ _⟩
  · rw [World.size_alloc, World.size_alloc]; simp only [List.mem_cons, List.not_mem_nil, or_false] at hb; omega
  rotate_left
  · simp only [List.mem_cons, List.not_mem_nil, or_false] at hb; omega
  dsimp only
  rw [array_nil_app]
  exact sync1_any _ _ V B mo x t W (blk_cell (hW _ (by simp)) c1) (blk_cell (hW _ (by simp)) c2) hx
theorem toWipe_any (V B mo : Nat) (t : Int) (w : World) (hB : B < w.heap.size) (hV : V < w.heap.size) : Calls Tryz.prog 62 #[.pointer (some ⟨V, 0, none⟩), .int .i64 t] w (MkS w V B mo (wiSt t)) := by
  have hmf : ∀ (fn : Fn) (first cap : Array Value) (w : World), (Instr.makeFunc fn first cap).run Tryz.prog w = .ok (.func fn first cap) w := fun _ _ _ _ => rfl
  go_enter Tryz.func62, Tryz.ntmps62
  go_wp2
  go_ret
  obtain ⟨c1, c2⟩ := cell_two (w := w) (x := .pointer (some ⟨V, 0, none⟩)) (y := .int .i64 t) (s := 23) (t := 3)
  refine ⟨⟨98, #[], #[.pointer (some ⟨w.heap.size, 0, none⟩), .pointer (some ⟨w.heap.size + 1, 0, none⟩)]⟩, [w.heap.size, w.heap.size + 1], rfl, ⟨fun args W => by kernel_rfl, fun b hb => ?_, fun W x hW hx => ?_⟩, fun b hb => ?_, below_two _ _ _⟩
  · rw [World.size_alloc, World.size_alloc]; simp only [List.mem_cons, List.not_mem_nil, or_false] at hb; omega
  rotate_left
  · simp only [List.mem_cons, List.not_mem_nil, or_false] at hb; omega
  dsimp only
  rw [array_nil_app]
  exact wipe1_any _ _ V B mo x t W (blk_cell (hW _ (by simp)) c1) (blk_cell (hW _ (by simp)) c2) hx
theorem below_three (w : World) (a b c : Obj) : Below w.heap.size w (((w.alloc a).alloc b).alloc c) := (below_two w a b).alloc (by simp; omega) c
theorem toWrite_any (V B mo : Nat) (t : Int) (s : ByteArray) (hs : s.size ≤ 9223372036854775807) (w : World) (hB : B < w.heap.size) (hV : V < w.heap.size) : Calls Tryz.prog 63 #[.pointer (some ⟨V, 0, none⟩), .int .i64 t, .string s] w (MkS w V B mo (wrSt t s)) := by
  have hmf : ∀ (fn : Fn) (first cap : Array Value) (w : World), (Instr.makeFunc fn first cap).run Tryz.prog w = .ok (.func fn first cap) w := fun _ _ _ _ => rfl
  go_enter Tryz.func63, Tryz.ntmps63
  go_wp2
  go_ret
  obtain ⟨c1, c2⟩ := cell_two (w := w) (x := .pointer (some ⟨V, 0, none⟩)) (y := .int .i64 t) (s := 23) (t := 3)
  have c3 : ((((w.alloc (.cells #[.pointer (some ⟨V, 0, none⟩)] 23)).alloc (.cells #[.int .i64 t] 3)).alloc (.cells #[.string s] 9))).cell? ⟨w.heap.size + 2, 0, none⟩ = some (.string s) := by
    refine one_cell (t := 9) ?_
    have := heap_alloc_new ((w.alloc (.cells #[.pointer (some ⟨V, 0, none⟩)] 23)).alloc (.cells #[.int .i64 t] 3)) (.cells #[.string s] 9)
    rwa [World.size_alloc, World.size_alloc] at this
  have c1 := (World.cell?_of_block (a := ⟨w.heap.size, 0, none⟩) (Below.heap_alloc _ (.cells #[.string s] 9) w.heap.size (by rw [World.size_alloc, World.size_alloc]; omega))).trans c1
  have c2 := (World.cell?_of_block (a := ⟨w.heap.size + 1, 0, none⟩) (Below.heap_alloc _ (.cells #[.string s] 9) (w.heap.size + 1) (by rw [World.size_alloc, World.size_alloc]; omega))).trans c2
  refine ⟨⟨100, #[], #[.pointer (some ⟨w.heap.size, 0, none⟩), .pointer (some ⟨w.heap.size + 1, 0, none⟩), .pointer (some ⟨w.heap.size + 2, 0, none⟩)]⟩, [w.heap.size, w.heap.size + 1, w.heap.size + 2], rfl, ⟨fun args W => by kernel_rfl, fun b hb => ?_, fun W x hW hx => ?_⟩, fun b hb => ?_, below_three _ _ _ _⟩
  · rw [World.size_alloc, World.size_alloc, World.size_alloc]; simp only [List.mem_cons, List.not_mem_nil, or_false] at hb; omega
  rotate_left
  · simp only [List.mem_cons, List.not_mem_nil, or_false] at hb; omega
  dsimp only
  rw [array_nil_app]
  exact write1_any _ _ _ V B mo x t s hs W (blk_cell (hW _ (by simp)) c1) (blk_cell (hW _ (by simp)) c2) (blk_cell (hW _ (by simp)) c3) hx
theorem toPut_any (V B mo : Nat) (h : He) (n : Nat) (u : Value) (w : World) (hB : B < w.heap.size) (hV : V < w.heap.size) (hk : KAt w u h.log) (hne : h.log ≠ []) (hl : h.log.length ≤ 9223372036854775807) (hu : ∀ q, u.ownBlock = some q → q ≠ B ∧ q ≠ V) : Calls Tryz.prog 64 #[.pointer (some ⟨V, 0, none⟩), hval h u, .int .i64 (n : Int)] w (MkP w V B mo (puSt h n)) := by
  have hmf : ∀ (fn : Fn) (first cap : Array Value) (w : World), (Instr.makeFunc fn first cap).run Tryz.prog w = .ok (.func fn first cap) w := fun _ _ _ _ => rfl
  obtain ⟨g, o, c, hg, -⟩ := hk.pos hne
  have hug : u.ownBlock = some g := by rw [hg]; rfl
  have hlt := hk.lt hne g hug
  have hu2 := hu g hug
  clear hg
  unfold hval
  go_enter Tryz.func64, Tryz.ntmps64
  go_wp2
  go_ret
  refine ⟨⟨101, #[], #[.pointer (some ⟨w.heap.size, 0, none⟩), .pointer (some ⟨w.heap.size + 1, 0, none⟩), .pointer (some ⟨w.heap.size + 2, 0, none⟩)]⟩, [w.heap.size, w.heap.size + 1, w.heap.size + 2, g], rfl, ⟨fun args W => by kernel_rfl, fun b hb => ?_, fun W x hW hx => ?_⟩, below_three _ _ _ _⟩
  · rw [World.size_alloc, World.size_alloc, World.size_alloc]; simp only [List.mem_cons, List.not_mem_nil, or_false] at hb; omega
  dsimp only
  rw [array_nil_app]
  have x1 := heap_alloc_new w (.cells #[.pointer (some ⟨V, 0, none⟩)] 23)
  have x2 := heap_alloc_new (w.alloc (.cells #[.pointer (some ⟨V, 0, none⟩)] 23)) (.cells #[.int .i64 h.gen, .int .i64 h.base, .int .i64 h.snap, u] 40)
  have x3 := heap_alloc_new ((w.alloc (.cells #[.pointer (some ⟨V, 0, none⟩)] 23)).alloc (.cells #[.int .i64 h.gen, .int .i64 h.base, .int .i64 h.snap, u] 40)) (.cells #[.int .i64 (n : Int)] 3)
  rw [World.size_alloc] at x2
  rw [World.size_alloc, World.size_alloc] at x3
  refine put1_step _ _ _ V B mo x h n u W (blk_cell (hW _ (by simp)) (one_cell (t := 23) ((Below.heap_alloc _ _ _ (by rw [World.size_alloc, World.size_alloc]; omega)).trans ((Below.heap_alloc _ _ _ (by rw [World.size_alloc]; omega)).trans x1)))) ((hW (w.heap.size + 1) (by simp)).trans ((Below.heap_alloc _ _ _ (by rw [World.size_alloc, World.size_alloc]; omega)).trans x2)) (blk_cell (hW _ (by simp)) (one_cell (t := 3) x3))
    ((hk.below (below_three _ _ _ _) (Nat.le_refl _)).same fun q _ e => hW q (by rw [hug] at e; cases e; simp)) hl hu ⟨by omega, by omega⟩ ⟨by omega, by omega⟩ ⟨by omega, by omega⟩ hx
theorem opened_any (V B mo : Nat) (h : He) (n : Nat) (v : Value) (w : World) (a : VAt w V B mo h n v) : Calls Tryz.prog 53 #[.pointer (some ⟨V, 0, none⟩)] w fun e w' => e = .returned (.bool true) ∧ w = w' := by
  have c := a.on
  clear a
  go_enter Tryz.func53, Tryz.ntmps53
  go_wp2
  go_ret
  exact ⟨rfl, rfl⟩
theorem opened_nil (w : World) : Calls Tryz.prog 53 #[.pointer none] w fun e w' => e = .returned (.bool false) ∧ w = w' := by
  go_enter Tryz.func53, Tryz.ntmps53
  go_wp2
  go_ret
  exact ⟨rfl, rfl⟩
theorem capacity_any (B : Nat) (d : Dk) (w : World) (h : DAt w B d) : Calls Tryz.prog 35 #[.pointer (some ⟨B, 0, none⟩)] w fun e w' => e = .returned (.int .i64 (d.cap : Int)) ∧ w = w' := by
  have c := h.cap
  clear h
  go_enter Tryz.func35, Tryz.ntmps35
  go_wp2
  go_ret
  exact ⟨rfl, rfl⟩
theorem vsize_any (V B mo : Nat) (h : He) (n : Nat) (v : Value) (d : Dk) (t : Int) (w : World) (a : VAt w V B mo h n v) (hd : DAt w B d) : Calls Tryz.prog 84 #[.pointer (some ⟨V, 0, none⟩), .int .i64 t] w fun e w' => e = .returned (.int .i64 ((readD d t).1.size : Int)) ∧ w = w' := by
  have c := a.on
  have H := Lib.hid (dread_any B d t w hd)
  clear a hd
  generalize readD d t = X at *
  go_enter Tryz.func84, Tryz.ntmps84
  go_wp2_with fail
  refine H.out.mono ?_
  rintro e w' ⟨rfl, rfl⟩
  go_wp2
  go_ret
  exact ⟨rfl, rfl⟩
theorem lz_get {l : List Int} (h : l ≠ []) : l[l.length - 1]? = some (Vt.lz l) := by
  induction l with
  | nil => exact absurd rfl h
  | cons t r ih =>
    by_cases hr : r = []
    · subst hr; rfl
    · rw [Vt.lz_cons t hr, ← ih hr]
      have : 0 < r.length := List.length_pos_iff.2 hr
      rw [show (t :: r).length - 1 = (r.length - 1) + 1 by simp; omega, List.getElem?_cons_succ]
set_option maxHeartbeats 400000 in
theorem last_any (V B mo : Nat) (h : He) (n : Nat) (v : Value) (w : World) (a : VAt w V B mo h n v) (hne : h.log ≠ []) : Calls Tryz.prog 57 #[.pointer (some ⟨V, 0, none⟩)] w (Ret w (.int .i64 (Vt.lz h.log))) := by
  obtain ⟨g, o, c, hv, -⟩ := a.k.pos hne
  have hp : 0 < h.log.length := List.length_pos_iff.2 hne
  have hl := a.len
  have c5 := a.l
  have hk := a.k
  rw [hv] at c5 hk
  have hz := hk.at (h.log.length - 1) (by omega)
  rw [show h.log[h.log.length - 1] = Vt.lz h.log from Option.some.inj (by rw [← List.getElem?_eq_getElem]; exact lz_get hne)] at hz
  generalize Vt.lz h.log = Z at *
  obtain ⟨L, hL⟩ : ∃ L, h.log.length = L + 1 := ⟨h.log.length - 1, by omega⟩
  rw [hL] at c5 hz hl hp
  simp only [Nat.add_sub_cancel] at hz
  clear a hv hk hne hL
  have g1 : decide (L < L + 1) = true := decide_eq_true (by omega)
  go_enter Tryz.func57, Tryz.ntmps57
  go_wp2_with fail
  go_quiet (fail)
  go_wp2
  go_ret
  exact ⟨rfl, below_drewN (Below.refl _ _) _⟩
end Go.Proofs.YtieemdcoomilaaaGreatDoor
namespace Go.Proofs.YtieemdcoomilaaaGreatDoor
open Go Go.RowKit Go.Sort
set_option maxRecDepth 100000
abbrev SF := VS → VS × Nat
def runS : List SF → VS → VS × Nat
  | [], x => (x, 0)
  | f :: r, x => if (f x).2 ≠ 0 then f x else runS r (f x).1
abbrev Cq := Clo × List Nat × SF
/-- Steps in a row of the call's own. -/
def Sts (w : World) (V B mo base : Nat) (v : Value) (fs : List SF) : Prop :=
  ∃ L : List Cq, fs = L.map (fun q => q.2.2) ∧ Own w base v (L.map fun q => q.1.v) ∧ ∀ q ∈ L, Stp w V B mo q.2.1 q.1 q.2.2 ∧ ∀ b ∈ q.2.1, v.ownBlock ≠ some b
theorem Sts.nil (w : World) (V B mo base : Nat) : Sts w V B mo base (.slice none 0 0) [] := ⟨[], rfl, Own.nil _ _, fun q h => by cases h⟩
theorem Sts.below {w w' : World} {V B mo base : Nat} {v : Value} {fs : List SF} (h : Sts w V B mo base v fs) (hb : Below w.heap.size w w') : Sts w' V B mo base v fs := by
  obtain ⟨L, h1, h2, h3⟩ := h
  exact ⟨L, h1, h2.belowAll hb, fun q hq => ⟨(h3 q hq).1.below hb, (h3 q hq).2⟩⟩
theorem Sts.snoc {w w' : World} {V B mo base : Nat} {v v' : Value} {L : List Cq} {c : Clo} {bs : List Nat} {f : SF} (h3 : ∀ q ∈ L, Stp w V B mo q.2.1 q.1 q.2.2 ∧ ∀ b ∈ q.2.1, v.ownBlock ≠ some b)
    (hc : Stp w V B mo bs c f) (hb : ∀ b ∈ bs, v.ownBlock ≠ some b) (ho : Own w' base v' ((L.map fun q => q.1.v) ++ [c.v])) (hg : w.grownBy w' v.ownBlock) (hw : v'.ownBlock = v.ownBlock ∨ ∀ k, v'.ownBlock = some k → w.heap.size ≤ k) :
    Sts w' V B mo base v' (L.map (fun q => q.2.2) ++ [f]) := by
  refine ⟨L ++ [(c, bs, f)], by simp, by simpa using ho, fun q hq => ?_⟩
  have key : ∀ (bs : List Nat) (c : Clo) (f : SF), Stp w V B mo bs c f → (∀ b ∈ bs, v.ownBlock ≠ some b) → Stp w' V B mo bs c f ∧ ∀ b ∈ bs, v'.ownBlock ≠ some b := fun bs c f hs hn =>
    ⟨hs.keep hg.size fun b hb => hg.block b (hs.lt b hb).1 (fun e => hn b hb e.symm), fun b hb e => by
      rcases hw with h1 | h1
      · rw [h1] at e; exact hn b hb e
      · have := h1 b e; have := (hs.lt b hb).1; omega⟩
  rcases List.mem_append.1 hq with hq | hq
  · exact key _ _ _ (h3 q hq).1 (h3 q hq).2
  · rw [List.mem_singleton] at hq
    subst hq
    exact key _ _ _ hc hb
theorem VSt.ret {w w' : World} {V B mo : Nat} {r : VS × Nat} (h : VSt w' V B mo r.1) (hg : Gv w w' B V) : StD w V B mo r (.returned (.int .i64 (r.2 : Int))) w' := ⟨rfl, h, hg⟩
theorem turn_sts {w : World} {V B mo base : Nat} {x : VS} {v : Value} {fs : List SF} (hx : VSt w V B mo x) (hs : Sts w V B mo base v fs) (hB : B < base) (hV : V < base) : Calls Tryz.prog 41 #[v] w (StD w V B mo (runS fs x)) := by
  obtain ⟨L, rfl, ho, h3⟩ := hs
  have hbig : L.length ≤ 9223372036854775807 := by
    rcases ho with ⟨_, e⟩ | ⟨g, cap, _, _, _, h1, h2, _⟩
    · have := congrArg List.length e; simp at this; simp [this]
    · rw [List.length_map] at h1; unfold maxLen at h2; omega
  obtain ⟨a, c, hv⟩ := ho.shape
  rw [List.length_map] at hv
  subst hv
  let dq : Cq := (⟨0, #[], #[]⟩, [], fun x => (x, 0))
  have hat : ∀ k (hk : k < L.length), L[k]?.getD dq = L[k] := fun k hk => by rw [List.getElem?_eq_getElem hk]; rfl
  refine (vturn_any L.length (fun k => (L[k]?.getD dq).1) a c w (fun k W => Gv w W B V ∧ ∃ x', runS (L.map fun q => q.2.2) x = runS ((L.drop k).map fun q => q.2.2) x' ∧ VSt W V B mo x') (fun r W => r = ((runS (L.map fun q => q.2.2) x).2 : Int) ∧ VSt W V B mo (runS (L.map fun q => q.2.2) x).1 ∧ Gv w W B V) hbig ⟨Gv.refl _ _ _, x, rfl, hx⟩ ?_ ?_ ?_).mono ?_
  · intro hp
    rcases ho with ⟨e, e2⟩ | ⟨g, cap, e, hb, hlt, h1, h2, h4, h5⟩
    · have := congrArg List.length e2; simp at this; subst this; simp at hp
    · injection e with e1
      refine ⟨g, 0, e1, fun k hk W hW => ?_⟩
      rw [hat k hk, Nat.zero_add]
      refine hW.1.cell ?_ (by omega) (by omega)
      have := h5 k (by rw [List.length_map]; exact hk)
      rw [this, List.getElem?_map, List.getElem?_eq_getElem hk]
      rfl
  · intro k hk args W
    rw [hat k hk]
    exact (h3 _ (List.getElem_mem hk)).1.en args W
  · intro k hk W hW
    obtain ⟨hg, x', e, hx'⟩ := hW
    rw [hat k hk]
    have hst := (h3 _ (List.getElem_mem hk)).1
    rw [List.drop_eq_getElem_cons hk, List.map_cons] at e
    refine (hst.run W x' (fun b hb => hg.block b (hst.lt b hb).1 (hst.lt b hb).2.1 (hst.lt b hb).2.2) hx').mono ?_
    rintro en W2 ⟨rfl, hx2, hg2⟩
    refine ⟨_, rfl, fun h0 => ⟨hg.trans hg2, (L[k].2.2 x').1, ?_, hx2⟩, fun h0 => ?_⟩
    · rw [e]; show (if (L[k].2.2 x').2 ≠ 0 then _ else _) = _
      rw [if_neg (by omega)]
    · have e2 : runS (L.map fun q => q.2.2) x = L[k].2.2 x' := by
        rw [e]; show (if (L[k].2.2 x').2 ≠ 0 then _ else _) = _
        rw [if_pos (by omega)]
      rw [e2]
      exact ⟨rfl, hx2, hg.trans hg2⟩
  · rintro en W ⟨r, rfl, h1, h2⟩
    by_cases hr : r = 0
    · obtain ⟨hg, x', e, hx'⟩ := h1 hr
      rw [List.drop_length, List.map_nil] at e
      have e2 : runS (L.map fun q => q.2.2) x = (x', 0) := e
      rw [e2, hr]
      exact ⟨rfl, hx', hg⟩
    · obtain ⟨e, hx', hg⟩ := h2 hr
      exact ⟨by rw [e], hx', hg⟩
theorem Own.kat' {w : World} {base : Nat} {v : Value} {l : List Int} (h : Own w base v (l.map iv)) : KAt w v l := by
  rcases h with ⟨rfl, e⟩ | ⟨g, cap, rfl, _, _, hc, _, _, hcs⟩
  · exact .inl ⟨by simpa using e, none, 0, rfl⟩
  · refine .inr ⟨g, 0, cap, by rw [List.length_map], by rw [List.length_map] at hc; exact hc, fun j hj => ?_⟩
    have := hcs j (by rw [List.length_map]; exact hj)
    rw [List.getElem?_map, List.getElem?_eq_getElem hj] at this
    rw [Nat.zero_add]; exact this
end Go.Proofs.YtieemdcoomilaaaGreatDoor
