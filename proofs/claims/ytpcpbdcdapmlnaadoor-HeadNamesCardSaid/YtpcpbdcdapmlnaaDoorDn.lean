/- What is kept of a disk that may be; how things are counted; what a failure leaves. Plain mathematics. -/
import Derived.Test.YtpcpbdcdapmlnaaDoorDj
namespace Go.Proofs.YtpcpbdcdapmlnaaDoor
open Go Go.RowKit
theorem Dk.ok.upd {d : Dk} (h : d.ok) {i : Nat} (hi : i < 32) {x : Tp} (hx : x.ok) (hu : x.s.size + d.used ≤ d.cap + (d.T i).s.size) : ({ d with T := YtpcpbdcdapmlnaaDoor.upd d.T i x } : Dk).ok := by
  refine ⟨fun j hj => ?_, ?_, h.cap, h.left⟩
  · show (YtpcpbdcdapmlnaaDoor.upd d.T i x j).ok
    by_cases e : j = i
    · subst e; rw [upd_same]; exact hx
    · rw [upd_other _ _ e]; exact h.t j hj
  · have := sumT_upd d.T i x 32 hi
    show sumT (YtpcpbdcdapmlnaaDoor.upd d.T i x) 32 ≤ d.cap
    have h2 : d.used = sumT d.T 32 := rfl
    omega
/-- A deed that leaves what may be. -/
def Fine (d : Dk) (g : Tp → Tp × Nat) : Prop := ∀ i < 32, (g (d.T i)).2 = 0 → (g (d.T i)).1.ok ∧ (g (d.T i)).1.s.size + d.used ≤ d.cap + (d.T i).s.size
theorem res_fine {d : Dk} {g : Tp → Tp × Nat} (hg : Fine d g) {t : Int} (h : (res d t g).2 = 0) : t.toNat < 32 ∧ (res d t g).1.ok ∧ (res d t g).1.s.size + d.used ≤ d.cap + (d.T t.toNat).s.size := by
  unfold res at *
  split at h
  · rename_i ht
    rw [if_pos ht]
    exact ⟨by omega, hg _ (by omega) h⟩
  · cases h
theorem doD_ok {d : Dk} (h : d.ok) (t : Int) (torn : Bool) {g : Tp → Tp × Nat} (hg : Fine d g) : (doD d t torn g).1.ok := by
  unfold doD
  split
  · exact h
  · split
    · split
      · rename_i hr
        obtain ⟨h1, h2, h3⟩ := res_fine hg hr.2
        have := h.upd h1 h2 h3
        exact ⟨this.t, this.used, this.cap, this.left⟩
      · exact ⟨h.t, h.used, h.cap, h.left⟩
    · split
      · exact h
      · rename_i hr
        obtain ⟨h1, h2, h3⟩ := res_fine (t := t) hg (by omega)
        have := h.upd h1 h2 h3
        refine ⟨this.t, this.used, this.cap, ?_⟩
        show (if d.dm = true then d.left - 1 else d.left) ≤ _
        have := h.left
        split <;> omega
theorem fine_sy {d : Dk} (h : d.ok) : Fine d sy := fun i hi _ => ⟨⟨Nat.le_refl _, (h.t i hi).2⟩, by have := h.used; show (d.T i).s.size + _ ≤ _; omega⟩
theorem fine_wi {d : Dk} (h : d.ok) : Fine d wi := fun i _ _ => ⟨⟨Nat.le_refl _, Nat.zero_le _⟩, by have := h.used; show 0 + _ ≤ _; omega⟩
theorem fine_tr {d : Dk} (h : d.ok) (n : Int) : Fine d (tr n) := fun i hi he => by
  have h1 := (h.t i hi).2
  have hu := h.used
  unfold tr at *
  split at he
  · rename_i hn
    rw [if_pos hn]
    have hz : ((d.T i).s.extract 0 n.toNat).size = n.toNat := by simp; omega
    exact ⟨⟨by dsimp only; omega, by dsimp only; omega⟩, by dsimp only; omega⟩
  · cases he
theorem fine_wf {d : Dk} (h : d.ok) (x : ByteArray) : Fine d (wf d x) := fun i hi he => by
  have h1 := h.t i hi
  unfold Tp.ok at h1
  unfold wf at *
  split at he
  · cases he
  · rename_i hc
    rw [if_neg hc]
    unfold wr at *
    split at he
    · cases he
    · rename_i hx
      rw [if_neg hx] at hc ⊢
      have hz : ((d.T i).s ++ x).size = (d.T i).s.size + x.size := ByteArray.size_append
      dsimp only at hc ⊢
      refine ⟨⟨by dsimp only; omega, by dsimp only; omega⟩, ?_⟩
      have : ¬ d.cap < x.size + d.used := fun h => hc ⟨rfl, h⟩
      omega
theorem bk_ok {t : Tp} (h : t.ok) (n : Int) : (bk n t).ok ∧ (bk n t).s.size ≤ t.s.size ∧ (bk n t).f = (bk n t).s.size ∧ t.f ≤ (bk n t).f ∧ ∃ k, k ≤ t.s.size ∧ (bk n t).s = t.s.extract 0 k := by
  obtain ⟨h1, h2⟩ := h
  have hm := Nat.mod_lt (IntKind.u64.wrap n).toNat (show 0 < t.s.size - t.f + 1 by omega)
  have hz : (t.s.extract 0 (t.f + (IntKind.u64.wrap n).toNat % (t.s.size - t.f + 1))).size = t.f + (IntKind.u64.wrap n).toNat % (t.s.size - t.f + 1) := by simp; omega
  unfold bk
  dsimp only
  exact ⟨⟨by dsimp only; omega, by dsimp only; omega⟩, by omega, hz.symm, by omega, _, by omega, rfl⟩
theorem bkT_at (T : Nat → Tp) (ks : List Int) : ∀ k i, (i < k → ((T i).s.size - (T i).f = 0 ∧ (bkT T ks k).1 i = T i) ∨ ((T i).s.size - (T i).f ≠ 0 ∧ ∃ n, (bkT T ks k).1 i = bk n (T i))) ∧ (k ≤ i → (bkT T ks k).1 i = T i)
  | 0, i => ⟨fun h => by omega, fun _ => rfl⟩
  | k + 1, i => by
    obtain ⟨h1, h2⟩ := bkT_at T ks k i
    by_cases hz : (T k).s.size - (T k).f = 0
    · have e : bkT T ks (k + 1) = bkT T ks k := if_pos hz
      rw [e]
      refine ⟨fun h => ?_, fun h => h2 (by omega)⟩
      by_cases hik : i = k
      · subst hik; exact .inl ⟨hz, h2 (Nat.le_refl _)⟩
      · exact h1 (by omega)
    · have e : (bkT T ks (k + 1)).1 = upd (bkT T ks k).1 k (bk ((bkT T ks k).2.headD 0) (T k)) := by
        show (if (T k).s.size - (T k).f = 0 then _ else _ : (Nat → Tp) × List Int).1 = _
        rw [if_neg hz]
      rw [e]
      refine ⟨fun h => ?_, fun h => ?_⟩
      · by_cases hik : i = k
        · subst hik; rw [upd_same]; exact .inr ⟨hz, _, rfl⟩
        · rw [upd_other _ _ hik]; exact h1 (by omega)
      · rw [upd_other _ _ (by omega)]; exact h2 (by omega)
theorem sumT_mono {T U : Nat → Tp} : ∀ n, (∀ j < n, (T j).s.size ≤ (U j).s.size) → sumT T n ≤ sumT U n
  | 0, _ => Nat.le_refl _
  | n + 1, h => by
    have a := sumT_mono n (fun j hj => h j (by omega))
    have b := h n (by omega)
    show sumT T n + _ ≤ sumT U n + _
    omega
/-- What a Back leaves of tape i. -/
theorem back_at {d : Dk} (h : d.ok) (ks : List Int) (i : Nat) (hi : i < 32) : ((backD d ks).T i).ok ∧ ((backD d ks).T i).s.size ≤ (d.T i).s.size ∧ ((backD d ks).T i).f = ((backD d ks).T i).s.size ∧ (d.T i).f ≤ ((backD d ks).T i).f ∧ ∃ k, k ≤ (d.T i).s.size ∧ ((backD d ks).T i).s = (d.T i).s.extract 0 k := by
  have hok := h.t i hi
  show ((bkT d.T ks 32).1 i).ok ∧ _
  rcases (bkT_at d.T ks 32 i).1 hi with ⟨h0, e⟩ | ⟨h0, n, e⟩
  · have : (backD d ks).T i = d.T i := e
    rw [e, this]
    refine ⟨hok, Nat.le_refl _, ?_, Nat.le_refl _, (d.T i).s.size, Nat.le_refl _, ?_⟩
    · have := hok.1; omega
    · exact (ByteArray.extract_zero_size).symm
  · have : (backD d ks).T i = bk n (d.T i) := e
    rw [e, this]
    exact bk_ok hok n
theorem backD_ok {d : Dk} (h : d.ok) (ks : List Int) : (backD d ks).ok :=
  ⟨fun i hi => (back_at h ks i hi).1, Nat.le_trans (sumT_mono 32 (fun i hi => (back_at h ks i hi).2.1)) h.used, h.cap, Nat.zero_le _⟩
theorem failD_ok {d : Dk} (h : d.ok) (n : Int) (hn : n ≤ 9223372036854775807) : (failD d n).1.ok := by
  unfold failD
  split
  · exact h
  · split
    · exact h
    · exact ⟨h.t, h.used, h.cap, by show n.toNat ≤ _; omega⟩
theorem wf_le {n : Int} (h : (Lit.int .i64 n).wf = true) : n ≤ 9223372036854775807 := by
  have := (Go.bounds_i64 h).2
  omega
theorem made0_ok {cap : Nat} {l : List Tq} (hc : cap ≤ 9223372036854775807) (h : loadE cap l = 0) : (made0 cap l).ok := by
  unfold loadE at h
  split at h
  · cases h
  · split at h
    · cases h
    · rename_i hb
      split at h
      · cases h
      · rename_i hu
        rw [Int.toNat_natCast] at hu
        refine ⟨fun i _ => ofT_size (fun q hq => ?_) i, by show (made0 cap l).used ≤ cap; omega, hc, Nat.zero_le _⟩
        have hq2 : ¬ tooLong q = true := fun e => hb (List.any_eq_true.2 ⟨q, hq, e⟩)
        unfold tooLong at hq2
        have : ¬ (1048576 < q.b.size + q.a.size) := fun e => hq2 (decide_eq_true e)
        omega
end Go.Proofs.YtpcpbdcdapmlnaaDoor
namespace Go.Proofs.YtpcpbdcdapmlnaaDoor
open Go Go.RowKit
set_option maxRecDepth 100000
set_option maxHeartbeats 400000 in
theorem load_no (cap : Int) (l : List Tq) (v : Value) (w : World) (hv : TAt w v l) (hl : l.length ≤ 9223372036854775807) (h : cap < 0 ∨ 32 < l.length) :
    Calls Tryd.prog 32 #[.int .i64 cap, v] w fun e w' => e = .returned (.tuple #[.pointer none, .int .i64 1]) ∧ w = w' := by
  obtain ⟨va, vc, hv2⟩ := At2.slice hv
  rw [List.length_map] at hv2
  clear hv
  generalize l.length = L at *
  subst hv2
  by_cases hc : cap < 0
  · clear h
    go_enter Tryd.func32, Tryd.ntmps32
    go_wp2
    go_ret2
    exact ⟨rfl, rfl⟩
  · have hL : 32 < L := by omega
    have hc2 : 0 ≤ cap := by omega
    clear h
    go_enter Tryd.func32, Tryd.ntmps32
    go_wp2
    go_ret2
    exact ⟨rfl, rfl⟩
/-- What Load tells: no disk, and an error; or a disk in a block of the call's own. -/
def Loaded (w : World) (cap : Int) (l : List Tq) (e : Ending) (w' : World) : Prop :=
  Below w.heap.size w w' ∧ ((loadE cap l ≠ 0 ∧ e = .returned (.tuple #[.pointer none, .int .i64 (loadE cap l : Int)])) ∨
    (loadE cap l = 0 ∧ ∃ c : Nat, cap = c ∧ (made0 c l).ok ∧ ∃ B, w.heap.size ≤ B ∧ e = .returned (.tuple #[.pointer (some ⟨B, 0, none⟩), .int .i64 0]) ∧ DAt w' B (made0 c l)))
theorem load_any (cap : Int) (l : List Tq) (v : Value) (w : World) (hv : TAt w v l) (hc : (Lit.int .i64 cap).wf = true) (hl : l.length ≤ 9223372036854775807) (hw : ∀ q ∈ l, q.a.size ≤ 9223372036854775807 ∧ q.b.size ≤ 9223372036854775807) : Calls Tryd.prog 32 #[.int .i64 cap, v] w (Loaded w cap l) := by
  by_cases h : cap < 0 ∨ 32 < l.length
  · have he : loadE cap l = 1 := if_pos h
    refine (load_no cap l v w hv hl h).mono ?_
    rintro e w' ⟨rfl, rfl⟩
    exact ⟨Below.refl _ _, .inl ⟨by rw [he]; decide, by rw [he]; rfl⟩⟩
  · obtain ⟨c, rfl⟩ := Int.eq_ofNat_of_zero_le (show 0 ≤ cap by omega)
    have hc2 : c ≤ 9223372036854775807 := by have := wf_le hc; omega
    refine (load_in c l v w hv (by omega) hc2 hw _ rfl).mono ?_
    rintro e w' ⟨hb, ⟨h0, rfl, hd⟩ | ⟨h0, rfl⟩⟩
    · exact ⟨hb, .inr ⟨h0, c, rfl, made0_ok hc2 h0, _, Nat.le_refl _, rfl, hd⟩⟩
    · exact ⟨hb, .inl ⟨h0, rfl⟩⟩
theorem KAt.lt {w : World} {v : Value} {l : List Int} (h : KAt w v l) (hl : l ≠ []) : ∀ g, v.ownBlock = some g → g < w.heap.size := fun g hg => by
  rcases h with ⟨h, _⟩ | ⟨g2, o, c, rfl, _, hc⟩
  · exact absurd h hl
  · cases hg
    cases l with
    | nil => exact absurd rfl hl
    | cons q r => exact World.block_lt_of_cell? w _ (hc 0 (by simp))
end Go.Proofs.YtpcpbdcdapmlnaaDoor
