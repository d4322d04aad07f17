/- How things are counted, step by step; what laws are handed. -/
import Derived.Test.YticponohbnkgdaaDp
namespace Go.Proofs.Yticponohbnkgdaa
open Go Go.RowKit
set_option maxRecDepth 100000
/-- Tapes that a call was handed. -/
structure Tps (w : World) (v : Value) (l : List Tq) : Prop where
  at' : TAt w v l
  len : l.length ≤ 9223372036854775807
  wide : ∀ q ∈ l, q.a.size ≤ 9223372036854775807 ∧ q.b.size ≤ 9223372036854775807
theorem Tps.below {w w' : World} {v : Value} {l : List Tq} (h : Tps w v l) {m : Nat} (hb : Below m w w') (hm : w.heap.size ≤ m) : Tps w' v l := ⟨At2.below h.at' hb hm, h.len, h.wide⟩
theorem Acs.long {w : World} {u v : Value} {acs : List Ac} {ts : List Tq} (ha : Acs w u acs) (ht : Tps w v ts) : Calls Try.prog 26 #[u, v] w fun e w' => ∃ b : Bool, e = .returned (.bool b) ∧ Below w.heap.size w w' :=
  long_any acs ts u v w ha.at' (fun a h => ⟨(ha.fit a h).at', (ha.fit a h).s, (ha.fit a h).len⟩) ht.at' ht.wide ha.len ht.len
theorem res_ne {d : Dk} {t : Int} {g : Tp → Tp × Nat} (hg : ∀ x, (g x).2 ≠ 45) : (res d t g).2 ≠ 45 := by
  unfold res
  split
  · exact hg _
  · show (1 : Nat) ≠ 45; decide
theorem ne_sy (x : Tp) : (sy x).2 ≠ 45 := by show (0 : Nat) ≠ 45; decide
theorem ne_wi (x : Tp) : (wi x).2 ≠ 45 := by show (0 : Nat) ≠ 45; decide
theorem ne_tr (n : Int) (x : Tp) : (tr n x).2 ≠ 45 := by unfold tr; split <;> simp
theorem ne_wf (d : Dk) (s : ByteArray) (x : Tp) : (wf d s x).2 ≠ 45 := by
  unfold wf
  split
  · show (44 : Nat) ≠ 45; decide
  · unfold wr; split <;> simp
/-- Of a thing that is counted. -/
structure Cnt (d : Dk) (e : Nat) (d' : Dk) (c : Nat) : Prop where
  down : d.dn = true → e = 45 ∧ d' = d
  up : d.dn = false → d.dm = true → (d'.dn = true ∧ e = 45 ∧ d.left = 0) ∨ (d'.dn = false ∧ d'.dm = true ∧ e ≠ 45 ∧ d'.left + c = d.left)
theorem doD_cnt (d : Dk) (t : Int) (torn : Bool) {g : Tp → Tp × Nat} (hg : ∀ x, (g x).2 ≠ 45) : Cnt d (doD d t torn g).2 (doD d t torn g).1 (if (doD d t torn g).2 = 0 then 1 else 0) := by
  refine ⟨fun h => ?_, fun h hm => ?_⟩
  · unfold doD; rw [if_pos h]; exact ⟨rfl, rfl⟩
  · have hr := res_ne (d := d) (t := t) hg
    unfold doD
    rw [if_neg (by rw [h]; decide)]
    by_cases hl : d.left = 0
    · rw [if_pos ⟨hm, hl⟩]
      left
      split
      · exact ⟨rfl, rfl, hl⟩
      · exact ⟨rfl, rfl, hl⟩
    · rw [if_neg (fun e => hl e.2)]
      right
      by_cases h0 : (res d t g).2 ≠ 0
      · rw [if_pos h0]
        exact ⟨h, hm, hr, by rw [if_neg h0]; rfl⟩
      · rw [if_neg h0]
        exact ⟨h, hm, by simp, by show (if d.dm = true then d.left - 1 else d.left) + (if (0 : Nat) = 0 then 1 else 0) = d.left; rw [if_pos hm, if_pos rfl]; omega⟩
theorem act_cnt (d : Dk) (a : Ac) (h : a.what ≤ 4) : Cnt d (actD d a).1.2 (actD d a).2 (if (actD d a).1.2 = 0 ∧ a.what ≠ 4 then 1 else 0) := by
  have key : ∀ (e : Nat) (d' : Dk), Cnt d e d' (if e = 0 then 1 else 0) → a.what ≠ 4 → Cnt d e d' (if e = 0 ∧ a.what ≠ 4 then 1 else 0) := fun e d' hc hw => by
    by_cases he : e = 0
    · rw [if_pos he] at hc; rw [if_pos ⟨he, hw⟩]; exact hc
    · rw [if_neg he] at hc; rw [if_neg (fun h => he h.1)]; exact hc
  unfold actD
  by_cases h0 : a.what = 0
  · rw [if_pos h0]; exact key _ _ (doD_cnt _ _ _ (ne_wf _ _)) (by omega)
  rw [if_neg h0]
  by_cases h1 : a.what = 1
  · rw [if_pos h1]; exact key _ _ (doD_cnt _ _ _ ne_sy) (by omega)
  rw [if_neg h1]
  by_cases h2 : a.what = 2
  · rw [if_pos h2]; exact key _ _ (doD_cnt _ _ _ (ne_tr _)) (by omega)
  rw [if_neg h2]
  by_cases h3 : a.what = 3
  · rw [if_pos h3]; exact key _ _ (doD_cnt _ _ _ ne_wi) (by omega)
  rw [if_neg h3, if_pos (show a.what = 4 by omega)]
  dsimp only
  rw [if_neg (fun h => h.2 (by omega))]
  refine ⟨fun hd => ?_, fun hd hm => .inr ⟨hd, hm, ?_, rfl⟩⟩
  · unfold readD; rw [if_pos hd]; exact ⟨rfl, rfl⟩
  · unfold readD
    rw [if_neg (by rw [hd]; decide)]
    split <;> simp
end Go.Proofs.Yticponohbnkgdaa
