/- A part as a value, and the contracts of isHere, count, mayBe, over the seat's own program. -/
import Derived.Test.YtnnogjojoeajnaaBi
namespace Go.Proofs.Ytnnogjojoeajnaa
open Go.RowKit
/-- A part. -/
structure Pt where
  c : Bool
  t : ByteArray
  o : Int
  l : Int
/-- A part as a value. -/
def pv (p : Pt) : Value := .agg #[.bool p.c, .string p.t, .int .i64 p.o, .int .i64 p.l]
/-- Its fields are within their kinds. -/
structure Pt.ok (p : Pt) : Prop where
  t : p.t.size ≤ 140737488351232
  o0 : -9223372036854775808 ≤ p.o
  o1 : p.o ≤ 9223372036854775807
  l0 : -9223372036854775808 ≤ p.l
  l1 : p.l ≤ 9223372036854775807
/-- May a part be? -/
def may (p : Pt) : Bool :=
  if p.c then p.t.size == 0 && decide (1 ≤ p.l ∧ p.l ≤ 64 ∧ 1 ≤ p.o ∧ p.o < 4294967296)
  else decide (1 ≤ p.t.size ∧ p.t.size ≤ 65536) && decide (p.o = 0 ∧ p.l = 0)
def here (p : Pt) (have' : Int) : Bool := !p.c || decide (1 ≤ p.o ∧ p.o ≤ have')
def cnt (p : Pt) : Int := if p.c then p.l else p.t.size
set_option maxRecDepth 100000 in
set_option maxHeartbeats 400000 in
theorem isHere_any (p : Pt) (n : Int) (w : World) :
   Calls Try.prog 34 #[pv p, .int .i64 n] w fun e w' => e = .returned (.bool (here p n)) ∧ Below w.heap.size w w' := by
  obtain ⟨c, t, o, l⟩ := p
  unfold here pv
  cases c
  · go_enter Try.func34, Try.ntmps34
    go_wp2
    go_ret
    exact ⟨rfl, (Below.refl _ _).alloc (Nat.le_refl _) _⟩
  · by_cases h : 1 ≤ o
    · go_enter Try.func34, Try.ntmps34
      go_wp2
      go_ret
      exact ⟨by simp [h], (Below.refl _ _).alloc (Nat.le_refl _) _⟩
    · go_enter Try.func34, Try.ntmps34
      go_wp2
      go_ret
      exact ⟨by simp; omega, (Below.refl _ _).alloc (Nat.le_refl _) _⟩
set_option maxRecDepth 100000 in
set_option maxHeartbeats 400000 in
theorem count_any (p : Pt) (w : World) :
   Calls Try.prog 35 #[pv p] w fun e w' => e = .returned (.int .i64 (cnt p)) ∧ Below w.heap.size w w' := by
  obtain ⟨c, t, o, l⟩ := p
  unfold cnt pv
  cases c
  · go_enter Try.func35, Try.ntmps35
    go_wp2
    go_ret
    exact ⟨rfl, (Below.refl _ _).alloc (Nat.le_refl _) _⟩
  · go_enter Try.func35, Try.ntmps35
    go_wp2
    go_ret
    exact ⟨rfl, (Below.refl _ _).alloc (Nat.le_refl _) _⟩
theorem ba_empty {t : ByteArray} (h : t.size = 0) : t = ⟨#[]⟩ := by
  cases t with
  | mk d => 
    have : d = #[] := Array.eq_empty_of_size_eq_zero h
    rw [this]
theorem ret_bool {a b : Bool} (h : a = b) : Ending.returned (.bool a) = .returned (.bool b) := by rw [h]
set_option maxRecDepth 100000 in
set_option maxHeartbeats 1000000 in
theorem mayBe_any (p : Pt) (hp : p.ok) (w : World) :
   Calls Try.prog 43 #[pv p] w fun e w' => e = .returned (.bool (may p)) ∧ Below w.heap.size w w' := by
  obtain ⟨c, t, o, l⟩ := p
  obtain ⟨h1, h2, h3, h4, h5⟩ := hp
  dsimp only at h1 h2 h3 h4 h5
  have fin : ∀ (o : Obj), Below w.heap.size w (w.alloc o) := fun o => (Below.refl _ _).alloc (Nat.le_refl _) _
  unfold may pv
  dsimp only
  by_cases ht : t.size = 0
  · obtain rfl := ba_empty ht
    cases c
    · go_enter Try.func43, Try.ntmps43
      go_wp2
      go_ret
      exact ⟨rfl, fin _⟩
    · by_cases hl : 1 ≤ l
      · by_cases hl2 : l ≤ 64
        · by_cases ho : 1 ≤ o
          · go_enter Try.func43, Try.ntmps43
            go_wp2
            go_ret
            exact ⟨ret_bool (by simp), fin _⟩
          · go_enter Try.func43, Try.ntmps43
            go_wp2
            go_ret
            exact ⟨ret_bool (by simp; omega), fin _⟩
        · go_enter Try.func43, Try.ntmps43
          go_wp2
          go_ret
          exact ⟨ret_bool (by simp; omega), fin _⟩
      · go_enter Try.func43, Try.ntmps43
        go_wp2
        go_ret
        exact ⟨ret_bool (by simp; omega), fin _⟩
  · have hb : t.toList.isEmpty = false := by
      rw [toList_eq, List.isEmpty_eq_false_iff]
      intro h
      exact ht (by have := congrArg List.length h; simpa using this)
    have ht1 : 1 ≤ t.size := by omega
    have ht2 : (t.size == 0) = false := by rw [beq_eq_false_iff_ne]; exact ht
    cases c
    · by_cases hl : (t.size : Int) ≤ 65536
      · by_cases ho : o = 0
        · subst ho
          go_enter Try.func43, Try.ntmps43
          go_wp2
          go_ret
          exact ⟨ret_bool (by rw [decide_eq_true (by omega : t.size ≤ 65536), Bool.true_and]; rfl), fin _⟩
        · have hob : (o == 0) = false := by rw [beq_eq_false_iff_ne]; exact ho
          go_enter Try.func43, Try.ntmps43
          go_wp2
          go_ret
          exact ⟨ret_bool (by simp), fin _⟩
      · go_enter Try.func43, Try.ntmps43
        go_wp2
        go_ret
        exact ⟨ret_bool (by simp; omega), fin _⟩
    · go_enter Try.func43, Try.ntmps43
      go_wp2
      go_ret
      exact ⟨ret_bool (by simp), fin _⟩
end Go.Proofs.Ytnnogjojoeajnaa
