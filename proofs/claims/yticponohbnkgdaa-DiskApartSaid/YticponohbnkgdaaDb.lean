/- What is done with a tape: the contracts of tape's methods. -/
import Derived.Test.YticponohbnkgdaaDa
import Derived.Laws.ResultCell
import Derived.BigQuiet
import Derived.Deep.QuietTactic
namespace Go.Proofs.Yticponohbnkgdaa
open Go Go.RowKit
set_option maxRecDepth 100000
theorem load66 {w : World} (B : Nat) (x y : Value) (hB : w.heap[B]? = some (.cells #[x, y] 66 (0, 0))) : (loadVar 66 ⟨B, 0, none⟩).run Try.prog w = .ok (.agg #[x, y]) w :=
  run_loadVar_row (P := Try.prog) w B 66 66 #[x, y] (0, 0) _ hB Try.underlying66 rfl (by kernel_rfl)
theorem retc {fn : Func} {R : Ending → World → Prop} {a : Act} {w : World} {x y : Value} {p : Tmp} (hr : fn.results = #[.cell p 66]) (B : Nat) (h2 : a.tmps.getD p undef = .pointer (some ⟨B, 0, none⟩)) (hd : a.defers = [])
    (hB : w.heap[B]? = some (.cells #[x, y] 66 (0, 0))) (hR : R (.returned (.agg #[x, y])) w) : bodyPost Try.prog fn R .ret a w :=
  bodyPost_ret (by
    have hl := load66 B x y hB
    have hp' : a.tmps[p]?.getD undef = .pointer (some ⟨B, 0, none⟩) := by simpa using h2
    simp [results, hr, hp', asAddr, hl]) hd hR
theorem retc2 {fn : Func} {R : Ending → World → Prop} {a : Act} {w : World} {x y z : Value} {p u : Tmp} (hr : fn.results = #[.cell p 66, .tmp u]) (B : Nat) (h2 : a.tmps.getD p undef = .pointer (some ⟨B, 0, none⟩)) (h3 : a.tmps.getD u undef = z) (hd : a.defers = [])
    (hB : w.heap[B]? = some (.cells #[x, y] 66 (0, 0))) (hR : R (.returned (.tuple #[.agg #[x, y], z])) w) : bodyPost Try.prog fn R .ret a w :=
  bodyPost_ret (by
    have hl := load66 B x y hB
    rw [results_cell_tmp hr, h2, h3]
    simp [asAddr, hl, Result.andThen]) hd hR
/-- A block of two cells. -/
def Box2 (W : World) (B : Nat) (t : TypeId) (x y : Value) : Prop := W.heap[B]? = some (.cells #[x, y] t (0, 0))
section
variable {W W' : World} {B m : Nat} {t : TypeId} {x y : Value}
theorem Box2.lt (h : Box2 W B t x y) : B < W.heap.size := (Array.getElem?_eq_some_iff.1 h).1
theorem Box2.c0 (h : Box2 W B t x y) : W.cell? ⟨B, 0, none⟩ = some x := by simp [World.cell?, show W.heap[B]? = _ from h]
theorem Box2.c1 (h : Box2 W B t x y) : W.cell? ⟨B, 1, none⟩ = some y := by simp [World.cell?, show W.heap[B]? = _ from h]
theorem Box2.free (h : Box2 W B t x y) (j : Nat) : W.frozen? ⟨B, j, none⟩ = false := by simp [World.frozen?, show W.heap[B]? = _ from h]
theorem Box2.below (h : Box2 W B t x y) (hb : Below m W W') (hm : B < m) : Box2 W' B t x y := (hb.block B hm).trans h
theorem Box2.kept {row : Option Nat} (h : Box2 W B t x y) (hg : W.grownBy W' row) (hne : some B ≠ row) : Box2 W' B t x y := (hg.block B h.lt hne).trans h
theorem Box2.alloc (h : Box2 W B t x y) (o : Obj) : Box2 (W.alloc o) B t x y := (Below.heap_alloc W o B h.lt).trans h
theorem Box2.new (W : World) (t : TypeId) (x y : Value) : Box2 (W.alloc (.cells #[x, y] t)) W.heap.size t x y := heap_alloc_new W _
theorem Box2.set (h : Box2 W B t x y) (a b : Value) : Box2 ((W.setCell ⟨B, 0, none⟩ a).setCell ⟨B, 1, none⟩ b) B t a b := by
  unfold Box2 at *
  simp [World.setCell, Array.getElem?_modify, h]
theorem Box2.apart {a : Addr} (h : Box2 W B t x y) (ha : B ≠ a.block) (u : Value) : Box2 (W.setCell a u) B t x y := (Below.heap_setCell W a u B ha).trans h
end
theorem below_set {n : Nat} {w w' : World} (h : Below n w w') {B : Nat} (hB : n ≤ B) (j : Nat) (u : Value) : Below n w (w'.setCell ⟨B, j, none⟩ u) := h.setCell (p := ⟨B, j, none⟩) hB u
set_option maxHeartbeats 400000 in
theorem ready_any (B : Nat) (d : Dk) (w : World) (h : w.cell? ⟨B, 65, none⟩ = some (.bool d.dn)) : Calls Try.prog 45 #[.pointer (some ⟨B, 0, none⟩)] w fun e w' => e = .returned (.int .i64 (if d.dn then 45 else 0)) ∧ w = w' := by
  cases hd : d.dn
  · rw [hd] at h
    go_enter Try.func45, Try.ntmps45
    go_wp2
    go_ret
    exact ⟨rfl, rfl⟩
  · rw [hd] at h
    go_enter Try.func45, Try.ntmps45
    go_wp2
    go_ret
    exact ⟨rfl, rfl⟩
set_option maxHeartbeats 400000 in
theorem loose_any (t : Tp) (w : World) (ht : t.ok) : Calls Try.prog 46 #[.agg #[.string t.s, .int .i64 (t.f : Int)]] w (Ret w (.int .i64 ((t.s.size - t.f : Nat) : Int))) := by
  obtain ⟨h1, h2⟩ := ht
  rw [show ((t.s.size - t.f : Nat) : Int) = (t.s.size : Int) - (t.f : Int) by omega]
  obtain ⟨s, f⟩ := t
  dsimp only at *
  go_enter Try.func46, Try.ntmps46
  go_wp2
  go_ret
  exact ⟨rfl, (Below.refl _ _).alloc (Nat.le_refl _) _⟩
set_option maxHeartbeats 400000 in
theorem firm_any (s : ByteArray) (w : World) : Calls Try.prog 37 #[.string s] w (Ret w (.agg #[.string s, .int .i64 (s.size : Int)])) := by
  go_enter Try.func37, Try.ntmps37
  go_wp2
  exact retc Try.results37 w.heap.size rfl rfl (heap_alloc_new w _) ⟨rfl, (Below.refl _ _).alloc (Nat.le_refl _) _⟩
/-- What a write makes of a tape. -/
def wr (t : Tp) (x : ByteArray) : Tp × Nat := if 1048576 < x.size + t.s.size then (t0, 40) else (⟨t.s ++ x, t.f⟩, 0)
def sy (t : Tp) : Tp × Nat := (⟨t.s, t.s.size⟩, 0)
def wi (_ : Tp) : Tp × Nat := (t0, 0)
def tr (n : Int) (t : Tp) : Tp × Nat := if 0 ≤ n ∧ n ≤ t.s.size then (⟨t.s.extract 0 n.toNat, n.toNat⟩, 0) else (t0, 1)
theorem below_two (w : World) (x y : Obj) : Below w.heap.size w ((w.alloc x).alloc y) := ((Below.refl _ _).alloc (Nat.le_refl _) _).alloc (by simp) _
theorem heap_two (w : World) (x y : Obj) : ((w.alloc x).alloc y).heap[w.heap.size + 1]? = some y := by
  have := heap_alloc_new (w.alloc x) y
  rwa [World.size_alloc] at this
theorem two_after {w w' : World} {o : Obj} {x y : Value} {t : TypeId} (h : Below ((w.alloc o).alloc (.cells #[x, y] t)).heap.size ((w.alloc o).alloc (.cells #[x, y] t)) w') :
    Box2 w' (w.heap.size + 1) t x y ∧ w'.cell? ⟨w.heap.size + 1, 0, none⟩ = some x ∧ w'.cell? ⟨w.heap.size + 1, 1, none⟩ = some y ∧ w'.frozen? ⟨w.heap.size + 1, 0, none⟩ = false ∧ w'.frozen? ⟨w.heap.size + 1, 1, none⟩ = false ∧ Below w.heap.size w w' := by
  have b : Box2 w' (w.heap.size + 1) t x y := Box2.below (heap_two w o _) h (by simp)
  exact ⟨b, b.c0, b.c1, b.free 0, b.free 1, (below_two w _ _).trans (h.mono (by simp; omega))⟩
set_option maxHeartbeats 400000 in
theorem written_any (t : Tp) (x : ByteArray) (w : World) (ht : t.s.size ≤ 9223372036854775807) (_hx : x.size ≤ 9223372036854775807) : Calls Try.prog 38 #[.agg #[.string t.s, .int .i64 (t.f : Int)], .string x] w (Ret w (.tuple #[.agg #[.string (wr t x).1.s, .int .i64 ((wr t x).1.f : Int)], .int .i64 ((wr t x).2 : Int)])) := by
  have h2 := ht
  unfold wr
  obtain ⟨s, f⟩ := t
  dsimp only at *
  by_cases hc : 1048576 < x.size + s.size
  · rw [if_pos hc]
    dsimp only [t0]
    go_enter Try.func38, Try.ntmps38
    go_wp2
    exact retc2 Try.results38 (w.heap.size + 1) rfl rfl rfl (heap_two _ _ _) ⟨rfl, below_two _ _ _⟩
  · rw [if_neg hc]
    dsimp only
    go_enter Try.func38, Try.ntmps38
    go_wp2
    exact retc2 Try.results38 (w.heap.size + 1) rfl rfl rfl (heap_two _ _ _) ⟨rfl, below_two _ _ _⟩
set_option maxHeartbeats 400000 in
theorem wiped_any (t : Tp) (w : World) : Calls Try.prog 42 #[.agg #[.string t.s, .int .i64 (t.f : Int)]] w (Ret w (.tuple #[.agg #[.string (wi t).1.s, .int .i64 ((wi t).1.f : Int)], .int .i64 ((wi t).2 : Int)])) := by
  unfold wi
  obtain ⟨s, f⟩ := t
  dsimp only [t0]
  go_enter Try.func42, Try.ntmps42
  go_wp2
  exact retc2 Try.results42 (w.heap.size + 1) rfl rfl rfl (heap_two _ _ _) ⟨rfl, below_two _ _ _⟩
set_option maxHeartbeats 400000 in
theorem synced_any (t : Tp) (w : World) : Calls Try.prog 41 #[.agg #[.string t.s, .int .i64 (t.f : Int)]] w (Ret w (.tuple #[.agg #[.string (sy t).1.s, .int .i64 ((sy t).1.f : Int)], .int .i64 ((sy t).2 : Int)])) := by
  unfold sy
  obtain ⟨s, f⟩ := t
  dsimp only
  go_enter Try.func41, Try.ntmps41
  go_wp2_with fail
  refine (firm_any _ _).mono ?_
  rintro e w' ⟨rfl, hb⟩
  obtain ⟨x1, c0, c1, f0, f1, hB⟩ := two_after hb
  go_wp2
  exact retc2 Try.results41 (w.heap.size + 1) rfl rfl rfl (x1.set _ _) ⟨rfl, below_set (below_set hB (by omega) _ _) (by omega) _ _⟩
set_option maxHeartbeats 400000 in
theorem trimmed_any (t : Tp) (n : Int) (w : World) (ht : t.ok) : Calls Try.prog 44 #[.agg #[.string t.s, .int .i64 (t.f : Int)], .int .i64 n] w (Ret w (.tuple #[.agg #[.string (tr n t).1.s, .int .i64 ((tr n t).1.f : Int)], .int .i64 ((tr n t).2 : Int)])) := by
  obtain ⟨h1, h2⟩ := ht
  unfold tr
  obtain ⟨s, f⟩ := t
  dsimp only at *
  by_cases hc : 0 ≤ n ∧ n ≤ s.size
  · rw [if_pos hc]
    obtain ⟨hc1, hc2⟩ := hc
    obtain ⟨k, rfl⟩ := Int.eq_ofNat_of_zero_le hc1
    dsimp only
    have hk : k ≤ s.size := by omega
    rw [Int.toNat_natCast]
    go_enter Try.func44, Try.ntmps44
    go_wp2_with fail
    refine (firm_any _ _).mono ?_
    rintro e w' ⟨rfl, hb⟩
    obtain ⟨x1, c0, c1, f0, f1, hB⟩ := two_after hb
    have hz : (s.extract 0 k).size = k := by simp; omega
    rw [hz]
    go_wp2
    exact retc2 Try.results44 (w.heap.size + 1) rfl rfl rfl (x1.set _ _) ⟨rfl, below_set (below_set hB (by omega) _ _) (by omega) _ _⟩
  · rw [if_neg hc]
    dsimp only [t0]
    by_cases h0 : n < 0
    · go_enter Try.func44, Try.ntmps44
      go_wp2
      exact retc2 Try.results44 (w.heap.size + 1) rfl rfl rfl (heap_two _ _ _) ⟨rfl, below_two _ _ _⟩
    · have h3 : (s.size : Int) < n := by omega
      have h4 : 0 ≤ n := by omega
      go_enter Try.func44, Try.ntmps44
      go_wp2
      exact retc2 Try.results44 (w.heap.size + 1) rfl rfl rfl (heap_two _ _ _) ⟨rfl, below_two _ _ _⟩
/-- What a failure leaves of a tape. -/
def bk (n : Int) (t : Tp) : Tp := let k := (IntKind.u64.wrap n).toNat % (t.s.size - t.f + 1); ⟨t.s.extract 0 (t.f + k), t.f + k⟩
theorem wrap_nat (n : Int) : ∃ m : Nat, IntKind.u64.wrap n = (m : Int) := by
  have h : 0 ≤ IntKind.u64.wrap n := by rw [IntKind.wrap_u64]; omega
  exact ⟨_, (Int.toNat_of_nonneg h).symm⟩
set_option maxHeartbeats 400000 in
theorem back_any (t : Tp) (n : Int) (w : World) (ht : t.ok) : Calls Try.prog 47 #[.agg #[.string t.s, .int .i64 (t.f : Int)], .int .i64 n] w (Ret w (.agg #[.string (bk n t).s, .int .i64 ((bk n t).f : Int)])) := by
  have HL := Lib.hid (fun W => loose_any t W ht)
  obtain ⟨h1, h2⟩ := ht
  obtain ⟨m, hm⟩ := wrap_nat n
  obtain ⟨K, hK, hK2, hK3⟩ : ∃ K, bk n t = ⟨t.s.extract 0 (t.f + K), t.f + K⟩ ∧ t.f + K ≤ t.s.size ∧ (m : Int).tmod (((t.s.size - t.f : Nat) : Int) + 1) = (K : Int) := by
    refine ⟨m % (t.s.size - t.f + 1), by unfold bk; rw [hm, Int.toNat_natCast], by have := Nat.mod_lt m (show 0 < t.s.size - t.f + 1 by omega); omega, ?_⟩
    rw [Int.tmod_eq_emod_of_nonneg (by omega)]
    rfl
  rw [hK]
  clear hK
  obtain ⟨s, f⟩ := t
  dsimp only at *
  have HS : Hid ((s.extract 0 (f + K)).size = f + K) := Lib.hid (by simp; omega)
  have hK4 : (f : Int) + (K : Int) ≤ (s.size : Int) := by omega
  have hK5 : K ≤ 1048576 := by omega
  have hL : s.size - f ≤ 1048576 := by omega
  generalize s.size - f = L at *
  go_enter Try.func47, Try.ntmps47
  go_wp2_with fail
  refine (HL.out _).mono ?_
  rintro e w' ⟨rfl, hb⟩
  obtain ⟨x1, c0, c1, f0, f1, hB⟩ := two_after hb
  have x0 : Box2 w' w.heap.size 66 (.string s) (.int .i64 (f : Int)) := Box2.below (Box2.alloc (Box2.new w 66 _ _) _) hb (by simp; omega)
  have d0 := x0.c0
  have d1 := x0.c1
  have X1 := Lib.hid x1
  have HB := Lib.hid hB
  clear x0 x1 hB hb
  go_wp2_with fail
  refine (firm_any _ _).mono ?_
  rw [HS.out]
  rintro e w'' ⟨rfl, hb2⟩
  have x2 := X1.out.below hb2 X1.out.lt
  have c0 := x2.c0
  have c1 := x2.c1
  have f0 := x2.free 0
  have f1 := x2.free 1
  have HB2 := Lib.hid (below_trans' HB.out hb2)
  go_wp2
  exact retc Try.results47 (w.heap.size + 1) rfl rfl (x2.set _ _) ⟨rfl, below_set (below_set HB2.out (by omega) _ _) (by omega) _ _⟩
end Go.Proofs.Yticponohbnkgdaa
