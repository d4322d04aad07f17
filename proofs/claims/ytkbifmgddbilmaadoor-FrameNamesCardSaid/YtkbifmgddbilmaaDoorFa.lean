/- What a frame's value is; how a result of three cells is handed back; frame.Read and the document's Read where they refuse. -/
import Derived.Test.YtkbifmgddbilmaaDoorFm
import Derived.Test.YtkbifmgddbilmaaDoorPu
import Derived.Test.YtkbifmgddbilmaaDoorRf
import Derived.Test.YtkbifmgddbilmaaDoorRv
import Derived.Test.YtkbifmgddbilmaaDoorSe
import Derived.Laws.ResultCell
import Derived.Laws.Rows
namespace Go.Proofs.YtkbifmgddbilmaaDoor
open Go Go.RowKit
set_option maxRecDepth 100000
theorem results_cell_two {fn : Func} {p u v : Tmp} {ty : TypeId} (h : fn.results = #[.cell p ty, .tmp u, .tmp v]) (tmps : Array Value) (P : Program) (w : World) :
    (results fn tmps).run P w =
      ((asAddr (tmps.getD p undef)).run P w).andThen fun a w₁ => ((loadVar ty a).run P w₁).andThen fun x w₂ => .ok (.tuple #[x, tmps.getD u undef, tmps.getD v undef]) w₂ := by
  simp only [results, h]
  simp [Sem.run_bind, Result.andThen]
/-- A type of three cells. -/
structure Tri (ty : TypeId) : Prop where
  hu : ∃ fs, Tryd.prog.underlying ty = some (.struct fs)
  hi : (Tryd.prog.info? ty).map (·.size) = some 3
theorem tri24 : Tri 24 := ⟨⟨_, Tryd.underlying24⟩, by kernel_rfl⟩
theorem tri28 : Tri 28 := ⟨⟨_, Tryd.underlying28⟩, by kernel_rfl⟩
theorem ret3 {fn : Func} {R : Ending → World → Prop} {a : Act} {w : World} {x y z r e : Value} {ty : TypeId} (hr : fn.results = #[.cell 4 ty, .tmp 5, .tmp 6]) (h : Tri ty) (B : Nat) (h2 : a.tmps.getD 4 undef = .pointer (some ⟨B, 0, none⟩)) (h3 : a.tmps.getD 5 undef = r) (h4 : a.tmps.getD 6 undef = e) (hd : a.defers = [])
    (hB : w.heap[B]? = some (.cells #[x, y, z] ty (0, 0))) (hR : R (.returned (.tuple #[.agg #[x, y, z], r, e])) w) : bodyPost Tryd.prog fn R .ret a w :=
  bodyPost_ret (by
    obtain ⟨fs, hu⟩ := h.hu
    have hl := run_loadVar_row (P := Tryd.prog) w B ty ty #[x, y, z] (0, 0) _ hB hu rfl (by rw [h.hi]; rfl)
    rw [results_cell_two hr, h2, h3, h4]
    simp [asAddr, hl, Result.andThen]) hd hR
theorem set3 {w : World} {B : Nat} {x0 x1 x2 : Value} {ty : TypeId} (y0 y1 y2 : Value) (h : w.heap[B]? = some (.cells #[x0, x1, x2] ty (0, 0))) : (((w.setCell ⟨B, 0, none⟩ y0).setCell ⟨B, 1, none⟩ y1).setCell ⟨B, 2, none⟩ y2).heap[B]? = some (.cells #[y0, y1, y2] ty (0, 0)) :=
  Go.heap_setCell_same _ B 2 #[y0, y1, x2] ty y2 (Go.heap_setCell_same _ B 1 #[y0, x1, x2] ty y1 (Go.heap_setCell_same w B 0 #[x0, x1, x2] ty y0 h))
theorem below_set {n : Nat} {w W : World} (h : Below n w W) {B j : Nat} (hB : n ≤ B) (u : Value) : Below n w (W.setCell ⟨B, j, none⟩ u) :=
  ⟨h.os, h.tape, h.output, by simpa using h.size, fun i hi => (Below.heap_setCell _ _ _ _ (by simp only; omega)).trans (h.block i hi)⟩
theorem below_set3 {n : Nat} {w W : World} (h : Below n w W) {B : Nat} (hB : n ≤ B) (x y z : Value) : Below n w (((W.setCell ⟨B, 0, none⟩ x).setCell ⟨B, 1, none⟩ y).setCell ⟨B, 2, none⟩ z) :=
  below_set (below_set (below_set h hB x) hB y) hB z
theorem below_one (w : World) (o : Obj) : Below w.heap.size w (w.alloc o) := (Below.refl _ _).alloc (Nat.le_refl _) _
/-- The row of three cells of a frame. -/
abbrev fv (k : Int) (p : ByteArray) (a : Int) : Value := .agg #[.int .u8 k, .string p, .int .i64 a]
/-- What a call tells that leaves all that was there. -/
def Ret (w : World) (v : Value) (e : Ending) (w' : World) : Prop := e = .returned v ∧ Below w.heap.size w w'
/-- Refused so. -/
abbrev noV (E : Nat) : Value := .tuple #[.agg #[.int .u8 0, .string ⟨#[]⟩, .int .i64 0], .int .i64 0, .int .i64 (E : Int)]
theorem fplace_any (s : ByteArray) (at' : Int) (w : World) :
   Calls Tryd.prog 28 #[.string s, .int .i64 at'] w fun e w' => e = .returned (.bool (decide (0 ≤ at' ∧ at' ≤ (s.size : Int)))) ∧ w = w' := by
  by_cases h : 0 ≤ at'
  · go_enter Tryd.func28, Tryd.ntmps28
    go_wp2
    go_ret
    refine ⟨by simp [h], rfl⟩
  · go_enter Tryd.func28, Tryd.ntmps28
    go_wp2
    go_ret
    refine ⟨by rw [decide_eq_false (by omega)]; rfl, rfl⟩
set_option maxHeartbeats 1000000 in
theorem read_arg (s : ByteArray) (at' : Int) (w : World) (h : at' < 0 ∨ (s.size : Int) < at') :
    Calls Tryd.prog 12 #[.string s, .int .i64 at'] w (Ret w (noV 1)) := by
  have hd : decide (0 ≤ at' ∧ at' ≤ (s.size : Int)) = false := decide_eq_false (by omega)
  go_enter Tryd.func12, Tryd.ntmps12
  go_wp2_with (go_at_call 28; refine (fplace_any _ _ _).mono ?_; rintro e w' ⟨rfl, rfl⟩; simp only [hd])
  exact ret3 Tryd.results12 tri24 w.heap.size rfl rfl rfl rfl (heap_alloc_new w _) ⟨rfl, below_one _ _⟩
set_option maxHeartbeats 1000000 in
theorem read_nine (s : ByteArray) (a : Nat) (w : World) (hs : s.size ≤ 140737488351232) (h : a ≤ s.size) (h9 : s.size < a + 9) :
    Calls Tryd.prog 12 #[.string s, .int .i64 a] w (Ret w (noV 8)) := by
  have hd : decide (0 ≤ (a : Int) ∧ (a : Int) ≤ (s.size : Int)) = true := decide_eq_true (by omega)
  go_enter Tryd.func12, Tryd.ntmps12
  go_wp2_with (go_at_call 28; refine (fplace_any _ _ _).mono ?_; rintro e w' ⟨rfl, rfl⟩; simp only [hd])
  exact ret3 Tryd.results12 tri24 w.heap.size rfl rfl rfl rfl (heap_alloc_new w _) ⟨rfl, below_one _ _⟩
/-- What is told of two numbers and a place. -/
def Fx (s : ByteArray) (a n x : Nat) : Prop := ∀ w, Calls Tryd.prog 29 #[.string s, .int .i64 (a : Int), .int .i64 4] w fun e w' => e = .returned (.tuple #[.int .u64 (n : Int), .int .i64 (x : Int), .int .i64 0]) ∧ w = w'
set_option maxHeartbeats 1000000 in
theorem read_large (s : ByteArray) (a n c : Nat) (w : World) (hs : s.size ≤ 140737488351232) (h9 : a + 9 ≤ s.size) (h1 : Fx s a n (a + 4)) (h2 : Fx s (a + 4) c (a + 8)) (hn : 262144 < n) :
    Calls Tryd.prog 12 #[.string s, .int .i64 a] w (Ret w (noV 40)) := by
  have hd : decide (0 ≤ (a : Int) ∧ (a : Int) ≤ (s.size : Int)) = true := decide_eq_true (by omega)
  have H1 := Lib.hid h1
  have H2 := Lib.hid h2
  clear h1 h2
  go_enter Tryd.func12, Tryd.ntmps12
  go_wp2_with (go_at_call 28; refine (fplace_any _ _ _).mono ?_; rintro e w' ⟨rfl, rfl⟩; simp only [hd])
  refine (H1.out _).mono ?_
  rintro e w' ⟨rfl, rfl⟩
  go_wp2_with fail
  refine (H2.out _).mono ?_
  rintro e w' ⟨rfl, rfl⟩
  go_wp2
  exact ret3 Tryd.results12 tri24 w.heap.size rfl rfl rfl rfl (heap_alloc_new w _) ⟨rfl, below_one _ _⟩
set_option maxHeartbeats 1000000 in
theorem read_cut (s : ByteArray) (a n c : Nat) (w : World) (hs : s.size ≤ 140737488351232) (h9 : a + 9 ≤ s.size) (h1 : Fx s a n (a + 4)) (h2 : Fx s (a + 4) c (a + 8)) (hn : n ≤ 262144) (hc : s.size < a + 9 + n) :
    Calls Tryd.prog 12 #[.string s, .int .i64 a] w (Ret w (noV 8)) := by
  have hd : decide (0 ≤ (a : Int) ∧ (a : Int) ≤ (s.size : Int)) = true := decide_eq_true (by omega)
  have H1 := Lib.hid h1
  have H2 := Lib.hid h2
  clear h1 h2
  go_enter Tryd.func12, Tryd.ntmps12
  go_wp2_with (go_at_call 28; refine (fplace_any _ _ _).mono ?_; rintro e w' ⟨rfl, rfl⟩; simp only [hd])
  refine (H1.out _).mono ?_
  rintro e w' ⟨rfl, rfl⟩
  go_wp2_with fail
  refine (H2.out _).mono ?_
  rintro e w' ⟨rfl, rfl⟩
  go_wp2
  exact ret3 Tryd.results12 tri24 w.heap.size rfl rfl rfl rfl (heap_alloc_new w _) ⟨rfl, below_one _ _⟩
end Go.Proofs.YtkbifmgddbilmaaDoor
