/- all: of two rows that are alike. -/
import Derived.Test.YtkbifmgddbilmaaDoorSn
import Derived.Lib.QuietBelow
namespace Go.Proofs.YtkbifmgddbilmaaDoor
open Go Go.RowKit Go.Sort
set_option maxRecDepth 100000
theorem same_grown (k : Int) (p : ByteArray) (a : Int) (W : World) (d : Nat) (os : Array Obj) :
    Calls Tryd.prog 14 #[fv k p a, fv k p a] (grow (redrawn W d) os) fun e w'' => e = .returned (.bool true) ∧ ∃ p : Regrown, w'' = grow (redrawn W p.d) p.os :=
  Calls.regrown_of (same_true k p a _)
set_option maxHeartbeats 2000000 in
theorem all_cells (l : List Fq) (hl : l.length ≤ 1000000) (g o c g' o' c' : Nat) (w : World)
    (h1 : ∀ j (h : j < l.length), w.cell? ⟨g, o + j * 3, none⟩ = some (.int .u8 l[j].k) ∧ w.cell? ⟨g, o + j * 3 + 1, none⟩ = some (.string l[j].p) ∧ w.cell? ⟨g, o + j * 3 + 2, none⟩ = some (.int .i64 l[j].a))
    (h2 : ∀ j (h : j < l.length), w.cell? ⟨g', o' + j * 3, none⟩ = some (.int .u8 l[j].k) ∧ w.cell? ⟨g', o' + j * 3 + 1, none⟩ = some (.string l[j].p) ∧ w.cell? ⟨g', o' + j * 3 + 2, none⟩ = some (.int .i64 l[j].a)) :
    Calls Tryd.prog 17 #[.slice (some ⟨g, o, none⟩) l.length c, .slice (some ⟨g', o', none⟩) l.length c'] w (Ret w (.bool true)) := by
  have H1 := Lib.hid h1
  have H2 := Lib.hid h2
  clear h1 h2
  obtain ⟨L, hL⟩ : ∃ L, l.length = L := ⟨_, rfl⟩
  have HL := Lib.hid hL
  rw [hL] at hl ⊢
  clear hL
  go_enter Tryd.func17, Tryd.ntmps17
  go_wp2
  go_loopw [5] (fun x wr => ∃ (j : Nat), j ≤ L ∧ x = .int .i64 (j : Int) ∧ Hid (Below w.heap.size w wr)) (fun x _ => L - (intOf x).toNat)
  case atStart => exact ⟨0, by omega, rfl, Lib.hid (Below.refl _ _)⟩
  case round =>
    obtain ⟨j, hj, rfl, HB⟩ := hrel
    by_cases hlt : j < L
    · have hjl : j < l.length := by rw [HL.out]; exact hlt
      obtain ⟨x0, x1, x2⟩ := H1.out j hjl
      obtain ⟨y0, y1, y2⟩ := H2.out j hjl
      have keep : ∀ {b i : Nat} {v : Value}, w.cell? ⟨b, i, none⟩ = some v → wr.cell? ⟨b, i, none⟩ = some v := fun {b i v} h => (HB.out.cell (p := ⟨b, i, none⟩) (World.block_lt_of_cell? w ⟨b, i, none⟩ h)).trans h
      have x0 := keep x0
      have x1 := keep x1
      have x2 := keep x2
      have y0 := keep y0
      have y1 := keep y1
      have y2 := keep y2
      have k0 := fun d os => cell_regrown x0 d os
      have k1 := fun d os => cell_regrown x1 d os
      have k2 := fun d os => cell_regrown x2 d os
      have k3 := fun d os => cell_regrown y0 d os
      have k4 := fun d os => cell_regrown y1 d os
      have k5 := fun d os => cell_regrown y2 d os
      have HC := Lib.hid (fun d os => same_grown l[j].k l[j].p l[j].a wr d os)
      generalize l[j].k = K at *
      generalize l[j].p = T at *
      generalize l[j].a = A at *
      clear keep x0 x1 x2 y0 y1 y2 hjl
      go_wp2
      refine wp_region_quiet_below (by kernel_rfl) (by kernel_rfl) ?_
      iterate 8 (go_big_quiet_step (fail))
      go_big_quiet_step (first | (go_at_call 14; exact HC.out _ _))
      go_big_quiet_step (fail)
      refine wpQuiet_nil ?_
      intro W2 hw2
      have hb2 : Below wr.heap.size wr W2 := by obtain ⟨q, rfl⟩ := hw2; exact below_regrown _ _ _
      have HB2 := Lib.hid (HB.out.trans (hb2.mono HB.out.size))
      clear hw2 hb2 k0 k1 k2 k3 k4 k5 HC
      go_wp2
      go_roundw
      case rel => exact ⟨j + 1, by omega, by go_num, HB2⟩
      case measure => simp [intOf]; omega
    · obtain rfl : j = L := by omega
      go_wp2
      go_ret
      exact ⟨rfl, HB.out⟩
theorem all_none (a a' : Option Addr) (c c' : Nat) (w : World) : Calls Tryd.prog 17 #[.slice a 0 c, .slice a' 0 c'] w (Ret w (.bool true)) := by
  go_enter Tryd.func17, Tryd.ntmps17
  go_wp2
  go_loopw [5] (fun x wr => x = .int .i64 0 ∧ Hid (Below w.heap.size w wr)) (fun _ _ => 0)
  case atStart => exact ⟨rfl, Lib.hid (Below.refl _ _)⟩
  case round =>
    obtain ⟨rfl, HB⟩ := hrel
    go_wp2
    go_ret
    exact ⟨rfl, HB.out⟩
theorem all_true (l : List Fq) (hl : l.length ≤ 1000000) (v v' : Value) (w : World) (h : At3 w v l) (h' : At3 w v' l) : Calls Tryd.prog 17 #[v, v'] w (Ret w (.bool true)) := by
  rcases h with ⟨rfl, a, c, rfl⟩ | ⟨g, o, c, rfl, h⟩
  · obtain ⟨a', c', rfl⟩ := h'.slice
    exact all_none a a' c c' w
  · rcases h' with ⟨rfl, a, c', rfl⟩ | ⟨g', o', c', rfl, h'⟩
    · exact all_none _ a c c' w
    · exact all_cells l hl g o c g' o' c' w h h'
end Go.Proofs.YtkbifmgddbilmaaDoor
