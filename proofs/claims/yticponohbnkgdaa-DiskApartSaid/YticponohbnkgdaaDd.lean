/- Where a tape stands; what a thing that is done is told by; do. -/
import Derived.Test.YticponohbnkgdaaDc
import Derived.Lib.QuietBelow
namespace Go.Proofs.Yticponohbnkgdaa
open Go Go.RowKit
set_option maxRecDepth 100000
set_option maxHeartbeats 400000 in
theorem at_dn (B : Nat) (d : Dk) (t : Int) (w : World) (h : DAt w B d) (hd : d.dn = true) : Calls Try.prog 48 #[.pointer (some ⟨B, 0, none⟩), .int .i64 t] w fun e w' => e = .returned (.tuple #[.pointer none, .int .i64 45]) ∧ w = w' := by
  have H := Lib.hid (ready_any B d w h.dn)
  rw [hd, if_pos rfl] at H
  go_enter Try.func48, Try.ntmps48
  go_wp2_with fail
  refine H.out.mono ?_
  rintro e w' ⟨rfl, rfl⟩
  go_wp2
  go_ret2
  exact ⟨rfl, rfl⟩
set_option maxHeartbeats 400000 in
theorem at_out (B : Nat) (d : Dk) (t : Int) (w : World) (h : DAt w B d) (hd : d.dn = false) (ht : ¬ (0 ≤ t ∧ t < 32)) : Calls Try.prog 48 #[.pointer (some ⟨B, 0, none⟩), .int .i64 t] w fun e w' => e = .returned (.tuple #[.pointer none, .int .i64 1]) ∧ w = w' := by
  have H := Lib.hid (ready_any B d w h.dn)
  rw [hd, if_neg (by simp)] at H
  by_cases h0 : t < 0
  · go_enter Try.func48, Try.ntmps48
    go_wp2_with fail
    refine H.out.mono ?_
    rintro e w' ⟨rfl, rfl⟩
    go_wp2
    go_ret2
    exact ⟨rfl, rfl⟩
  · have h1 : 32 ≤ t := by omega
    have h2 : 0 ≤ t := by omega
    go_enter Try.func48, Try.ntmps48
    go_wp2_with fail
    refine H.out.mono ?_
    rintro e w' ⟨rfl, rfl⟩
    go_wp2
    go_ret2
    exact ⟨rfl, rfl⟩
set_option maxHeartbeats 400000 in
theorem at_in (B : Nat) (d : Dk) (t : Nat) (w : World) (h : DAt w B d) (hd : d.dn = false) (ht : t < 32) : Calls Try.prog 48 #[.pointer (some ⟨B, 0, none⟩), .int .i64 (t : Int)] w fun e w' => e = .returned (.tuple #[.pointer (some ⟨B, 1 + t * 2, none⟩), .int .i64 0]) ∧ w = w' := by
  have H := Lib.hid (ready_any B d w h.dn)
  rw [hd, if_neg (by simp)] at H
  go_enter Try.func48, Try.ntmps48
  go_wp2_with fail
  refine H.out.mono ?_
  rintro e w' ⟨rfl, rfl⟩
  go_wp2
  go_ret2
  exact ⟨rfl, rfl⟩
set_option maxHeartbeats 400000 in
theorem trimf_any (b : Nat) (t : Tp) (n : Int) (w : World) (ht : t.ok) (hn : w.cell? ⟨b, 0, none⟩ = some (.int .i64 n)) : Calls Try.prog 43 #[.agg #[.string t.s, .int .i64 (t.f : Int)], .pointer (some ⟨b, 0, none⟩)] w (Ret w (.tuple #[.agg #[.string (tr n t).1.s, .int .i64 ((tr n t).1.f : Int)], .int .i64 ((tr n t).2 : Int)])) := by
  have HT := Lib.hid (fun W => trimmed_any t n W ht)
  clear ht
  have hb := World.block_lt_of_cell? w _ hn
  generalize (tr n t).1.s = S at *
  generalize (tr n t).1.f = F at *
  generalize (tr n t).2 = E at *
  obtain ⟨s, f⟩ := t
  dsimp only at *
  go_enter Try.func43, Try.ntmps43
  go_wp2_with fail
  refine (HT.out _).mono ?_
  rintro e w' ⟨rfl, hb⟩
  obtain ⟨x1, c0, c1, f0, f1, hB⟩ := two_after hb
  go_wp2
  exact retc2 Try.results43 (w.heap.size + 1) rfl rfl rfl (x1.set _ _) ⟨rfl, below_set (below_set hB (by omega) _ _) (by omega) _ _⟩
/-- What a write makes of a tape on a disk of so much room. -/
def wf (d : Dk) (x : ByteArray) (t : Tp) : Tp × Nat := if (wr t x).2 = 0 ∧ d.cap < x.size + d.used then (t0, 44) else wr t x
set_option maxHeartbeats 400000 in
theorem writef_any (bx bd B : Nat) (d : Dk) (t : Tp) (x : ByteArray) (w : World) (ht : t.ok) (hx : x.size ≤ 9223372036854775807) (hd : d.ok) (hcx : w.cell? ⟨bx, 0, none⟩ = some (.string x)) (hcd : w.cell? ⟨bd, 0, none⟩ = some (.pointer (some ⟨B, 0, none⟩))) (h : DAt w B d) :
    Calls Try.prog 40 #[.agg #[.string t.s, .int .i64 (t.f : Int)], .pointer (some ⟨bx, 0, none⟩), .pointer (some ⟨bd, 0, none⟩)] w (Ret w (.tuple #[.agg #[.string (wf d x t).1.s, .int .i64 ((wf d x t).1.f : Int)], .int .i64 ((wf d x t).2 : Int)])) := by
  have HT := Lib.hid (fun W => written_any t x W (Nat.le_trans ht.2 (by decide)) hx)
  have HU := Lib.hid (fun W hW => used_any B d W hW hd)
  have hu := hd.used
  have hsz := hd.size
  have hcp := hd.cap
  have HD := Lib.hid h
  have HX := Lib.hid hcx
  have HC := Lib.hid hcd
  have l1 := World.block_lt_of_cell? w _ hcx
  have l2 := World.block_lt_of_cell? w _ hcd
  have l3 := h.lt
  clear ht h hd
  unfold wf
  generalize wr t x = R at *
  obtain ⟨⟨S, F⟩, E⟩ := R
  obtain ⟨s, f⟩ := t
  dsimp only at *
  by_cases hE : E = 0
  · subst hE
    by_cases hc : d.cap < x.size + d.used
    · rw [if_pos ⟨rfl, hc⟩]
      have hcd : decide ((d.cap : Int) - (d.used : Int) < (x.size : Int)) = true := decide_eq_true (by omega)
      dsimp only [t0]
      go_enter Try.func40, Try.ntmps40
      go_wp2_with fail
      refine (HT.out _).mono ?_
      rintro e w' ⟨rfl, hb⟩
      obtain ⟨x1, c0, c1, f0, f1, hB⟩ := two_after hb
      have X1 := Lib.hid x1
      have HB := Lib.hid hB
      clear x1 c0 c1 f0 f1 hB hb
      go_wp2
      have HW1 := Lib.hid (HB.out.alloc HB.out.size (.cells #[.string S, .int .i64 (F : Int)] 66))
      have X2 := Lib.hid (X1.out.alloc (.cells #[.string S, .int .i64 (F : Int)] 66))
      have X3 := Lib.hid (Box2.new w' 66 (.string S) (.int .i64 (F : Int)))
      have hw1 : w'.heap.size < (w'.alloc (.cells #[.string S, .int .i64 (F : Int)] 66)).heap.size := by simp
      have hw0 := HB.out.size
      generalize hW1 : w'.alloc (.cells #[.string S, .int .i64 (F : Int)] 66) = W1 at *
      clear hW1
      have k0 := cell_regrown ((HW1.out.cell l1).trans HX.out)
      have k1 := cell_regrown ((HW1.out.cell l2).trans HC.out)
      have hd1 := HD.out.below HW1.out l3
      have k2 := cell_regrown hd1.cap
      have HU1 : Hid (∀ d' os, _) := Lib.hid (fun d' os => Calls.regrown_of (HU.out _ (hd1.below (below_regrown W1 d' os) hd1.lt)))
      clear hd1
      refine wp_region_quiet_below (by kernel_rfl) (by kernel_rfl) ?_
      iterate 10 (go_big_quiet_step (fail))
      go_big_quiet_step (first | (go_at_call 15; exact HU1.out _ _))
      iterate 3 (go_big_quiet_step (fail))
      refine wpQuiet_nil ?_
      intro W2 hw2
      have hb2 : Below W1.heap.size W1 W2 := by obtain ⟨q, rfl⟩ := hw2; exact below_regrown _ _ _
      have HB2 := Lib.hid (HW1.out.trans (hb2.mono HW1.out.size))
      have x2 := X2.out.below hb2 X2.out.lt
      have x3 := X3.out.below hb2 X3.out.lt
      have c0 := x2.c0
      have c1 := x2.c1
      have f0 := x2.free 0
      have f1 := x2.free 1
      have e0 := x3.c0
      have e1 := x3.c1
      clear hw2 hb2 k0 k1 k2
      go_wp2
      exact retc2 Try.results40 (w.heap.size + 1) rfl rfl rfl (x2.set _ _) ⟨rfl, below_set (below_set HB2.out (by omega) _ _) (by omega) _ _⟩
    · rw [if_neg (by simp [hc])]
      have hcd : decide ((d.cap : Int) - (d.used : Int) < (x.size : Int)) = false := decide_eq_false (by omega)
      go_enter Try.func40, Try.ntmps40
      go_wp2_with fail
      refine (HT.out _).mono ?_
      rintro e w' ⟨rfl, hb⟩
      obtain ⟨x1, c0, c1, f0, f1, hB⟩ := two_after hb
      have X1 := Lib.hid x1
      have HB := Lib.hid hB
      clear x1 c0 c1 f0 f1 hB hb
      go_wp2
      have HW1 := Lib.hid (HB.out.alloc HB.out.size (.cells #[.string S, .int .i64 (F : Int)] 66))
      have X2 := Lib.hid (X1.out.alloc (.cells #[.string S, .int .i64 (F : Int)] 66))
      have X3 := Lib.hid (Box2.new w' 66 (.string S) (.int .i64 (F : Int)))
      have hw1 : w'.heap.size < (w'.alloc (.cells #[.string S, .int .i64 (F : Int)] 66)).heap.size := by simp
      have hw0 := HB.out.size
      generalize hW1 : w'.alloc (.cells #[.string S, .int .i64 (F : Int)] 66) = W1 at *
      clear hW1
      have k0 := cell_regrown ((HW1.out.cell l1).trans HX.out)
      have k1 := cell_regrown ((HW1.out.cell l2).trans HC.out)
      have hd1 := HD.out.below HW1.out l3
      have k2 := cell_regrown hd1.cap
      have HU1 : Hid (∀ d' os, _) := Lib.hid (fun d' os => Calls.regrown_of (HU.out _ (hd1.below (below_regrown W1 d' os) hd1.lt)))
      clear hd1
      refine wp_region_quiet_below (by kernel_rfl) (by kernel_rfl) ?_
      iterate 10 (go_big_quiet_step (fail))
      go_big_quiet_step (first | (go_at_call 15; exact HU1.out _ _))
      iterate 3 (go_big_quiet_step (fail))
      refine wpQuiet_nil ?_
      intro W2 hw2
      have hb2 : Below W1.heap.size W1 W2 := by obtain ⟨q, rfl⟩ := hw2; exact below_regrown _ _ _
      have HB2 := Lib.hid (HW1.out.trans (hb2.mono HW1.out.size))
      have x2 := X2.out.below hb2 X2.out.lt
      have x3 := X3.out.below hb2 X3.out.lt
      have c0 := x2.c0
      have c1 := x2.c1
      have f0 := x2.free 0
      have f1 := x2.free 1
      have e0 := x3.c0
      have e1 := x3.c1
      clear hw2 hb2 k0 k1 k2
      go_wp2
      exact retc2 Try.results40 (w.heap.size + 1) rfl rfl rfl (x2.set _ _) ⟨rfl, below_set (below_set HB2.out (by omega) _ _) (by omega) _ _⟩
  · rw [if_neg (by simp [hE])]
    have hE2 : decide ((E : Int) = 0) = false := decide_eq_false (by omega)
    have hE3 : ((E : Int) == 0) = false := by rw [beq_eq_false_iff_ne]; omega
    go_enter Try.func40, Try.ntmps40
    go_wp2_with fail
    refine (HT.out _).mono ?_
    rintro e w' ⟨rfl, hb⟩
    obtain ⟨x1, c0, c1, f0, f1, hB⟩ := two_after hb
    have X1 := Lib.hid x1
    have HB := Lib.hid hB
    clear x1 c0 c1 f0 f1 hB hb
    go_wp2
    have HW1 := Lib.hid (HB.out.alloc HB.out.size (.cells #[.string S, .int .i64 (F : Int)] 66))
    have X2 := Lib.hid (X1.out.alloc (.cells #[.string S, .int .i64 (F : Int)] 66))
    have X3 := Lib.hid (Box2.new w' 66 (.string S) (.int .i64 (F : Int)))
    have hw1 : w'.heap.size < (w'.alloc (.cells #[.string S, .int .i64 (F : Int)] 66)).heap.size := by simp
    have hw0 := HB.out.size
    generalize hW1 : w'.alloc (.cells #[.string S, .int .i64 (F : Int)] 66) = W1 at *
    clear hW1
    have k0 := cell_regrown ((HW1.out.cell l1).trans HX.out)
    have k1 := cell_regrown ((HW1.out.cell l2).trans HC.out)
    have hd1 := HD.out.below HW1.out l3
    have k2 := cell_regrown hd1.cap
    have HU1 : Hid (∀ d' os, _) := Lib.hid (fun d' os => Calls.regrown_of (HU.out _ (hd1.below (below_regrown W1 d' os) hd1.lt)))
    clear hd1
    refine wp_region_quiet_below (by kernel_rfl) (by kernel_rfl) ?_
    iterate 14 (go_big_quiet_step (fail))
    refine wpQuiet_nil ?_
    intro W2 hw2
    have hb2 : Below W1.heap.size W1 W2 := by obtain ⟨q, rfl⟩ := hw2; exact below_regrown _ _ _
    have HB2 := Lib.hid (HW1.out.trans (hb2.mono HW1.out.size))
    have x2 := X2.out.below hb2 X2.out.lt
    have x3 := X3.out.below hb2 X3.out.lt
    have c0 := x2.c0
    have c1 := x2.c1
    have f0 := x2.free 0
    have f1 := x2.free 1
    have e0 := x3.c0
    have e1 := x3.c1
    clear hw2 hb2 k0 k1 k2
    go_wp2
    exact retc2 Try.results40 (w.heap.size + 1) rfl rfl rfl (x2.set _ _) ⟨rfl, below_set (below_set HB2.out (by omega) _ _) (by omega) _ _⟩
end Go.Proofs.Yticponohbnkgdaa
