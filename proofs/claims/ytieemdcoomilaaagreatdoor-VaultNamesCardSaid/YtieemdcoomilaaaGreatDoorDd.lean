/- Where a tape stands; what a thing that is done is told by; do. -/
import Derived.Test.YtieemdcoomilaaaGreatDoorDa
import Derived.Lib.QuietBelow
set_option linter.unusedVariables false
set_option linter.unusedSimpArgs false
namespace Go.Proofs.YtieemdcoomilaaaGreatDoor
open Go Go.RowKit
set_option maxRecDepth 100000
set_option maxHeartbeats 400000 in
theorem at_dn (B : Nat) (d : Dk) (t : Int) (w : World) (h : DAt w B d) (hd : d.dn = true) : Calls Tryz.prog 108 #[.pointer (some ⟨B, 0, none⟩), .int .i64 t] w fun e w' => e = .returned (.tuple #[.pointer none, .int .i64 45]) ∧ w = w' := by
  have H := Lib.hid (ready_any B d w h.dn)
  rw [hd, if_pos rfl] at H
  go_enter Tryz.func108, Tryz.ntmps108
  go_wp2_with fail
  refine H.out.mono ?_
  rintro e w' ⟨rfl, rfl⟩
  go_wp2
  go_ret2
  exact ⟨rfl, rfl⟩
set_option maxHeartbeats 400000 in
theorem at_out (B : Nat) (d : Dk) (t : Int) (w : World) (h : DAt w B d) (hd : d.dn = false) (ht : ¬ (0 ≤ t ∧ t < 32)) : Calls Tryz.prog 108 #[.pointer (some ⟨B, 0, none⟩), .int .i64 t] w fun e w' => e = .returned (.tuple #[.pointer none, .int .i64 1]) ∧ w = w' := by
  have H := Lib.hid (ready_any B d w h.dn)
  rw [hd, if_neg (by simp)] at H
  by_cases h0 : t < 0
  · go_enter Tryz.func108, Tryz.ntmps108
    go_wp2_with fail
    refine H.out.mono ?_
    rintro e w' ⟨rfl, rfl⟩
    go_wp2
    go_ret2
    exact ⟨rfl, rfl⟩
  · have h1 : 32 ≤ t := by omega
    have h2 : 0 ≤ t := by omega
    go_enter Tryz.func108, Tryz.ntmps108
    go_wp2_with fail
    refine H.out.mono ?_
    rintro e w' ⟨rfl, rfl⟩
    go_wp2
    go_ret2
    exact ⟨rfl, rfl⟩
set_option maxHeartbeats 400000 in
theorem at_in (B : Nat) (d : Dk) (t : Nat) (w : World) (h : DAt w B d) (hd : d.dn = false) (ht : t < 32) : Calls Tryz.prog 108 #[.pointer (some ⟨B, 0, none⟩), .int .i64 (t : Int)] w fun e w' => e = .returned (.tuple #[.pointer (some ⟨B, 1 + t * 2, none⟩), .int .i64 0]) ∧ w = w' := by
  have H := Lib.hid (ready_any B d w h.dn)
  rw [hd, if_neg (by simp)] at H
  go_enter Tryz.func108, Tryz.ntmps108
  go_wp2_with fail
  refine H.out.mono ?_
  rintro e w' ⟨rfl, rfl⟩
  go_wp2
  go_ret2
  exact ⟨rfl, rfl⟩
/-- What a write makes of a tape on a disk of so much room. -/
def wf (d : Dk) (x : ByteArray) (t : Tp) : Tp × Nat := if (wr t x).2 = 0 ∧ d.cap < x.size + d.used then (t0, 44) else wr t x
set_option maxHeartbeats 400000 in
theorem writef_any (bx bd B : Nat) (d : Dk) (t : Tp) (x : ByteArray) (w : World) (ht : t.ok) (hx : x.size ≤ 9223372036854775807) (hd : d.ok) (hcx : w.cell? ⟨bx, 0, none⟩ = some (.string x)) (hcd : w.cell? ⟨bd, 0, none⟩ = some (.pointer (some ⟨B, 0, none⟩))) (h : DAt w B d) :
    Calls Tryz.prog 81 #[.agg #[.string t.s, .int .i64 (t.f : Int)], .pointer (some ⟨bx, 0, none⟩), .pointer (some ⟨bd, 0, none⟩)] w (Ret w (.tuple #[.agg #[.string (wf d x t).1.s, .int .i64 ((wf d x t).1.f : Int)], .int .i64 ((wf d x t).2 : Int)])) := by
  have HT := Lib.hid (fun W => written_any t x W (Nat.le_trans ht.2 (by decide)) hx)
  have HU := Lib.hid (fun W hW => used_any B d W hW hd)
  have hu := hd.used
  have hsz := hd.size
  have hcp := hd.cap
  have HD := Lib.hid h
  have HX := Lib.hid hcx
  have HC := Lib.hid hcd
  have l1 := World.block_lt_of_cell? w _ hcx
  have l2 := World.block_lt_of_cell? w _ hcd
  have l3 := h.lt
  clear ht h hd
  unfold wf
  generalize wr t x = R at *
  obtain ⟨⟨S, F⟩, E⟩ := R
  obtain ⟨s, f⟩ := t
  dsimp only at *
  by_cases hE : E = 0
  · subst hE
    by_cases hc : d.cap < x.size + d.used
    · rw [if_pos ⟨rfl, hc⟩]
      have hcd : decide ((d.cap : Int) - (d.used : Int) < (x.size : Int)) = true := decide_eq_true (by omega)
      dsimp only [t0]
      go_enter Tryz.func81, Tryz.ntmps81
      go_wp2_with fail
      refine (HT.out _).mono ?_
      rintro e w' ⟨rfl, hb⟩
      obtain ⟨x1, c0, c1, f0, f1, hB⟩ := two_after hb
      have X1 := Lib.hid x1
      have HB := Lib.hid hB
      clear x1 c0 c1 f0 f1 hB hb
      go_wp2
      have HW1 := Lib.hid (HB.out.alloc HB.out.size (.cells #[.string S, .int .i64 (F : Int)] 100))
      have X2 := Lib.hid (X1.out.alloc (.cells #[.string S, .int .i64 (F : Int)] 100))
      have X3 := Lib.hid (Box2.new w' 100 (.string S) (.int .i64 (F : Int)))
      have hw1 : w'.heap.size < (w'.alloc (.cells #[.string S, .int .i64 (F : Int)] 100)).heap.size := by simp
      have hw0 := HB.out.size
      generalize hW1 : w'.alloc (.cells #[.string S, .int .i64 (F : Int)] 100) = W1 at *
      clear hW1
      have k0 := cell_regrown ((HW1.out.cell l1).trans HX.out)
      have k1 := cell_regrown ((HW1.out.cell l2).trans HC.out)
      have hd1 := HD.out.below HW1.out l3
      have k2 := cell_regrown hd1.cap
      have HU1 : Hid (∀ d' os, _) := Lib.hid (fun d' os => Calls.regrown_of (HU.out _ (hd1.below (below_regrown W1 d' os) hd1.lt)))
      clear hd1
      refine wp_region_quiet_below (by kernel_rfl) (by kernel_rfl) ?_
      iterate 10 (go_big_quiet_step (fail))
      go_big_quiet_step (first | (go_at_call 34; exact HU1.out _ _))
      iterate 3 (go_big_quiet_step (fail))
      refine wpQuiet_nil ?_
      intro W2 hw2
      have hb2 : Below W1.heap.size W1 W2 := by obtain ⟨q, rfl⟩ := hw2; exact below_regrown _ _ _
      have HB2 := Lib.hid (HW1.out.trans (hb2.mono HW1.out.size))
      have x2 := X2.out.below hb2 X2.out.lt
      have x3 := X3.out.below hb2 X3.out.lt
      have c0 := x2.c0
      have c1 := x2.c1
      have f0 := x2.free 0
      have f1 := x2.free 1
      have e0 := x3.c0
      have e1 := x3.c1
      clear hw2 hb2 k0 k1 k2
      go_wp2
      exact retc2 Tryz.results81 (w.heap.size + 1) rfl rfl rfl (x2.set _ _) ⟨rfl, below_setD (below_setD HB2.out (by omega) _ _) (by omega) _ _⟩
    · rw [if_neg (by simp [hc])]
      have hcd : decide ((d.cap : Int) - (d.used : Int) < (x.size : Int)) = false := decide_eq_false (by omega)
      go_enter Tryz.func81, Tryz.ntmps81
      go_wp2_with fail
      refine (HT.out _).mono ?_
      rintro e w' ⟨rfl, hb⟩
      obtain ⟨x1, c0, c1, f0, f1, hB⟩ := two_after hb
      have X1 := Lib.hid x1
      have HB := Lib.hid hB
      clear x1 c0 c1 f0 f1 hB hb
      go_wp2
      have HW1 := Lib.hid (HB.out.alloc HB.out.size (.cells #[.string S, .int .i64 (F : Int)] 100))
      have X2 := Lib.hid (X1.out.alloc (.cells #[.string S, .int .i64 (F : Int)] 100))
      have X3 := Lib.hid (Box2.new w' 100 (.string S) (.int .i64 (F : Int)))
      have hw1 : w'.heap.size < (w'.alloc (.cells #[.string S, .int .i64 (F : Int)] 100)).heap.size := by simp
      have hw0 := HB.out.size
      generalize hW1 : w'.alloc (.cells #[.string S, .int .i64 (F : Int)] 100) = W1 at *
      clear hW1
      have k0 := cell_regrown ((HW1.out.cell l1).trans HX.out)
      have k1 := cell_regrown ((HW1.out.cell l2).trans HC.out)
      have hd1 := HD.out.below HW1.out l3
      have k2 := cell_regrown hd1.cap
      have HU1 : Hid (∀ d' os, _) := Lib.hid (fun d' os => Calls.regrown_of (HU.out _ (hd1.below (below_regrown W1 d' os) hd1.lt)))
      clear hd1
      refine wp_region_quiet_below (by kernel_rfl) (by kernel_rfl) ?_
      iterate 10 (go_big_quiet_step (fail))
      go_big_quiet_step (first | (go_at_call 34; exact HU1.out _ _))
      iterate 3 (go_big_quiet_step (fail))
      refine wpQuiet_nil ?_
      intro W2 hw2
      have hb2 : Below W1.heap.size W1 W2 := by obtain ⟨q, rfl⟩ := hw2; exact below_regrown _ _ _
      have HB2 := Lib.hid (HW1.out.trans (hb2.mono HW1.out.size))
      have x2 := X2.out.below hb2 X2.out.lt
      have x3 := X3.out.below hb2 X3.out.lt
      have c0 := x2.c0
      have c1 := x2.c1
      have f0 := x2.free 0
      have f1 := x2.free 1
      have e0 := x3.c0
      have e1 := x3.c1
      clear hw2 hb2 k0 k1 k2
      go_wp2
      exact retc2 Tryz.results81 (w.heap.size + 1) rfl rfl rfl (x2.set _ _) ⟨rfl, below_setD (below_setD HB2.out (by omega) _ _) (by omega) _ _⟩
  · rw [if_neg (by simp [hE])]
    have hE2 : decide ((E : Int) = 0) = false := decide_eq_false (by omega)
    have hE3 : ((E : Int) == 0) = false := by rw [beq_eq_false_iff_ne]; omega
    go_enter Tryz.func81, Tryz.ntmps81
    go_wp2_with fail
    refine (HT.out _).mono ?_
    rintro e w' ⟨rfl, hb⟩
    obtain ⟨x1, c0, c1, f0, f1, hB⟩ := two_after hb
    have X1 := Lib.hid x1
    have HB := Lib.hid hB
    clear x1 c0 c1 f0 f1 hB hb
    go_wp2
    have HW1 := Lib.hid (HB.out.alloc HB.out.size (.cells #[.string S, .int .i64 (F : Int)] 100))
    have X2 := Lib.hid (X1.out.alloc (.cells #[.string S, .int .i64 (F : Int)] 100))
    have X3 := Lib.hid (Box2.new w' 100 (.string S) (.int .i64 (F : Int)))
    have hw1 : w'.heap.size < (w'.alloc (.cells #[.string S, .int .i64 (F : Int)] 100)).heap.size := by simp
    have hw0 := HB.out.size
    generalize hW1 : w'.alloc (.cells #[.string S, .int .i64 (F : Int)] 100) = W1 at *
    clear hW1
    have k0 := cell_regrown ((HW1.out.cell l1).trans HX.out)
    have k1 := cell_regrown ((HW1.out.cell l2).trans HC.out)
    have hd1 := HD.out.below HW1.out l3
    have k2 := cell_regrown hd1.cap
    have HU1 : Hid (∀ d' os, _) := Lib.hid (fun d' os => Calls.regrown_of (HU.out _ (hd1.below (below_regrown W1 d' os) hd1.lt)))
    clear hd1
    refine wp_region_quiet_below (by kernel_rfl) (by kernel_rfl) ?_
    iterate 14 (go_big_quiet_step (fail))
    refine wpQuiet_nil ?_
    intro W2 hw2
    have hb2 : Below W1.heap.size W1 W2 := by obtain ⟨q, rfl⟩ := hw2; exact below_regrown _ _ _
    have HB2 := Lib.hid (HW1.out.trans (hb2.mono HW1.out.size))
    have x2 := X2.out.below hb2 X2.out.lt
    have x3 := X3.out.below hb2 X3.out.lt
    have c0 := x2.c0
    have c1 := x2.c1
    have f0 := x2.free 0
    have f1 := x2.free 1
    have e0 := x3.c0
    have e1 := x3.c1
    clear hw2 hb2 k0 k1 k2
    go_wp2
    exact retc2 Tryz.results81 (w.heap.size + 1) rfl rfl rfl (x2.set _ _) ⟨rfl, below_setD (below_setD HB2.out (by omega) _ _) (by omega) _ _⟩
end Go.Proofs.YtieemdcoomilaaaGreatDoor
namespace Go.Proofs.YtieemdcoomilaaaGreatDoor
open Go Go.RowKit
set_option maxRecDepth 100000
/-- What comes of one thing that is done. -/
def res (d : Dk) (t : Int) (g : Tp → Tp × Nat) : Tp × Nat := if 0 ≤ t ∧ t < 32 then g (d.T t.toNat) else (t0, 1)
def fallen (d : Dk) : Dk := { d with dn := true, dm := false }
def doD (d : Dk) (t : Int) (torn : Bool) (g : Tp → Tp × Nat) : Dk × Nat :=
  if d.dn = true then (d, 45)
  else if d.dm = true ∧ d.left = 0 then (if torn = true ∧ (res d t g).2 = 0 then { fallen d with T := upd d.T t.toNat (res d t g).1 } else fallen d, 45)
  else if (res d t g).2 ≠ 0 then (d, (res d t g).2)
  else ({ d with T := upd d.T t.toNat (res d t g).1, left := if d.dm = true then d.left - 1 else d.left }, 0)
/-- What a call on a disk leaves: the value, the disk, and nothing else that was there has turned. -/
def DRet (w : World) (B : Nat) (v : Value) (d : Dk) (e : Ending) (w' : World) : Prop := e = .returned v ∧ DAt w' B d ∧ w.grownBy w' (some B)
theorem DAt.grown {w w' : World} {B : Nat} {d : Dk} (h : DAt w B d) {r : Option Nat} (hg : w.grownBy w' r) (hr : some B ≠ r) : DAt w' B d := h.congr (hg.block B h.lt hr)
theorem do_dn (B : Nat) (d : Dk) (t : Int) (torn : Bool) (V : Value) (w : World) (h : DAt w B d) (hdn : d.dn = true) :
    Calls Tryz.prog 80 #[.pointer (some ⟨B, 0, none⟩), .int .i64 t, .bool torn, V] w (DRet w B (.int .i64 45) d) := by
  have HR := Lib.hid (ready_any B d w h.dn)
  rw [hdn, if_pos rfl] at HR
  go_enter Tryz.func80, Tryz.ntmps80
  go_wp2_with fail
  refine HR.out.mono ?_
  rintro e w' ⟨rfl, rfl⟩
  go_wp2
  go_ret
  exact ⟨rfl, h, World.grownBy.refl _ _⟩
/-- What is known behind the deed: the world is w2, the outcome lies in a block of the call's own. -/
structure Mid (w : World) (B : Nat) (d : Dk) (w2 : World) (S : ByteArray) (F : Int) : Prop where
  at' : DAt w2 B d
  box : Box2 w2 w.heap.size 100 (.string S) (.int .i64 F)
  below : Below w.heap.size w w2
  lt : B < w.heap.size
theorem Mid.done {w : World} {B : Nat} {d : Dk} {w2 : World} {S : ByteArray} {F : Int} (h : Mid w B d w2 S F) {w3 : World} (hg : w2.grownBy w3 (some B)) : w.grownBy w3 (some B) :=
  grown_trans (grown_below h.below _) hg
theorem grown_set2 (w : World) (B j k : Nat) (u v : Value) : w.grownBy ((w.setCell ⟨B, j, none⟩ u).setCell ⟨B, k, none⟩ v) (some B) := grown_trans (grown_setCell w B j u) (grown_setCell _ B k v)
set_option maxHeartbeats 1000000 in
theorem do_in (B : Nat) (d : Dk) (t : Nat) (torn : Bool) (F : FuncId) (cap : Array Value) (g : Tp → Tp × Nat) (w : World) (h : DAt w B d) (hl : d.left ≤ 9223372036854775807) (hdn : d.dn = false) (ht : t < 32) (hcf : ∀ args W, (callFunc F args).run Tryz.prog W = .ok (.enter F args) W)
    (HF : Hid (∀ W, Below w.heap.size w W → Calls Tryz.prog F (#[.agg #[.string (d.T t).s, .int .i64 ((d.T t).f : Int)]] ++ cap) W (Ret W (.tuple #[.agg #[.string (g (d.T t)).1.s, .int .i64 ((g (d.T t)).1.f : Int)], .int .i64 ((g (d.T t)).2 : Int)])))) :
    Calls Tryz.prog 80 #[.pointer (some ⟨B, 0, none⟩), .int .i64 (t : Int), .bool torn, .func (.func F) #[] cap] w (DRet w B (.int .i64 ((doD d t torn g).2 : Int)) (doD d t torn g).1) := by
  have HR := Lib.hid (ready_any B d w h.dn)
  rw [hdn, if_neg (by simp)] at HR
  have HA := Lib.hid (fun W hW => at_in B d t W hW hdn ht)
  have hres : res d (t : Int) g = g (d.T t) := by unfold res; rw [if_pos (by omega), Int.toNat_natCast]
  generalize hD : doD d t torn g = X
  unfold doD at hD
  rw [hdn, if_neg (by simp), hres, Int.toNat_natCast] at hD
  have hs := h.s t ht
  have hf := h.f t ht
  have l := h.lt
  have l2 : B ≠ w.heap.size := by omega
  have H := Lib.hid h
  generalize (g (d.T t)) = R at *
  obtain ⟨⟨S, G⟩, E⟩ := R
  have HD := Lib.hid hD
  clear hD
  dsimp only at *
  generalize (d.T t).s = S0 at *
  generalize (d.T t).f = F0 at *
  clear hres h
  go_enter Tryz.func80, Tryz.ntmps80
  go_wp2_with fail
  refine HR.out.mono ?_
  rintro e w' ⟨rfl, rfl⟩
  go_wp2_with fail
  refine (HA.out _ (H.out.alloc _)).mono ?_
  rintro e w' ⟨rfl, rfl⟩
  go_wp2_with fail
  refine (HF.out _ ((Below.refl _ _).alloc (Nat.le_refl _) _)).mono ?_
  rintro e w2 ⟨rfl, hb⟩
  have hb2 : Below w.heap.size w w2 := below_trans' ((Below.refl _ _).alloc (Nat.le_refl _) _) hb
  have x1 : Box2 w2 w.heap.size 100 (.string ⟨#[]⟩) (.int .i64 0) := Box2.below (Box2.new w 100 _ _) hb (by simp)
  have hd2 := H.out.below hb2 l
  have a0 := x1.c0
  have a1 := x1.c1
  have a2 := x1.free 0
  have a3 := x1.free 1
  have HX1 := Lib.hid x1
  have HB2 := Lib.hid hb2
  have HD2 := Lib.hid hd2
  clear hs hf
  have c65 := hd2.dn
  have c66 := hd2.dm
  have c67 := hd2.left
  have f65 := hd2.fz 65
  have f66 := hd2.fz 66
  have f67 := hd2.fz 67
  have cs := hd2.s t ht
  have cf := hd2.f t ht
  have fs := hd2.fz (1 + t * 2)
  have ff := hd2.fz (1 + t * 2 + 1)
  clear hb hb2 x1 hd2
  have HM : Hid (Mid w B d ((w2.setCell ⟨w.heap.size, 0, none⟩ (.string S)).setCell ⟨w.heap.size, 1, none⟩ (.int .i64 (G : Int))) S (G : Int)) := Lib.hid ⟨(HD2.out.apart (a := ⟨w.heap.size, 0, none⟩) l2 _).apart (a := ⟨w.heap.size, 1, none⟩) l2 _, HX1.out.set _ _, below_setD (below_setD HB2.out (Nat.le_refl _) _ _) (Nat.le_refl _) _ _, l⟩
  clear HX1 HB2 HD2
  cases hm : d.dm
  · rw [hm] at c66
    by_cases hE : E = 0
    · have hEd : decide ((E : Int) = 0) = true := decide_eq_true (by omega)
      have hE2 : ((E : Int) == 0) = true := by rw [beq_iff_eq]; omega
      have hE3 : ((E : Int) != 0) = false := by rw [bne_eq_false_iff_eq]; omega
      have HX2 : Hid (X = ({ d with T := upd d.T t ⟨S, G⟩ }, 0)) := Lib.hid (by rw [← HD.out, hm, if_neg (by simp), if_neg (by omega)]; simp [hdn])
      clear HD
      go_wp2
      go_ret
      rw [HX2.out]
      exact ⟨rfl, HM.out.at'.setT ht ⟨S, G⟩, HM.out.done (grown_set2 _ _ _ _ _ _)⟩
    · have hEd : decide ((E : Int) = 0) = false := decide_eq_false (by omega)
      have hE2 : ((E : Int) == 0) = false := by rw [beq_eq_false_iff_ne]; omega
      have hE3 : ((E : Int) != 0) = true := by rw [bne_iff_ne]; omega
      have HX2 : Hid (X = (d, E)) := Lib.hid (by rw [← HD.out, hm, if_neg (by simp), if_pos (by omega)])
      clear HD
      go_wp2
      go_ret
      rw [HX2.out]
      exact ⟨rfl, HM.out.at', HM.out.done (World.grownBy.refl _ _)⟩
  · rw [hm] at c66
    by_cases h0 : d.left = 0
    · have h0d : decide ((d.left : Int) = 0) = true := decide_eq_true (by omega)
      have h02 : ((d.left : Int) == 0) = true := by rw [beq_iff_eq]; omega
      by_cases hE : E = 0
      · have hEd : decide ((E : Int) = 0) = true := decide_eq_true (by omega)
        have hE2 : ((E : Int) == 0) = true := by rw [beq_iff_eq]; omega
        have hE3 : ((E : Int) != 0) = false := by rw [bne_eq_false_iff_eq]; omega
        cases torn
        · have HX2 : Hid (X = (fallen d, 45)) := Lib.hid (by rw [← HD.out, if_pos ⟨hm, h0⟩, if_neg (by simp)])
          clear HD
          go_wp2
          go_ret
          rw [HX2.out]
          exact ⟨rfl, (HM.out.at'.setDn _).setDm _, HM.out.done (grown_set2 _ _ _ _ _ _)⟩
        · have HX2 : Hid (X = ({ fallen d with T := upd d.T t ⟨S, G⟩ }, 45)) := Lib.hid (by rw [← HD.out, if_pos ⟨hm, h0⟩, if_pos ⟨rfl, hE⟩])
          clear HD
          go_wp2
          go_ret
          rw [HX2.out]
          exact ⟨rfl, ((HM.out.at'.setDn _).setDm _).setT ht ⟨S, G⟩, HM.out.done (grown_trans (grown_set2 _ _ _ _ _ _) (grown_set2 _ _ _ _ _ _))⟩
      · have hEd : decide ((E : Int) = 0) = false := decide_eq_false (by omega)
        have hE2 : ((E : Int) == 0) = false := by rw [beq_eq_false_iff_ne]; omega
        have hE3 : ((E : Int) != 0) = true := by rw [bne_iff_ne]; omega
        have HX2 : Hid (X = (fallen d, 45)) := Lib.hid (by rw [← HD.out, if_pos ⟨hm, h0⟩, if_neg (by simp [hE])])
        clear HD
        cases torn
        · go_wp2
          go_ret
          rw [HX2.out]
          exact ⟨rfl, (HM.out.at'.setDn _).setDm _, HM.out.done (grown_set2 _ _ _ _ _ _)⟩
        · go_wp2
          go_ret
          rw [HX2.out]
          exact ⟨rfl, (HM.out.at'.setDn _).setDm _, HM.out.done (grown_set2 _ _ _ _ _ _)⟩
    · have h0d : decide ((d.left : Int) = 0) = false := decide_eq_false (by omega)
      have h02 : ((d.left : Int) == 0) = false := by rw [beq_eq_false_iff_ne]; omega
      by_cases hE : E = 0
      · have hEd : decide ((E : Int) = 0) = true := decide_eq_true (by omega)
        have hE2 : ((E : Int) == 0) = true := by rw [beq_iff_eq]; omega
        have hE3 : ((E : Int) != 0) = false := by rw [bne_eq_false_iff_eq]; omega
        have HX2 : Hid (X = ({ d with T := upd d.T t ⟨S, G⟩, left := d.left - 1 }, 0)) := Lib.hid (by rw [← HD.out, if_neg (by simp [h0]), if_neg (by omega), if_pos hm]; simp [hdn])
        have hl1 : (d.left : Int) - 1 = ((d.left - 1 : Nat) : Int) := by omega
        have HL1 := Lib.hid hl1
        clear HD hl1
        go_wp2
        go_ret
        rw [HX2.out, HL1.out]
        exact ⟨rfl, (HM.out.at'.setT ht ⟨S, G⟩).setLeft _, HM.out.done (grown_trans (grown_set2 _ _ _ _ _ _) (grown_setCell _ _ _ _))⟩
      · have hEd : decide ((E : Int) = 0) = false := decide_eq_false (by omega)
        have hE2 : ((E : Int) == 0) = false := by rw [beq_eq_false_iff_ne]; omega
        have hE3 : ((E : Int) != 0) = true := by rw [bne_iff_ne]; omega
        have HX2 : Hid (X = (d, E)) := Lib.hid (by rw [← HD.out, if_neg (by simp [h0]), if_pos (by omega)])
        clear HD
        go_wp2
        go_ret
        rw [HX2.out]
        exact ⟨rfl, HM.out.at', HM.out.done (World.grownBy.refl _ _)⟩
set_option maxHeartbeats 1000000 in
theorem do_out (B : Nat) (d : Dk) (t : Int) (torn : Bool) (V : Value) (g : Tp → Tp × Nat) (w : World) (h : DAt w B d) (hdn : d.dn = false) (ht : ¬ (0 ≤ t ∧ t < 32)) :
    Calls Tryz.prog 80 #[.pointer (some ⟨B, 0, none⟩), .int .i64 t, .bool torn, V] w (DRet w B (.int .i64 ((doD d t torn g).2 : Int)) (doD d t torn g).1) := by
  have HR := Lib.hid (ready_any B d w h.dn)
  rw [hdn, if_neg (by simp)] at HR
  have HA := Lib.hid (fun W hW => at_out B d t W hW hdn ht)
  have hres : res d t g = (t0, 1) := by unfold res; rw [if_neg ht]
  generalize hD : doD d t torn g = X
  unfold doD at hD
  rw [hdn, if_neg (by simp), hres] at hD
  have l := h.lt
  have l2 : B ≠ w.heap.size := by omega
  have HD := Lib.hid hD
  have c66 := h.dm
  have c67 := h.left
  have f65 := h.fz 65
  have f66 := h.fz 66
  have c65 := h.dn
  have HM : Hid (DAt (w.alloc (.cells #[.string ⟨#[]⟩, .int .i64 0] 100)) B d) := Lib.hid (h.alloc _)
  have HG : Hid (w.grownBy (w.alloc (.cells #[.string ⟨#[]⟩, .int .i64 0] 100)) (some B)) := Lib.hid (grown_below ((Below.refl _ _).alloc (Nat.le_refl _) _) _)
  clear hD hres
  cases hm : d.dm
  · rw [hm] at c66
    have HX2 : Hid (X = (d, 1)) := Lib.hid (by rw [← HD.out, hm, if_neg (by simp), if_pos (by simp)])
    clear HD
    go_enter Tryz.func80, Tryz.ntmps80
    go_wp2_with fail
    refine HR.out.mono ?_
    rintro e w' ⟨rfl, rfl⟩
    go_wp2_with fail
    refine (HA.out _ (h.alloc _)).mono ?_
    rintro e w' ⟨rfl, rfl⟩
    go_wp2
    go_ret
    rw [HX2.out]
    exact ⟨rfl, HM.out, HG.out⟩
  · rw [hm] at c66
    by_cases h0 : d.left = 0
    · have h0d : decide ((d.left : Int) = 0) = true := decide_eq_true (by omega)
      have h02 : ((d.left : Int) == 0) = true := by rw [beq_iff_eq]; omega
      have HX2 : Hid (X = (fallen d, 45)) := Lib.hid (by rw [← HD.out, if_pos ⟨hm, h0⟩, if_neg (by simp)])
      clear HD
      cases torn
      · go_enter Tryz.func80, Tryz.ntmps80
        go_wp2_with fail
        refine HR.out.mono ?_
        rintro e w' ⟨rfl, rfl⟩
        go_wp2_with fail
        refine (HA.out _ (h.alloc _)).mono ?_
        rintro e w' ⟨rfl, rfl⟩
        go_wp2
        go_ret
        rw [HX2.out]
        exact ⟨rfl, ((h.setDn _).setDm _).alloc _, grown_trans (grown_set2 _ _ _ _ _ _) (grown_below ((Below.refl _ _).alloc (Nat.le_refl _) _) _)⟩
      · go_enter Tryz.func80, Tryz.ntmps80
        go_wp2_with fail
        refine HR.out.mono ?_
        rintro e w' ⟨rfl, rfl⟩
        go_wp2_with fail
        refine (HA.out _ (h.alloc _)).mono ?_
        rintro e w' ⟨rfl, rfl⟩
        go_wp2
        go_ret
        rw [HX2.out]
        exact ⟨rfl, ((h.setDn _).setDm _).alloc _, grown_trans (grown_set2 _ _ _ _ _ _) (grown_below ((Below.refl _ _).alloc (Nat.le_refl _) _) _)⟩
    · have h0d : decide ((d.left : Int) = 0) = false := decide_eq_false (by omega)
      have h02 : ((d.left : Int) == 0) = false := by rw [beq_eq_false_iff_ne]; omega
      have HX2 : Hid (X = (d, 1)) := Lib.hid (by rw [← HD.out, if_neg (by simp [h0]), if_pos (by simp)])
      clear HD
      go_enter Tryz.func80, Tryz.ntmps80
      go_wp2_with fail
      refine HR.out.mono ?_
      rintro e w' ⟨rfl, rfl⟩
      go_wp2_with fail
      refine (HA.out _ (h.alloc _)).mono ?_
      rintro e w' ⟨rfl, rfl⟩
      go_wp2
      go_ret
      rw [HX2.out]
      exact ⟨rfl, HM.out, HG.out⟩
end Go.Proofs.YtieemdcoomilaaaGreatDoor
namespace Go.Proofs.YtieemdcoomilaaaGreatDoor
open Go Go.RowKit
set_option maxRecDepth 100000
theorem enters41 (args : Array Value) (W : World) : (callFunc 82 args).run Tryz.prog W = .ok (.enter 82 args) W := by kernel_rfl
theorem enters42 (args : Array Value) (W : World) : (callFunc 120 args).run Tryz.prog W = .ok (.enter 120 args) W := by kernel_rfl
/-- do, of whatever tape. -/
theorem do_any (B : Nat) (d : Dk) (t : Int) (torn : Bool) (F : FuncId) (cap : Array Value) (g : Tp → Tp × Nat) (w : World) (h : DAt w B d) (hd : d.ok) (hcf : ∀ args W, (callFunc F args).run Tryz.prog W = .ok (.enter F args) W)
    (HF : ∀ u : Tp, u.ok → ∀ W, Below w.heap.size w W → Calls Tryz.prog F (#[.agg #[.string u.s, .int .i64 (u.f : Int)]] ++ cap) W (Ret W (.tuple #[.agg #[.string (g u).1.s, .int .i64 ((g u).1.f : Int)], .int .i64 ((g u).2 : Int)]))) :
    Calls Tryz.prog 80 #[.pointer (some ⟨B, 0, none⟩), .int .i64 t, .bool torn, .func (.func F) #[] cap] w (DRet w B (.int .i64 ((doD d t torn g).2 : Int)) (doD d t torn g).1) := by
  cases hdn : d.dn
  · by_cases ht : 0 ≤ t ∧ t < 32
    · obtain ⟨k, rfl⟩ := Int.eq_ofNat_of_zero_le ht.1
      have hk : k < 32 := by omega
      exact do_in B d k torn F cap g w h hd.left hdn hk hcf (Lib.hid (HF _ (hd.t k hk)))
    · exact do_out B d t torn _ g w h hdn ht
  · unfold doD
    rw [hdn, if_pos rfl]
    exact do_dn B d t torn _ w h hdn
theorem enters40 (args : Array Value) (W : World) : (callFunc 81 args).run Tryz.prog W = .ok (.enter 81 args) W := by kernel_rfl
theorem DRet.from {w w1 w' : World} {B : Nat} {v : Value} {d : Dk} {e : Ending} (h : DRet w1 B v d e w') (hb : Below w.heap.size w w1) : DRet w B v d e w' := ⟨h.1, h.2.1, grown_trans (grown_below hb _) h.2.2⟩
set_option maxHeartbeats 400000 in
theorem sync_any (B : Nat) (d : Dk) (t : Int) (w : World) (h : DAt w B d) (hd : d.ok) : Calls Tryz.prog 38 #[.pointer (some ⟨B, 0, none⟩), .int .i64 t] w (DRet w B (.int .i64 ((doD d t false sy).2 : Int)) (doD d t false sy).1) := by
  have H := Lib.hid (do_any B d t false 82 #[] sy w h hd enters41 (fun u hu W _ => by have := synced_any u W; simpa using this))
  generalize doD d t false sy = X at *
  go_enter Tryz.func38, Tryz.ntmps38
  go_wp2_with fail
  refine H.out.mono ?_
  rintro e w' ⟨rfl, hd2, hg⟩
  go_wp2
  go_ret
  exact ⟨rfl, hd2, hg⟩
set_option maxHeartbeats 400000 in
theorem wipe_any (B : Nat) (d : Dk) (t : Int) (w : World) (h : DAt w B d) (hd : d.ok) : Calls Tryz.prog 99 #[.pointer (some ⟨B, 0, none⟩), .int .i64 t] w (DRet w B (.int .i64 ((doD d t false wi).2 : Int)) (doD d t false wi).1) := by
  have H := Lib.hid (do_any B d t false 120 #[] wi w h hd enters42 (fun u hu W _ => by have := wiped_any u W; simpa using this))
  generalize doD d t false wi = X at *
  go_enter Tryz.func99, Tryz.ntmps99
  go_wp2_with fail
  refine H.out.mono ?_
  rintro e w' ⟨rfl, hd2, hg⟩
  go_wp2
  go_ret
  exact ⟨rfl, hd2, hg⟩
set_option maxHeartbeats 400000 in
theorem write_any (B : Nat) (d : Dk) (t : Int) (x : ByteArray) (w : World) (h : DAt w B d) (hd : d.ok) (hx : x.size ≤ 9223372036854775807) : Calls Tryz.prog 37 #[.pointer (some ⟨B, 0, none⟩), .int .i64 t, .string x] w (DRet w B (.int .i64 ((doD d t true (wf d x)).2 : Int)) (doD d t true (wf d x)).1) := by
  have hmf : ∀ (fn : Fn) (first cap : Array Value) (w : World), (Instr.makeFunc fn first cap).run Tryz.prog w = .ok (.func fn first cap) w := fun _ _ _ _ => rfl
  have hb : Below w.heap.size w ((w.alloc (.cells #[.pointer (some ⟨B, 0, none⟩)] 30)).alloc (.cells #[.string x] 9)) := below_two _ _ _
  have hc1 : ((w.alloc (.cells #[.pointer (some ⟨B, 0, none⟩)] 30)).alloc (.cells #[.string x] 9)).cell? ⟨w.heap.size, 0, none⟩ = some (.pointer (some ⟨B, 0, none⟩)) := cell_of_one ((Below.heap_alloc _ _ _ (by simp)).trans (heap_alloc_new _ _))
  have hc2 : ((w.alloc (.cells #[.pointer (some ⟨B, 0, none⟩)] 30)).alloc (.cells #[.string x] 9)).cell? ⟨w.heap.size + 1, 0, none⟩ = some (.string x) := cell_of_one (heap_two _ _ _)
  have hda := (h.alloc (.cells #[.pointer (some ⟨B, 0, none⟩)] 30)).alloc (.cells #[.string x] 9)
  have hlt : B < ((w.alloc (.cells #[.pointer (some ⟨B, 0, none⟩)] 30)).alloc (.cells #[.string x] 9)).heap.size := hda.lt
  have H := Lib.hid (do_any B d t true 81 #[.pointer (some ⟨w.heap.size + 1, 0, none⟩), .pointer (some ⟨w.heap.size, 0, none⟩)] (wf d x) _ hda hd enters40 (fun u hu W hW => by have := writef_any (w.heap.size + 1) w.heap.size B d u x W hu hx hd ((hW.cell (by simp)).trans hc2) ((hW.cell (by simp; omega)).trans hc1) (hda.below hW hlt); simpa using this))
  have HB := Lib.hid hb
  clear hb hc1 hc2 hda hlt
  generalize doD d t true (wf d x) = X at *
  go_enter Tryz.func37, Tryz.ntmps37
  go_wp2_with fail
  refine H.out.mono ?_
  rintro e w' hr
  have HR := Lib.hid (hr.from HB.out)
  obtain ⟨rfl, hd2, hg⟩ := hr
  clear hd2 hg
  go_wp2
  go_ret
  exact HR.out
def failD (d : Dk) (n : Int) : Dk × Nat := if d.dn = true then (d, 45) else if n < 0 then (d, 1) else ({ d with dm := true, left := n.toNat }, 0)
set_option maxHeartbeats 400000 in
theorem fail_any (B : Nat) (d : Dk) (n : Int) (w : World) (h : DAt w B d) : Calls Tryz.prog 66 #[.pointer (some ⟨B, 0, none⟩), .int .i64 n] w (DRet w B (.int .i64 ((failD d n).2 : Int)) (failD d n).1) := by
  have HR := Lib.hid (ready_any B d w h.dn)
  unfold failD
  have c66 := h.dm
  have c67 := h.left
  have f66 := h.fz 66
  have f67 := h.fz 67
  have l := h.lt
  cases hdn : d.dn
  · rw [if_neg (by simp)]
    rw [hdn, if_neg (by simp)] at HR
    by_cases hn : n < 0
    · rw [if_pos hn]
      go_enter Tryz.func66, Tryz.ntmps66
      go_wp2_with fail
      refine HR.out.mono ?_
      rintro e w' ⟨rfl, rfl⟩
      go_wp2
      go_ret
      exact ⟨rfl, h, World.grownBy.refl _ _⟩
    · rw [if_neg hn]
      obtain ⟨m, rfl⟩ := Int.eq_ofNat_of_zero_le (show 0 ≤ n by omega)
      rw [Int.toNat_natCast]
      go_enter Tryz.func66, Tryz.ntmps66
      go_wp2_with fail
      refine HR.out.mono ?_
      rintro e w' ⟨rfl, rfl⟩
      go_wp2
      go_ret
      exact ⟨rfl, by rw [← hdn]; exact (h.setDm true).setLeft m, grown_set2 _ _ _ _ _ _⟩
  · rw [if_pos rfl]
    rw [hdn, if_pos rfl] at HR
    go_enter Tryz.func66, Tryz.ntmps66
    go_wp2_with fail
    refine HR.out.mono ?_
    rintro e w' ⟨rfl, rfl⟩
    go_wp2
    go_ret
    exact ⟨rfl, h, World.grownBy.refl _ _⟩
set_option maxHeartbeats 400000 in
theorem up_any (B : Nat) (d : Dk) (w : World) (h : DAt w B d) : Calls Tryz.prog 27 #[.pointer (some ⟨B, 0, none⟩)] w fun e w' => e = .returned (.bool (!d.dn)) ∧ w = w' := by
  have HR := Lib.hid (ready_any B d w h.dn)
  cases hdn : d.dn
  · rw [hdn, if_neg (by simp)] at HR
    go_enter Tryz.func27, Tryz.ntmps27
    go_wp2_with fail
    refine HR.out.mono ?_
    rintro e w' ⟨rfl, rfl⟩
    go_wp2
    go_ret
    exact ⟨rfl, rfl⟩
  · rw [hdn, if_pos rfl] at HR
    go_enter Tryz.func27, Tryz.ntmps27
    go_wp2_with fail
    refine HR.out.mono ?_
    rintro e w' ⟨rfl, rfl⟩
    go_wp2
    go_ret
    exact ⟨rfl, rfl⟩
def readD (d : Dk) (t : Int) : ByteArray × Nat := if d.dn = true then (⟨#[]⟩, 45) else if 0 ≤ t ∧ t < 32 then ((d.T t.toNat).s, 0) else (⟨#[]⟩, 1)
set_option maxHeartbeats 400000 in
theorem dread_any (B : Nat) (d : Dk) (t : Int) (w : World) (h : DAt w B d) : Calls Tryz.prog 85 #[.pointer (some ⟨B, 0, none⟩), .int .i64 t] w fun e w' => e = .returned (.tuple #[.string (readD d t).1, .int .i64 ((readD d t).2 : Int)]) ∧ w = w' := by
  unfold readD
  cases hdn : d.dn
  · rw [if_neg (by simp)]
    by_cases ht : 0 ≤ t ∧ t < 32
    · rw [if_pos ht]
      obtain ⟨k, rfl⟩ := Int.eq_ofNat_of_zero_le ht.1
      have hk : k < 32 := by omega
      rw [Int.toNat_natCast]
      have HA := Lib.hid (at_in B d k w h hdn hk)
      have hs := h.s k hk
      clear ht
      go_enter Tryz.func85, Tryz.ntmps85
      go_wp2_with fail
      refine HA.out.mono ?_
      rintro e w' ⟨rfl, rfl⟩
      go_wp2
      go_ret2
      exact ⟨rfl, rfl⟩
    · rw [if_neg ht]
      have HA := Lib.hid (at_out B d t w h hdn ht)
      clear ht
      go_enter Tryz.func85, Tryz.ntmps85
      go_wp2_with fail
      refine HA.out.mono ?_
      rintro e w' ⟨rfl, rfl⟩
      go_wp2
      go_ret2
      exact ⟨rfl, rfl⟩
  · rw [if_pos rfl]
    have HA := Lib.hid (at_dn B d t w h hdn)
    go_enter Tryz.func85, Tryz.ntmps85
    go_wp2_with fail
    refine HA.out.mono ?_
    rintro e w' ⟨rfl, rfl⟩
    go_wp2
    go_ret2
    exact ⟨rfl, rfl⟩
end Go.Proofs.YtieemdcoomilaaaGreatDoor
