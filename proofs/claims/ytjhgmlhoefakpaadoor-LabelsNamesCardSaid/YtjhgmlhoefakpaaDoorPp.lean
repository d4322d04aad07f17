/- The contract of the program's Parse: what is thrown is caught. -/
import Derived.Test.YtjhgmlhoefakpaaDoorAl
import Derived.Tactics2
namespace Go.Proofs.YtjhgmlhoefakpaaDoor
open Go.RowKit
set_option maxRecDepth 100000
set_option maxHeartbeats 2000000
theorem catch_panicking (p q : Nat) (x y : Value) (u : TypeId) (pv : Value) (older : List PanicEntry) (w : World) (hx : w.cell? ⟨p, 0, none⟩ = some x) (hy : w.cell? ⟨q, 0, none⟩ = some y) (fx : w.frozen? ⟨p, 0, none⟩ = false) (fy : w.frozen? ⟨q, 0, none⟩ = false) (hpq : p ≠ q) :
    CallsD Tryd.prog 43 #[.pointer (some ⟨p, 0, none⟩), .pointer (some ⟨q, 0, none⟩)] (.panicking ({ v := .iface u pv, recovered := false } :: older)) w fun e u' w' =>
      e = .returned (.tuple #[]) ∧ u' = .panicking ({ v := .iface u pv, recovered := true } :: older) ∧ w' = (w.setCell ⟨p, 0, none⟩ (.slice none 0 0)).setCell ⟨q, 0, none⟩ (.int .i64 4) := by
  refine callsD_of_wpS Tryd.func43 rfl fun c₀ cs hu => ?_
  apply wpS_seq
  apply wpS_region
  simp [wpOpsS, go_sem, recoverD, hu, Tryd.ntmps43, Exit.thenS]
  refine wpS_cond (t := true) (by simp [Act.eval, Array.replicate]) ?_
  simp only [if_true]
  apply wpS_region
  have hq2 : (w.setCell ⟨p, 0, none⟩ (.slice none 0 0)).cell? ⟨q, 0, none⟩ = some y := by rw [World.cell?_setCell_other _ _ _ _ (by simp; try omega)]; exact hy
  simp [wpOpsS, go_sem, hx, hy, fx, fy, hq2, bodyPostS, results, Tryd.results43]
theorem catch_idle (p q : Nat) (w : World) :
    CallsD Tryd.prog 43 #[.pointer (some ⟨p, 0, none⟩), .pointer (some ⟨q, 0, none⟩)] .returning w fun e u' w' => e = .returned (.tuple #[]) ∧ u' = .returning ∧ w' = w := by
  refine callsD_of_wpS Tryd.func43 rfl fun c₀ cs hu => ?_
  apply wpS_seq
  apply wpS_region
  simp [wpOpsS, go_sem, recoverD, hu, Tryd.ntmps43, Exit.thenS]
  refine wpS_cond (t := false) (by simp [Act.eval, Array.replicate]) ?_
  simp only [Bool.false_eq_true, if_false]
  refine wpS_of_wp (wp_skip ?_)
  cases c₀
  simp_all [bodyPostS, results, Tryd.results43]
/-- What Parse tells: the labels, the error. -/
def parseK (l : List UInt8) : List Lb × Nat := match parse l with
  | some m => (m, 0)
  | none => ([], 4)
theorem parse_any (s : ByteArray) (hs : s.size ≤ 100000000) (w : World) (hT : Tab w) : Calls Tryd.prog 17 #[.string s] w (LsRet w (parseK s.data.toList)) := by
  have hmf : ∀ (fn : Fn) (first cap : Array Value) (w : World), (Instr.makeFunc fn first cap).run Tryd.prog w = .ok (.func fn first cap) w := fun _ _ _ _ => rfl
  have hW : ∀ W0, W0 = ((w.alloc (.cells #[.slice none 0 0] 25)).alloc (.cells #[.int .i64 0] 30)).alloc (.cells #[.string s] 50) → Calls Tryd.prog 44 #[.pointer (some ⟨w.heap.size + 2, 0, none⟩)] W0 (AlRet W0 (w.heap.size + 2) (pars Vl 17 s.data.toList)) := by
    rintro W0 rfl
    refine all_any (w.heap.size + 2) s.data.toList (by rw [← Lib.size_eq]; exact hs) _ ?_ ?_ (by have := hT.lt; omega)
    · unfold RA
      rw [bs_of]
      have := heap_alloc_new ((w.alloc (.cells #[.slice none 0 0] 25)).alloc (.cells #[.int .i64 0] 30)) (.cells #[.string s] 50)
      simpa using this
    · exact hT.below ((((Below.refl w.heap.size w).alloc (Nat.le_refl _) _).alloc (by simp) _).alloc (by simp; omega) _) (Nat.le_refl _)
  rw [parse_V] at hW
  have HA := Lib.hid (hW _ rfl)
  clear hW
  go_enter_defers Tryd.func17, Tryd.ntmps17
  go_wp2_with fail
  refine HA.out.mono ?_
  rintro e w1 ⟨hm, hG⟩
  have hP0 : w1.heap[w.heap.size]? = some (.cells #[.slice none 0 0] 25) := by
    rw [hG.block _ (by simp; omega) (fun e => by have := Option.some.inj e; omega)]
    rw [Below.heap_alloc _ _ _ (by simp; omega), Below.heap_alloc _ _ _ (by simp)]
    exact heap_alloc_new w _
  have hP1 : w1.heap[w.heap.size + 1]? = some (.cells #[.int .i64 0] 30) := by
    rw [hG.block _ (by simp) (fun e => by have := Option.some.inj e; omega)]
    rw [Below.heap_alloc _ _ _ (by simp)]
    have := heap_alloc_new (w.alloc (.cells #[.slice none 0 0] 25)) (.cells #[.int .i64 0] 30)
    simpa using this
  have HB : Hid (Below w.heap.size w w1) := Lib.hid ((((Below.refl w.heap.size w).alloc (Nat.le_refl _) _).alloc (by simp) _).alloc (by simp; omega) _ |>.trans (below_grown hG (by simp; omega) (fun g e => by cases e; omega)))
  have c0 : w1.cell? ⟨w.heap.size, 0, none⟩ = some (.slice none 0 0) := by rw [Lib.cell_of_heap hP0]; rfl
  have c1 : w1.cell? ⟨w.heap.size + 1, 0, none⟩ = some (.int .i64 0) := by rw [Lib.cell_of_heap hP1]; rfl
  have f0 : w1.frozen? ⟨w.heap.size, 0, none⟩ = false := Lib.frozen_of_heap hP0 0
  have f1 : w1.frozen? ⟨w.heap.size + 1, 0, none⟩ = false := Lib.frozen_of_heap hP1 0
  have HP0 := Lib.hid hP0
  have HP1 := Lib.hid hP1
  cases hp : parse s.data.toList with
  | none =>
    rw [hp] at hm
    dsimp only at hm
    subst hm
    have HK : Hid (parseK s.data.toList = ([], 4)) := Lib.hid (by unfold parseK; rw [hp])
    clear hp hG hP0 hP1
    refine leaves_cons (f := 43) (args := #[.pointer (some ⟨w.heap.size, 0, none⟩), .pointer (some ⟨w.heap.size + 1, 0, none⟩)]) (by simp) (by simp [go_sem]) ?_
    refine (catch_panicking w.heap.size (w.heap.size + 1) _ _ 30 (.int .i64 4) [] w1 c0 c1 f0 f1 (by omega)).mono ?_
    rintro e u' w'' ⟨rfl, rfl, rfl⟩
    have d0 : ((w1.setCell ⟨w.heap.size, 0, none⟩ (.slice none 0 0)).setCell ⟨w.heap.size + 1, 0, none⟩ (.int .i64 4)).cell? ⟨w.heap.size, 0, none⟩ = some (.slice none 0 0) := by
      rw [World.cell?_setCell_other _ _ _ _ (by simp)]
      exact World.cell?_setCell_same _ _ _ c0
    have d1 : ((w1.setCell ⟨w.heap.size, 0, none⟩ (.slice none 0 0)).setCell ⟨w.heap.size + 1, 0, none⟩ (.int .i64 4)).cell? ⟨w.heap.size + 1, 0, none⟩ = some (.int .i64 4) :=
      World.cell?_setCell_same _ _ _ (by rw [World.cell?_setCell_other _ _ _ _ (by simp)]; exact c1)
    have HB2 : Hid (Below w.heap.size w ((w1.setCell ⟨w.heap.size, 0, none⟩ (.slice none 0 0)).setCell ⟨w.heap.size + 1, 0, none⟩ (.int .i64 4))) := Lib.hid ((HB.out.setCell (p := ⟨w.heap.size, 0, none⟩) (Nat.le_refl _) _).setCell (p := ⟨w.heap.size + 1, 0, none⟩) (by simp) _)
    simp [Leaves, settle, results, Tryd.results17, go_sem, d0, d1]
    rw [HK.out]
    exact ⟨_, rfl, ol_nil _ _, HB2.out⟩
  | some m =>
    rw [hp] at hm
    dsimp only at hm
    obtain ⟨u, rfl, hO⟩ := hm
    have HK : Hid (parseK s.data.toList = (m, 0)) := Lib.hid (by unfold parseK; rw [hp])
    have HO : Hid (Ol w1 (w.heap.size + 3) u m) := Lib.hid (hO.mono (by simp))
    obtain ⟨ua, uc, hu⟩ := hO.shape
    clear hp hG hP0 hP1 hO
    subst hu
    go_wp2
    refine leaves_cons (f := 43) (args := #[.pointer (some ⟨w.heap.size, 0, none⟩), .pointer (some ⟨w.heap.size + 1, 0, none⟩)]) (by simp) (by simp [go_sem]) ?_
    refine (catch_idle w.heap.size (w.heap.size + 1) _).mono ?_
    rintro e u' w'' ⟨rfl, rfl, rfl⟩
    have d0 : ((w1.setCell ⟨w.heap.size, 0, none⟩ (.slice ua m.length uc)).setCell ⟨w.heap.size + 1, 0, none⟩ (.int .i64 0)).cell? ⟨w.heap.size, 0, none⟩ = some (.slice ua m.length uc) := by
      rw [World.cell?_setCell_other _ _ _ _ (by simp)]
      exact World.cell?_setCell_same _ _ _ c0
    have d1 : ((w1.setCell ⟨w.heap.size, 0, none⟩ (.slice ua m.length uc)).setCell ⟨w.heap.size + 1, 0, none⟩ (.int .i64 0)).cell? ⟨w.heap.size + 1, 0, none⟩ = some (.int .i64 0) :=
      World.cell?_setCell_same _ _ _ (by rw [World.cell?_setCell_other _ _ _ _ (by simp)]; exact c1)
    have HB2 : Hid (Below w.heap.size w ((w1.setCell ⟨w.heap.size, 0, none⟩ (.slice ua m.length uc)).setCell ⟨w.heap.size + 1, 0, none⟩ (.int .i64 0))) := Lib.hid ((HB.out.setCell (p := ⟨w.heap.size, 0, none⟩) (Nat.le_refl _) _).setCell (p := ⟨w.heap.size + 1, 0, none⟩) (by simp) _)
    simp [Leaves, settle, results, Tryd.results17, go_sem, d0, d1]
    rw [HK.out]
    refine ⟨_, rfl, ?_, HB2.out⟩
    refine (HO.out.mono (by omega)).same fun g hg ho => ?_
    have h1 := (own_lt HO.out g ho).1
    rw [Below.heap_setCell _ _ _ _ (by simp; omega), Below.heap_setCell _ _ _ _ (by simp; omega)]
end Go.Proofs.YtjhgmlhoefakpaaDoor
