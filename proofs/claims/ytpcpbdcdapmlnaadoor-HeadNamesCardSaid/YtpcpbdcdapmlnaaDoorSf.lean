/- From the row's condition (the table reads as its initialiser lays it) to what the walks ask; the door's own heap meets it. -/
import Derived.Test.YtpcpbdcdapmlnaaDoorRows
import Derived.Test.YtpcpbdcdapmlnaaDoorSd
import Derived.ProofKit
import Derived.LaidMore
import Derived.OpenShut
import Derived.Stop.Joined
import Derived.ShutString
import Derived.Lib.LaidTab
namespace Go.Proofs.YtpcpbdcdapmlnaaDoor
open Go.ChangeShapes Go.WideShapes Go.ChangeAt Go.RowKit
theorem own : ownKnob Tryd.prog.godebug = none := by kernel_rfl
theorem laidOut : laidOutB Tryd.prog = true := by kernel_rfl
def laid : List (String × DataW Unit) := [("baton/sum.fourSteps", Rows.laid_baton_sum_fourSteps)]
theorem gTab : Tryd.prog.globalNamed "baton/sum.fourSteps" = some 0 := by kernel_rfl
theorem tTab : (Tryd.prog.globals[0]?).map (·.type) = some 134 := by kernel_rfl
def doorSteps : Nat := 14
theorem door_met (os : Os) (args : Array Value) : laidMetH Tryd.prog laid ((World.doorLaid Tryd.prog doorSteps os).forCall (fun _ _ => 0) ⟨#[], args, []⟩).memory :=
  laidMetH_of_parts3 (fuel := 8) (laidMet_of_run' 8 (by kernel_rfl) (by kernel_rfl)) (by kernel_rfl) (by kernel_rfl)
theorem door_tab : Rows.laid_baton_sum_fourSteps = (Lib.tabData .u32 (Sm.tab.map fun n : Nat => (n : Int)) : DataW Unit) := rfl
theorem of_laid {W : World} (h : laidMetH Tryd.prog laid W) : Tab W := by
  rw [MakeChecks.laidMetH_plain _ _ _ (by kernel_rfl)] at h
  have h2 : laidMet Tryd.prog [("baton/sum.fourSteps", (Lib.tabData .u32 (Sm.tab.map fun n : Nat => (n : Int)) : DataW Unit))] W := h
  have hT := Lib.tabIs_of_head gTab tTab Tryd.underlying134 Tryd.underlying118 (by kernel_rfl) (by kernel_rfl) h2
  have hc : ∀ i, i < 16 → W.cell? ⟨0, i, none⟩ = some (.int .u32 ((Sm.tab.getD i 0 : Nat) : Int)) := by
    intro i hi
    have := hT.cell gTab i (by simpa [Sm.tab] using hi)
    rw [this]
    have e : (Sm.tab.map fun n : Nat => (n : Int)).getD i 0 = ((Sm.tab.getD i 0 : Nat) : Int) := by
      simp only [List.getD_eq_getElem?_getD, List.getElem?_map]
      cases Sm.tab[i]? <;> rfl
    rw [e]
  refine ⟨?_, hc⟩
  have h0 := hc 0 (by omega)
  rcases Nat.eq_zero_or_pos W.heap.size with hz | hz
  · simp [World.cell?, hz] at h0
  · exact hz
end Go.Proofs.YtpcpbdcdapmlnaaDoor
