/- The contracts of package bits' functions, over the seat's own program. -/
import Derived.Test.YtkbifmgddbilmaaDoorProg
import Derived.Test.YtkbifmgddbilmaaDoorMa
import Derived.Test.YtkbifmgddbilmaaDoorOw
import Derived.WalkKit
import Derived.WalkLawsBesides
import Derived.WalkSpells
import Derived.Deep.LoopGhost
import Derived.Lib.Hide
namespace Go.Proofs.YtkbifmgddbilmaaDoor
open Go.RowKit
set_option maxHeartbeats 400000 in
theorem isPlace_any (s : ByteArray) (at' : Int) (w : World) :
   Calls Tryd.prog 40 #[.string s, .int .i64 at'] w fun e w' => e = .returned (.bool (decide (0 ≤ at' ∧ at' ≤ (s.size : Int)))) ∧ w = w' := by
  by_cases h : 0 ≤ at'
  · go_enter Tryd.func40, Tryd.ntmps40
    go_wp2
    go_ret
    refine ⟨by simp [h], rfl⟩
  · go_enter Tryd.func40, Tryd.ntmps40
    go_wp2
    go_ret
    refine ⟨by rw [decide_eq_false (by omega)]; rfl, rfl⟩
theorem getElem_toList (s : ByteArray) (j : Nat) (h : j < s.size) : s.data.toList[j]'(by simpa using h) = s[j] := rfl
theorem ret_uv {n n' x x' k k' : Int} (h1 : n = n') (h2 : x = x') (h3 : k = k') : Ending.returned (.tuple #[.int .u64 n, .int .i64 x, .int .i64 k]) = Ending.returned (.tuple #[.int .u64 n', .int .i64 x', .int .i64 k']) := by rw [h1, h2, h3]
theorem ret_u64 {a b : Int} (h : a = b) : Ending.returned (.int .u64 a) = .returned (.int .u64 b) := by rw [h]
theorem ret_i64 {a b : Int} (h : a = b) : Ending.returned (.int .i64 a) = .returned (.int .i64 b) := by rw [h]
end Go.Proofs.YtkbifmgddbilmaaDoor
