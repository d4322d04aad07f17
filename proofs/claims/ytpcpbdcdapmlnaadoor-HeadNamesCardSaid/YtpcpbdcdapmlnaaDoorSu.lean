/- The contracts beneath a reader's methods: uvarintTo, zagWithin, raw, textTo, over the seat's own program. -/
import Derived.Test.YtpcpbdcdapmlnaaDoorRf
import Derived.Handy
namespace Go.Proofs.YtpcpbdcdapmlnaaDoor
open Go.RowKit
/-- What a call of function f tells, at any world. -/
def TellsU (f : Nat) (args : Array Value) (n x k : Int) : Prop := ∀ w : World, Calls Tryd.prog f args w fun e w' => e = .returned (.tuple #[.int .u64 n, .int .i64 x, .int .i64 k]) ∧ w = w'
def TellsS (f : Nat) (args : Array Value) (n : ByteArray) (x k : Int) : Prop := ∀ w : World, Calls Tryd.prog f args w fun e w' => e = .returned (.tuple #[.string n, .int .i64 x, .int .i64 k]) ∧ w = w'
set_option maxRecDepth 100000 in
set_option maxHeartbeats 400000 in
theorem uto_ok (s : ByteArray) (a most n x : Int) (h : TellsU 87 #[.string s, .int .i64 a] n x 0) (hm : n ≤ most) : TellsU 71 #[.string s, .int .i64 a, .int .u64 most] n x 0 := by
  intro w
  have T := Lib.hid h
  clear h
  go_enter Tryd.func71, Tryd.ntmps71
  go_wp2_with (go_at_call 87; refine (T.out _).mono ?_; rintro e w' ⟨rfl, rfl⟩)
  go_ret3
  exact ⟨rfl, rfl⟩
set_option maxRecDepth 100000 in
set_option maxHeartbeats 400000 in
theorem uto_no (s : ByteArray) (a most k : Int) (hk : (k == 0) = false) (h : TellsU 87 #[.string s, .int .i64 a] 0 0 k) : TellsU 71 #[.string s, .int .i64 a, .int .u64 most] 0 0 k := by
  intro w
  have T := Lib.hid h
  clear h
  go_enter Tryd.func71, Tryd.ntmps71
  go_wp2_with (go_at_call 87; refine (T.out _).mono ?_; rintro e w' ⟨rfl, rfl⟩)
  go_ret3
  exact ⟨rfl, rfl⟩
theorem ret_raw {s t : ByteArray} {x y k : Int} (h : s = t) (h2 : x = y) : Ending.returned (.tuple #[.string s, .int .i64 x, .int .i64 k]) = Ending.returned (.tuple #[.string t, .int .i64 y, .int .i64 k]) := by rw [h, h2]
end Go.Proofs.YtpcpbdcdapmlnaaDoor
namespace Go.Proofs.YtpcpbdcdapmlnaaDoor
open Go.RowKit
set_option maxRecDepth 100000 in
set_option maxHeartbeats 400000 in
theorem uto_big (s : ByteArray) (a most n x : Int) (h : TellsU 87 #[.string s, .int .i64 a] n x 0) (hm : most < n) : TellsU 71 #[.string s, .int .i64 a, .int .u64 most] 0 0 40 := by
  intro w
  have T := Lib.hid h
  clear h
  go_enter Tryd.func71, Tryd.ntmps71
  go_wp2_with (go_at_call 87; refine (T.out _).mono ?_; rintro e w' ⟨rfl, rfl⟩)
  go_ret3
  exact ⟨rfl, rfl⟩
end Go.Proofs.YtpcpbdcdapmlnaaDoor
