/- The contracts beneath a reader's methods: uvarintTo, zagWithin, raw, textTo, over the seat's own program. -/
import Derived.Test.YtioflicmpnkfeaaGreatRf
import Derived.Handy
namespace Go.Proofs.YtioflicmpnkfeaaGreat
open Go.RowKit
/-- What a call of function f tells, at any world. -/
def TellsU (f : Nat) (args : Array Value) (n x k : Int) : Prop := ∀ w : World, Calls Tryz.prog f args w fun e w' => e = .returned (.tuple #[.int .u64 n, .int .i64 x, .int .i64 k]) ∧ w = w'
def TellsS (f : Nat) (args : Array Value) (n : ByteArray) (x k : Int) : Prop := ∀ w : World, Calls Tryz.prog f args w fun e w' => e = .returned (.tuple #[.string n, .int .i64 x, .int .i64 k]) ∧ w = w'
set_option maxRecDepth 100000 in
set_option maxHeartbeats 400000 in
theorem uto_ok (s : ByteArray) (a most n x : Int) (h : TellsU 95 #[.string s, .int .i64 a] n x 0) (hm : n ≤ most) : TellsU 89 #[.string s, .int .i64 a, .int .u64 most] n x 0 := by
  intro w
  have T := Lib.hid h
  clear h
  go_enter Tryz.func89, Tryz.ntmps89
  go_wp2_with (go_at_call 95; refine (T.out _).mono ?_; rintro e w' ⟨rfl, rfl⟩)
  go_ret3
  exact ⟨rfl, rfl⟩
set_option maxRecDepth 100000 in
set_option maxHeartbeats 400000 in
theorem uto_no (s : ByteArray) (a most k : Int) (hk : (k == 0) = false) (h : TellsU 95 #[.string s, .int .i64 a] 0 0 k) : TellsU 89 #[.string s, .int .i64 a, .int .u64 most] 0 0 k := by
  intro w
  have T := Lib.hid h
  clear h
  go_enter Tryz.func89, Tryz.ntmps89
  go_wp2_with (go_at_call 95; refine (T.out _).mono ?_; rintro e w' ⟨rfl, rfl⟩)
  go_ret3
  exact ⟨rfl, rfl⟩
theorem ret_raw {s t : ByteArray} {x y k : Int} (h : s = t) (h2 : x = y) : Ending.returned (.tuple #[.string s, .int .i64 x, .int .i64 k]) = Ending.returned (.tuple #[.string t, .int .i64 y, .int .i64 k]) := by rw [h, h2]
set_option maxRecDepth 100000 in
set_option maxHeartbeats 400000 in
theorem raw_ok (s : ByteArray) (a z : Nat) (h : a + z ≤ s.size) (hs : s.size ≤ 140737488351232) : TellsS 101 #[.string s, .int .i64 a, .int .i64 z] (s.extract a (a + z)) ((a + z : Nat) : Int) 0 := by
  intro w
  have g1 : (z : Int) ≤ (s.size : Int) - (a : Int) := by omega
  go_enter Tryz.func101, Tryz.ntmps101
  go_wp2
  go_ret3
  exact ⟨ret_raw rfl (by omega), rfl⟩
set_option maxRecDepth 100000 in
set_option maxHeartbeats 400000 in
theorem raw_arg (s : ByteArray) (a z : Int) (h : z < 0) : TellsS 101 #[.string s, .int .i64 a, .int .i64 z] ⟨#[]⟩ 0 1 := by
  intro w
  go_enter Tryz.func101, Tryz.ntmps101
  go_wp2
  go_ret3
  exact ⟨rfl, rfl⟩
set_option maxRecDepth 100000 in
set_option maxHeartbeats 400000 in
theorem raw_short (s : ByteArray) (a : Nat) (z : Int) (h0 : 0 ≤ z) (h1 : a ≤ s.size) (h : (s.size : Int) - (a : Int) < z) (hs : s.size ≤ 140737488351232) : TellsS 101 #[.string s, .int .i64 a, .int .i64 z] ⟨#[]⟩ 0 8 := by
  intro w
  go_enter Tryz.func101, Tryz.ntmps101
  go_wp2
  go_ret3
  exact ⟨rfl, rfl⟩
end Go.Proofs.YtioflicmpnkfeaaGreat
