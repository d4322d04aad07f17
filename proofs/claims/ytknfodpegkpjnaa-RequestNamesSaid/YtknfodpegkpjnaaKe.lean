/- The contracts of key and Size. -/
import Derived.Test.YtknfodpegkpjnaaVa
import Derived.Lib.QuietBelow
namespace Go.Proofs.Ytknfodpegkpjnaa
open Go.RowKit
theorem met_va (x : Value) (w : World) : (method 303 128 x "Wire").run Try.prog w = .ok (133, x) w := by kernel_rfl
theorem met_ei (x : Value) (w : World) : (method 303 127 x "Wire").run Try.prog w = .ok (132, x) w := by kernel_rfl
theorem met_tx (x : Value) (w : World) : (method 303 82 x "Wire").run Try.prog w = .ok (131, x) w := by kernel_rfl
theorem met_fo (x : Value) (w : World) : (method 303 161 x "Wire").run Try.prog w = .ok (135, x) w := by kernel_rfl
set_option maxRecDepth 100000 in
theorem wire_va (x : Value) (w : World) : Calls Try.prog 133 #[x] w fun e w' => e = .returned (.int .u8 0) ∧ w = w' := by
  go_enter Try.func133, Try.ntmps133
  go_wp2
  go_ret
  exact ⟨rfl, rfl⟩
set_option maxRecDepth 100000 in
theorem wire_ei (x : Value) (w : World) : Calls Try.prog 132 #[x] w fun e w' => e = .returned (.int .u8 1) ∧ w = w' := by
  go_enter Try.func132, Try.ntmps132
  go_wp2
  go_ret
  exact ⟨rfl, rfl⟩
set_option maxRecDepth 100000 in
theorem wire_tx (x : Value) (w : World) : Calls Try.prog 131 #[x] w fun e w' => e = .returned (.int .u8 2) ∧ w = w' := by
  go_enter Try.func131, Try.ntmps131
  go_wp2
  go_ret
  exact ⟨rfl, rfl⟩
set_option maxRecDepth 100000 in
theorem wire_fo (x : Value) (w : World) : Calls Try.prog 135 #[x] w fun e w' => e = .returned (.int .u8 5) ∧ w = w' := by
  go_enter Try.func135, Try.ntmps135
  go_wp2
  go_ret
  exact ⟨rfl, rfl⟩
theorem below_drewN {b : Nat} {w w' : World} (h : Below b w w') (m : Nat) : Below b w (w'.drewN m) := ⟨h.os, h.tape, h.output, h.size, h.block⟩
theorem or8 (n c : Nat) (hn : n ≤ 536870911) (hc : c < 8) : bits .or .u64 ((n : Int) * 8) (c : Int) = ((n * 8 + c : Nat) : Int) := by
  have e : (n : Int) * 8 = ((n * 8 : Nat) : Int) := by omega
  rw [e, u64_or_nat _ _ (by omega) (by omega), nat_join 3 (n * 8) c (by omega) (by omega)]
set_option maxRecDepth 100000 in
set_option maxHeartbeats 1000000 in
theorem key_va (n : Nat) (X : Value) (hn : n ≤ 536870911) (w : World) :
    Calls Try.prog 73 #[.agg #[.int .i64 (n : Int), .iface 128 X]] w fun e w' => e = .returned (.int .u64 ((n * 8 + 0 : Nat) : Int)) ∧ Below w.heap.size w w' := by
  have hm := met_va X
  have hor : bits .or .u64 ((n : Int) * 8) 0 = ((n * 8 + 0 : Nat) : Int) := or8 n 0 hn (by omega)
  generalize n * 8 + 0 = R at *
  have HA := Lib.hid ((Below.refl w.heap.size w).alloc (Nat.le_refl _) (.cells #[.int .i64 (n : Int), .iface 128 X] 99))
  go_enter Try.func73, Try.ntmps73
  go_wp2_with fail
  refine wp_region_quiet_lit (by kernel_rfl) (by kernel_rfl) ?_
  iterate 6 (go_big_quiet_step (fail))
  go_big_quiet_step (exact Calls.quiet_of_same ((wire_va _ _).mono fun _ _ h => ⟨h.1, h.2.symm⟩))
  iterate 3 (go_big_quiet_step (fail))
  refine wpQuiet_nil ?_
  rintro _ ⟨nq, rfl⟩
  go_wp2
  go_ret
  exact ⟨rfl, below_drewN HA.out _⟩
set_option maxRecDepth 100000 in
set_option maxHeartbeats 1000000 in
theorem key_ei (n : Nat) (X : Value) (hn : n ≤ 536870911) (w : World) :
    Calls Try.prog 73 #[.agg #[.int .i64 (n : Int), .iface 127 X]] w fun e w' => e = .returned (.int .u64 ((n * 8 + 1 : Nat) : Int)) ∧ Below w.heap.size w w' := by
  have hm := met_ei X
  have hor : bits .or .u64 ((n : Int) * 8) 1 = ((n * 8 + 1 : Nat) : Int) := or8 n 1 hn (by omega)
  generalize n * 8 + 1 = R at *
  have HA := Lib.hid ((Below.refl w.heap.size w).alloc (Nat.le_refl _) (.cells #[.int .i64 (n : Int), .iface 127 X] 99))
  go_enter Try.func73, Try.ntmps73
  go_wp2_with fail
  refine wp_region_quiet_lit (by kernel_rfl) (by kernel_rfl) ?_
  iterate 6 (go_big_quiet_step (fail))
  go_big_quiet_step (exact Calls.quiet_of_same ((wire_ei _ _).mono fun _ _ h => ⟨h.1, h.2.symm⟩))
  iterate 3 (go_big_quiet_step (fail))
  refine wpQuiet_nil ?_
  rintro _ ⟨nq, rfl⟩
  go_wp2
  go_ret
  exact ⟨rfl, below_drewN HA.out _⟩
set_option maxRecDepth 100000 in
set_option maxHeartbeats 1000000 in
theorem key_tx (n : Nat) (X : Value) (hn : n ≤ 536870911) (w : World) :
    Calls Try.prog 73 #[.agg #[.int .i64 (n : Int), .iface 82 X]] w fun e w' => e = .returned (.int .u64 ((n * 8 + 2 : Nat) : Int)) ∧ Below w.heap.size w w' := by
  have hm := met_tx X
  have hor : bits .or .u64 ((n : Int) * 8) 2 = ((n * 8 + 2 : Nat) : Int) := or8 n 2 hn (by omega)
  generalize n * 8 + 2 = R at *
  have HA := Lib.hid ((Below.refl w.heap.size w).alloc (Nat.le_refl _) (.cells #[.int .i64 (n : Int), .iface 82 X] 99))
  go_enter Try.func73, Try.ntmps73
  go_wp2_with fail
  refine wp_region_quiet_lit (by kernel_rfl) (by kernel_rfl) ?_
  iterate 6 (go_big_quiet_step (fail))
  go_big_quiet_step (exact Calls.quiet_of_same ((wire_tx _ _).mono fun _ _ h => ⟨h.1, h.2.symm⟩))
  iterate 3 (go_big_quiet_step (fail))
  refine wpQuiet_nil ?_
  rintro _ ⟨nq, rfl⟩
  go_wp2
  go_ret
  exact ⟨rfl, below_drewN HA.out _⟩
set_option maxRecDepth 100000 in
set_option maxHeartbeats 1000000 in
theorem key_fo (n : Nat) (X : Value) (hn : n ≤ 536870911) (w : World) :
    Calls Try.prog 73 #[.agg #[.int .i64 (n : Int), .iface 161 X]] w fun e w' => e = .returned (.int .u64 ((n * 8 + 5 : Nat) : Int)) ∧ Below w.heap.size w w' := by
  have hm := met_fo X
  have hor : bits .or .u64 ((n : Int) * 8) 5 = ((n * 8 + 5 : Nat) : Int) := or8 n 5 hn (by omega)
  generalize n * 8 + 5 = R at *
  have HA := Lib.hid ((Below.refl w.heap.size w).alloc (Nat.le_refl _) (.cells #[.int .i64 (n : Int), .iface 161 X] 99))
  go_enter Try.func73, Try.ntmps73
  go_wp2_with fail
  refine wp_region_quiet_lit (by kernel_rfl) (by kernel_rfl) ?_
  iterate 6 (go_big_quiet_step (fail))
  go_big_quiet_step (exact Calls.quiet_of_same ((wire_fo _ _).mono fun _ _ h => ⟨h.1, h.2.symm⟩))
  iterate 3 (go_big_quiet_step (fail))
  refine wpQuiet_nil ?_
  rintro _ ⟨nq, rfl⟩
  go_wp2
  go_ret
  exact ⟨rfl, below_drewN HA.out _⟩
theorem key_any (n : Nat) (x : Vl) (hx : x.is = true) (hn : n ≤ 536870911) (w : World) :
    Calls Try.prog 73 #[gv ⟨(n : Int), x⟩] w fun e w' => e = .returned (.int .u64 ((n * 8 + x.w : Nat) : Int)) ∧ Below w.heap.size w w' := by
  cases x with
  | va m => exact key_va n _ hn w
  | ei m => exact key_ei n _ hn w
  | tx m => exact key_tx n _ hn w
  | fo m => exact key_fo n _ hn w
  | no => cases hx
  | an m => cases hx
end Go.Proofs.Ytknfodpegkpjnaa
