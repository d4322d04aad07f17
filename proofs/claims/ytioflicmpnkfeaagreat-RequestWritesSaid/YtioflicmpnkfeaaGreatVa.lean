/- The contracts of what asks a value: As, isValue, May, key, valueSize, Size. -/
/- The contracts of key and Size. -/
/- The contracts of Size and putValue. -/
import Derived.Test.YtioflicmpnkfeaaGreatGf
import Derived.Lib.QuietBelow
namespace Go.Proofs.YtioflicmpnkfeaaGreat
open Go.RowKit
/-- What As answers. -/
def asV : Vl → Nat × Bool
  | .va n => (n, true)
  | _ => (0, false)
def asE : Vl → Nat × Bool
  | .ei n => (n, true)
  | _ => (0, false)
def asF : Vl → Nat × Bool
  | .fo n => (n, true)
  | _ => (0, false)
def asT : Vl → ByteArray × Bool
  | .tx t => (t, true)
  | _ => (⟨#[]⟩, false)
theorem ta_asV (x : Vl) (w : World) : (Instr.typeAssert x.v 61 84 true).run Tryz.prog w = .ok (.tuple #[.int .u64 (asV x).1, .bool (asV x).2]) w := by
  cases x <;> kernel_rfl
theorem ta_asE (x : Vl) (w : World) : (Instr.typeAssert x.v 61 86 true).run Tryz.prog w = .ok (.tuple #[.int .u64 (asE x).1, .bool (asE x).2]) w := by
  cases x <;> kernel_rfl
theorem ta_asF (x : Vl) (w : World) : (Instr.typeAssert x.v 61 101 true).run Tryz.prog w = .ok (.tuple #[.int .u32 (asF x).1, .bool (asF x).2]) w := by
  cases x <;> kernel_rfl
theorem ta_asT (x : Vl) (w : World) : (Instr.typeAssert x.v 61 59 true).run Tryz.prog w = .ok (.tuple #[.string (asT x).1, .bool (asT x).2]) w := by
  cases x <;> kernel_rfl
set_option maxRecDepth 100000 in
set_option maxHeartbeats 1000000 in
theorem asV_any (x : Vl) (w : World) :
    Calls Tryz.prog 94 #[x.v] w fun e w' => e = .returned (.tuple #[.int .u64 (asV x).1, .bool (asV x).2]) ∧ w = w' := by
  have h := ta_asV x
  generalize x.v = V at *
  have hz : (asV x).2 = false → (asV x).1 = 0 := by cases x <;> simp [asV]
  have hz := Lib.hid hz
  generalize (asV x).1 = r at *
  cases hb : (asV x).2 <;> rw [hb] at h hz
  · obtain rfl := hz.out rfl
    go_enter Tryz.func94, Tryz.ntmps94
    go_wp2
    go_ret2
    exact ⟨rfl, rfl⟩
  · clear hz
    go_enter Tryz.func94, Tryz.ntmps94
    go_wp2
    go_ret2
    exact ⟨rfl, rfl⟩
set_option maxRecDepth 100000 in
set_option maxHeartbeats 1000000 in
theorem asE_any (x : Vl) (w : World) :
    Calls Tryz.prog 93 #[x.v] w fun e w' => e = .returned (.tuple #[.int .u64 (asE x).1, .bool (asE x).2]) ∧ w = w' := by
  have h := ta_asE x
  generalize x.v = V at *
  have hz : (asE x).2 = false → (asE x).1 = 0 := by cases x <;> simp [asE]
  have hz := Lib.hid hz
  generalize (asE x).1 = r at *
  cases hb : (asE x).2 <;> rw [hb] at h hz
  · obtain rfl := hz.out rfl
    go_enter Tryz.func93, Tryz.ntmps93
    go_wp2
    go_ret2
    exact ⟨rfl, rfl⟩
  · clear hz
    go_enter Tryz.func93, Tryz.ntmps93
    go_wp2
    go_ret2
    exact ⟨rfl, rfl⟩
set_option maxRecDepth 100000 in
set_option maxHeartbeats 1000000 in
theorem asT_any (x : Vl) (w : World) :
    Calls Tryz.prog 59 #[x.v] w fun e w' => e = .returned (.tuple #[.string (asT x).1, .bool (asT x).2]) ∧ w = w' := by
  have h := ta_asT x
  generalize x.v = V at *
  have hz : (asT x).2 = false → (asT x).1 = ⟨#[]⟩ := by cases x <;> simp [asT]
  have hz := Lib.hid hz
  generalize (asT x).1 = r at *
  cases hb : (asT x).2 <;> rw [hb] at h hz
  · obtain rfl := hz.out rfl
    go_enter Tryz.func59, Tryz.ntmps59
    go_wp2
    go_ret2
    exact ⟨rfl, rfl⟩
  · clear hz
    go_enter Tryz.func59, Tryz.ntmps59
    go_wp2
    go_ret2
    exact ⟨rfl, rfl⟩
/-- May a value be? Its wire type; how many bytes it is written by. -/
def Vl.is : Vl → Bool
  | .va _ => true
  | .ei _ => true
  | .tx _ => true
  | .fo _ => true
  | _ => false
def Vl.w : Vl → Nat
  | .va _ => 0
  | .ei _ => 1
  | .tx _ => 2
  | .fo _ => 5
  | _ => 9
def Vl.z : Vl → Nat
  | .va n => Bt.vlen n
  | .ei _ => 8
  | .tx t => Bt.vlen t.size + t.size
  | .fo _ => 4
  | _ => 0
set_option maxRecDepth 100000 in
set_option maxHeartbeats 1000000 in
theorem isValue_any (x : Vl) (w : World) :
    Calls Tryz.prog 52 #[x.v] w fun e w' => e = .returned (.bool x.is) ∧ w = w' := by
  have h1 := ta_asV x
  have h2 := ta_asE x
  have h3 := ta_asF x
  have h4 := ta_asT x
  cases x <;>
  · unfold asV at h1
    unfold asE at h2
    unfold asF at h3
    unfold asT at h4
    dsimp only [Vl.is] at *
    generalize Vl.v _ = V at *
    go_enter Tryz.func52, Tryz.ntmps52
    go_wp2
    go_ret
    exact ⟨rfl, rfl⟩
/-- May a field be? -/
def Gf.may (f : Gf) : Bool := decide (1 ≤ f.n ∧ f.n ≤ 536870911) && f.v.is
set_option maxRecDepth 100000 in
set_option maxHeartbeats 1000000 in
theorem may_any (f : Gf) (w : World) :
    Calls Tryz.prog 37 #[gv f] w fun e w' => e = .returned (.bool f.may) ∧ Below w.heap.size w w' := by
  obtain ⟨n, x⟩ := f
  have HI := Lib.hid (fun W => isValue_any x W)
  have HA := Lib.hid ((Below.refl w.heap.size w).alloc (Nat.le_refl _) (.cells #[.int .i64 n, x.v] 63))
  unfold gv Gf.may
  dsimp only
  generalize x.v = V at *
  generalize x.is = b at *
  by_cases h1 : 1 ≤ n
  · by_cases h2 : n ≤ 536870911
    · have hd : decide (1 ≤ n ∧ n ≤ 536870911) = true := decide_eq_true ⟨h1, h2⟩
      go_enter Tryz.func37, Tryz.ntmps37
      go_wp2_with (go_at_call 52; refine (HI.out _).mono ?_; rintro e w' ⟨rfl, rfl⟩)
      go_ret
      exact ⟨by simp [hd], HA.out⟩
    · have hd : decide (1 ≤ n ∧ n ≤ 536870911) = false := decide_eq_false (by omega)
      go_enter Tryz.func37, Tryz.ntmps37
      go_wp2_with (go_at_call 52; refine (HI.out _).mono ?_; rintro e w' ⟨rfl, rfl⟩)
      go_ret
      exact ⟨by simp; intro; omega, HA.out⟩
  · have hd : decide (1 ≤ n ∧ n ≤ 536870911) = false := decide_eq_false (by omega)
    go_enter Tryz.func37, Tryz.ntmps37
    go_wp2_with (go_at_call 52; refine (HI.out _).mono ?_; rintro e w' ⟨rfl, rfl⟩)
    go_ret
    exact ⟨rfl, HA.out⟩
end Go.Proofs.YtioflicmpnkfeaaGreat

namespace Go.Proofs.YtioflicmpnkfeaaGreat
open Go.RowKit
theorem met_va (x : Value) (w : World) : (method 289 84 x "Wire").run Tryz.prog w = .ok (119, x) w := by kernel_rfl
theorem met_ei (x : Value) (w : World) : (method 289 86 x "Wire").run Tryz.prog w = .ok (120, x) w := by kernel_rfl
theorem met_tx (x : Value) (w : World) : (method 289 59 x "Wire").run Tryz.prog w = .ok (118, x) w := by kernel_rfl
theorem met_fo (x : Value) (w : World) : (method 289 101 x "Wire").run Tryz.prog w = .ok (121, x) w := by kernel_rfl
set_option maxRecDepth 100000 in
theorem wire_va (x : Value) (w : World) : Calls Tryz.prog 119 #[x] w fun e w' => e = .returned (.int .u8 0) ∧ w = w' := by
  go_enter Tryz.func119, Tryz.ntmps119
  go_wp2
  go_ret
  exact ⟨rfl, rfl⟩
set_option maxRecDepth 100000 in
theorem wire_ei (x : Value) (w : World) : Calls Tryz.prog 120 #[x] w fun e w' => e = .returned (.int .u8 1) ∧ w = w' := by
  go_enter Tryz.func120, Tryz.ntmps120
  go_wp2
  go_ret
  exact ⟨rfl, rfl⟩
set_option maxRecDepth 100000 in
theorem wire_tx (x : Value) (w : World) : Calls Tryz.prog 118 #[x] w fun e w' => e = .returned (.int .u8 2) ∧ w = w' := by
  go_enter Tryz.func118, Tryz.ntmps118
  go_wp2
  go_ret
  exact ⟨rfl, rfl⟩
set_option maxRecDepth 100000 in
theorem wire_fo (x : Value) (w : World) : Calls Tryz.prog 121 #[x] w fun e w' => e = .returned (.int .u8 5) ∧ w = w' := by
  go_enter Tryz.func121, Tryz.ntmps121
  go_wp2
  go_ret
  exact ⟨rfl, rfl⟩
theorem below_drewN {b : Nat} {w w' : World} (h : Below b w w') (m : Nat) : Below b w (w'.drewN m) := ⟨h.os, h.tape, h.output, h.size, h.block⟩
theorem or8 (n c : Nat) (hn : n ≤ 536870911) (hc : c < 8) : bits .or .u64 ((n : Int) * 8) (c : Int) = ((n * 8 + c : Nat) : Int) := by
  have e : (n : Int) * 8 = ((n * 8 : Nat) : Int) := by omega
  rw [e, u64_or_nat _ _ (by omega) (by omega), nat_join 3 (n * 8) c (by omega) (by omega)]
set_option maxRecDepth 100000 in
set_option maxHeartbeats 1000000 in
theorem key_va (n : Nat) (X : Value) (hn : n ≤ 536870911) (w : World) :
    Calls Tryz.prog 40 #[.agg #[.int .i64 (n : Int), .iface 84 X]] w fun e w' => e = .returned (.int .u64 ((n * 8 + 0 : Nat) : Int)) ∧ Below w.heap.size w w' := by
  have hm := met_va X
  have hor : bits .or .u64 ((n : Int) * 8) 0 = ((n * 8 + 0 : Nat) : Int) := or8 n 0 hn (by omega)
  generalize n * 8 + 0 = R at *
  have HA := Lib.hid ((Below.refl w.heap.size w).alloc (Nat.le_refl _) (.cells #[.int .i64 (n : Int), .iface 84 X] 63))
  go_enter Tryz.func40, Tryz.ntmps40
  go_wp2_with fail
  refine wp_region_quiet_lit (by kernel_rfl) (by kernel_rfl) ?_
  iterate 6 (go_big_quiet_step (fail))
  go_big_quiet_step (exact Calls.quiet_of_same ((wire_va _ _).mono fun _ _ h => ⟨h.1, h.2.symm⟩))
  iterate 3 (go_big_quiet_step (fail))
  refine wpQuiet_nil ?_
  rintro _ ⟨nq, rfl⟩
  go_wp2
  go_ret
  exact ⟨rfl, below_drewN HA.out _⟩
set_option maxRecDepth 100000 in
set_option maxHeartbeats 1000000 in
theorem key_ei (n : Nat) (X : Value) (hn : n ≤ 536870911) (w : World) :
    Calls Tryz.prog 40 #[.agg #[.int .i64 (n : Int), .iface 86 X]] w fun e w' => e = .returned (.int .u64 ((n * 8 + 1 : Nat) : Int)) ∧ Below w.heap.size w w' := by
  have hm := met_ei X
  have hor : bits .or .u64 ((n : Int) * 8) 1 = ((n * 8 + 1 : Nat) : Int) := or8 n 1 hn (by omega)
  generalize n * 8 + 1 = R at *
  have HA := Lib.hid ((Below.refl w.heap.size w).alloc (Nat.le_refl _) (.cells #[.int .i64 (n : Int), .iface 86 X] 63))
  go_enter Tryz.func40, Tryz.ntmps40
  go_wp2_with fail
  refine wp_region_quiet_lit (by kernel_rfl) (by kernel_rfl) ?_
  iterate 6 (go_big_quiet_step (fail))
  go_big_quiet_step (exact Calls.quiet_of_same ((wire_ei _ _).mono fun _ _ h => ⟨h.1, h.2.symm⟩))
  iterate 3 (go_big_quiet_step (fail))
  refine wpQuiet_nil ?_
  rintro _ ⟨nq, rfl⟩
  go_wp2
  go_ret
  exact ⟨rfl, below_drewN HA.out _⟩
set_option maxRecDepth 100000 in
set_option maxHeartbeats 1000000 in
theorem key_tx (n : Nat) (X : Value) (hn : n ≤ 536870911) (w : World) :
    Calls Tryz.prog 40 #[.agg #[.int .i64 (n : Int), .iface 59 X]] w fun e w' => e = .returned (.int .u64 ((n * 8 + 2 : Nat) : Int)) ∧ Below w.heap.size w w' := by
  have hm := met_tx X
  have hor : bits .or .u64 ((n : Int) * 8) 2 = ((n * 8 + 2 : Nat) : Int) := or8 n 2 hn (by omega)
  generalize n * 8 + 2 = R at *
  have HA := Lib.hid ((Below.refl w.heap.size w).alloc (Nat.le_refl _) (.cells #[.int .i64 (n : Int), .iface 59 X] 63))
  go_enter Tryz.func40, Tryz.ntmps40
  go_wp2_with fail
  refine wp_region_quiet_lit (by kernel_rfl) (by kernel_rfl) ?_
  iterate 6 (go_big_quiet_step (fail))
  go_big_quiet_step (exact Calls.quiet_of_same ((wire_tx _ _).mono fun _ _ h => ⟨h.1, h.2.symm⟩))
  iterate 3 (go_big_quiet_step (fail))
  refine wpQuiet_nil ?_
  rintro _ ⟨nq, rfl⟩
  go_wp2
  go_ret
  exact ⟨rfl, below_drewN HA.out _⟩
set_option maxRecDepth 100000 in
set_option maxHeartbeats 1000000 in
theorem key_fo (n : Nat) (X : Value) (hn : n ≤ 536870911) (w : World) :
    Calls Tryz.prog 40 #[.agg #[.int .i64 (n : Int), .iface 101 X]] w fun e w' => e = .returned (.int .u64 ((n * 8 + 5 : Nat) : Int)) ∧ Below w.heap.size w w' := by
  have hm := met_fo X
  have hor : bits .or .u64 ((n : Int) * 8) 5 = ((n * 8 + 5 : Nat) : Int) := or8 n 5 hn (by omega)
  generalize n * 8 + 5 = R at *
  have HA := Lib.hid ((Below.refl w.heap.size w).alloc (Nat.le_refl _) (.cells #[.int .i64 (n : Int), .iface 101 X] 63))
  go_enter Tryz.func40, Tryz.ntmps40
  go_wp2_with fail
  refine wp_region_quiet_lit (by kernel_rfl) (by kernel_rfl) ?_
  iterate 6 (go_big_quiet_step (fail))
  go_big_quiet_step (exact Calls.quiet_of_same ((wire_fo _ _).mono fun _ _ h => ⟨h.1, h.2.symm⟩))
  iterate 3 (go_big_quiet_step (fail))
  refine wpQuiet_nil ?_
  rintro _ ⟨nq, rfl⟩
  go_wp2
  go_ret
  exact ⟨rfl, below_drewN HA.out _⟩
theorem key_any (n : Nat) (x : Vl) (hx : x.is = true) (hn : n ≤ 536870911) (w : World) :
    Calls Tryz.prog 40 #[gv ⟨(n : Int), x⟩] w fun e w' => e = .returned (.int .u64 ((n * 8 + x.w : Nat) : Int)) ∧ Below w.heap.size w w' := by
  cases x with
  | va m => exact key_va n _ hn w
  | ei m => exact key_ei n _ hn w
  | tx m => exact key_tx n _ hn w
  | fo m => exact key_fo n _ hn w
  | no => cases hx
  | an m => cases hx
end Go.Proofs.YtioflicmpnkfeaaGreat

namespace Go.Proofs.YtioflicmpnkfeaaGreat
open Go.RowKit
/-- A box of a field. -/
def BoxG (W : World) (B : Nat) (f : Gf) : Prop := W.heap[B]? = some (.cells #[.int .i64 f.n, f.v.v] 63 (0, 0))
theorem BoxG.new (W : World) (f : Gf) : BoxG (W.alloc (.cells #[.int .i64 f.n, f.v.v] 63)) W.heap.size f := heap_alloc_new W _
theorem BoxG.lt {W : World} {B : Nat} {f : Gf} (h : BoxG W B f) : B < W.heap.size := (Array.getElem?_eq_some_iff.1 h).1
theorem BoxG.same {W W' : World} {B : Nat} {f : Gf} (h : BoxG W B f) (hs : W'.heap[B]? = W.heap[B]?) : BoxG W' B f := hs.trans h
theorem BoxG.below {W W' : World} {B n : Nat} {f : Gf} (h : BoxG W B f) (hb : Below n W W') (hn : W.heap.size ≤ n) : BoxG W' B f := h.same (hb.block B (Nat.lt_of_lt_of_le h.lt hn))
theorem BoxG.cells {W : World} {B : Nat} {f : Gf} (h : BoxG W B f) : W.cell? ⟨B, 0, none⟩ = some (.int .i64 f.n) ∧ W.cell? ⟨B, 1, none⟩ = some f.v.v := by
  have hc : ∀ j, W.cell? ⟨B, j, none⟩ = _ := fun j => cell_of_row W B j _ 63 (0, 0) h
  rw [hc, hc]
  exact ⟨rfl, rfl⟩
/-- How many bytes a field is written by. -/
def Gf.size (f : Gf) : Nat := if f.may then Bt.vlen (f.n.toNat * 8 + f.v.w) + f.v.z else 0
theorem Vl.w_lt (x : Vl) (h : x.is = true) : x.w < 8 := by cases x <;> first | (cases h; done) | (simp [Vl.w])
theorem Vl.z_le (x : Vl) (h : x.ok) : x.z ≤ 1000000000010 := by
  cases x with
  | va n => have := Bt.vlen_u64 (n := n) h; simp [Vl.z]; omega
  | tx t =>
    have h : t.size ≤ 1000000000000 := h
    have := Bt.vlen_u64 (n := t.size) (by omega)
    simp [Vl.z]; omega
  | _ => simp [Vl.z]
/-- What a call tells and leaves. -/
def Ret (w : World) (v : Value) (e : Ending) (w' : World) : Prop := e = .returned v ∧ Below w.heap.size w w'
theorem Ret.same {w w' : World} {v : Value} {e : Ending} (h : e = .returned v ∧ w = w') : Ret w v e w' := ⟨h.1, by rw [← h.2]; exact Below.refl _ _⟩
theorem Gf.may_iff {f : Gf} : f.may = true ↔ (1 ≤ f.n ∧ f.n ≤ 536870911) ∧ f.v.is = true := by
  unfold Gf.may
  simp
/-- A value's bytes. -/
def Vl.by : Vl → List UInt8
  | .va n => Bt.vint n
  | .ei n => Bt.fx 8 n
  | .tx t => Bt.vint t.size ++ t.data.toList
  | .fo n => Bt.fx 4 n
  | _ => []
set_option maxRecDepth 100000 in
set_option maxHeartbeats 1000000 in
theorem putValue_any (x : Vl) (hx : x.ok) (base : Nat) (v : Value) (xs : List UInt8) (w : World) (hown : Own w base v (xs.map bv)) (hb : base ≤ w.heap.size) (hl : xs.length ≤ 100000000000000) :
    Calls Tryz.prog 38 #[v, x.v] w (OwnRet w base v (xs ++ x.by)) := by
  have HO := Lib.hid hown
  have h1 := ta_asV x
  have h2 := ta_asE x
  have h3 := ta_asF x
  have h4 := ta_asT x
  cases x with
  | va n =>
    have hx : n < 18446744073709551616 := hx
    have HP := Lib.hid (put_own n (by omega) base v xs w hown hb (by omega))
    unfold asV at h1
    dsimp only [Vl.by] at *
    generalize Vl.v _ = V at *
    clear h2 h3 h4 hown
    go_enter Tryz.func38, Tryz.ntmps38
    go_wp2_with fail
    refine HP.out.mono ?_
    rintro e w1 ⟨v1, rfl, hO1, hS1⟩
    have HO1 := Lib.hid hO1; have HS1 := Lib.hid hS1
    clear hO1 hS1
    go_wp2
    go_ret
    exact ⟨v1, rfl, HO1.out, HS1.out⟩
  | ei n =>
    have hx : n < 18446744073709551616 := hx
    have HP := Lib.hid (putFixed_8 n (by omega) base v xs w hown hb (by omega))
    unfold asV at h1
    unfold asE at h2
    dsimp only [Vl.by] at *
    generalize Vl.v _ = V at *
    clear h3 h4 hown
    go_enter Tryz.func38, Tryz.ntmps38
    go_wp2_with fail
    refine HP.out.mono ?_
    rintro e w1 ⟨v1, rfl, hO1, hS1⟩
    have HO1 := Lib.hid hO1; have HS1 := Lib.hid hS1
    clear hO1 hS1
    go_wp2
    go_ret
    exact ⟨v1, rfl, HO1.out, HS1.out⟩
  | tx s =>
    have hx : s.size ≤ 1000000000000 := hx
    have HP := Lib.hid (putText_own s (by omega) base v xs w hown hb (by omega))
    unfold asV at h1
    unfold asE at h2
    unfold asT at h4
    dsimp only [Vl.by] at *
    generalize Vl.v _ = V at *
    clear h3 hown
    go_enter Tryz.func38, Tryz.ntmps38
    go_wp2_with fail
    refine HP.out.mono ?_
    rintro e w1 ⟨v1, rfl, hO1, hS1⟩
    have HO1 := Lib.hid hO1; have HS1 := Lib.hid hS1
    clear hO1 hS1
    go_wp2
    go_ret
    exact ⟨v1, rfl, HO1.out, HS1.out⟩
  | fo n =>
    have hx : n < 4294967296 := hx
    have HP := Lib.hid (putFixed_4 n base v xs w hown hb (by omega))
    unfold asV at h1
    unfold asE at h2
    unfold asF at h3
    unfold asT at h4
    dsimp only [Vl.by] at *
    generalize Vl.v _ = V at *
    clear hown
    go_enter Tryz.func38, Tryz.ntmps38
    go_wp2_with fail
    refine HP.out.mono ?_
    rintro e w1 ⟨v1, rfl, hO1, hS1⟩
    have HO1 := Lib.hid hO1; have HS1 := Lib.hid hS1
    clear hO1 hS1
    go_wp2
    go_ret
    exact ⟨v1, rfl, HO1.out, HS1.out⟩
  | _ =>
    unfold asV at h1
    unfold asE at h2
    unfold asF at h3
    unfold asT at h4
    dsimp only [Vl.by] at *
    generalize Vl.v _ = V at *
    clear hown
    go_enter Tryz.func38, Tryz.ntmps38
    go_wp2
    go_ret
    exact ⟨v, rfl, by rw [List.append_nil]; exact HO.out, Step.refl _ _⟩
end Go.Proofs.YtioflicmpnkfeaaGreat
