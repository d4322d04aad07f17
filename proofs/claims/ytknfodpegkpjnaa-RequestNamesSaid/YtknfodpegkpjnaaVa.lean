/- The contracts of what asks a value: As, isValue, May, key, valueSize, Size. -/
import Derived.Test.YtknfodpegkpjnaaGf
namespace Go.Proofs.Ytknfodpegkpjnaa
open Go.RowKit
/-- What As answers. -/
def asV : Vl → Nat × Bool
  | .va n => (n, true)
  | _ => (0, false)
def asE : Vl → Nat × Bool
  | .ei n => (n, true)
  | _ => (0, false)
def asF : Vl → Nat × Bool
  | .fo n => (n, true)
  | _ => (0, false)
def asT : Vl → ByteArray × Bool
  | .tx t => (t, true)
  | _ => (⟨#[]⟩, false)
theorem ta_asV (x : Vl) (w : World) : (Instr.typeAssert x.v 97 128 true).run Try.prog w = .ok (.tuple #[.int .u64 (asV x).1, .bool (asV x).2]) w := by
  cases x <;> kernel_rfl
theorem ta_asE (x : Vl) (w : World) : (Instr.typeAssert x.v 97 127 true).run Try.prog w = .ok (.tuple #[.int .u64 (asE x).1, .bool (asE x).2]) w := by
  cases x <;> kernel_rfl
theorem ta_asF (x : Vl) (w : World) : (Instr.typeAssert x.v 97 161 true).run Try.prog w = .ok (.tuple #[.int .u32 (asF x).1, .bool (asF x).2]) w := by
  cases x <;> kernel_rfl
theorem ta_asT (x : Vl) (w : World) : (Instr.typeAssert x.v 97 82 true).run Try.prog w = .ok (.tuple #[.string (asT x).1, .bool (asT x).2]) w := by
  cases x <;> kernel_rfl
set_option maxRecDepth 100000 in
set_option maxHeartbeats 1000000 in
theorem asV_any (x : Vl) (w : World) :
    Calls Try.prog 107 #[x.v] w fun e w' => e = .returned (.tuple #[.int .u64 (asV x).1, .bool (asV x).2]) ∧ w = w' := by
  have h := ta_asV x
  generalize x.v = V at *
  have hz : (asV x).2 = false → (asV x).1 = 0 := by cases x <;> simp [asV]
  have hz := Lib.hid hz
  generalize (asV x).1 = r at *
  cases hb : (asV x).2 <;> rw [hb] at h hz
  · obtain rfl := hz.out rfl
    go_enter Try.func107, Try.ntmps107
    go_wp2
    go_ret2
    exact ⟨rfl, rfl⟩
  · clear hz
    go_enter Try.func107, Try.ntmps107
    go_wp2
    go_ret2
    exact ⟨rfl, rfl⟩
set_option maxRecDepth 100000 in
set_option maxHeartbeats 1000000 in
theorem asE_any (x : Vl) (w : World) :
    Calls Try.prog 106 #[x.v] w fun e w' => e = .returned (.tuple #[.int .u64 (asE x).1, .bool (asE x).2]) ∧ w = w' := by
  have h := ta_asE x
  generalize x.v = V at *
  have hz : (asE x).2 = false → (asE x).1 = 0 := by cases x <;> simp [asE]
  have hz := Lib.hid hz
  generalize (asE x).1 = r at *
  cases hb : (asE x).2 <;> rw [hb] at h hz
  · obtain rfl := hz.out rfl
    go_enter Try.func106, Try.ntmps106
    go_wp2
    go_ret2
    exact ⟨rfl, rfl⟩
  · clear hz
    go_enter Try.func106, Try.ntmps106
    go_wp2
    go_ret2
    exact ⟨rfl, rfl⟩
set_option maxRecDepth 100000 in
set_option maxHeartbeats 1000000 in
theorem asT_any (x : Vl) (w : World) :
    Calls Try.prog 57 #[x.v] w fun e w' => e = .returned (.tuple #[.string (asT x).1, .bool (asT x).2]) ∧ w = w' := by
  have h := ta_asT x
  generalize x.v = V at *
  have hz : (asT x).2 = false → (asT x).1 = ⟨#[]⟩ := by cases x <;> simp [asT]
  have hz := Lib.hid hz
  generalize (asT x).1 = r at *
  cases hb : (asT x).2 <;> rw [hb] at h hz
  · obtain rfl := hz.out rfl
    go_enter Try.func57, Try.ntmps57
    go_wp2
    go_ret2
    exact ⟨rfl, rfl⟩
  · clear hz
    go_enter Try.func57, Try.ntmps57
    go_wp2
    go_ret2
    exact ⟨rfl, rfl⟩
/-- May a value be? Its wire type; how many bytes it is written by. -/
def Vl.is : Vl → Bool
  | .va _ => true
  | .ei _ => true
  | .tx _ => true
  | .fo _ => true
  | _ => false
def Vl.w : Vl → Nat
  | .va _ => 0
  | .ei _ => 1
  | .tx _ => 2
  | .fo _ => 5
  | _ => 9
def Vl.z : Vl → Nat
  | .va n => Bt.vlen n
  | .ei _ => 8
  | .tx t => Bt.vlen t.size + t.size
  | .fo _ => 4
  | _ => 0
set_option maxRecDepth 100000 in
set_option maxHeartbeats 1000000 in
theorem isValue_any (x : Vl) (w : World) :
    Calls Try.prog 92 #[x.v] w fun e w' => e = .returned (.bool x.is) ∧ w = w' := by
  have h1 := ta_asV x
  have h2 := ta_asE x
  have h3 := ta_asF x
  have h4 := ta_asT x
  cases x <;>
  · unfold asV at h1
    unfold asE at h2
    unfold asF at h3
    unfold asT at h4
    dsimp only [Vl.is] at *
    generalize Vl.v _ = V at *
    go_enter Try.func92, Try.ntmps92
    go_wp2
    go_ret
    exact ⟨rfl, rfl⟩
/-- May a field be? -/
def Gf.may (f : Gf) : Bool := decide (1 ≤ f.n ∧ f.n ≤ 536870911) && f.v.is
set_option maxRecDepth 100000 in
set_option maxHeartbeats 1000000 in
theorem may_any (f : Gf) (w : World) :
    Calls Try.prog 70 #[gv f] w fun e w' => e = .returned (.bool f.may) ∧ Below w.heap.size w w' := by
  obtain ⟨n, x⟩ := f
  have HI := Lib.hid (fun W => isValue_any x W)
  have HA := Lib.hid ((Below.refl w.heap.size w).alloc (Nat.le_refl _) (.cells #[.int .i64 n, x.v] 99))
  unfold gv Gf.may
  dsimp only
  generalize x.v = V at *
  generalize x.is = b at *
  by_cases h1 : 1 ≤ n
  · by_cases h2 : n ≤ 536870911
    · have hd : decide (1 ≤ n ∧ n ≤ 536870911) = true := decide_eq_true ⟨h1, h2⟩
      go_enter Try.func70, Try.ntmps70
      go_wp2_with (go_at_call 92; refine (HI.out _).mono ?_; rintro e w' ⟨rfl, rfl⟩)
      go_ret
      exact ⟨by simp [hd], HA.out⟩
    · have hd : decide (1 ≤ n ∧ n ≤ 536870911) = false := decide_eq_false (by omega)
      go_enter Try.func70, Try.ntmps70
      go_wp2_with (go_at_call 92; refine (HI.out _).mono ?_; rintro e w' ⟨rfl, rfl⟩)
      go_ret
      exact ⟨by simp; intro; omega, HA.out⟩
  · have hd : decide (1 ≤ n ∧ n ≤ 536870911) = false := decide_eq_false (by omega)
    go_enter Try.func70, Try.ntmps70
    go_wp2_with (go_at_call 92; refine (HI.out _).mono ?_; rintro e w' ⟨rfl, rfl⟩)
    go_ret
    exact ⟨rfl, HA.out⟩
end Go.Proofs.Ytknfodpegkpjnaa
