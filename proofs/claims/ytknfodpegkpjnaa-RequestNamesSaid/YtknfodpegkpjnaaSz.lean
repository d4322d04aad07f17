/- The contracts of Size and putValue. -/
import Derived.Test.YtknfodpegkpjnaaKe
namespace Go.Proofs.Ytknfodpegkpjnaa
open Go.RowKit
/-- A box of a field. -/
def BoxG (W : World) (B : Nat) (f : Gf) : Prop := W.heap[B]? = some (.cells #[.int .i64 f.n, f.v.v] 99 (0, 0))
theorem BoxG.new (W : World) (f : Gf) : BoxG (W.alloc (.cells #[.int .i64 f.n, f.v.v] 99)) W.heap.size f := heap_alloc_new W _
theorem BoxG.lt {W : World} {B : Nat} {f : Gf} (h : BoxG W B f) : B < W.heap.size := (Array.getElem?_eq_some_iff.1 h).1
theorem BoxG.same {W W' : World} {B : Nat} {f : Gf} (h : BoxG W B f) (hs : W'.heap[B]? = W.heap[B]?) : BoxG W' B f := hs.trans h
theorem BoxG.below {W W' : World} {B n : Nat} {f : Gf} (h : BoxG W B f) (hb : Below n W W') (hn : W.heap.size ≤ n) : BoxG W' B f := h.same (hb.block B (Nat.lt_of_lt_of_le h.lt hn))
theorem BoxG.cells {W : World} {B : Nat} {f : Gf} (h : BoxG W B f) : W.cell? ⟨B, 0, none⟩ = some (.int .i64 f.n) ∧ W.cell? ⟨B, 1, none⟩ = some f.v.v := by
  have hc : ∀ j, W.cell? ⟨B, j, none⟩ = _ := fun j => cell_of_row W B j _ 99 (0, 0) h
  rw [hc, hc]
  exact ⟨rfl, rfl⟩
/-- How many bytes a field is written by. -/
def Gf.size (f : Gf) : Nat := if f.may then Bt.vlen (f.n.toNat * 8 + f.v.w) + f.v.z else 0
theorem Vl.w_lt (x : Vl) (h : x.is = true) : x.w < 8 := by cases x <;> first | (cases h; done) | (simp [Vl.w])
theorem Vl.z_le (x : Vl) (h : x.ok) : x.z ≤ 1000000000010 := by
  cases x with
  | va n => have := Bt.vlen_u64 (n := n) h; simp [Vl.z]; omega
  | tx t =>
    have h : t.size ≤ 1000000000000 := h
    have := Bt.vlen_u64 (n := t.size) (by omega)
    simp [Vl.z]; omega
  | _ => simp [Vl.z]
/-- What a call tells and leaves. -/
def Ret (w : World) (v : Value) (e : Ending) (w' : World) : Prop := e = .returned v ∧ Below w.heap.size w w'
theorem Ret.same {w w' : World} {v : Value} {e : Ending} (h : e = .returned v ∧ w = w') : Ret w v e w' := ⟨h.1, by rw [← h.2]; exact Below.refl _ _⟩
theorem Gf.may_iff {f : Gf} : f.may = true ↔ (1 ≤ f.n ∧ f.n ≤ 536870911) ∧ f.v.is = true := by
  unfold Gf.may
  simp
/-- A value's bytes. -/
def Vl.by : Vl → List UInt8
  | .va n => Bt.vint n
  | .ei n => Bt.fx 8 n
  | .tx t => Bt.vint t.size ++ t.data.toList
  | .fo n => Bt.fx 4 n
  | _ => []
set_option maxRecDepth 100000 in
set_option maxHeartbeats 1000000 in
theorem putValue_any (x : Vl) (hx : x.ok) (base : Nat) (v : Value) (xs : List UInt8) (w : World) (hown : Own w base v (xs.map bv)) (hb : base ≤ w.heap.size) (hl : xs.length ≤ 100000000000000) :
    Calls Try.prog 71 #[v, x.v] w (OwnRet w base v (xs ++ x.by)) := by
  have HO := Lib.hid hown
  have h1 := ta_asV x
  have h2 := ta_asE x
  have h3 := ta_asF x
  have h4 := ta_asT x
  cases x with
  | va n =>
    have hx : n < 18446744073709551616 := hx
    have HP := Lib.hid (put_own n (by omega) base v xs w hown hb (by omega))
    unfold asV at h1
    dsimp only [Vl.by] at *
    generalize Vl.v _ = V at *
    clear h2 h3 h4 hown
    go_enter Try.func71, Try.ntmps71
    go_wp2_with fail
    refine HP.out.mono ?_
    rintro e w1 ⟨v1, rfl, hO1, hS1⟩
    have HO1 := Lib.hid hO1; have HS1 := Lib.hid hS1
    clear hO1 hS1
    go_wp2
    go_ret
    exact ⟨v1, rfl, HO1.out, HS1.out⟩
  | ei n =>
    have hx : n < 18446744073709551616 := hx
    have HP := Lib.hid (putFixed_8 n (by omega) base v xs w hown hb (by omega))
    unfold asV at h1
    unfold asE at h2
    dsimp only [Vl.by] at *
    generalize Vl.v _ = V at *
    clear h3 h4 hown
    go_enter Try.func71, Try.ntmps71
    go_wp2_with fail
    refine HP.out.mono ?_
    rintro e w1 ⟨v1, rfl, hO1, hS1⟩
    have HO1 := Lib.hid hO1; have HS1 := Lib.hid hS1
    clear hO1 hS1
    go_wp2
    go_ret
    exact ⟨v1, rfl, HO1.out, HS1.out⟩
  | tx s =>
    have hx : s.size ≤ 1000000000000 := hx
    have HP := Lib.hid (putText_own s (by omega) base v xs w hown hb (by omega))
    unfold asV at h1
    unfold asE at h2
    unfold asT at h4
    dsimp only [Vl.by] at *
    generalize Vl.v _ = V at *
    clear h3 hown
    go_enter Try.func71, Try.ntmps71
    go_wp2_with fail
    refine HP.out.mono ?_
    rintro e w1 ⟨v1, rfl, hO1, hS1⟩
    have HO1 := Lib.hid hO1; have HS1 := Lib.hid hS1
    clear hO1 hS1
    go_wp2
    go_ret
    exact ⟨v1, rfl, HO1.out, HS1.out⟩
  | fo n =>
    have hx : n < 4294967296 := hx
    have HP := Lib.hid (putFixed_4 n base v xs w hown hb (by omega))
    unfold asV at h1
    unfold asE at h2
    unfold asF at h3
    unfold asT at h4
    dsimp only [Vl.by] at *
    generalize Vl.v _ = V at *
    clear hown
    go_enter Try.func71, Try.ntmps71
    go_wp2_with fail
    refine HP.out.mono ?_
    rintro e w1 ⟨v1, rfl, hO1, hS1⟩
    have HO1 := Lib.hid hO1; have HS1 := Lib.hid hS1
    clear hO1 hS1
    go_wp2
    go_ret
    exact ⟨v1, rfl, HO1.out, HS1.out⟩
  | _ =>
    unfold asV at h1
    unfold asE at h2
    unfold asF at h3
    unfold asT at h4
    dsimp only [Vl.by] at *
    generalize Vl.v _ = V at *
    clear hown
    go_enter Try.func71, Try.ntmps71
    go_wp2
    go_ret
    exact ⟨v, rfl, by rw [List.append_nil]; exact HO.out, Step.refl _ _⟩
end Go.Proofs.Ytknfodpegkpjnaa
