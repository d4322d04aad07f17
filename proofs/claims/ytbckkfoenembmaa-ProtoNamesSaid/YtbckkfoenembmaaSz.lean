/- The contracts of Size and putValue. -/
import Derived.Test.YtbckkfoenembmaaKe
namespace Go.Proofs.Ytbckkfoenembmaa
open Go.RowKit
/-- A box of a field. -/
def BoxG (W : World) (B : Nat) (f : Gf) : Prop := W.heap[B]? = some (.cells #[.int .i64 f.n, f.v.v] 35 (0, 0))
theorem BoxG.new (W : World) (f : Gf) : BoxG (W.alloc (.cells #[.int .i64 f.n, f.v.v] 35)) W.heap.size f := heap_alloc_new W _
theorem BoxG.lt {W : World} {B : Nat} {f : Gf} (h : BoxG W B f) : B < W.heap.size := (Array.getElem?_eq_some_iff.1 h).1
theorem BoxG.same {W W' : World} {B : Nat} {f : Gf} (h : BoxG W B f) (hs : W'.heap[B]? = W.heap[B]?) : BoxG W' B f := hs.trans h
theorem BoxG.below {W W' : World} {B n : Nat} {f : Gf} (h : BoxG W B f) (hb : Below n W W') (hn : W.heap.size ≤ n) : BoxG W' B f := h.same (hb.block B (Nat.lt_of_lt_of_le h.lt hn))
theorem BoxG.cells {W : World} {B : Nat} {f : Gf} (h : BoxG W B f) : W.cell? ⟨B, 0, none⟩ = some (.int .i64 f.n) ∧ W.cell? ⟨B, 1, none⟩ = some f.v.v := by
  have hc : ∀ j, W.cell? ⟨B, j, none⟩ = _ := fun j => cell_of_row W B j _ 35 (0, 0) h
  rw [hc, hc]
  exact ⟨rfl, rfl⟩
/-- How many bytes a field is written by. -/
def Gf.size (f : Gf) : Nat := if f.may then Bt.vlen (f.n.toNat * 8 + f.v.w) + f.v.z else 0
theorem Vl.w_lt (x : Vl) (h : x.is = true) : x.w < 8 := by cases x <;> first | (cases h; done) | (simp [Vl.w])
theorem Vl.z_le (x : Vl) (h : x.ok) : x.z ≤ 1000000000010 := by
  cases x with
  | va n => have := Bt.vlen_u64 (n := n) h; simp [Vl.z]; omega
  | tx t =>
    have h : t.size ≤ 1000000000000 := h
    have := Bt.vlen_u64 (n := t.size) (by omega)
    simp [Vl.z]; omega
  | _ => simp [Vl.z]
/-- What a call tells and leaves. -/
def Ret (w : World) (v : Value) (e : Ending) (w' : World) : Prop := e = .returned v ∧ Below w.heap.size w w'
set_option maxRecDepth 100000 in
set_option maxHeartbeats 1000000 in
theorem size_yes (n : Int) (V : Value) (K L Z : Nat) (hL : L ≤ 10) (hZ : Z ≤ 1000000000010) (hm : ∀ W, Calls Try.prog 22 #[.agg #[.int .i64 n, V]] W (Ret W (.bool true)))
    (hk : ∀ W, Calls Try.prog 61 #[.agg #[.int .i64 n, V]] W (Ret W (.int .u64 (K : Int)))) (hl : ∀ W, Calls Try.prog 64 #[.int .u64 (K : Int)] W (Ret W (.int .i64 (L : Int)))) (hv : ∀ W, Calls Try.prog 65 #[V] W (Ret W (.int .i64 (Z : Int)))) (w : World) :
    Calls Try.prog 24 #[.agg #[.int .i64 n, V]] w (Ret w (.int .i64 ((L + Z : Nat) : Int))) := by
  have HM := Lib.hid hm; have HK := Lib.hid hk; have HL := Lib.hid hl; have HV := Lib.hid hv
  have hLZ : (L : Int) + (Z : Int) = ((L + Z : Nat) : Int) := by omega
  generalize L + Z = S at *
  clear hm hk hl hv
  have HA := Lib.hid ((Below.refl w.heap.size w).alloc (Nat.le_refl _) (.cells #[.int .i64 n, V] 35))
  have hc0 : (w.alloc (.cells #[.int .i64 n, V] 35)).cell? ⟨w.heap.size, 0, none⟩ = some (.int .i64 n) := by rw [World.cell?_alloc_mark]; rfl
  have hc1 : (w.alloc (.cells #[.int .i64 n, V] 35)).cell? ⟨w.heap.size, 1, none⟩ = some V := by rw [World.cell?_alloc_mark]; rfl
  go_enter Try.func24, Try.ntmps24
  go_wp2_with fail
  refine (HM.out _).mono ?_
  rintro e w1 ⟨rfl, hb1⟩
  have d0 := (hb1.cell (p := ⟨w.heap.size, 0, none⟩) (by simp)).trans hc0
  have d1 := (hb1.cell (p := ⟨w.heap.size, 1, none⟩) (by simp)).trans hc1
  have HB1 := Lib.hid (HA.out.trans (hb1.mono HA.out.size))
  have k0 := fun d os => cell_regrown d0 d os
  have k1 := fun d os => cell_regrown d1 d os
  clear hb1 hc0 hc1
  go_wp2_with fail
  refine wp_region_quiet_below (by kernel_rfl) (by kernel_rfl) ?_
  go_big_quiet_step (fail)
  go_big_quiet_step (first | (go_at_call 61; exact Calls.regrown_of (HK.out _)))
  go_big_quiet_step (first | (go_at_call 64; exact Calls.regrown_of (HL.out _)))
  iterate 2 (go_big_quiet_step (fail))
  go_big_quiet_step (first | (go_at_call 65; exact Calls.regrown_of (HV.out _)))
  iterate 2 (go_big_quiet_step (fail))
  refine wpQuiet_nil ?_
  intro W2 hw2
  have hb2 : Below w1.heap.size w1 W2 := by obtain ⟨q, rfl⟩ := hw2; exact below_regrown _ _ _
  have HB2 := Lib.hid hb2
  clear hw2 hb2 k0 k1
  go_wp2
  go_ret
  exact ⟨rfl, HB1.out.trans (HB2.out.mono HB1.out.size)⟩
set_option maxRecDepth 100000 in
set_option maxHeartbeats 1000000 in
theorem size_no (n : Int) (V : Value) (hm : ∀ W, Calls Try.prog 22 #[.agg #[.int .i64 n, V]] W (Ret W (.bool false))) (w : World) :
    Calls Try.prog 24 #[.agg #[.int .i64 n, V]] w (Ret w (.int .i64 0)) := by
  have HM := Lib.hid hm
  clear hm
  have HA := Lib.hid ((Below.refl w.heap.size w).alloc (Nat.le_refl _) (.cells #[.int .i64 n, V] 35))
  go_enter Try.func24, Try.ntmps24
  go_wp2_with fail
  refine (HM.out _).mono ?_
  rintro e w1 ⟨rfl, hb1⟩
  have HB1 := Lib.hid (HA.out.trans (hb1.mono HA.out.size))
  clear hb1
  go_wp2
  go_ret
  exact ⟨rfl, HB1.out⟩
theorem Ret.same {w w' : World} {v : Value} {e : Ending} (h : e = .returned v ∧ w = w') : Ret w v e w' := ⟨h.1, by rw [← h.2]; exact Below.refl _ _⟩
theorem Gf.may_iff {f : Gf} : f.may = true ↔ (1 ≤ f.n ∧ f.n ≤ 536870911) ∧ f.v.is = true := by
  unfold Gf.may
  simp
theorem size_any (f : Gf) (hf : f.ok) (w : World) :
    Calls Try.prog 24 #[gv f] w (Ret w (.int .i64 f.size)) := by
  cases hm : f.may with
  | true =>
    obtain ⟨⟨g1, g2⟩, g3⟩ := Gf.may_iff.1 hm
    have g4 := f.v.w_lt g3
    obtain ⟨n, hn⟩ := Int.eq_ofNat_of_zero_le (a := f.n) (by omega)
    have hl := Bt.vlen_u64 (n := n * 8 + f.v.w) (by omega)
    have := size_yes f.n f.v.v (n * 8 + f.v.w) (Bt.vlen (n * 8 + f.v.w)) f.v.z hl (f.v.z_le hf.v) (fun W => (may_any f W).mono fun e w' h => by rw [hm] at h; exact h)
      (fun W => by rw [hn]; exact key_any n f.v g3 (by omega) W) (fun W => (len_any _ W (by omega)).mono fun e w' h => Ret.same h) (fun W => (vsize_any f.v hf.v W).mono fun e w' h => Ret.same h) w
    unfold Gf.size
    rw [if_pos hm, hn]
    rw [hn] at this
    unfold gv
    rw [hn]
    exact this
  | false =>
    have := size_no f.n f.v.v (fun W => (may_any f W).mono fun e w' h => by rw [hm] at h; exact h) w
    unfold Gf.size
    rw [hm]
    exact this
/-- A value's bytes. -/
def Vl.by : Vl → List UInt8
  | .va n => Bt.vint n
  | .ei n => Bt.fx 8 n
  | .tx t => Bt.vint t.size ++ t.data.toList
  | .fo n => Bt.fx 4 n
  | _ => []
set_option maxRecDepth 100000 in
set_option maxHeartbeats 1000000 in
theorem putValue_any (x : Vl) (hx : x.ok) (base : Nat) (v : Value) (xs : List UInt8) (w : World) (hown : Own w base v (xs.map bv)) (hb : base ≤ w.heap.size) (hl : xs.length ≤ 100000000000000) :
    Calls Try.prog 59 #[v, x.v] w (OwnRet w base v (xs ++ x.by)) := by
  have HO := Lib.hid hown
  have h1 := ta_asV x
  have h2 := ta_asE x
  have h3 := ta_asF x
  have h4 := ta_asT x
  cases x with
  | va n =>
    have hx : n < 18446744073709551616 := hx
    have HP := Lib.hid (put_own n (by omega) base v xs w hown hb (by omega))
    unfold asV at h1
    dsimp only [Vl.by] at *
    generalize Vl.v _ = V at *
    clear h2 h3 h4 hown
    go_enter Try.func59, Try.ntmps59
    go_wp2_with fail
    refine HP.out.mono ?_
    rintro e w1 ⟨v1, rfl, hO1, hS1⟩
    have HO1 := Lib.hid hO1; have HS1 := Lib.hid hS1
    clear hO1 hS1
    go_wp2
    go_ret
    exact ⟨v1, rfl, HO1.out, HS1.out⟩
  | ei n =>
    have hx : n < 18446744073709551616 := hx
    have HP := Lib.hid (putFixed_8 n (by omega) base v xs w hown hb (by omega))
    unfold asV at h1
    unfold asE at h2
    dsimp only [Vl.by] at *
    generalize Vl.v _ = V at *
    clear h3 h4 hown
    go_enter Try.func59, Try.ntmps59
    go_wp2_with fail
    refine HP.out.mono ?_
    rintro e w1 ⟨v1, rfl, hO1, hS1⟩
    have HO1 := Lib.hid hO1; have HS1 := Lib.hid hS1
    clear hO1 hS1
    go_wp2
    go_ret
    exact ⟨v1, rfl, HO1.out, HS1.out⟩
  | tx s =>
    have hx : s.size ≤ 1000000000000 := hx
    have HP := Lib.hid (putText_own s (by omega) base v xs w hown hb (by omega))
    unfold asV at h1
    unfold asE at h2
    unfold asT at h4
    dsimp only [Vl.by] at *
    generalize Vl.v _ = V at *
    clear h3 hown
    go_enter Try.func59, Try.ntmps59
    go_wp2_with fail
    refine HP.out.mono ?_
    rintro e w1 ⟨v1, rfl, hO1, hS1⟩
    have HO1 := Lib.hid hO1; have HS1 := Lib.hid hS1
    clear hO1 hS1
    go_wp2
    go_ret
    exact ⟨v1, rfl, HO1.out, HS1.out⟩
  | fo n =>
    have hx : n < 4294967296 := hx
    have HP := Lib.hid (putFixed_4 n base v xs w hown hb (by omega))
    unfold asV at h1
    unfold asE at h2
    unfold asF at h3
    unfold asT at h4
    dsimp only [Vl.by] at *
    generalize Vl.v _ = V at *
    clear hown
    go_enter Try.func59, Try.ntmps59
    go_wp2_with fail
    refine HP.out.mono ?_
    rintro e w1 ⟨v1, rfl, hO1, hS1⟩
    have HO1 := Lib.hid hO1; have HS1 := Lib.hid hS1
    clear hO1 hS1
    go_wp2
    go_ret
    exact ⟨v1, rfl, HO1.out, HS1.out⟩
  | _ =>
    unfold asV at h1
    unfold asE at h2
    unfold asF at h3
    unfold asT at h4
    dsimp only [Vl.by] at *
    generalize Vl.v _ = V at *
    clear hown
    go_enter Try.func59, Try.ntmps59
    go_wp2
    go_ret
    exact ⟨v, rfl, by rw [List.append_nil]; exact HO.out, Step.refl _ _⟩
end Go.Proofs.Ytbckkfoenembmaa
