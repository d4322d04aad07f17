/- The contracts of what puts bytes: PutUvarint, PutFixed, PutText, over the seat's own program. -/
import Derived.Test.YtpcpbdcdapmlnaaDoorBi
namespace Go.Proofs.YtpcpbdcdapmlnaaDoor
open Go.RowKit
theorem Tryd.info5 : (Tryd.prog.info? 5).map (fun i => (i.zero, i.size, i.bytes)) = some (some (.int .u8 0), 1, 1) := by kernel_rfl
theorem bv_ofNat {n : Nat} {x : Int} (h : x = ((UInt8.ofNat n).toNat : Int)) : Value.int .u8 x = bv (UInt8.ofNat n) := by rw [h]; rfl
theorem own_snoc {w : World} {base : Nat} {v : Value} {xs : List UInt8} {c : UInt8} {x : Value} (hx : x = bv c) (h : Own w base v (xs.map bv ++ [x])) : Own w base v ((xs ++ [c]).map bv) := by
  rw [List.map_append, List.map_cons, List.map_nil, ← hx]; exact h
set_option maxRecDepth 100000 in
set_option maxHeartbeats 1000000 in
theorem put_own (n : Nat) (hn : n ≤ 18446744073709551615) (base : Nat) (v : Value) (xs : List UInt8) (w : World) (hown : Own w base v (xs.map bv)) (hb : base ≤ w.heap.size) (hl : xs.length ≤ 140737488355000) :
   Calls Tryd.prog 39 #[v, .int .u64 n] w (OwnRet w base v (xs ++ Bt.vint n)) := by
  have hv := Bt.vlen_u64 (n := n) (by omega)
  obtain ⟨i0, hi, hz0, hz1, hz2⟩ := info_parts Tryd.info5
  have HO := Lib.hid hown
  clear hown
  go_enter Tryd.func39, Tryd.ntmps39
  go_wp2
  go_loopw [0, 1] (fun u x wr => ∃ (m : Nat) (pre : List UInt8), x = .int .u64 m ∧ m ≤ 18446744073709551615 ∧ Hid (pre ++ Bt.vint m = Bt.vint n) ∧ Hid (Own wr base u ((xs ++ pre).map bv)) ∧ Hid (Step w wr v u)) (fun _ x _ => (intOf x).toNat)
  case atStart => exact ⟨n, [], rfl, by omega, Lib.hid rfl, by rw [List.append_nil]; exact HO, Lib.hid (Step.refl _ _)⟩
  case round =>
    obtain ⟨m, pre, rfl, hm, HP, HW, HS⟩ := hrel
    have hpl : pre.length ≤ 10 := by
      have := congrArg List.length HP.out
      rw [List.length_append, Bt.vint_length, Bt.vint_length] at this
      have := Bt.vlen_pos m
      omega
    have hxl : ((xs ++ pre).map bv).length ≤ 140737488355100 := by simp; omega
    have HB : Hid (base ≤ wr.heap.size) := Lib.hid (Nat.le_trans hb HS.out.grown.size)
    by_cases hlt : 128 ≤ m
    · have HV := Lib.hid (Bt.vint_big hlt)
      go_wp2_with (at_builtin; refine wpList_append_Own _ rfl (.tmp 9) (.tmp 13) 65 65 rfl base 5 i0 (.int .u8 0) 1 Tryd.underlying65 hi hz0 hz1 hz2 rfl u0 ((xs ++ pre).map bv) rfl (HW.out.alloc _) _ 1 _ rfl (Src.one wr Tryd.underlying65 _ _ rfl) ?c1 ?c2 ?c3 ?_; rotate_right; intro v' w1 hown1 hgr hwh; have HO1 := Lib.hid hown1; have HG := Lib.hid hgr; have HH := Lib.hid hwh; clear hown1 hgr hwh)
      case c1 => omega
      case c2 => omega
      case c3 => exact Nat.le_trans HB.out (by simp)
      go_roundw
      case rel =>
        refine ⟨m / 128, pre ++ [UInt8.ofNat (m % 128 + 128)], by go_num, by omega, Lib.hid ?_, Lib.hid ?_, Lib.hid ?_⟩
        · rw [← HP.out, HV.out]; simp
        · rw [← List.append_assoc]
          exact own_snoc (bv_ofNat (by rw [Bt.or128', Bt.ofNat_toNat (by omega)])) HO1.out
        · exact (HS.out.alloc _).trans ⟨HG.out, HH.out⟩
      case measure => simp [intOf]; omega
    · have HV := Lib.hid (Bt.vint_small (n := m) (by omega))
      go_wp2_with (at_builtin; refine wpList_append_Own _ rfl (.tmp 15) (.tmp 18) 65 65 rfl base 5 i0 (.int .u8 0) 1 Tryd.underlying65 hi hz0 hz1 hz2 rfl u0 ((xs ++ pre).map bv) rfl (HW.out.alloc _) _ 1 _ rfl (Src.one wr Tryd.underlying65 _ _ rfl) ?c1 ?c2 ?c3 ?_; rotate_right; intro v' w1 hown1 hgr hwh; have HO1 := Lib.hid hown1; have HG := Lib.hid hgr; have HH := Lib.hid hwh; clear hown1 hgr hwh)
      case c1 => omega
      case c2 => omega
      case c3 => exact Nat.le_trans HB.out (by simp)
      go_ret
      refine ⟨v', rfl, ?_, (HS.out.alloc _).trans ⟨HG.out, HH.out⟩⟩
      rw [← HP.out, HV.out, ← List.append_assoc]
      exact own_snoc (bv_ofNat (Bt.ofNat_toNat (by omega)).symm) HO1.out
set_option maxRecDepth 100000 in
set_option maxHeartbeats 1000000 in
theorem putFixed4_own (n : Nat) (hn : n ≤ 4294967295) (base : Nat) (v : Value) (xs : List UInt8) (w : World) (hown : Own w base v (xs.map bv)) (hb : base ≤ w.heap.size) (hl : xs.length ≤ 140737488355000) :
   Calls Tryd.prog 90 #[v, .int .u32 n] w (OwnRet w base v (xs ++ Bt.fx 4 n)) := by
  obtain ⟨i0, hi, hz0, hz1, hz2⟩ := info_parts Tryd.info5
  have HO := Lib.hid hown
  clear hown
  go_enter Tryd.func90, Tryd.ntmps90
  go_wp2
  go_loopw [0, 1, 5] (fun u x r wr => ∃ (m q k : Nat) (pre : List UInt8), x = .int .u32 m ∧ m ≤ 4294967295 ∧ r = .int .u32 q ∧ q ≤ 4294967295 ∧ Hid (q + 1 = 256 ^ k) ∧ Hid (pre ++ Bt.fx k m = Bt.fx 4 n) ∧ Hid (Own wr base u ((xs ++ pre).map bv)) ∧ Hid (Step w wr v u)) (fun _ _ r _ => (intOf r).toNat)
  case atStart => exact ⟨n, 4294967295, 4, [], rfl, by omega, rfl, by omega, Lib.hid (by decide), Lib.hid rfl, by rw [List.append_nil]; exact HO, Lib.hid (Step.refl _ _)⟩
  case round =>
    obtain ⟨m, q, k, pre, rfl, hm, rfl, hq, HQ, HP, HW, HS⟩ := hrel
    have hpl : pre.length ≤ 10 := by
      have := congrArg List.length HP.out
      rw [List.length_append, Bt.fx_length, Bt.fx_length] at this
      omega
    have hxl : ((xs ++ pre).map bv).length ≤ 140737488355100 := by simp; omega
    have HB : Hid (base ≤ wr.heap.size) := Lib.hid (Nat.le_trans hb HS.out.grown.size)
    cases k with
    | zero =>
      obtain rfl := Bt.r_zero HQ.out
      go_wp2
      go_ret
      refine ⟨u0, rfl, ?_, HS.out⟩
      rw [← HP.out, Bt.fx, List.append_nil]
      exact HW.out
    | succ k =>
      have hq0 := (Bt.r_succ HQ.out).1
      go_wp2_with (at_builtin; refine wpList_append_Own _ rfl (.tmp 12) (.tmp 15) 65 65 rfl base 5 i0 (.int .u8 0) 1 Tryd.underlying65 hi hz0 hz1 hz2 rfl u0 ((xs ++ pre).map bv) rfl (HW.out.alloc _) _ 1 _ rfl (Src.one wr Tryd.underlying65 _ _ rfl) ?c1 ?c2 ?c3 ?_; rotate_right; intro v' w1 hown1 hgr hwh; have HO1 := Lib.hid hown1; have HG := Lib.hid hgr; have HH := Lib.hid hwh; clear hown1 hgr hwh)
      case c1 => omega
      case c2 => omega
      case c3 => exact Nat.le_trans HB.out (by simp)
      go_roundw
      case rel =>
        refine ⟨m / 256, q / 256, k, pre ++ [UInt8.ofNat m], by go_num, by omega, by go_num, by omega, Lib.hid (Bt.r_succ HQ.out).2, Lib.hid ?_, Lib.hid ?_, Lib.hid ?_⟩
        · rw [← HP.out, Bt.fx]; simp
        · rw [← List.append_assoc]
          refine own_snoc (bv_ofNat ?_) HO1.out
          rw [← Bt.wrap8, Bt.wrap_u8]
        · exact (HS.out.alloc _).trans ⟨HG.out, HH.out⟩
      case measure => simp [intOf]; omega
set_option maxRecDepth 100000 in
set_option maxHeartbeats 1000000 in
theorem putFixed8_own (n : Nat) (hn : n ≤ 18446744073709551615) (base : Nat) (v : Value) (xs : List UInt8) (w : World) (hown : Own w base v (xs.map bv)) (hb : base ≤ w.heap.size) (hl : xs.length ≤ 140737488355000) :
   Calls Tryd.prog 91 #[v, .int .u64 n] w (OwnRet w base v (xs ++ Bt.fx 8 n)) := by
  obtain ⟨i0, hi, hz0, hz1, hz2⟩ := info_parts Tryd.info5
  have HO := Lib.hid hown
  clear hown
  go_enter Tryd.func91, Tryd.ntmps91
  go_wp2
  go_loopw [0, 1, 5] (fun u x r wr => ∃ (m q k : Nat) (pre : List UInt8), x = .int .u64 m ∧ m ≤ 18446744073709551615 ∧ r = .int .u64 q ∧ q ≤ 18446744073709551615 ∧ Hid (q + 1 = 256 ^ k) ∧ Hid (pre ++ Bt.fx k m = Bt.fx 8 n) ∧ Hid (Own wr base u ((xs ++ pre).map bv)) ∧ Hid (Step w wr v u)) (fun _ _ r _ => (intOf r).toNat)
  case atStart => exact ⟨n, 18446744073709551615, 8, [], rfl, by omega, rfl, by omega, Lib.hid (by decide), Lib.hid rfl, by rw [List.append_nil]; exact HO, Lib.hid (Step.refl _ _)⟩
  case round =>
    obtain ⟨m, q, k, pre, rfl, hm, rfl, hq, HQ, HP, HW, HS⟩ := hrel
    have hpl : pre.length ≤ 10 := by
      have := congrArg List.length HP.out
      rw [List.length_append, Bt.fx_length, Bt.fx_length] at this
      omega
    have hxl : ((xs ++ pre).map bv).length ≤ 140737488355100 := by simp; omega
    have HB : Hid (base ≤ wr.heap.size) := Lib.hid (Nat.le_trans hb HS.out.grown.size)
    cases k with
    | zero =>
      obtain rfl := Bt.r_zero HQ.out
      go_wp2
      go_ret
      refine ⟨u0, rfl, ?_, HS.out⟩
      rw [← HP.out, Bt.fx, List.append_nil]
      exact HW.out
    | succ k =>
      have hq0 := (Bt.r_succ HQ.out).1
      go_wp2_with (at_builtin; refine wpList_append_Own _ rfl (.tmp 12) (.tmp 15) 65 65 rfl base 5 i0 (.int .u8 0) 1 Tryd.underlying65 hi hz0 hz1 hz2 rfl u0 ((xs ++ pre).map bv) rfl (HW.out.alloc _) _ 1 _ rfl (Src.one wr Tryd.underlying65 _ _ rfl) ?c1 ?c2 ?c3 ?_; rotate_right; intro v' w1 hown1 hgr hwh; have HO1 := Lib.hid hown1; have HG := Lib.hid hgr; have HH := Lib.hid hwh; clear hown1 hgr hwh)
      case c1 => omega
      case c2 => omega
      case c3 => exact Nat.le_trans HB.out (by simp)
      go_roundw
      case rel =>
        refine ⟨m / 256, q / 256, k, pre ++ [UInt8.ofNat m], by go_num, by omega, by go_num, by omega, Lib.hid (Bt.r_succ HQ.out).2, Lib.hid ?_, Lib.hid ?_, Lib.hid ?_⟩
        · rw [← HP.out, Bt.fx]; simp
        · rw [← List.append_assoc]
          refine own_snoc (bv_ofNat ?_) HO1.out
          rw [← Bt.wrap8, Bt.wrap_u8]
        · exact (HS.out.alloc _).trans ⟨HG.out, HH.out⟩
      case measure => simp [intOf]; omega
set_option maxRecDepth 100000 in
set_option maxHeartbeats 1000000 in
theorem putFixed_4 (n : Nat) (base : Nat) (v : Value) (xs : List UInt8) (w : World) (hown : Own w base v (xs.map bv)) (hb : base ≤ w.heap.size) (hl : xs.length ≤ 140737488355000) :
   Calls Tryd.prog 83 #[v, .int .u64 n, .int .i64 4] w (OwnRet w base v (xs ++ Bt.fx 4 n)) := by
  have HO := Lib.hid hown
  clear hown
  go_enter Tryd.func83, Tryd.ntmps83
  have hc := putFixed4_own (n % 4294967296) (by omega) base v xs w HO.out hb hl
  rw [show ((n % 4294967296 : Nat) : Int) = (n : Int) % 4294967296 from by omega, Bt.fx4_mod] at hc
  have HC := Lib.hid hc
  clear hc
  go_wp2_with fail
  refine HC.out.mono ?_
  rintro e w1 ⟨v1, rfl, hO1, hS1⟩
  have HO1 := Lib.hid hO1; have HS1 := Lib.hid hS1
  clear hO1 hS1
  go_wp2
  go_ret
  exact ⟨v1, rfl, HO1.out, HS1.out⟩
set_option maxRecDepth 100000 in
set_option maxHeartbeats 1000000 in
theorem putFixed_8 (n : Nat) (hn : n ≤ 18446744073709551615) (base : Nat) (v : Value) (xs : List UInt8) (w : World) (hown : Own w base v (xs.map bv)) (hb : base ≤ w.heap.size) (hl : xs.length ≤ 140737488355000) :
   Calls Tryd.prog 83 #[v, .int .u64 n, .int .i64 8] w (OwnRet w base v (xs ++ Bt.fx 8 n)) := by
  have HO := Lib.hid hown
  clear hown
  go_enter Tryd.func83, Tryd.ntmps83
  go_wp2_with fail
  refine (putFixed8_own n hn base v xs w HO.out hb hl).mono ?_
  rintro e w1 ⟨v1, rfl, hO1, hS1⟩
  have HO1 := Lib.hid hO1; have HS1 := Lib.hid hS1
  clear hO1 hS1
  go_wp2
  go_ret
  exact ⟨v1, rfl, HO1.out, HS1.out⟩
set_option maxRecDepth 100000 in
set_option maxHeartbeats 1000000 in
theorem putFixed_no (n : Nat) (z : Int) (h4 : (z == 4) = false) (h8 : (z == 8) = false) (base : Nat) (v : Value) (xs : List UInt8) (w : World) (hown : Own w base v (xs.map bv)) :
   Calls Tryd.prog 83 #[v, .int .u64 n, .int .i64 z] w (OwnRet w base v xs) := by
  have HO := Lib.hid hown
  clear hown
  go_enter Tryd.func83, Tryd.ntmps83
  go_wp2
  go_ret
  exact ⟨v, rfl, HO.out, Step.refl _ _⟩
end Go.Proofs.YtpcpbdcdapmlnaaDoor
