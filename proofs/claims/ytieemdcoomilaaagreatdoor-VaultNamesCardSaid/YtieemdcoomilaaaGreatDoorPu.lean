/- The contracts of what puts bytes: PutUvarint, PutFixed, PutText, over the seat's own program. -/
import Derived.Test.YtieemdcoomilaaaGreatDoorOw
import Derived.Test.YtieemdcoomilaaaGreatDoorMa
import Derived.Lib.Strings
import Derived.Deep.RegionWith
import Derived.Deep.RegionHeld3
import Derived.Handy
import Derived.Test.YtieemdcoomilaaaGreatDoorSa
import Derived.Test.YtieemdcoomilaaaGreatDoorSc
import Derived.Laws.ResultCell
import Derived.Laws.Rows
set_option linter.unusedVariables false
set_option linter.unusedSimpArgs false
namespace Go.Proofs.YtieemdcoomilaaaGreatDoor
open Go.RowKit
theorem Tryz.info5 : (Tryz.prog.info? 5).map (fun i => (i.zero, i.size, i.bytes)) = some (some (.int .u8 0), 1, 1) := by kernel_rfl
theorem bv_ofNat {n : Nat} {x : Int} (h : x = ((UInt8.ofNat n).toNat : Int)) : Value.int .u8 x = bv (UInt8.ofNat n) := by rw [h]; rfl
theorem own_snoc {w : World} {base : Nat} {v : Value} {xs : List UInt8} {c : UInt8} {x : Value} (hx : x = bv c) (h : Own w base v (xs.map bv ++ [x])) : Own w base v ((xs ++ [c]).map bv) := by
  rw [List.map_append, List.map_cons, List.map_nil, ← hx]; exact h
set_option maxRecDepth 100000 in
set_option maxHeartbeats 1000000 in
theorem put_own (n : Nat) (hn : n ≤ 18446744073709551615) (base : Nat) (v : Value) (xs : List UInt8) (w : World) (hown : Own w base v (xs.map bv)) (hb : base ≤ w.heap.size) (hl : xs.length ≤ 140737488355000) :
   Calls Tryz.prog 149 #[v, .int .u64 n] w (OwnRet w base v (xs ++ Bt.vint n)) := by
  have hv := Bt.vlen_u64 (n := n) (by omega)
  obtain ⟨i0, hi, hz0, hz1, hz2⟩ := info_parts Tryz.info5
  have HO := Lib.hid hown
  clear hown
  go_enter Tryz.func149, Tryz.ntmps149
  go_wp2
  go_loopw [0, 1] (fun u x wr => ∃ (m : Nat) (pre : List UInt8), x = .int .u64 m ∧ m ≤ 18446744073709551615 ∧ Hid (pre ++ Bt.vint m = Bt.vint n) ∧ Hid (Own wr base u ((xs ++ pre).map bv)) ∧ Hid (Step w wr v u)) (fun _ x _ => (intOf x).toNat)
  case atStart => exact ⟨n, [], rfl, by omega, Lib.hid rfl, by rw [List.append_nil]; exact HO, Lib.hid (Step.refl _ _)⟩
  case round =>
    obtain ⟨m, pre, rfl, hm, HP, HW, HS⟩ := hrel
    have hpl : pre.length ≤ 10 := by
      have := congrArg List.length HP.out
      rw [List.length_append, Bt.vint_length, Bt.vint_length] at this
      have := Bt.vlen_pos m
      omega
    have hxl : ((xs ++ pre).map bv).length ≤ 140737488355100 := by simp; omega
    have HB : Hid (base ≤ wr.heap.size) := Lib.hid (Nat.le_trans hb HS.out.grown.size)
    by_cases hlt : 128 ≤ m
    · have HV := Lib.hid (Bt.vint_big hlt)
      go_wp2_with (at_builtin; refine wpList_append_Own _ rfl (.tmp 9) (.tmp 13) 92 92 rfl base 5 i0 (.int .u8 0) 1 Tryz.underlying92 hi hz0 hz1 hz2 rfl u0 ((xs ++ pre).map bv) rfl (HW.out.alloc _) _ 1 _ rfl (Src.one wr Tryz.underlying92 _ _ rfl) ?c1 ?c2 ?c3 ?_; rotate_right; intro v' w1 hown1 hgr hwh; have HO1 := Lib.hid hown1; have HG := Lib.hid hgr; have HH := Lib.hid hwh; clear hown1 hgr hwh)
      case c1 => omega
      case c2 => omega
      case c3 => exact Nat.le_trans HB.out (by simp)
      go_roundw
      case rel =>
        refine ⟨m / 128, pre ++ [UInt8.ofNat (m % 128 + 128)], by go_num, by omega, Lib.hid ?_, Lib.hid ?_, Lib.hid ?_⟩
        · rw [← HP.out, HV.out]; simp
        · rw [← List.append_assoc]
          exact own_snoc (bv_ofNat (by rw [Bt.or128', Bt.ofNat_toNat (by omega)])) HO1.out
        · exact (HS.out.alloc _).trans ⟨HG.out, HH.out⟩
      case measure => simp [intOf]; omega
    · have HV := Lib.hid (Bt.vint_small (n := m) (by omega))
      go_wp2_with (at_builtin; refine wpList_append_Own _ rfl (.tmp 15) (.tmp 18) 92 92 rfl base 5 i0 (.int .u8 0) 1 Tryz.underlying92 hi hz0 hz1 hz2 rfl u0 ((xs ++ pre).map bv) rfl (HW.out.alloc _) _ 1 _ rfl (Src.one wr Tryz.underlying92 _ _ rfl) ?c1 ?c2 ?c3 ?_; rotate_right; intro v' w1 hown1 hgr hwh; have HO1 := Lib.hid hown1; have HG := Lib.hid hgr; have HH := Lib.hid hwh; clear hown1 hgr hwh)
      case c1 => omega
      case c2 => omega
      case c3 => exact Nat.le_trans HB.out (by simp)
      go_ret
      refine ⟨v', rfl, ?_, (HS.out.alloc _).trans ⟨HG.out, HH.out⟩⟩
      rw [← HP.out, HV.out, ← List.append_assoc]
      exact own_snoc (bv_ofNat (Bt.ofNat_toNat (by omega)).symm) HO1.out
set_option maxRecDepth 100000 in
set_option maxHeartbeats 1000000 in
theorem putFixed4_own (n : Nat) (hn : n ≤ 4294967295) (base : Nat) (v : Value) (xs : List UInt8) (w : World) (hown : Own w base v (xs.map bv)) (hb : base ≤ w.heap.size) (hl : xs.length ≤ 140737488355000) :
   Calls Tryz.prog 116 #[v, .int .u32 n] w (OwnRet w base v (xs ++ Bt.fx 4 n)) := by
  obtain ⟨i0, hi, hz0, hz1, hz2⟩ := info_parts Tryz.info5
  have HO := Lib.hid hown
  clear hown
  go_enter Tryz.func116, Tryz.ntmps116
  go_wp2
  go_loopw [0, 1, 5] (fun u x r wr => ∃ (m q k : Nat) (pre : List UInt8), x = .int .u32 m ∧ m ≤ 4294967295 ∧ r = .int .u32 q ∧ q ≤ 4294967295 ∧ Hid (q + 1 = 256 ^ k) ∧ Hid (pre ++ Bt.fx k m = Bt.fx 4 n) ∧ Hid (Own wr base u ((xs ++ pre).map bv)) ∧ Hid (Step w wr v u)) (fun _ _ r _ => (intOf r).toNat)
  case atStart => exact ⟨n, 4294967295, 4, [], rfl, by omega, rfl, by omega, Lib.hid (by decide), Lib.hid rfl, by rw [List.append_nil]; exact HO, Lib.hid (Step.refl _ _)⟩
  case round =>
    obtain ⟨m, q, k, pre, rfl, hm, rfl, hq, HQ, HP, HW, HS⟩ := hrel
    have hpl : pre.length ≤ 10 := by
      have := congrArg List.length HP.out
      rw [List.length_append, Bt.fx_length, Bt.fx_length] at this
      omega
    have hxl : ((xs ++ pre).map bv).length ≤ 140737488355100 := by simp; omega
    have HB : Hid (base ≤ wr.heap.size) := Lib.hid (Nat.le_trans hb HS.out.grown.size)
    cases k with
    | zero =>
      obtain rfl := Bt.r_zero HQ.out
      go_wp2
      go_ret
      refine ⟨u0, rfl, ?_, HS.out⟩
      rw [← HP.out, Bt.fx, List.append_nil]
      exact HW.out
    | succ k =>
      have hq0 := (Bt.r_succ HQ.out).1
      go_wp2_with (at_builtin; refine wpList_append_Own _ rfl (.tmp 12) (.tmp 15) 92 92 rfl base 5 i0 (.int .u8 0) 1 Tryz.underlying92 hi hz0 hz1 hz2 rfl u0 ((xs ++ pre).map bv) rfl (HW.out.alloc _) _ 1 _ rfl (Src.one wr Tryz.underlying92 _ _ rfl) ?c1 ?c2 ?c3 ?_; rotate_right; intro v' w1 hown1 hgr hwh; have HO1 := Lib.hid hown1; have HG := Lib.hid hgr; have HH := Lib.hid hwh; clear hown1 hgr hwh)
      case c1 => omega
      case c2 => omega
      case c3 => exact Nat.le_trans HB.out (by simp)
      go_roundw
      case rel =>
        refine ⟨m / 256, q / 256, k, pre ++ [UInt8.ofNat m], by go_num, by omega, by go_num, by omega, Lib.hid (Bt.r_succ HQ.out).2, Lib.hid ?_, Lib.hid ?_, Lib.hid ?_⟩
        · rw [← HP.out, Bt.fx]; simp
        · rw [← List.append_assoc]
          refine own_snoc (bv_ofNat ?_) HO1.out
          rw [← Bt.wrap8, Bt.wrap_u8]
        · exact (HS.out.alloc _).trans ⟨HG.out, HH.out⟩
      case measure => simp [intOf]; omega
set_option maxRecDepth 100000 in
set_option maxHeartbeats 1000000 in
theorem putFixed8_own (n : Nat) (hn : n ≤ 18446744073709551615) (base : Nat) (v : Value) (xs : List UInt8) (w : World) (hown : Own w base v (xs.map bv)) (hb : base ≤ w.heap.size) (hl : xs.length ≤ 140737488355000) :
   Calls Tryz.prog 117 #[v, .int .u64 n] w (OwnRet w base v (xs ++ Bt.fx 8 n)) := by
  obtain ⟨i0, hi, hz0, hz1, hz2⟩ := info_parts Tryz.info5
  have HO := Lib.hid hown
  clear hown
  go_enter Tryz.func117, Tryz.ntmps117
  go_wp2
  go_loopw [0, 1, 5] (fun u x r wr => ∃ (m q k : Nat) (pre : List UInt8), x = .int .u64 m ∧ m ≤ 18446744073709551615 ∧ r = .int .u64 q ∧ q ≤ 18446744073709551615 ∧ Hid (q + 1 = 256 ^ k) ∧ Hid (pre ++ Bt.fx k m = Bt.fx 8 n) ∧ Hid (Own wr base u ((xs ++ pre).map bv)) ∧ Hid (Step w wr v u)) (fun _ _ r _ => (intOf r).toNat)
  case atStart => exact ⟨n, 18446744073709551615, 8, [], rfl, by omega, rfl, by omega, Lib.hid (by decide), Lib.hid rfl, by rw [List.append_nil]; exact HO, Lib.hid (Step.refl _ _)⟩
  case round =>
    obtain ⟨m, q, k, pre, rfl, hm, rfl, hq, HQ, HP, HW, HS⟩ := hrel
    have hpl : pre.length ≤ 10 := by
      have := congrArg List.length HP.out
      rw [List.length_append, Bt.fx_length, Bt.fx_length] at this
      omega
    have hxl : ((xs ++ pre).map bv).length ≤ 140737488355100 := by simp; omega
    have HB : Hid (base ≤ wr.heap.size) := Lib.hid (Nat.le_trans hb HS.out.grown.size)
    cases k with
    | zero =>
      obtain rfl := Bt.r_zero HQ.out
      go_wp2
      go_ret
      refine ⟨u0, rfl, ?_, HS.out⟩
      rw [← HP.out, Bt.fx, List.append_nil]
      exact HW.out
    | succ k =>
      have hq0 := (Bt.r_succ HQ.out).1
      go_wp2_with (at_builtin; refine wpList_append_Own _ rfl (.tmp 12) (.tmp 15) 92 92 rfl base 5 i0 (.int .u8 0) 1 Tryz.underlying92 hi hz0 hz1 hz2 rfl u0 ((xs ++ pre).map bv) rfl (HW.out.alloc _) _ 1 _ rfl (Src.one wr Tryz.underlying92 _ _ rfl) ?c1 ?c2 ?c3 ?_; rotate_right; intro v' w1 hown1 hgr hwh; have HO1 := Lib.hid hown1; have HG := Lib.hid hgr; have HH := Lib.hid hwh; clear hown1 hgr hwh)
      case c1 => omega
      case c2 => omega
      case c3 => exact Nat.le_trans HB.out (by simp)
      go_roundw
      case rel =>
        refine ⟨m / 256, q / 256, k, pre ++ [UInt8.ofNat m], by go_num, by omega, by go_num, by omega, Lib.hid (Bt.r_succ HQ.out).2, Lib.hid ?_, Lib.hid ?_, Lib.hid ?_⟩
        · rw [← HP.out, Bt.fx]; simp
        · rw [← List.append_assoc]
          refine own_snoc (bv_ofNat ?_) HO1.out
          rw [← Bt.wrap8, Bt.wrap_u8]
        · exact (HS.out.alloc _).trans ⟨HG.out, HH.out⟩
      case measure => simp [intOf]; omega
set_option maxRecDepth 100000 in
set_option maxHeartbeats 1000000 in
theorem putFixed_4 (n : Nat) (base : Nat) (v : Value) (xs : List UInt8) (w : World) (hown : Own w base v (xs.map bv)) (hb : base ≤ w.heap.size) (hl : xs.length ≤ 140737488355000) :
   Calls Tryz.prog 92 #[v, .int .u64 n, .int .i64 4] w (OwnRet w base v (xs ++ Bt.fx 4 n)) := by
  have HO := Lib.hid hown
  clear hown
  go_enter Tryz.func92, Tryz.ntmps92
  have hc := putFixed4_own (n % 4294967296) (by omega) base v xs w HO.out hb hl
  rw [show ((n % 4294967296 : Nat) : Int) = (n : Int) % 4294967296 from by omega, Bt.fx4_mod] at hc
  have HC := Lib.hid hc
  clear hc
  go_wp2_with fail
  refine HC.out.mono ?_
  rintro e w1 ⟨v1, rfl, hO1, hS1⟩
  have HO1 := Lib.hid hO1; have HS1 := Lib.hid hS1
  clear hO1 hS1
  go_wp2
  go_ret
  exact ⟨v1, rfl, HO1.out, HS1.out⟩
set_option maxRecDepth 100000 in
set_option maxHeartbeats 1000000 in
theorem putFixed_8 (n : Nat) (hn : n ≤ 18446744073709551615) (base : Nat) (v : Value) (xs : List UInt8) (w : World) (hown : Own w base v (xs.map bv)) (hb : base ≤ w.heap.size) (hl : xs.length ≤ 140737488355000) :
   Calls Tryz.prog 92 #[v, .int .u64 n, .int .i64 8] w (OwnRet w base v (xs ++ Bt.fx 8 n)) := by
  have HO := Lib.hid hown
  clear hown
  go_enter Tryz.func92, Tryz.ntmps92
  go_wp2_with fail
  refine (putFixed8_own n hn base v xs w HO.out hb hl).mono ?_
  rintro e w1 ⟨v1, rfl, hO1, hS1⟩
  have HO1 := Lib.hid hO1; have HS1 := Lib.hid hS1
  clear hO1 hS1
  go_wp2
  go_ret
  exact ⟨v1, rfl, HO1.out, HS1.out⟩
set_option maxRecDepth 100000 in
set_option maxHeartbeats 1000000 in
theorem putFixed_no (n : Nat) (z : Int) (h4 : (z == 4) = false) (h8 : (z == 8) = false) (base : Nat) (v : Value) (xs : List UInt8) (w : World) (hown : Own w base v (xs.map bv)) :
   Calls Tryz.prog 92 #[v, .int .u64 n, .int .i64 z] w (OwnRet w base v xs) := by
  have HO := Lib.hid hown
  clear hown
  go_enter Tryz.func92, Tryz.ntmps92
  go_wp2
  go_ret
  exact ⟨v, rfl, HO.out, Step.refl _ _⟩
end Go.Proofs.YtieemdcoomilaaaGreatDoor
namespace Go.Proofs.YtieemdcoomilaaaGreatDoor
open Go.RowKit
theorem two_ne4 {z : Int} (h : z = 4 ∨ z = 8) : ((z != 4) && (z != 8)) = false := by rcases h with rfl | rfl <;> decide
set_option maxRecDepth 100000 in
set_option maxHeartbeats 1000000 in
theorem fixed_ok4 (s : ByteArray) (at' : Nat) (w : World) (h1 : at' + 4 ≤ s.size) (hs : s.size ≤ 140737488351232) :
   Calls Tryz.prog 131 #[.string s, .int .i64 at', .int .i64 4] w fun e w' => e = .returned (.tuple #[.int .u64 (Bt.fat s.data.toList at' 4), .int .i64 ((at' + 4 : Nat) : Int), .int .i64 0]) ∧ w = w' := by
  have hd : decide (0 ≤ (at' : Int) ∧ (at' : Int) ≤ (s.size : Int)) = true := decide_eq_true (by omega)
  go_enter Tryz.func131, Tryz.ntmps131
  go_wp2_with (go_at_call 151; refine (isPlace_any _ _ _).mono ?_; rintro e w' ⟨rfl, rfl⟩; simp only [hd])
  go_loop [6, 29] (fun n i => ∃ (k acc : Nat), k ≤ 4 ∧ Hid (acc = Bt.fat s.data.toList at' k) ∧ n = .int .u64 acc ∧ i = .int .i64 k) (fun _ i => 4 - (intOf i).toNat)
  case atStart => exact ⟨0, 0, by omega, Lib.hid rfl, rfl, rfl⟩
  case round =>
    obtain ⟨k, acc, hk, HA, rfl, rfl⟩ := hrel
    by_cases hlt : k < 4
    · have hin : at' + k < s.size := by omega
      have hbb := (s[at' + k]).toNat_lt
      have HO : Hid (bits .or .u64 (acc : Int) (IntKind.u64.wrap ((s[at' + k].toNat : Int) * 2 ^ (8 * k))) = ((acc + s[at' + k].toNat * 256 ^ k : Nat) : Int)) := Bt.or_fix acc k _ (by omega) (by rw [HA.out]; exact Bt.fat_lt)
      have HF : Hid (Bt.fat s.data.toList at' (k + 1) = Bt.fat s.data.toList at' k + s[at' + k].toNat * 256 ^ k) := Bt.fat_succ (by simpa using hin)
      go_wp2
      go_round
      case rel =>
        refine ⟨k + 1, acc + s[at' + k].toNat * 256 ^ k, by omega, Lib.hid ?_, ?_, ?_⟩
        · rw [HF.out, ← HA.out]
        · rw [HO.out]
        · go_num
      case measure => simp [intOf]; omega
    · obtain rfl : k = 4 := by omega
      go_wp2
      go_ret3
      exact ⟨ret_uv (by rw [HA.out]) (by omega) rfl, rfl⟩
set_option maxRecDepth 100000 in
set_option maxHeartbeats 1000000 in
theorem fixed_short4 (s : ByteArray) (at' : Nat) (w : World) (h0 : at' ≤ s.size) (h1 : s.size < at' + 4) :
   Calls Tryz.prog 131 #[.string s, .int .i64 at', .int .i64 4] w fun e w' => e = .returned (.tuple #[.int .u64 0, .int .i64 0, .int .i64 8]) ∧ w = w' := by
  have hd : decide (0 ≤ (at' : Int) ∧ (at' : Int) ≤ (s.size : Int)) = true := decide_eq_true (by omega)
  go_enter Tryz.func131, Tryz.ntmps131
  go_wp2_with (go_at_call 151; refine (isPlace_any _ _ _).mono ?_; rintro e w' ⟨rfl, rfl⟩; simp only [hd])
  go_ret3
  exact ⟨rfl, rfl⟩
set_option maxRecDepth 100000 in
set_option maxHeartbeats 1000000 in
theorem fixed_arg4 (s : ByteArray) (at' : Int) (w : World) (h0 : at' < 0 ∨ (s.size : Int) < at') :
   Calls Tryz.prog 131 #[.string s, .int .i64 at', .int .i64 4] w fun e w' => e = .returned (.tuple #[.int .u64 0, .int .i64 0, .int .i64 1]) ∧ w = w' := by
  have hd : decide (0 ≤ at' ∧ at' ≤ (s.size : Int)) = false := decide_eq_false (by omega)
  by_cases hn : at' < 0
  all_goals
    go_enter Tryz.func131, Tryz.ntmps131
    go_wp2_with (go_at_call 151; refine (isPlace_any _ _ _).mono ?_; rintro e w' ⟨rfl, rfl⟩; simp only [hd])
    go_ret3
    exact ⟨rfl, rfl⟩
set_option maxRecDepth 100000 in
set_option maxHeartbeats 1000000 in
theorem fixed_ok8 (s : ByteArray) (at' : Nat) (w : World) (h1 : at' + 8 ≤ s.size) (hs : s.size ≤ 140737488351232) :
   Calls Tryz.prog 131 #[.string s, .int .i64 at', .int .i64 8] w fun e w' => e = .returned (.tuple #[.int .u64 (Bt.fat s.data.toList at' 8), .int .i64 ((at' + 8 : Nat) : Int), .int .i64 0]) ∧ w = w' := by
  have hd : decide (0 ≤ (at' : Int) ∧ (at' : Int) ≤ (s.size : Int)) = true := decide_eq_true (by omega)
  go_enter Tryz.func131, Tryz.ntmps131
  go_wp2_with (go_at_call 151; refine (isPlace_any _ _ _).mono ?_; rintro e w' ⟨rfl, rfl⟩; simp only [hd])
  go_loop [6, 29] (fun n i => ∃ (k acc : Nat), k ≤ 8 ∧ Hid (acc = Bt.fat s.data.toList at' k) ∧ n = .int .u64 acc ∧ i = .int .i64 k) (fun _ i => 8 - (intOf i).toNat)
  case atStart => exact ⟨0, 0, by omega, Lib.hid rfl, rfl, rfl⟩
  case round =>
    obtain ⟨k, acc, hk, HA, rfl, rfl⟩ := hrel
    by_cases hlt : k < 8
    · have hin : at' + k < s.size := by omega
      have hbb := (s[at' + k]).toNat_lt
      have HO : Hid (bits .or .u64 (acc : Int) (IntKind.u64.wrap ((s[at' + k].toNat : Int) * 2 ^ (8 * k))) = ((acc + s[at' + k].toNat * 256 ^ k : Nat) : Int)) := Bt.or_fix acc k _ (by omega) (by rw [HA.out]; exact Bt.fat_lt)
      have HF : Hid (Bt.fat s.data.toList at' (k + 1) = Bt.fat s.data.toList at' k + s[at' + k].toNat * 256 ^ k) := Bt.fat_succ (by simpa using hin)
      go_wp2
      go_round
      case rel =>
        refine ⟨k + 1, acc + s[at' + k].toNat * 256 ^ k, by omega, Lib.hid ?_, ?_, ?_⟩
        · rw [HF.out, ← HA.out]
        · rw [HO.out]
        · go_num
      case measure => simp [intOf]; omega
    · obtain rfl : k = 8 := by omega
      go_wp2
      go_ret3
      exact ⟨ret_uv (by rw [HA.out]) (by omega) rfl, rfl⟩
set_option maxRecDepth 100000 in
set_option maxHeartbeats 1000000 in
theorem fixed_short8 (s : ByteArray) (at' : Nat) (w : World) (h0 : at' ≤ s.size) (h1 : s.size < at' + 8) :
   Calls Tryz.prog 131 #[.string s, .int .i64 at', .int .i64 8] w fun e w' => e = .returned (.tuple #[.int .u64 0, .int .i64 0, .int .i64 8]) ∧ w = w' := by
  have hd : decide (0 ≤ (at' : Int) ∧ (at' : Int) ≤ (s.size : Int)) = true := decide_eq_true (by omega)
  go_enter Tryz.func131, Tryz.ntmps131
  go_wp2_with (go_at_call 151; refine (isPlace_any _ _ _).mono ?_; rintro e w' ⟨rfl, rfl⟩; simp only [hd])
  go_ret3
  exact ⟨rfl, rfl⟩
set_option maxRecDepth 100000 in
set_option maxHeartbeats 1000000 in
theorem fixed_arg8 (s : ByteArray) (at' : Int) (w : World) (h0 : at' < 0 ∨ (s.size : Int) < at') :
   Calls Tryz.prog 131 #[.string s, .int .i64 at', .int .i64 8] w fun e w' => e = .returned (.tuple #[.int .u64 0, .int .i64 0, .int .i64 1]) ∧ w = w' := by
  have hd : decide (0 ≤ at' ∧ at' ≤ (s.size : Int)) = false := decide_eq_false (by omega)
  by_cases hn : at' < 0
  all_goals
    go_enter Tryz.func131, Tryz.ntmps131
    go_wp2_with (go_at_call 151; refine (isPlace_any _ _ _).mono ?_; rintro e w' ⟨rfl, rfl⟩; simp only [hd])
    go_ret3
    exact ⟨rfl, rfl⟩
set_option maxRecDepth 100000 in
set_option maxHeartbeats 1000000 in
theorem fixed_no (s : ByteArray) (at' z : Int) (w : World) (h4 : (z == 4) = false) (h8 : (z == 8) = false) :
   Calls Tryz.prog 131 #[.string s, .int .i64 at', .int .i64 z] w fun e w' => e = .returned (.tuple #[.int .u64 0, .int .i64 0, .int .i64 1]) ∧ w = w' := by
  have g4 : (z != 4) = true := by rw [bne, h4]; rfl
  have g8 : (z != 8) = true := by rw [bne, h8]; rfl
  go_enter Tryz.func131, Tryz.ntmps131
  go_wp2
  go_ret3
  exact ⟨rfl, rfl⟩
theorem drop_extract (s : ByteArray) (a : Nat) : (s.extract a s.size).data.toList = s.data.toList.drop a := by
  rw [Lib.extract_data, List.take_of_length_le (by simp)]
end Go.Proofs.YtieemdcoomilaaaGreatDoor
namespace Go.Proofs.YtieemdcoomilaaaGreatDoor
open Go.RowKit
theorem bs_append (a b : List UInt8) : bs a ++ bs b = bs (a ++ b) := by
  apply ByteArray.ext; simp [bs]
/-- string(b) of one byte, wherever it lies. -/
theorem run_string_one (c : UInt8) (x : Int) (hx : x = (c.toNat : Int)) (W : World) (g : Nat) (h : W.cell? ⟨g, 0, none⟩ = some (.int .u8 x)) :
    Sem.run Tryz.prog (convert 92 9 (.slice (some ⟨g, 0, none⟩) 1 1)) W = .ok (.string (bs [c])) W := by
  refine run_convert_bytes_back W 92 9 5 ⟨g, 0, none⟩ 1 [c] Tryz.underlying92 Tryz.underlying5 Tryz.underlying9 (fun j hj => ?_)
  have : j = 0 := by simpa using hj
  subst this
  have hadd : (⟨g, 0, none⟩ : Addr).add 0 = ⟨g, 0, none⟩ := by unfold Addr.add; simp
  rw [hadd, h, hx]
  rfl
theorem finA {w w1 : World} {o : Obj} (hb : Below (w.alloc o).drew.heap.size (w.alloc o).drew w1) : Below w.heap.size w w1 :=
  (((Below.refl w.heap.size w).alloc (Nat.le_refl _) o).drew).trans (hb.mono (by simp))
theorem finC {w w1 : World} {o : Obj} (hb : Below w.drew.heap.size w.drew w1) : Below w.heap.size w (w1.alloc o) :=
  Below.alloc (a := w) (w := w1) ⟨hb.os, hb.tape, hb.output, hb.size, hb.block⟩ hb.size o
theorem ret_str {a b : ByteArray} (h : a = b) : Ending.returned (.string a) = .returned (.string b) := by rw [h]
set_option maxRecDepth 100000 in
set_option maxHeartbeats 1000000 in
theorem rvint_small (n : Nat) (w : World) (hn : n < 128) :
   Calls Tryz.prog 105 #[.int .u64 n] w fun e w' => e = .returned (.string (bs (Bt.vint n))) ∧ Below w.heap.size w w' := by
  have HV := Lib.hid (Bt.vint_small hn)
  have hcv := run_string_one (UInt8.ofNat n) n (Bt.ofNat_toNat (by omega)).symm
  go_enter Tryz.func105, Tryz.ntmps105
  go_wp2
  go_ret
  exact ⟨ret_str (by rw [HV.out]), (Below.refl _ _).alloc (Nat.le_refl _) _⟩
set_option maxRecDepth 100000 in
set_option maxHeartbeats 1000000 in
theorem rvint_any (k : Nat) : ∀ (n : Nat) (w : World), n < 128 ^ (k + 1) → n ≤ 18446744073709551615 →
   Calls Tryz.prog 105 #[.int .u64 n] w fun e w' => e = .returned (.string (bs (Bt.vint n))) ∧ Below w.heap.size w w' := by
  induction k with
  | zero =>
    intro n w hk hn
    exact rvint_small n w (by simpa using hk)
  | succ k ih =>
    intro n w hk hn
    have IH := Lib.hid ih
    clear ih
    by_cases h : n < 128
    · exact rvint_small n w h
    · have hg : 128 ≤ n := by omega
      have HV := Lib.hid (Bt.vint_big hg)
      have HK : Hid (n / 128 < 128 ^ (k + 1)) := by
        refine Lib.hid ?_
        rw [Nat.div_lt_iff_lt_mul (by omega)]; rw [Nat.pow_succ] at hk; exact hk
      clear hk
      have e1 : (n : Int).tmod 128 = ((n % 128 : Nat) : Int) := by rw [Int.tmod_eq_emod_of_nonneg (by omega)]; omega
      have e5 : (n : Int) / 128 = ((n / 128 : Nat) : Int) := by omega
      have hq : n / 128 ≤ 144115188075855871 := by omega
      have hm : n % 128 ≤ 127 := by omega
      generalize n % 128 = m at *
      generalize n / 128 = q at *
      have e2 : IntKind.u8.wrap (m : Int) = (m : Int) := by rw [Bt.wrap_u8]; omega
      have e3 : IntKind.u8.wrap ((m : Int) + 128) = (m : Int) + 128 := by rw [Bt.wrap_u8]; omega
      have e6 : IntKind.u64.wrap (q : Int) = (q : Int) := by rw [IntKind.wrap_u64]; omega
      have hcv := run_string_one (UInt8.ofNat (m + 128)) ((m : Int) + 128) (by rw [Bt.ofNat_toNat (by omega)]; omega)
      have hz1 : (bs [UInt8.ofNat (m + 128)]).size = 1 := rfl
      have hz2 : (bs (Bt.vint q)).size ≤ 10 := by rw [bs_size, Bt.vint_length]; exact Bt.vlen_u64 (by omega)
      have HE : Hid (bs [UInt8.ofNat (m + 128)] ++ bs (Bt.vint q) = bs (Bt.vint n)) := by rw [bs_append, HV.out]; rfl
      have C := fun w => IH.out q w HK.out (by omega)
      generalize bs [UInt8.ofNat (m + 128)] = u at *
      generalize bs (Bt.vint q) = t at *
      have D := Lib.hid C
      clear C HV
      go_enter Tryz.func105, Tryz.ntmps105
      go_wp2_with fail
      go_region_with (first | (go_at_call 105; refine (D.out _).mono ?_; rintro e w1 ⟨rfl, hb⟩; have hc := hb.cell (p := ⟨w.heap.size, 0, none⟩)))
      all_goals
        go_wp2
        go_ret
        first
          | exact ⟨ret_str HE.out, finA hb⟩
          | exact ⟨ret_str HE.out, finC hb⟩
theorem rvint (n : Nat) (w : World) (hn : n ≤ 18446744073709551615) :
   Calls Tryz.prog 105 #[.int .u64 n] w fun e w' => e = .returned (.string (bs (Bt.vint n))) ∧ Below w.heap.size w w' :=
  rvint_any 9 n w (by have e : (128 : Nat) ^ 10 = 1180591620717411303424 := by decide
                      omega) hn
end Go.Proofs.YtieemdcoomilaaaGreatDoor
namespace Go.Proofs.YtieemdcoomilaaaGreatDoor
open Go.RowKit
theorem xor_ones (a : Nat) (ha : a < 4294967296) : bits .xor .u32 (a : Int) 4294967295 = ((4294967295 ^^^ a : Nat) : Int) := by
  rw [Nat.xor_comm]; exact u32_xor_nat a 4294967295 ha (by omega)
end Go.Proofs.YtieemdcoomilaaaGreatDoor
namespace Go.Proofs.YtieemdcoomilaaaGreatDoor
open Go Go.RowKit
set_option maxRecDepth 100000
theorem results_cell_two {fn : Func} {p u v : Tmp} {ty : TypeId} (h : fn.results = #[.cell p ty, .tmp u, .tmp v]) (tmps : Array Value) (P : Program) (w : World) :
    (results fn tmps).run P w =
      ((asAddr (tmps.getD p undef)).run P w).andThen fun a w₁ => ((loadVar ty a).run P w₁).andThen fun x w₂ => .ok (.tuple #[x, tmps.getD u undef, tmps.getD v undef]) w₂ := by
  simp only [results, h]
  simp [Sem.run_bind, Result.andThen]
/-- A type of three cells. -/
structure Tri (ty : TypeId) : Prop where
  hu : ∃ fs, Tryz.prog.underlying ty = some (.struct fs)
  hi : (Tryz.prog.info? ty).map (·.size) = some 3
theorem tri24 : Tri 145 := ⟨⟨_, Tryz.underlying145⟩, by kernel_rfl⟩
theorem ret3 {fn : Func} {R : Ending → World → Prop} {a : Act} {w : World} {x y z r e : Value} {ty : TypeId} (hr : fn.results = #[.cell 4 ty, .tmp 5, .tmp 6]) (h : Tri ty) (B : Nat) (h2 : a.tmps.getD 4 undef = .pointer (some ⟨B, 0, none⟩)) (h3 : a.tmps.getD 5 undef = r) (h4 : a.tmps.getD 6 undef = e) (hd : a.defers = [])
    (hB : w.heap[B]? = some (.cells #[x, y, z] ty (0, 0))) (hR : R (.returned (.tuple #[.agg #[x, y, z], r, e])) w) : bodyPost Tryz.prog fn R .ret a w :=
  bodyPost_ret (by
    obtain ⟨fs, hu⟩ := h.hu
    have hl := run_loadVar_row (P := Tryz.prog) w B ty ty #[x, y, z] (0, 0) _ hB hu rfl (by rw [h.hi]; rfl)
    rw [results_cell_two hr, h2, h3, h4]
    simp [asAddr, hl, Result.andThen]) hd hR
theorem set3 {w : World} {B : Nat} {x0 x1 x2 : Value} {ty : TypeId} (y0 y1 y2 : Value) (h : w.heap[B]? = some (.cells #[x0, x1, x2] ty (0, 0))) : (((w.setCell ⟨B, 0, none⟩ y0).setCell ⟨B, 1, none⟩ y1).setCell ⟨B, 2, none⟩ y2).heap[B]? = some (.cells #[y0, y1, y2] ty (0, 0)) :=
  Go.heap_setCell_same _ B 2 #[y0, y1, x2] ty y2 (Go.heap_setCell_same _ B 1 #[y0, x1, x2] ty y1 (Go.heap_setCell_same w B 0 #[x0, x1, x2] ty y0 h))
theorem below_set {n : Nat} {w W : World} (h : Below n w W) {B j : Nat} (hB : n ≤ B) (u : Value) : Below n w (W.setCell ⟨B, j, none⟩ u) :=
  ⟨h.os, h.tape, h.output, by simpa using h.size, fun i hi => (Below.heap_setCell _ _ _ _ (by simp only; omega)).trans (h.block i hi)⟩
theorem below_set3 {n : Nat} {w W : World} (h : Below n w W) {B : Nat} (hB : n ≤ B) (x y z : Value) : Below n w (((W.setCell ⟨B, 0, none⟩ x).setCell ⟨B, 1, none⟩ y).setCell ⟨B, 2, none⟩ z) :=
  below_set (below_set (below_set h hB x) hB y) hB z
theorem below_one (w : World) (o : Obj) : Below w.heap.size w (w.alloc o) := (Below.refl _ _).alloc (Nat.le_refl _) _
/-- The row of three cells of a frame. -/
abbrev fv (k : Int) (p : ByteArray) (a : Int) : Value := .agg #[.int .u8 k, .string p, .int .i64 a]
/-- What a call tells that leaves all that was there. -/
def Ret (w : World) (v : Value) (e : Ending) (w' : World) : Prop := e = .returned v ∧ Below w.heap.size w w'
/-- Refused so. -/
abbrev noV (E : Nat) : Value := .tuple #[.agg #[.int .u8 0, .string ⟨#[]⟩, .int .i64 0], .int .i64 0, .int .i64 (E : Int)]
theorem fplace_any (s : ByteArray) (at' : Int) (w : World) :
   Calls Tryz.prog 130 #[.string s, .int .i64 at'] w fun e w' => e = .returned (.bool (decide (0 ≤ at' ∧ at' ≤ (s.size : Int)))) ∧ w = w' := by
  by_cases h : 0 ≤ at'
  · go_enter Tryz.func130, Tryz.ntmps130
    go_wp2
    go_ret
    refine ⟨by simp [h], rfl⟩
  · go_enter Tryz.func130, Tryz.ntmps130
    go_wp2
    go_ret
    refine ⟨by rw [decide_eq_false (by omega)]; rfl, rfl⟩
set_option maxHeartbeats 1000000 in
theorem read_arg (s : ByteArray) (at' : Int) (w : World) (h : at' < 0 ∨ (s.size : Int) < at') :
    Calls Tryz.prog 111 #[.string s, .int .i64 at'] w (Ret w (noV 1)) := by
  have hd : decide (0 ≤ at' ∧ at' ≤ (s.size : Int)) = false := decide_eq_false (by omega)
  go_enter Tryz.func111, Tryz.ntmps111
  go_wp2_with (go_at_call 130; refine (fplace_any _ _ _).mono ?_; rintro e w' ⟨rfl, rfl⟩; simp only [hd])
  exact ret3 Tryz.results111 tri24 w.heap.size rfl rfl rfl rfl (heap_alloc_new w _) ⟨rfl, below_one _ _⟩
set_option maxHeartbeats 1000000 in
theorem read_nine (s : ByteArray) (a : Nat) (w : World) (hs : s.size ≤ 140737488351232) (h : a ≤ s.size) (h9 : s.size < a + 9) :
    Calls Tryz.prog 111 #[.string s, .int .i64 a] w (Ret w (noV 8)) := by
  have hd : decide (0 ≤ (a : Int) ∧ (a : Int) ≤ (s.size : Int)) = true := decide_eq_true (by omega)
  go_enter Tryz.func111, Tryz.ntmps111
  go_wp2_with (go_at_call 130; refine (fplace_any _ _ _).mono ?_; rintro e w' ⟨rfl, rfl⟩; simp only [hd])
  exact ret3 Tryz.results111 tri24 w.heap.size rfl rfl rfl rfl (heap_alloc_new w _) ⟨rfl, below_one _ _⟩
/-- What is told of two numbers and a place. -/
def Fx (s : ByteArray) (a n x : Nat) : Prop := ∀ w, Calls Tryz.prog 131 #[.string s, .int .i64 (a : Int), .int .i64 4] w fun e w' => e = .returned (.tuple #[.int .u64 (n : Int), .int .i64 (x : Int), .int .i64 0]) ∧ w = w'
set_option maxHeartbeats 1000000 in
theorem read_large (s : ByteArray) (a n c : Nat) (w : World) (hs : s.size ≤ 140737488351232) (h9 : a + 9 ≤ s.size) (h1 : Fx s a n (a + 4)) (h2 : Fx s (a + 4) c (a + 8)) (hn : 262144 < n) :
    Calls Tryz.prog 111 #[.string s, .int .i64 a] w (Ret w (noV 40)) := by
  have hd : decide (0 ≤ (a : Int) ∧ (a : Int) ≤ (s.size : Int)) = true := decide_eq_true (by omega)
  have H1 := Lib.hid h1
  have H2 := Lib.hid h2
  clear h1 h2
  go_enter Tryz.func111, Tryz.ntmps111
  go_wp2_with (go_at_call 130; refine (fplace_any _ _ _).mono ?_; rintro e w' ⟨rfl, rfl⟩; simp only [hd])
  refine (H1.out _).mono ?_
  rintro e w' ⟨rfl, rfl⟩
  go_wp2_with fail
  refine (H2.out _).mono ?_
  rintro e w' ⟨rfl, rfl⟩
  go_wp2
  exact ret3 Tryz.results111 tri24 w.heap.size rfl rfl rfl rfl (heap_alloc_new w _) ⟨rfl, below_one _ _⟩
set_option maxHeartbeats 1000000 in
theorem read_cut (s : ByteArray) (a n c : Nat) (w : World) (hs : s.size ≤ 140737488351232) (h9 : a + 9 ≤ s.size) (h1 : Fx s a n (a + 4)) (h2 : Fx s (a + 4) c (a + 8)) (hn : n ≤ 262144) (hc : s.size < a + 9 + n) :
    Calls Tryz.prog 111 #[.string s, .int .i64 a] w (Ret w (noV 8)) := by
  have hd : decide (0 ≤ (a : Int) ∧ (a : Int) ≤ (s.size : Int)) = true := decide_eq_true (by omega)
  have H1 := Lib.hid h1
  have H2 := Lib.hid h2
  clear h1 h2
  go_enter Tryz.func111, Tryz.ntmps111
  go_wp2_with (go_at_call 130; refine (fplace_any _ _ _).mono ?_; rintro e w' ⟨rfl, rfl⟩; simp only [hd])
  refine (H1.out _).mono ?_
  rintro e w' ⟨rfl, rfl⟩
  go_wp2_with fail
  refine (H2.out _).mono ?_
  rintro e w' ⟨rfl, rfl⟩
  go_wp2
  exact ret3 Tryz.results111 tri24 w.heap.size rfl rfl rfl rfl (heap_alloc_new w _) ⟨rfl, below_one _ _⟩
end Go.Proofs.YtieemdcoomilaaaGreatDoor
