/- putNumber, putLiteralLen. -/
import Derived.Test.YtnnogjojoeajnaaEx
namespace Go.Proofs.Ytnnogjojoeajnaa
open Go.RowKit
set_option maxRecDepth 100000 in
set_option maxHeartbeats 1000000 in
theorem pnum_own (n k : Nat) (hn : n ≤ 4294967295) (hk : k ≤ 4) (base : Nat) (v : Value) (xs : List UInt8) (w : World) (hown : Own w base v (xs.map bv)) (hb : base ≤ w.heap.size) (hl : xs.length ≤ 140737488355000) :
   Calls Try.prog 62 #[v, .int .i64 n, .int .i64 k] w (OwnRet w base v (xs ++ Bt.fx k n)) := by
  obtain ⟨i0, hi, hz0, hz1, hz2⟩ := info_parts Try.info5
  have HO := Lib.hid hown
  clear hown
  go_enter Try.func62, Try.ntmps62
  go_wp2
  go_loopw [0, 1, 8] (fun u x j wr => ∃ (m q : Nat) (pre : List UInt8), x = .int .i64 (m : Int) ∧ m ≤ 4294967295 ∧ j = .int .i64 (q : Int) ∧ q ≤ k ∧ Hid (pre.length = q) ∧ Hid (pre ++ Bt.fx (k - q) m = Bt.fx k n) ∧ Hid (Own wr base u ((xs ++ pre).map bv)) ∧ Hid (Step w wr v u)) (fun _ _ j _ => k - (intOf j).toNat)
  case atStart => exact ⟨n, 0, [], rfl, by omega, rfl, by omega, Lib.hid rfl, Lib.hid rfl, by rw [List.append_nil]; exact HO, Lib.hid (Step.refl _ _)⟩
  case round =>
    obtain ⟨m, q, pre, rfl, hm, rfl, hq, HQ, HP, HW, HS⟩ := hrel
    have hxl : ((xs ++ pre).map bv).length ≤ 140737488355100 := by have := HQ.out; simp; omega
    have HB : Hid (base ≤ wr.heap.size) := Lib.hid (Nat.le_trans hb HS.out.grown.size)
    by_cases hlt : q < k
    · have HX := Lib.hid (show Bt.fx (k - q) m = UInt8.ofNat m :: Bt.fx (k - (q + 1)) (m / 256) by rw [show k - q = (k - (q + 1)) + 1 from by omega]; rfl)
      go_wp2_with (at_builtin; refine wpList_append_Own _ rfl (.tmp 10) (.tmp 13) 28 28 rfl base 5 i0 (.int .u8 0) 1 Try.underlying28 hi hz0 hz1 hz2 rfl u0 ((xs ++ pre).map bv) rfl (HW.out.alloc _) _ 1 _ rfl (Src.one wr Try.underlying28 _ _ rfl) ?c1 ?c2 ?c3 ?_; rotate_right; intro v' w1 hown1 hgr hwh; have HO1 := Lib.hid hown1; have HG := Lib.hid hgr; have HH := Lib.hid hwh; clear hown1 hgr hwh)
      case c1 => omega
      case c2 => omega
      case c3 => exact Nat.le_trans HB.out (by simp)
      go_roundw
      case rel =>
        refine ⟨m / 256, q + 1, pre ++ [UInt8.ofNat m], by go_num, by omega, by go_num, by omega, Lib.hid (by rw [List.length_append, HQ.out]; rfl), Lib.hid ?_, Lib.hid ?_, Lib.hid ?_⟩
        · rw [← HP.out, HX.out]; simp
        · rw [← List.append_assoc]
          refine own_snoc (bv_ofNat ?_) HO1.out
          rw [← Bt.wrap8, Bt.wrap_u8]
        · exact (HS.out.alloc _).trans ⟨HG.out, HH.out⟩
      case measure => simp [intOf]; omega
    · obtain rfl : k = q := by omega
      go_wp2
      go_ret
      refine ⟨u0, rfl, ?_, HS.out⟩
      have := HP.out
      rw [Nat.sub_self] at this
      rw [← this, Bt.fx, List.append_nil]
      exact HW.out
/-- How many bytes a literal's number has. -/
def nsz (n : Nat) : Nat := if n < 256 then 1 else if n < 65536 then 2 else if n < 16777216 then 3 else 4
/-- What stands ahead of a literal's bytes. -/
def lhead (len : Nat) : List UInt8 := if len - 1 < 60 then [UInt8.ofNat ((len - 1) * 4)] else UInt8.ofNat ((59 + nsz (len - 1)) * 4) :: Bt.fx (nsz (len - 1)) (len - 1)
theorem or_zero (a : Nat) (h : a < 9223372036854775808) : bits .or .i64 (a : Int) 0 = (a : Int) := by
  rw [show (0 : Int) = ((0 : Nat) : Int) from rfl, i64_or_nat a 0 h (by omega), Nat.or_zero]
set_option maxRecDepth 100000 in
set_option maxHeartbeats 1000000 in
theorem lhead_small (N : Nat) (h2 : N < 60) (base : Nat) (v : Value) (xs : List UInt8) (w : World) (hown : Own w base v (xs.map bv)) (hb : base ≤ w.heap.size) (hl : xs.length ≤ 140737488355000) :
   Calls Try.prog 61 #[v, .int .i64 ((N + 1 : Nat) : Int)] w (OwnRet w base v (xs ++ [UInt8.ofNat (N * 4)])) := by
  obtain ⟨i0, hi, hz0, hz1, hz2⟩ := info_parts Try.info5
  have HO := Lib.hid hown
  clear hown
  have hxl : (xs.map bv).length ≤ 140737488355100 := by simp; omega
  have ho := or_zero (N * 4) (by omega)
  rw [show ((N * 4 : Nat) : Int) = (N : Int) * 4 from by omega] at ho
  have hN1 : ((N + 1 : Nat) : Int) - 1 = (N : Int) := by omega
  generalize ((N + 1 : Nat) : Int) = M at *
  go_enter Try.func61, Try.ntmps61
  go_wp2_with (at_builtin; refine wpList_append_Own _ rfl (.tmp 11) (.tmp 16) 28 28 rfl base 5 i0 (.int .u8 0) 1 Try.underlying28 hi hz0 hz1 hz2 rfl v (xs.map bv) rfl (HO.out.alloc _) _ 1 _ rfl (Src.one w Try.underlying28 _ _ rfl) ?c1 ?c2 ?c3 ?_; rotate_right; intro v' w1 hown1 hgr hwh; have HO1 := Lib.hid hown1; have HG := Lib.hid hgr; have HH := Lib.hid hwh; clear hown1 hgr hwh)
  case c1 => omega
  case c2 => omega
  case c3 => exact Nat.le_trans hb (by simp)
  go_ret
  refine ⟨v', rfl, own_snoc (bv_ofNat ?_) HO1.out, ((Step.refl _ _).alloc _).trans ⟨HG.out, HH.out⟩⟩
  rw [← Bt.wrap8]
  first | rfl | (rw [Bt.wrap_u8]; omega) | (congr 1; omega) | (rw [Bt.wrap_u8, Bt.wrap_u8]; omega)
set_option maxRecDepth 100000 in
set_option maxHeartbeats 1000000 in
theorem lhead_big (N Z : Nat) (h2 : 60 ≤ N) (h3 : N ≤ 65535) (hZ : (Z = 1 ∧ N < 256) ∨ (Z = 2 ∧ 256 ≤ N)) (base : Nat) (v : Value) (xs : List UInt8) (w : World) (hown : Own w base v (xs.map bv)) (hb : base ≤ w.heap.size) (hl : xs.length ≤ 140737488354000) :
   Calls Try.prog 61 #[v, .int .i64 ((N + 1 : Nat) : Int)] w (OwnRet w base v (xs ++ (UInt8.ofNat ((59 + Z) * 4) :: Bt.fx Z N))) := by
  obtain ⟨i0, hi, hz0, hz1, hz2⟩ := info_parts Try.info5
  have HO := Lib.hid hown
  clear hown
  have hxl : (xs.map bv).length ≤ 140737488355100 := by simp; omega
  have ho1 := or_zero 240 (by omega)
  have ho2 := or_zero 244 (by omega)
  have hN1 : ((N + 1 : Nat) : Int) - 1 = (N : Int) := by omega
  have HN1 := Lib.hid hN1
  generalize ((N + 1 : Nat) : Int) = M at *
  have HZZ := Lib.hid hZ
  clear hZ
  go_enter Try.func61, Try.ntmps61
  go_wp2
  go_loopw [6] (fun z wr => ((z = .int .i64 1) ∨ (z = .int .i64 2 ∧ 256 ≤ N)) ∧ w = wr) (fun z _ => 3 - (intOf z).toNat)
  case atStart => exact ⟨.inl rfl, rfl⟩
  case round =>
    obtain ⟨hz, rfl⟩ := hrel
    rcases hz with rfl | ⟨rfl, h256⟩
    · by_cases hb256 : 256 ≤ N
      · have hdv : 0 < (N : Int) / 256 := by omega
        go_wp2
        go_roundw
        case rel => exact ⟨.inr ⟨by first | trivial | rfl, hb256⟩, by first | trivial | rfl⟩
        case measure => simp [intOf]
      · obtain rfl : Z = 1 := by have := HZZ.out; omega
        have hdv : (N : Int) / 256 = 0 := by omega
        have HNUM := fun (W : World) (u : Value) (h : Own W base u ((xs ++ [UInt8.ofNat 240]).map bv)) (hb' : base ≤ W.heap.size) => pnum_own N 1 (by omega) (by omega) base u (xs ++ [UInt8.ofNat 240]) W h hb' (by rw [List.length_append, List.length_singleton]; omega)
        have HNM := Lib.hid HNUM
        clear HNUM
        go_wp2_with (first
          | (at_builtin; refine wpList_append_Own _ rfl (.tmp 25) (.tmp 32) 28 28 rfl base 5 i0 (.int .u8 0) 1 Try.underlying28 hi hz0 hz1 hz2 rfl v (xs.map bv) rfl (HO.out.alloc _) _ 1 _ rfl (Src.one w Try.underlying28 _ _ rfl) ?c1 ?c2 ?c3 ?_; rotate_right; intro v' w1 hown1 hgr hwh; have HO1 := Lib.hid (own_snoc (c := UInt8.ofNat 240) rfl hown1); have HG := Lib.hid hgr; have HH := Lib.hid hwh; have HW1 := Lib.hid (Nat.le_trans hb (Nat.le_trans (by simp) hgr.size) : base ≤ w1.heap.size); clear hown1 hgr hwh)
          | (go_at_call 62; refine (HNM.out _ _ HO1.out HW1.out).mono ?_; rintro e w2 ⟨v2, rfl, ho2, hs2⟩; have HO2 := Lib.hid ho2; have HS2 := Lib.hid hs2; clear ho2 hs2))
        case c1 => omega
        case c2 => omega
        case c3 => exact Nat.le_trans hb (by simp)
        go_ret
        refine ⟨v2, rfl, ?_, (((Step.refl _ _).alloc _).trans ⟨HG.out, HH.out⟩).trans HS2.out⟩
        have := HO2.out
        rw [List.append_assoc] at this
        exact this
    · obtain rfl : Z = 2 := by have := HZZ.out; omega
      have hdv : (N : Int) / 65536 = 0 := by omega
      have HNUM := fun (W : World) (u : Value) (h : Own W base u ((xs ++ [UInt8.ofNat 244]).map bv)) (hb' : base ≤ W.heap.size) => pnum_own N 2 (by omega) (by omega) base u (xs ++ [UInt8.ofNat 244]) W h hb' (by rw [List.length_append, List.length_singleton]; omega)
      have HNM := Lib.hid HNUM
      clear HNUM
      go_wp2_with (first
        | (at_builtin; refine wpList_append_Own _ rfl (.tmp 25) (.tmp 32) 28 28 rfl base 5 i0 (.int .u8 0) 1 Try.underlying28 hi hz0 hz1 hz2 rfl v (xs.map bv) rfl (HO.out.alloc _) _ 1 _ rfl (Src.one w Try.underlying28 _ _ rfl) ?c1 ?c2 ?c3 ?_; rotate_right; intro v' w1 hown1 hgr hwh; have HO1 := Lib.hid (own_snoc (c := UInt8.ofNat 244) rfl hown1); have HG := Lib.hid hgr; have HH := Lib.hid hwh; have HW1 := Lib.hid (Nat.le_trans hb (Nat.le_trans (by simp) hgr.size) : base ≤ w1.heap.size); clear hown1 hgr hwh)
        | (go_at_call 62; refine (HNM.out _ _ HO1.out HW1.out).mono ?_; rintro e w2 ⟨v2, rfl, ho2, hs2⟩; have HO2 := Lib.hid ho2; have HS2 := Lib.hid hs2; clear ho2 hs2))
      case c1 => omega
      case c2 => omega
      case c3 => exact Nat.le_trans hb (by simp)
      go_ret
      refine ⟨v2, rfl, ?_, (((Step.refl _ _).alloc _).trans ⟨HG.out, HH.out⟩).trans HS2.out⟩
      have := HO2.out
      rw [List.append_assoc] at this
      exact this
theorem lhead_own (len : Nat) (h1 : 1 ≤ len) (h2 : len ≤ 65536) (base : Nat) (v : Value) (xs : List UInt8) (w : World) (hown : Own w base v (xs.map bv)) (hb : base ≤ w.heap.size) (hl : xs.length ≤ 140737488354000) :
   Calls Try.prog 61 #[v, .int .i64 len] w (OwnRet w base v (xs ++ lhead len)) := by
  obtain ⟨N, rfl⟩ : ∃ N, len = N + 1 := ⟨len - 1, by omega⟩
  unfold lhead
  rw [Nat.add_sub_cancel]
  by_cases h : N < 60
  · rw [if_pos h]
    exact lhead_small N h base v xs w hown hb (by omega)
  · rw [if_neg h]
    unfold nsz
    by_cases h3 : N < 256
    · rw [if_pos h3]
      exact lhead_big N 1 (by omega) (by omega) (.inl ⟨rfl, h3⟩) base v xs w hown hb hl
    · rw [if_neg h3, if_pos (by omega)]
      exact lhead_big N 2 (by omega) (by omega) (.inr ⟨rfl, by omega⟩) base v xs w hown hb hl
end Go.Proofs.Ytnnogjojoeajnaa
