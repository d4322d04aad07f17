/- The reader's Byte and New, and snappy's number, literalLen. -/
import Derived.Test.YtnnogjojoeajnaaGr
namespace Go.Proofs.Ytnnogjojoeajnaa
open Go.RowKit
/-- A number, the lowest byte first. -/
def low : List UInt8 → Nat
  | [] => 0
  | b :: r => b.toNat + 256 * low r
theorem low_lt : ∀ (l : List UInt8), low l < 256 ^ l.length
  | [] => by simp [low]
  | b :: r => by
    have := low_lt r
    have := b.toNat_lt
    rw [low, List.length_cons, Nat.pow_succ]
    omega
theorem low_snoc : ∀ (l : List UInt8) (b : UInt8), low (l ++ [b]) = low l + b.toNat * 256 ^ l.length
  | [], b => by simp [low]
  | c :: r, b => by
    rw [List.cons_append, low, low, low_snoc r b, List.length_cons, Nat.pow_succ, Nat.mul_add, ← Nat.mul_assoc 256, Nat.mul_comm 256 b.toNat, Nat.mul_assoc b.toNat, Nat.mul_comm 256 (256 ^ r.length)]
    omega
theorem i64_or_nat (a b : Nat) (ha : a < 9223372036854775808) (hb : b < 9223372036854775808) : bits .or .i64 (a : Int) (b : Int) = ((a ||| b : Nat) : Int) := by
  have h := u64_or_nat a b (by omega) (by omega)
  have h1 : bits .or .u64 (a : Int) (b : Int) = IntKind.u64.wrap ((BitVec.ofInt 64 (a : Int) ||| BitVec.ofInt 64 (b : Int)).toNat : Int) := rfl
  have hlt := (BitVec.ofInt 64 (a : Int) ||| BitVec.ofInt 64 (b : Int)).isLt
  have hor : a ||| b < 2 ^ 63 := Nat.or_lt_two_pow (by omega) (by omega)
  rw [h1, IntKind.wrap_u64, Int.emod_eq_of_lt (by omega) (by omega)] at h
  show IntKind.i64.wrap ((BitVec.ofInt 64 (a : Int) ||| BitVec.ofInt 64 (b : Int)).toNat : Int) = _
  rw [h, Bt.wrap_i64]
  omega
theorem pow256 {i : Nat} (h : i ≤ 4) : 256 ^ i ≤ 4294967296 := by
  have := Nat.pow_le_pow_right (n := 256) (by omega) h
  have e : (256 : Nat) ^ 4 = 4294967296 := by decide
  omega
theorem pow_split8 (k : Nat) : (2 : Nat) ^ (8 * k) = 256 ^ k := by rw [Nat.pow_mul]
theorem fits8 (acc x i : Nat) (hi : i ≤ 3) (ha : acc < 256 ^ i) (hx : x < 256) : acc + x * 256 ^ i < 256 ^ (i + 1) ∧ x * 256 ^ i ≤ 4294967296 := by
  have h1 := pow256 (i := i + 1) (by omega)
  rw [Nat.pow_succ] at h1 ⊢
  have h2 : x * 256 ^ i + 256 ^ i ≤ 256 ^ i * 256 := by
    rw [Nat.mul_comm (256 ^ i) 256, ← Nat.succ_mul]; exact Nat.mul_le_mul_right _ hx
  omega
theorem or_low (acc x i : Nat) (hi : i ≤ 3) (ha : acc < 256 ^ i) (hx : x < 256) : bits .or .i64 (acc : Int) ((x * 256 ^ i : Nat) : Int) = ((acc + x * 256 ^ i : Nat) : Int) := by
  have h := fits8 acc x i hi ha hx
  have h1 := pow256 (i := i) (by omega)
  rw [i64_or_nat _ _ (by omega) (by omega), Nat.or_comm, nat_join (8 * i) (x * 256 ^ i) acc (by rw [pow_split8]; exact Nat.mul_mod_left _ _) (by rw [pow_split8]; exact ha), Nat.add_comm]
/-- New: a reader in a block of its own. -/
theorem new_any (s : ByteArray) (w : World) :
    Calls Try.prog 53 #[.string s] w fun e w' => e = .returned (.pointer (some ⟨w.heap.size, 0, none⟩)) ∧ w' = w.alloc (.cells #[.string s, .int .i64 0, .int .i64 0] 100) := by
  go_enter Try.func53, Try.ntmps53
  go_wp2
  go_ret
  exact ⟨rfl, rfl⟩
theorem RdAt.made (s : ByteArray) (w : World) : RdAt (w.alloc (.cells #[.string s, .int .i64 0, .int .i64 0] 100)) w.heap.size s 0 0 := by
  refine ⟨?_, ?_, ?_, ?_, ?_⟩
  · rw [World.cell?_alloc_mark]; rfl
  · rw [World.cell?_alloc_mark]; rfl
  · rw [World.cell?_alloc_mark]; rfl
  · simp only [World.frozen?, heap_alloc_new]; rfl
  · simp only [World.frozen?, heap_alloc_new]; rfl
theorem extract_list (s : ByteArray) (i j : Nat) : (s.extract i j).data.toList = (s.data.toList.drop i).take (j - i) := by
  rw [ByteArray.data_extract, Array.toList_extract, List.extract_eq_take_drop]
set_option maxRecDepth 100000 in
set_option maxHeartbeats 400000 in
theorem byte_ok (b : Nat) (s : ByteArray) (a : Nat) (w : World) (h : RdAt w b s a 0) (c : UInt8) (r : List UInt8) (hc : s.data.toList.drop a = c :: r) (hs : s.size ≤ 140737488351232) :
    Calls Try.prog 71 #[.pointer (some ⟨b, 0, none⟩)] w (RdRet w b s (.int .u8 (c.toNat : Int)) ((a + 1 : Nat) : Int) 0) := by
  have H := Lib.hid h
  clear h
  have ha : a < s.size := by
    have := congrArg List.length hc
    simp at this
    omega
  have hr := mraw_ok b s a 1 _ _ w H.out (raw_ok s a 1 (by omega) hs)
  have hx : (s.extract a (a + 1)).data.toList = [c] := by rw [extract_list, hc, Nat.add_sub_cancel_left]; rfl
  generalize hu : s.extract a (a + 1) = u at *
  have hne : u.toList.isEmpty = false := by rw [toList_eq, hx]; rfl
  have hus : u.size = 1 := by have := congrArg List.length hx; simpa using this
  have hu0 : u[0]'(by omega) = c := by rw [← getElem_toList u 0 (by omega)]; simp only [hx]; rfl
  have HR := Lib.hid hr
  have HU := Lib.hid hu0
  clear hr hu hx hc hu0
  go_enter Try.func71, Try.ntmps71
  go_wp2_with (go_at_call 72; refine HR.out.mono ?_; rintro e w' ⟨rfl, hw1, hw2⟩; have HW1 := Lib.hid hw1; have HW2 := Lib.hid hw2; clear hw1 hw2)
  go_ret
  refine ⟨?_, HW1.out, HW2.out⟩
  rw [HU.out]
  rfl
set_option maxRecDepth 100000 in
set_option maxHeartbeats 400000 in
theorem byte_short (b : Nat) (s : ByteArray) (w : World) (h : RdAt w b s s.size 0) (hs : s.size ≤ 140737488351232) :
    Calls Try.prog 71 #[.pointer (some ⟨b, 0, none⟩)] w (RdRet w b s (.int .u8 0) s.size 8) := by
  have H := Lib.hid h
  clear h
  have HR := Lib.hid (mraw_no b s s.size 1 8 w H.out rfl (raw_short s s.size 1 (by omega) (by omega) (by omega) hs))
  have hne : (ByteArray.mk #[]).toList.isEmpty = true := by rw [toList_eq]; rfl
  go_enter Try.func71, Try.ntmps71
  go_wp2_with (go_at_call 72; refine HR.out.mono ?_; rintro e w' ⟨rfl, hw1, hw2⟩; have HW1 := Lib.hid hw1; have HW2 := Lib.hid hw2; clear hw1 hw2)
  go_ret
  exact ⟨rfl, HW1.out, HW2.out⟩
set_option maxRecDepth 100000 in
set_option maxHeartbeats 400000 in
theorem byte_err (b : Nat) (s : ByteArray) (a e : Int) (w : World) (h : RdAt w b s a e) (he : (e != 0) = true) :
    Calls Try.prog 71 #[.pointer (some ⟨b, 0, none⟩)] w (RdRet w b s (.int .u8 0) a e) := by
  have H := Lib.hid h
  clear h
  have HR := Lib.hid (mraw_err b s a e 1 w H.out he)
  have hne : (ByteArray.mk #[]).toList.isEmpty = true := by rw [toList_eq]; rfl
  go_enter Try.func71, Try.ntmps71
  go_wp2_with (go_at_call 72; refine HR.out.mono ?_; rintro e w' ⟨rfl, hw1, hw2⟩; have HW1 := Lib.hid hw1; have HW2 := Lib.hid hw2; clear hw1 hw2)
  go_ret
  exact ⟨rfl, HW1.out, HW2.out⟩
theorem wrap64_small {n : Int} (h0 : 0 ≤ n) (h1 : n ≤ 9223372036854775807) : wrap64 n = n := by
  unfold wrap64; omega
theorem shl_low (N x j : Nat) (hj : j ≤ 3) (hN : N < 256 ^ j) (hx : x < 256) : bits .or .i64 (N : Int) (wrap64 ((x : Int) * 2 ^ (8 * j))) = ((N + x * 256 ^ j : Nat) : Int) := by
  have hf := fits8 N x j hj hN hx
  have e : ((x : Int) * 2 ^ (8 * j)) = ((x * 256 ^ j : Nat) : Int) := by
    rw [← pow_split8]; push_cast; rfl
  rw [e, wrap64_small (by omega) (by omega)]
  exact or_low N x j hj hN hx
theorem gtrans {A B C : World} {row : Option Nat} (h : A.grownBy B row) (k : B.grownBy C row) : A.grownBy C row :=
  ⟨k.os.trans h.os, k.tape.trans h.tape, k.output.trans h.output, Nat.le_trans h.size k.size, fun i hi hne => (k.block i (Nat.lt_of_lt_of_le hi h.size) hne).trans (h.block i hi hne)⟩
/-- What a number of so many bytes leaves of where a reader stands, and of its error. -/
def lnum (s : ByteArray) (a k : Nat) : Nat := low ((s.data.toList.drop a).take k)
def adv (s : ByteArray) (a k : Nat) : Int := if a + k ≤ s.size then ((a + k : Nat) : Int) else s.size
def erd (s : ByteArray) (a k : Nat) : Int := if a + k ≤ s.size then 0 else 8
theorem lnum_lt (s : ByteArray) (a k : Nat) : lnum s a k < 256 ^ k := by
  have h := low_lt ((s.data.toList.drop a).take k)
  refine Nat.lt_of_lt_of_le h (Nat.pow_le_pow_right (by omega) ?_)
  rw [List.length_take]; omega
theorem lnum_more (s : ByteArray) (a j : Nat) (c : UInt8) (r : List UInt8) (h : s.data.toList.drop (a + j) = c :: r) : lnum s a (j + 1) = lnum s a j + c.toNat * 256 ^ j := by
  have hl : a + j < s.data.toList.length := by
    have := congrArg List.length h
    rw [List.length_drop, List.length_cons] at this
    omega
  have hc : (s.data.toList.drop a)[j]? = some c := by
    rw [List.getElem?_drop, ← List.head?_drop, h]; rfl
  unfold lnum
  rw [List.take_add_one, hc, Option.toList_some, low_snoc, List.length_take, List.length_drop, Nat.min_eq_left (by omega)]
theorem lnum_end (s : ByteArray) (a j : Nat) (h : s.size ≤ a + j) : lnum s a (j + 1) = lnum s a j := by
  unfold lnum
  have hl : (s.data.toList.drop a).length ≤ j := by simp; omega
  rw [List.take_of_length_le hl, List.take_of_length_le (by omega)]
theorem RdAt.cast {w : World} {b : Nat} {s : ByteArray} {a e a' e' : Int} (h : RdAt w b s a e) (h1 : a = a') (h2 : e = e') : RdAt w b s a' e' := by subst h1; subst h2; exact h
set_option maxRecDepth 100000 in
set_option maxHeartbeats 1000000 in
theorem number_any (b : Nat) (s : ByteArray) (a k : Nat) (hk : k ≤ 4) (w : World) (h : RdAt w b s a 0) (ha : a ≤ s.size) (hs : s.size ≤ 140737488351232) :
    Calls Try.prog 74 #[.pointer (some ⟨b, 0, none⟩), .int .i64 k] w (RdRet w b s (.int .i64 (lnum s a k)) (adv s a k) (erd s a k)) := by
  have H := Lib.hid h
  clear h
  go_enter Try.func74, Try.ntmps74
  go_wp2
  go_loopw [5, 8] (fun x i wr => ∃ (j N : Nat), x = .int .i64 N ∧ i = .int .i64 (j : Int) ∧ j ≤ k ∧ Hid (lnum s a j = N) ∧ Hid (RdAt wr b s (adv s a j) (erd s a j)) ∧ Hid (w.grownBy wr (some b))) (fun _ i _ => k - (intOf i).toNat)
  case atStart =>
    refine ⟨0, 0, rfl, rfl, by omega, Lib.hid rfl, Lib.hid (H.out.cast ?_ ?_), Lib.hid (World.grownBy.refl _ _)⟩
    · rw [adv, if_pos (by omega)]; rfl
    · rw [erd, if_pos (by omega)]
  case round =>
    obtain ⟨j, N, rfl, rfl, hj, HN, HA, HG⟩ := hrel
    by_cases hlt : j < k
    · have hN := lnum_lt s a j
      rw [HN.out] at hN
      have hp := pow256 (i := j) (by omega)
      by_cases h1 : a + j < s.size
      · obtain ⟨c, r, hc⟩ : ∃ c r, s.data.toList.drop (a + j) = c :: r := ⟨_, _, List.drop_eq_getElem_cons (by simpa using h1)⟩
        have HB := Lib.hid (byte_ok b s (a + j) wr (HA.out.cast (by rw [adv, if_pos (by omega)]) (by rw [erd, if_pos (by omega)])) c r hc hs)
        have HM := Lib.hid (lnum_more s a j c r hc)
        have HQ := Lib.hid (shl_low N c.toNat j (by omega) hN c.toNat_lt)
        have hcl := c.toNat_lt
        clear hc hp hN
        go_wp2_with (go_at_call 71; refine HB.out.mono ?_; rintro e w' ⟨rfl, hw1, hw2⟩; have HW1 := Lib.hid hw1; have HW2 := Lib.hid hw2; clear hw1 hw2)
        go_roundw
        case rel =>
          refine ⟨j + 1, N + c.toNat * 256 ^ j, by rw [HQ.out], by go_num, by omega, Lib.hid (by rw [HM.out, HN.out]), Lib.hid (HW1.out.cast ?_ ?_), Lib.hid (gtrans HG.out HW2.out)⟩
          · rw [adv, if_pos (by omega)]; rfl
          · rw [erd, if_pos (by omega)]
        case measure => simp [intOf]; omega
      · have HM := Lib.hid (lnum_end s a j (by omega))
        have fin : ∀ wr' : World, RdAt wr' b s s.size 8 → RdAt wr' b s (adv s a (j + 1)) (erd s a (j + 1)) := fun wr' hh => hh.cast (by rw [adv, if_neg (by omega)]) (by rw [erd, if_neg (by omega)])
        have HF := Lib.hid fin
        clear fin
        have HB : Hid (Calls Try.prog 71 #[.pointer (some ⟨b, 0, none⟩)] wr (RdRet wr b s (.int .u8 0) s.size 8)) := by
          refine Lib.hid ?_
          by_cases h2 : a + j = s.size
          · exact byte_short b s wr (HA.out.cast (by rw [adv, if_pos (by omega), h2]) (by rw [erd, if_pos (by omega)])) hs
          · exact byte_err b s _ _ wr (HA.out.cast (by rw [adv, if_neg (by omega)]) (by rw [erd, if_neg (by omega)])) rfl
        have HQ := Lib.hid (shl_low N 0 j (by omega) hN (by omega))
        clear hp hN
        go_wp2_with (go_at_call 71; refine HB.out.mono ?_; rintro e w' ⟨rfl, hw1, hw2⟩; have HW1 := Lib.hid hw1; have HW2 := Lib.hid hw2; clear hw1 hw2)
        go_roundw
        case rel =>
          refine ⟨j + 1, N, ?_, by go_num, by omega, Lib.hid (by rw [HM.out, HN.out]), Lib.hid (HF.out _ HW1.out), Lib.hid (gtrans HG.out HW2.out)⟩
          have := HQ.out
          rw [show ((0 : Nat) : Int) * 2 ^ (8 * j) = 0 from by simp, wrap64_small (by omega) (by omega), Nat.zero_mul, Nat.add_zero] at this
          rw [this]
        case measure => simp [intOf]; omega
    · obtain rfl : j = k := by omega
      go_wp2
      go_ret
      refine ⟨?_, HA.out, HG.out⟩
      rw [← HN.out]
      rfl
set_option maxRecDepth 100000 in
set_option maxHeartbeats 400000 in
theorem llen_small (b r : Nat) (hr : r < 60) (w : World) :
    Calls Try.prog 73 #[.pointer (some ⟨b, 0, none⟩), .int .i64 r] w fun e w' => e = .returned (.int .i64 ((r + 1 : Nat) : Int)) ∧ w = w' := by
  go_enter Try.func73, Try.ntmps73
  go_wp2
  go_ret
  exact ⟨rfl, rfl⟩
set_option maxRecDepth 100000 in
set_option maxHeartbeats 400000 in
theorem llen_big (b : Nat) (s : ByteArray) (a K : Nat) (r : Int) (h60 : 60 ≤ r) (h63 : r ≤ 63) (hr : r - 60 + 1 = (K : Int)) (w : World) (h : RdAt w b s a 0) (ha : a ≤ s.size) (hs : s.size ≤ 140737488351232) :
    Calls Try.prog 73 #[.pointer (some ⟨b, 0, none⟩), .int .i64 r] w (RdRet w b s (.int .i64 ((lnum s a K + 1 : Nat) : Int)) (adv s a K) (erd s a K)) := by
  have HC := Lib.hid (number_any b s a K (by omega) w h ha hs)
  have h1 := lnum_lt s a K
  have h2 := pow256 (i := K) (by omega)
  generalize lnum s a K = N at *
  have hN : N < 4294967296 := by omega
  clear h h1 h2
  go_enter Try.func73, Try.ntmps73
  go_wp2_with (go_at_call 74; trace_state; refine HC.out.mono ?_; rintro e w' ⟨rfl, hw1, hw2⟩; have HW1 := Lib.hid hw1; have HW2 := Lib.hid hw2; clear hw1 hw2)
  go_ret
  exact ⟨rfl, HW1.out, HW2.out⟩
end Go.Proofs.Ytnnogjojoeajnaa
