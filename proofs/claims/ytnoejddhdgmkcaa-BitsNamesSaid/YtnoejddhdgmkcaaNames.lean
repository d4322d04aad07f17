/- BitsNames: the closed law answers true. No condition. -/
import Derived.Test.YtnoejddhdgmkcaaAw
import Derived.Test.YtnoejddhdgmkcaaAs
import Derived.Test.YtnoejddhdgmkcaaSticks
namespace Go.Proofs.Ytnoejddhdgmkcaa
open Go.RowKit
namespace bitsNames
theorem vl0 : Bt.vlen 0 = 1 := Bt.vlen_small (by omega)
theorem vl127 : Bt.vlen 127 = 1 := Bt.vlen_small (by omega)
theorem vl128 : Bt.vlen 128 = 2 := by rw [Bt.vlen_big (by omega), Bt.vlen_small (by omega)]
theorem vl63 : Bt.vlen 9223372036854775808 = 10 := by
  rw [Bt.vlen_big (by omega), Bt.vlen_big (by omega), Bt.vlen_big (by omega), Bt.vlen_big (by omega), Bt.vlen_big (by omega), Bt.vlen_big (by omega), Bt.vlen_big (by omega), Bt.vlen_big (by omega), Bt.vlen_big (by omega), Bt.vlen_small (by omega)]
theorem vl64 : Bt.vlen 18446744073709551615 = 10 := by
  rw [Bt.vlen_big (by omega), Bt.vlen_big (by omega), Bt.vlen_big (by omega), Bt.vlen_big (by omega), Bt.vlen_big (by omega), Bt.vlen_big (by omega), Bt.vlen_big (by omega), Bt.vlen_big (by omega), Bt.vlen_big (by omega), Bt.vlen_small (by omega)]
theorem L (n k : Nat) (h : Bt.vlen n = k) (hn : n ≤ 18446744073709551615) : Hid (∀ w, Calls Try.prog 13 #[.int .u64 n] w fun e w' => e = .returned (.int .i64 k) ∧ w = w') := fun w => by
  have := len_any n w hn
  rw [h] at this
  exact this
/-- The rows of the law's table. -/
def rows : Array Value := #[.string { data := #[] }, .int .u64 0, .int .i64 0, .int .i64 8, .string { data := #[128] }, .int .u64 0, .int .i64 0, .int .i64 8, .string { data := #[255, 255, 255, 255, 255, 255, 255, 255, 255] }, .int .u64 0, .int .i64 0, .int .i64 8, .string { data := #[255, 255, 255, 255, 255, 255, 255, 255, 255, 2] }, .int .u64 0, .int .i64 0, .int .i64 4, .string { data := #[255, 255, 255, 255, 255, 255, 255, 255, 255, 255] }, .int .u64 0, .int .i64 0, .int .i64 4, .string { data := #[255, 255, 255, 255, 255, 255, 255, 255, 255, 129] }, .int .u64 0, .int .i64 0, .int .i64 4, .string { data := #[255, 255, 255, 255, 255, 255, 255, 255, 255, 1] }, .int .u64 18446744073709551615, .int .i64 10, .int .i64 0, .string { data := #[128, 128, 128, 128, 128, 128, 128, 128, 128, 0] }, .int .u64 0, .int .i64 10, .int .i64 0, .string { data := #[127, 120] }, .int .u64 127, .int .i64 1, .int .i64 0, .string { data := #[128, 1] }, .int .u64 128, .int .i64 2, .int .i64 0]
def tab : Nat → List UInt8 × Nat × Nat × Nat
  | 0 => ([], 0, 0, 8)
  | 1 => ([128], 0, 0, 8)
  | 2 => ([255, 255, 255, 255, 255, 255, 255, 255, 255], 0, 0, 8)
  | 3 => ([255, 255, 255, 255, 255, 255, 255, 255, 255, 2], 0, 0, 4)
  | 4 => ([255, 255, 255, 255, 255, 255, 255, 255, 255, 255], 0, 0, 4)
  | 5 => ([255, 255, 255, 255, 255, 255, 255, 255, 255, 129], 0, 0, 4)
  | 6 => ([255, 255, 255, 255, 255, 255, 255, 255, 255, 1], 18446744073709551615, 10, 0)
  | 7 => ([128, 128, 128, 128, 128, 128, 128, 128, 128, 0], 0, 10, 0)
  | 8 => ([127, 120], 127, 1, 0)
  | 9 => ([128, 1], 128, 2, 0)
  | _ => ([], 0, 0, 8)
theorem ten {k : Nat} (h : k < 10) : k = 0 ∨ k = 1 ∨ k = 2 ∨ k = 3 ∨ k = 4 ∨ k = 5 ∨ k = 6 ∨ k = 7 ∨ k = 8 ∨ k = 9 := by omega
theorem rows_at {k : Nat} (h : k < 10) : rows[k * 4]? = some (.string (bs (tab k).1)) ∧ rows[k * 4 + 1]? = some (.int .u64 (tab k).2.1) ∧ rows[k * 4 + 2]? = some (.int .i64 (tab k).2.2.1) ∧ rows[k * 4 + 3]? = some (.int .i64 (tab k).2.2.2) := by
  rcases ten h with rfl | rfl | rfl | rfl | rfl | rfl | rfl | rfl | rfl | rfl <;> exact ⟨rfl, rfl, rfl, rfl⟩
theorem tab_ok {k : Nat} (h : k < 10) : (tab k).1.length ≤ 10 ∧ (tab k).2.1 ≤ 18446744073709551615 ∧ (tab k).2.2.1 ≤ 10 ∧ (((tab k).2.2.2 = 0 ∧ Bt.rd (tab k).1 0 0 = ((tab k).2.1, (tab k).2.2.1, 0)) ∨ ((tab k).2.2.2 ≠ 0 ∧ (tab k).2.1 = 0 ∧ Bt.rd (tab k).1 0 0 = (0, 0, (tab k).2.2.2))) := by
  rcases ten h with rfl | rfl | rfl | rfl | rfl | rfl | rfl | rfl | rfl | rfl <;> decide
theorem ab_data (l : List UInt8) : ((⟨#[97, 98]⟩ : ByteArray) ++ bs l).data.toList.drop 2 = l := by simp [bs]
theorem ab_size (l : List UInt8) : ((⟨#[97, 98]⟩ : ByteArray) ++ bs l).size = 2 + l.length := by rw [ByteArray.size_append, bs_size]; rfl
set_option maxRecDepth 100000 in
set_option maxHeartbeats 400000 in
theorem nil_varint (w : World) : Calls Try.prog 25 #[.pointer none, .int .u64 9] w fun e w' => e = .returned (.int .u64 0) ∧ w = w' := by
  go_enter Try.func25, Try.ntmps25
  go_wp2
  go_ret
  exact ⟨rfl, rfl⟩
set_option maxRecDepth 100000 in
set_option maxHeartbeats 400000 in
theorem nil_zag (w : World) : Calls Try.prog 23 #[.pointer none, .int .i64 0, .int .i64 9] w fun e w' => e = .returned (.int .i64 0) ∧ w = w' := by
  go_enter Try.func23, Try.ntmps23
  go_wp2
  go_ret
  exact ⟨rfl, rfl⟩
set_option maxRecDepth 100000 in
set_option maxHeartbeats 400000 in
theorem nil_fixed (w : World) : Calls Try.prog 26 #[.pointer none, .int .i64 8] w fun e w' => e = .returned (.int .u64 0) ∧ w = w' := by
  go_enter Try.func26, Try.ntmps26
  go_wp2
  go_ret
  exact ⟨rfl, rfl⟩
set_option maxRecDepth 100000 in
set_option maxHeartbeats 400000 in
theorem nil_byte (w : World) : Calls Try.prog 20 #[.pointer none] w fun e w' => e = .returned (.int .u8 0) ∧ w = w' := by
  go_enter Try.func20, Try.ntmps20
  go_wp2
  go_ret
  exact ⟨rfl, rfl⟩
set_option maxRecDepth 100000 in
set_option maxHeartbeats 400000 in
theorem nil_raw (w : World) : Calls Try.prog 24 #[.pointer none, .int .i64 1] w fun e w' => e = .returned (.string ⟨#[]⟩) ∧ w = w' := by
  go_enter Try.func24, Try.ntmps24
  go_wp2
  go_ret
  exact ⟨rfl, rfl⟩
set_option maxRecDepth 100000 in
set_option maxHeartbeats 400000 in
theorem nil_text (w : World) : Calls Try.prog 17 #[.pointer none, .int .i64 1] w fun e w' => e = .returned (.string ⟨#[]⟩) ∧ w = w' := by
  go_enter Try.func17, Try.ntmps17
  go_wp2
  go_ret
  exact ⟨rfl, rfl⟩
set_option maxRecDepth 100000 in
set_option maxHeartbeats 400000 in
theorem nil_left (w : World) : Calls Try.prog 22 #[.pointer none] w fun e w' => e = .returned (.int .i64 0) ∧ w = w' := by
  go_enter Try.func22, Try.ntmps22
  go_wp2
  go_ret
  exact ⟨rfl, rfl⟩
set_option maxRecDepth 100000 in
set_option maxHeartbeats 400000 in
theorem nil_at (w : World) : Calls Try.prog 19 #[.pointer none] w fun e w' => e = .returned (.int .i64 0) ∧ w = w' := by
  go_enter Try.func19, Try.ntmps19
  go_wp2
  go_ret
  exact ⟨rfl, rfl⟩
set_option maxRecDepth 100000 in
set_option maxHeartbeats 400000 in
theorem nil_err (w : World) : Calls Try.prog 18 #[.pointer none] w fun e w' => e = .returned (.int .i64 2) ∧ w = w' := by
  go_enter Try.func18, Try.ntmps18
  go_wp2
  go_ret
  exact ⟨rfl, rfl⟩
set_option maxRecDepth 100000 in
set_option maxHeartbeats 400000 in
theorem nil_end (w : World) : Calls Try.prog 21 #[.pointer none] w fun e w' => e = .returned (.int .i64 2) ∧ w = w' := by
  go_enter Try.func21, Try.ntmps21
  go_wp2
  go_ret
  exact ⟨rfl, rfl⟩
theorem RdAt_other {w w' : World} {b c : Nat} {s : ByteArray} {a e : Int} (h : RdAt w b s a e) (hg : w.grownBy w' (some c)) (hne : b ≠ c) : RdAt w' b s a e :=
  h.congr (hg.block b h.lt (fun h => by cases h; exact hne rfl))
theorem RdAt_below {w w' : World} {b : Nat} {s : ByteArray} {a e : Int} (h : RdAt w b s a e) (hb : Below w.heap.size w w') : RdAt w' b s a e := h.congr (hb.block b h.lt)
/-- A new reader, somewhere new. -/
def NewRet (w : World) (s : ByteArray) (e : Ending) (w' : World) : Prop := ∃ b, e = .returned (.pointer (some ⟨b, 0, none⟩)) ∧ RdAt w' b s 0 0 ∧ w.heap.size ≤ b ∧ Below w.heap.size w w'
theorem new_rd (s : ByteArray) (w : World) : Calls Try.prog 16 #[.string s] w (NewRet w s) :=
  (new_any s w).mono fun e w' h => ⟨w.heap.size, h.1, by rw [← h.2]; exact RdAt.new w s, Nat.le_refl _, by rw [← h.2]; exact (Below.refl _ _).alloc (Nat.le_refl _) _⟩
theorem uv3 (s : ByteArray) (hs : s.size ≤ 100) (N C : Nat) (h : Bt.rd (s.data.toList.drop 0) 0 0 = (N, C, 0)) : TellsU 14 #[.string s, .int .i64 0] N C 0 := fun w => uvarint_ok s 0 w (by omega) (by omega) N C C h (by omega)
theorem t1 : Meth 17 [.int .i64 2] ⟨#[3, 97, 98, 99]⟩ 0 0 (.string ⟨#[]⟩) 0 40 := fun w b h => mtext_no b _ 0 2 40 w h rfl (tto_no _ 0 2 40 (by omega) (by omega) rfl (uto_big _ 0 (top 2) 3 1 (uv3 _ (by decide) 3 1 (by decide)) (by decide)))
theorem t2 : Meth 17 [.int .i64 9] ⟨#[3, 97, 98]⟩ 0 0 (.string ⟨#[]⟩) 0 8 := fun w b h => mtext_no b _ 0 9 8 w h rfl (tto_then _ 0 9 3 1 ⟨#[]⟩ 0 8 (by omega) (by omega) (by omega) (by omega) (uto_ok _ 0 (top 9) 3 1 (uv3 _ (by decide) 3 1 (by decide)) (by decide)) (raw_short _ 1 3 (by omega) (by decide) (by decide) (by decide)))
theorem t3 : Meth 17 [.int .i64 (-5)] ⟨#[1, 120]⟩ 0 0 (.string ⟨#[]⟩) 0 40 := fun w b h => mtext_no b _ 0 (-5) 40 w h rfl (tto_no _ 0 (-5) 40 (by omega) (by omega) rfl (uto_big _ 0 (top (-5)) 1 1 (uv3 _ (by decide) 1 1 (by decide)) (by decide)))
theorem t4 : Meth 23 [.int .i64 (-1), .int .i64 9] ⟨#[3]⟩ 0 0 (.int .i64 0) 0 40 := fun w b h => mzag_no b _ 0 (-1) 9 40 w h rfl (zto_big _ 0 (-1) 9 3 1 (by omega) (by omega) (uv3 _ (by decide) 3 1 (by decide)) (.inl (by decide)))
theorem t5 : Meth 24 [.int .i64 (-1)] ⟨#[97, 98, 99]⟩ 0 0 (.string ⟨#[]⟩) 0 1 := fun w b h => mraw_no b _ 0 (-1) 1 w h rfl (raw_arg _ 0 (-1) (by omega))
theorem t6 : Meth 20 [] ⟨#[3, 97, 98, 99]⟩ 0 40 (.int .u8 ((0 : Nat) : Int)) 0 40 := byte_err _ 0 40 (by omega)
theorem f8 : Hid (∀ w, Calls Try.prog 15 #[.string ⟨#[97, 98, 99, 100, 101, 102, 103, 104]⟩, .int .i64 4, .int .i64 4] w fun e w' => e = .returned (.tuple #[.int .u64 1751606885, .int .i64 8, .int .i64 0]) ∧ w = w') := fun w => by
  have h := fixed_ok4 ⟨#[97, 98, 99, 100, 101, 102, 103, 104]⟩ 4 w (by decide) (by decide)
  have e : Bt.fat [97, 98, 99, 100, 101, 102, 103, 104] 4 4 = 1751606885 := by decide
  have e2 : (⟨#[97, 98, 99, 100, 101, 102, 103, 104]⟩ : ByteArray).data.toList = [97, 98, 99, 100, 101, 102, 103, 104] := rfl
  rw [e2, e] at h
  exact h
set_option maxRecDepth 100000 in
set_option maxHeartbeats 4000000 in
theorem main (w : World) : Calls Try.prog 3 #[] w fun e w' => e = .returned (.bool true) ∧ Below w.heap.size w w' := by
  have L0 := L 0 1 vl0 (by omega)
  have L1 := L 127 1 vl127 (by omega)
  have L2 := L 128 2 vl128 (by omega)
  have L3 := L 9223372036854775808 10 vl63 (by omega)
  have L4 := L 18446744073709551615 10 vl64 (by omega)
  go_enter Try.func3, Try.ntmps3
  go_wp2_with fail
  refine (awake_any _).mono ?_
  rintro e w1 ⟨rfl, hb1⟩
  have HB := Lib.hid hb1; clear hb1
  go_wp2_with fail
  refine (L0.out _).mono ?_
  rintro e w2 ⟨rfl, rfl⟩
  go_wp2_with fail
  refine (L1.out _).mono ?_
  rintro e w2 ⟨rfl, rfl⟩
  go_wp2_with fail
  refine (L2.out _).mono ?_
  rintro e w2 ⟨rfl, rfl⟩
  go_wp2_with fail
  refine (L3.out _).mono ?_
  rintro e w2 ⟨rfl, rfl⟩
  go_wp2_with fail
  refine (L4.out _).mono ?_
  rintro e w2 ⟨rfl, rfl⟩
  clear L0 L1 L2 L3 L4
  go_wp2_with fail
  have HW : Hid (w1.heap.size = w1.heap.size) := Lib.hid rfl
  go_loopw [64] (fun i wr => ∃ k : Nat, k ≤ 10 ∧ i = .int .i64 k ∧ Hid (wr.heap[w1.heap.size]? = some (.cells rows 26 (0, 0))) ∧ Hid (Below w.heap.size w wr) ∧ w1.heap.size < wr.heap.size) (fun i _ => 10 - (intOf i).toNat)
  case atStart => exact ⟨0, by omega, rfl, Lib.hid (heap_alloc_new w1 _), Lib.hid (HB.out.alloc HB.out.size _), by simp⟩
  case round =>
    obtain ⟨k, hk, rfl, HR, HB, hlt1⟩ := hrel
    by_cases hlt : k < 10
    · obtain ⟨r0, r1, r2, r3⟩ := rows_at hlt
      obtain ⟨t0, t1, t2, t3⟩ := tab_ok hlt
      rcases hq : tab k with ⟨S, N, K, E⟩
      rw [hq] at r0 r1 r2 r3 t0 t1 t2 t3
      simp only at r0 r1 r2 r3 t0 t1 t2 t3
      have c0 : wr.cell? ⟨w1.heap.size, k * 4, none⟩ = some (.string (bs S)) := by simp only [World.cell?, HR.out]; exact r0
      have c1 : wr.cell? ⟨w1.heap.size, k * 4 + 1, none⟩ = some (.int .u64 N) := by simp only [World.cell?, HR.out]; exact r1
      have c2 : wr.cell? ⟨w1.heap.size, k * 4 + 2, none⟩ = some (.int .i64 K) := by simp only [World.cell?, HR.out]; exact r2
      have c3 : wr.cell? ⟨w1.heap.size, k * 4 + 3, none⟩ = some (.int .i64 E) := by simp only [World.cell?, HR.out]; exact r3
      have hz := ab_size S
      have hd := ab_data S
      have hsz : (bs S).size ≤ 10 := t0
      clear hq r0 r1 r2 r3 t0
      rcases t3 with ⟨rfl, hr⟩ | ⟨hE, rfl, hr⟩
      · have U : Hid (TellsU 14 #[.string ((⟨#[97, 98]⟩ : ByteArray) ++ bs S), .int .i64 2] N (2 + K) 0) := fun w => uvarint_ok _ 2 w (by omega) (by rw [hz]; have : (bs S).size = S.length := rfl; omega) N K (2 + K) (by rw [hd]; exact hr) rfl
        clear hz hd hr
        generalize bs S = s at *
        go_wp2_with fail
        refine (U.out _).mono ?_
        rintro e1 w3 ⟨rfl, rfl⟩
        go_wp2
        go_roundw
        case rel => exact ⟨k + 1, by omega, by go_num, Lib.hid ((Below.heap_alloc wr _ _ hlt1).trans HR.out), Lib.hid (HB.out.alloc HB.out.size _), by simp; omega⟩
        case measure => simp [intOf]; omega
      · have U : Hid (TellsU 14 #[.string ((⟨#[97, 98]⟩ : ByteArray) ++ bs S), .int .i64 2] 0 0 E) := fun w => uvarint_no _ 2 w (by omega) (by rw [hz]; have : (bs S).size = S.length := rfl; omega) E hE (by rw [hd]; exact hr)
        have g0 := ne0 hE
        have g1 := eq0 hE
        clear hz hd hr hE
        generalize bs S = s at *
        go_wp2_with fail
        refine (U.out _).mono ?_
        rintro e1 w3 ⟨rfl, rfl⟩
        go_wp2
        go_roundw
        case rel => exact ⟨k + 1, by omega, by go_num, Lib.hid ((Below.heap_alloc wr _ _ hlt1).trans HR.out), Lib.hid (HB.out.alloc HB.out.size _), by simp; omega⟩
        case measure => simp [intOf]; omega
    · obtain rfl : k = 10 := by omega
      clear hlt1 HR hk
      go_wp2_with fail
      refine (uvarint_out _ _ _ (.inr (by decide))).mono ?_
      rintro e1 w3 ⟨rfl, rfl⟩
      go_wp2_with fail
      refine (uvarint_out _ _ _ (.inl (by decide))).mono ?_
      rintro e1 w3 ⟨rfl, rfl⟩
      go_wp2_with fail
      refine (fixed_no _ _ _ _ rfl rfl).mono ?_
      rintro e1 w3 ⟨rfl, rfl⟩
      go_wp2_with fail
      refine (fixed_arg4 _ _ _ (.inr (by decide))).mono ?_
      rintro e1 w3 ⟨rfl, rfl⟩
      go_wp2_with fail
      refine (fixed_short4 _ 5 _ (by decide) (by decide)).mono ?_
      rintro e1 w3 ⟨rfl, rfl⟩
      go_wp2_with fail
      refine (f8.out _).mono ?_
      rintro e1 w3 ⟨rfl, rfl⟩
      go_wp2_with fail
      refine (new_rd _ _).mono ?_
      rintro e1 w3 ⟨b, rfl, hR, hb, hB⟩
      have R := Lib.hid hR
      have hb0 : w.heap.size ≤ b := Nat.le_trans HB.out.size hb
      have HB := Lib.hid (HB.out.trans (hB.mono HB.out.size))
      clear hR hb hB
      go_wp2_with fail
      refine (t1 _ b R.out).mono ?_
      rintro e1 w4 ⟨rfl, hR, hG⟩
      have R := Lib.hid hR
      have HB := Lib.hid (HB.out.grown hG HB.out.size (fun _ h => by cases h; exact hb0))
      clear hR hG
      go_wp2_with (first
        | (go_at_call 18; refine (err_any _ _ _ R.out.c2).mono ?_; rintro e1 w5 ⟨rfl, rfl⟩)
        | (go_at_call 19; refine (at_any _ _ _ R.out.c1).mono ?_; rintro e1 w5 ⟨rfl, rfl⟩))
      refine (t6 _ b R.out).mono ?_
      rintro e1 w4 ⟨rfl, hR, hG⟩
      have R := Lib.hid hR
      have HB := Lib.hid (HB.out.grown hG HB.out.size (fun _ h => by cases h; exact hb0))
      clear hR hG
      go_wp2_with fail
      refine (end_err _ _ _ R.out.c2 rfl).mono ?_
      rintro e1 w5 ⟨rfl, rfl⟩
      go_wp2_with fail
      refine (left_any _ _ _ _ R.out.c0 R.out.c1 (by omega) (by decide) (by decide)).mono ?_
      rintro e1 w5 ⟨rfl, m, rfl⟩
      have HB := Lib.hid (below_drewN HB.out m)
      clear R hb0
      go_wp2_with fail
      refine (new_rd _ _).mono ?_
      rintro e1 w3 ⟨bt, rfl, hR, hbt, hB⟩
      have Rt := Lib.hid hR
      have h0t : w.heap.size ≤ bt := Nat.le_trans HB.out.size hbt
      have ltt : bt < w3.heap.size := Rt.out.lt
      have HB := Lib.hid (HB.out.trans (hB.mono HB.out.size))
      clear hR hB
      go_wp2_with fail
      refine (new_rd _ _).mono ?_
      rintro e1 w3 ⟨bu, rfl, hR, hbu, hB⟩
      have Ru := Lib.hid hR
      have Rt := Lib.hid (RdAt_below Rt.out hB)
      have netu : bt < bu := Nat.lt_of_lt_of_le ltt hbu
      have ltt : bt < w3.heap.size := Rt.out.lt
      have h0u : w.heap.size ≤ bu := Nat.le_trans HB.out.size hbu
      have ltu : bu < w3.heap.size := Ru.out.lt
      have HB := Lib.hid (HB.out.trans (hB.mono HB.out.size))
      clear hR hB
      go_wp2_with fail
      refine (new_rd _ _).mono ?_
      rintro e1 w3 ⟨bv, rfl, hR, hbv, hB⟩
      have Rv := Lib.hid hR
      have Rt := Lib.hid (RdAt_below Rt.out hB)
      have Ru := Lib.hid (RdAt_below Ru.out hB)
      have netv : bt < bv := Nat.lt_of_lt_of_le ltt hbv
      have ltt : bt < w3.heap.size := Rt.out.lt
      have neuv : bu < bv := Nat.lt_of_lt_of_le ltu hbv
      have ltu : bu < w3.heap.size := Ru.out.lt
      have h0v : w.heap.size ≤ bv := Nat.le_trans HB.out.size hbv
      have ltv : bv < w3.heap.size := Rv.out.lt
      have HB := Lib.hid (HB.out.trans (hB.mono HB.out.size))
      clear hR hB
      go_wp2_with fail
      refine (new_rd _ _).mono ?_
      rintro e1 w3 ⟨bx, rfl, hR, hbx, hB⟩
      have Rx := Lib.hid hR
      have Rt := Lib.hid (RdAt_below Rt.out hB)
      have Ru := Lib.hid (RdAt_below Ru.out hB)
      have Rv := Lib.hid (RdAt_below Rv.out hB)
      have netx : bt < bx := Nat.lt_of_lt_of_le ltt hbx
      have ltt : bt < w3.heap.size := Rt.out.lt
      have neux : bu < bx := Nat.lt_of_lt_of_le ltu hbx
      have ltu : bu < w3.heap.size := Ru.out.lt
      have nevx : bv < bx := Nat.lt_of_lt_of_le ltv hbx
      have ltv : bv < w3.heap.size := Rv.out.lt
      have h0x : w.heap.size ≤ bx := Nat.le_trans HB.out.size hbx
      have ltx : bx < w3.heap.size := Rx.out.lt
      have HB := Lib.hid (HB.out.trans (hB.mono HB.out.size))
      clear hR hB
      clear hbt hbu hbv hbx
      go_wp2_with fail
      refine (t2 _ _ Rt.out).mono ?_
      rintro e1 w4 ⟨rfl, hR, hG⟩
      have Ru := Lib.hid (RdAt_other Ru.out hG (by omega))
      have Rv := Lib.hid (RdAt_other Rv.out hG (by omega))
      have Rx := Lib.hid (RdAt_other Rx.out hG (by omega))
      have Rt := Lib.hid hR
      have HB := Lib.hid (HB.out.grown hG HB.out.size (fun _ h => by cases h; exact h0t))
      clear hR hG
      go_wp2_with fail
      refine (err_any _ _ _ Rt.out.c2).mono ?_
      rintro e1 w5 ⟨rfl, rfl⟩
      go_wp2_with fail
      refine (at_any _ _ _ Rt.out.c1).mono ?_
      rintro e1 w5 ⟨rfl, rfl⟩
      go_wp2_with fail
      refine (t3 _ _ Ru.out).mono ?_
      rintro e1 w4 ⟨rfl, hR, hG⟩
      have Rv := Lib.hid (RdAt_other Rv.out hG (by omega))
      have Rx := Lib.hid (RdAt_other Rx.out hG (by omega))
      have Ru := Lib.hid hR
      have HB := Lib.hid (HB.out.grown hG HB.out.size (fun _ h => by cases h; exact h0u))
      clear hR hG
      go_wp2_with fail
      refine (err_any _ _ _ Ru.out.c2).mono ?_
      rintro e1 w5 ⟨rfl, rfl⟩
      go_wp2_with fail
      refine (t4 _ _ Rv.out).mono ?_
      rintro e1 w4 ⟨rfl, hR, hG⟩
      have Rx := Lib.hid (RdAt_other Rx.out hG (by omega))
      have Rv := Lib.hid hR
      have HB := Lib.hid (HB.out.grown hG HB.out.size (fun _ h => by cases h; exact h0v))
      clear hR hG
      go_wp2_with fail
      refine (err_any _ _ _ Rv.out.c2).mono ?_
      rintro e1 w5 ⟨rfl, rfl⟩
      go_wp2_with fail
      refine (t5 _ _ Rx.out).mono ?_
      rintro e1 w4 ⟨rfl, hR, hG⟩
      have Rx := Lib.hid hR
      have HB := Lib.hid (HB.out.grown hG HB.out.size (fun _ h => by cases h; exact h0x))
      clear hR hG
      go_wp2_with fail
      refine (err_any _ _ _ Rx.out.c2).mono ?_
      rintro e1 w5 ⟨rfl, rfl⟩
      go_wp2_with fail
      refine (nil_varint _).mono ?_
      rintro e1 w5 ⟨rfl, rfl⟩
      go_wp2_with fail
      refine (nil_zag _).mono ?_
      rintro e1 w5 ⟨rfl, rfl⟩
      go_wp2_with fail
      refine (nil_fixed _).mono ?_
      rintro e1 w5 ⟨rfl, rfl⟩
      go_wp2_with fail
      refine (nil_byte _).mono ?_
      rintro e1 w5 ⟨rfl, rfl⟩
      go_wp2_with fail
      refine (nil_raw _).mono ?_
      rintro e1 w5 ⟨rfl, rfl⟩
      go_wp2_with fail
      refine (nil_text _).mono ?_
      rintro e1 w5 ⟨rfl, rfl⟩
      go_wp2_with fail
      refine (nil_left _).mono ?_
      rintro e1 w5 ⟨rfl, rfl⟩
      go_wp2_with fail
      refine (nil_at _).mono ?_
      rintro e1 w5 ⟨rfl, rfl⟩
      go_wp2_with fail
      refine (nil_err _).mono ?_
      rintro e1 w5 ⟨rfl, rfl⟩
      go_wp2_with fail
      refine (nil_end _).mono ?_
      rintro e1 w5 ⟨rfl, rfl⟩
      go_wp2
      go_ret
      exact ⟨rfl, HB.out⟩
theorem core (w : World) : Calls Try.prog 3 #[] w fun e w' => e = .returned (.bool true) ∧ Below w.heap.size w w' := main w
end bitsNames
end Go.Proofs.Ytnoejddhdgmkcaa
