/- Join: what is told by 1, 2, 4 and more bytes by a closure. -/
import Derived.Test.YtmbndjdpbpajmaaDoorBi
import Derived.Test.YtmbndjdpbpajmaaDoorOw
import Derived.OneCell
namespace Go.Proofs.YtmbndjdpbpajmaaDoor
open Go.RowKit
set_option maxRecDepth 100000 in
set_option maxHeartbeats 1000000 in
theorem tell_any (g b n : Nat) (w : World) (hb : Hid (b = Sm.it n 2147483648)) (hc : w.cell? ⟨g, 0, none⟩ = some (.int .u32 (b : Int))) (hf : w.frozen? ⟨g, 0, none⟩ = false) :
   Calls Tryd.prog 28 #[.pointer (some ⟨g, 0, none⟩)] w fun e w' => e = .returned (.int .u32 b) ∧ w.setCell ⟨g, 0, none⟩ (.int .u32 (Sm.it (2 * n) 2147483648 : Nat)) = w' := by
  have hlt : b < 4294967296 := by rw [hb.out]; exact Sm.it_lt _ (by omega)
  have e1 : Hid (Sm.it n b = Sm.it (2 * n) 2147483648) := Lib.hid (by rw [hb.out, ← Sm.it_add, show n + n = 2 * n from by omega])
  go_enter Tryd.func28, Tryd.ntmps28
  go_wp2_with (go_at_call 26; refine (times_any b b n _ hlt hb).mono ?_; rintro e w' ⟨rfl, rfl⟩)
  go_ret
  exact ⟨rfl, by rw [e1.out]⟩
set_option maxRecDepth 100000 in
set_option maxHeartbeats 1000000 in
theorem doubling_any (w : World) (hT : Hid (Tab w)) :
   Calls Tryd.prog 25 #[] w fun e w' => e = .returned (.func (.func 28) #[] #[.pointer (some ⟨w.heap.size, 0, none⟩)]) ∧ w.alloc (.cells #[.int .u32 (Sm.it 8 2147483648 : Nat)] 22) = w' := by
  have hmf : ∀ (fn : Fn) (first cap : Array Value) (w : World), (Instr.makeFunc fn first cap).run Tryd.prog w = .ok (.func fn first cap) w := fun _ _ _ _ => rfl
  go_enter Tryd.func25, Tryd.ntmps25
  go_wp2_with (go_at_call 23; refine (overByte_any 2147483648 _ (by omega) hT).mono ?_; rintro e w' ⟨rfl, rfl⟩)
  go_ret
  exact ⟨rfl, rfl⟩
theorem and1_i64 (m : Nat) (hm : m < 9223372036854775808) : bits .and .i64 (m : Int) 1 = ((m % 2 : Nat) : Int) := by
  show IntKind.i64.wrap ((BitVec.ofInt 64 (m : Int) &&& BitVec.ofInt 64 1).toNat : Int) = _
  rw [show BitVec.ofInt 64 1 = 1#64 from by decide, BitVec.toNat_and, ofInt_u64 m (by omega), show (1#64).toNat = 1 from rfl, nat_mask1]
  exact IntWalk.i64_in _ (by omega)
/-- The closure's box: how far the next call carries. -/
structure Bx (w wr : World) (k v : Nat) : Prop where
  is : v = Sm.it (8 * 2 ^ k) 2147483648
  cell : wr.cell? ⟨w.heap.size, 0, none⟩ = some (.int .u32 (v : Int))
  free : wr.frozen? ⟨w.heap.size, 0, none⟩ = false
  below : Below w.heap.size w wr
theorem Bx.start (w : World) : Bx w (w.alloc (.cells #[.int .u32 (Sm.it 8 2147483648 : Nat)] 22)) 0 (Sm.it 8 2147483648) :=
  ⟨rfl, cell_of_one (heap_alloc_new _ _), free_of_one (heap_alloc_new _ _), (Below.refl _ _).alloc (Nat.le_refl _) _⟩
theorem Bx.next {w wr : World} {k v : Nat} (h : Bx w wr k v) : Bx w (wr.setCell ⟨w.heap.size, 0, none⟩ (.int .u32 (Sm.it (2 * (8 * 2 ^ k)) 2147483648 : Nat))) (k + 1) (Sm.it (2 * (8 * 2 ^ k)) 2147483648) :=
  ⟨by rw [Nat.pow_succ, show 2 * (8 * 2 ^ k) = 8 * (2 ^ k * 2) from by omega], World.cell?_setCell_same _ _ _ h.cell, by rw [World.frozen?_setCell]; exact h.free, h.below.setCell (Nat.le_refl _) _⟩
set_option maxRecDepth 100000 in
set_option maxHeartbeats 1000000 in
theorem join_in (a b N : Nat) (R : Nat) (w : World) (ha : a < 4294967296) (h1 : N < 9223372036854775808) (hT : Hid (Tab w)) (hR : Hid (bits .xor .u32 ((Sm.it (8 * N) a : Nat) : Int) (b : Int) = (R : Int))) :
   Calls Tryd.prog 19 #[.int .u32 a, .int .u32 b, .int .i64 N] w fun e w' => e = .returned (.int .u32 R) ∧ Below w.heap.size w w' := by
  have HB := Bx.start w
  go_enter Tryd.func19, Tryd.ntmps19
  go_wp2_with (go_at_call 25; refine (doubling_any _ hT).mono ?_; rintro e w' ⟨rfl, rfl⟩)
  go_loopw [0, 2] (fun x y wr => ∃ (k m A v : Nat), A < 4294967296 ∧ m < 9223372036854775808 ∧ Hid (Sm.it (8 * (2 ^ k * m)) A = Sm.it (8 * N) a) ∧ Hid (Bx w wr k v) ∧ x = .int .u32 A ∧ y = .int .i64 m) (fun _ y _ => (intOf y).toNat)
  case atStart => exact ⟨0, N, a, _, ha, h1, Lib.hid (by rw [Nat.pow_zero, Nat.one_mul]), Lib.hid HB, rfl, rfl⟩
  case round =>
    clear HB
    obtain ⟨k, m, A, v, hA, hm, HS, HX, rfl, rfl⟩ := hrel
    by_cases hp : 0 < m
    · have hst := Sm.join_step A k m
      have e1 := and1_i64 m hm
      have hx := Sm.it_lt (8 * 2 ^ k) hA
      have HN := Lib.hid HX.out.next
      have C1 := Lib.hid (tell_any w.heap.size v (8 * 2 ^ k) _ (Lib.hid HX.out.is) HX.out.cell HX.out.free)
      have C2 : ∀ w2 : World, Hid _ := fun w2 => Lib.hid (times_any A v (8 * 2 ^ k) w2 hA (Lib.hid HX.out.is))
      have D2 := Lib.hid C2
      clear C2
      by_cases ho : m % 2 = 1
      · rw [ho] at e1
        rw [if_pos ho, HS.out] at hst
        have HS2 := Lib.hid hst
        clear hst
        go_wp2_with (first | (go_at_call 28; refine C1.out.mono ?_; rintro e w' ⟨rfl, rfl⟩) | (go_at_call 26; refine (D2.out _).out.mono ?_; rintro e w' ⟨rfl, rfl⟩))
        go_roundw
        case rel => exact ⟨k + 1, m / 2, _, _, hx, by omega, HS2, HN, rfl, by go_num⟩
        case measure => simp [intOf]; omega
      · rw [show m % 2 = 0 from by omega] at e1
        rw [if_neg ho, HS.out] at hst
        have HS2 := Lib.hid hst
        clear hst
        go_wp2_with (first | (go_at_call 28; refine C1.out.mono ?_; rintro e w' ⟨rfl, rfl⟩) | (go_at_call 26; refine (D2.out _).out.mono ?_; rintro e w' ⟨rfl, rfl⟩))
        go_roundw
        case rel => exact ⟨k + 1, m / 2, _, _, hA, by omega, HS2, HN, rfl, by go_num⟩
        case measure => simp [intOf]; omega
    · obtain rfl : m = 0 := by omega
      have e5 : bits .xor .u32 (A : Int) (b : Int) = (R : Int) := by
        have := HS.out
        rw [Nat.mul_zero, Nat.mul_zero] at this
        rw [show A = Sm.it (8 * N) a from this]; exact hR.out
      go_wp2
      go_ret
      exact ⟨rfl, HX.out.below⟩
set_option maxRecDepth 100000 in
set_option maxHeartbeats 1000000 in
theorem join_neg (a b R : Nat) (n : Int) (w : World) (h0 : -9223372036854775808 ≤ n) (hn : n < 0) (hT : Hid (Tab w)) (hR : bits .xor .u32 (a : Int) (b : Int) = (R : Int)) :
   Calls Tryd.prog 19 #[.int .u32 a, .int .u32 b, .int .i64 n] w fun e w' => e = .returned (.int .u32 R) ∧ Below w.heap.size w w' := by
  have HB := Lib.hid (Bx.start w).below
  go_enter Tryd.func19, Tryd.ntmps19
  go_wp2_with (go_at_call 25; refine (doubling_any _ hT).mono ?_; rintro e w' ⟨rfl, rfl⟩)
  refine wp_loop_rounds 1 ?_
  rw [rounds_succ]
  go_wp2
  go_ret
  exact ⟨rfl, HB.out⟩
theorem join_any (a b : Nat) (n : Int) (w : World) (ha : a < 4294967296) (hb : b < 4294967296) (h0 : -9223372036854775808 ≤ n) (h1 : n ≤ 9223372036854775807) (hT : Hid (Tab w)) :
   Calls Tryd.prog 19 #[.int .u32 a, .int .u32 b, .int .i64 n] w fun e w' => e = .returned (.int .u32 (Sm.join a b n : Nat)) ∧ Below w.heap.size w w' := by
  by_cases hn : 0 ≤ n
  · obtain ⟨N, rfl⟩ := Int.eq_ofNat_of_zero_le hn
    exact join_in a b N _ w ha (by omega) hT (Lib.hid (by unfold Sm.join; rw [Int.toNat_natCast]; exact xor_nat _ _ (Sm.it_lt _ ha) hb))
  · refine join_neg a b _ n w h0 (by omega) hT ?_
    unfold Sm.join
    rw [show n.toNat = 0 from by omega]
    exact xor_nat _ _ ha hb
end Go.Proofs.YtmbndjdpbpajmaaDoor
