/- The document's carriers: apply, twice, Carry, Join. -/
import Derived.Test.YtmbndjdpbpajmaaDoorRf
import Derived.Test.YtmbndjdpbpajmaaDoorOw
import Derived.Test.YtmbndjdpbpajmaaDoorAw
namespace Go.Proofs.YtmbndjdpbpajmaaDoor
open Go.RowKit
def uv (x : Nat) : Value := .int .u32 (x : Int)
theorem car_cells {w : World} {base n : Nat} {v : Value} (h : Own w base v ((Sm.car n).map uv)) :
    ∃ g cap, v = .slice (some ⟨g, 0, none⟩) 32 cap ∧ ∀ j, j < 32 → w.cell? ⟨g, j, none⟩ = some (.int .u32 (Sm.it n (2 ^ j) : Nat)) := by
  have hl : ((Sm.car n).map uv).length = 32 := by rw [List.length_map, Sm.car_length]
  obtain ⟨g, cap, h1, _, _, _, h5⟩ := h.pos (by rw [hl]; omega)
  rw [hl] at h1 h5
  refine ⟨g, cap, h1, fun j hj => ?_⟩
  rw [(h5 j hj).1, List.getElem?_map, Sm.car_at n j hj]; rfl
set_option maxRecDepth 100000 in
set_option maxHeartbeats 1000000 in
theorem apply_any (c n base : Nat) (v : Value) (w : World) (hc : c < 4294967296) (hO : Own w base v ((Sm.car n).map uv)) :
   Calls Tryd.prog 30 #[v, .int .u32 c] w fun e w' => e = .returned (.int .u32 (Sm.it n c : Nat)) ∧ w = w' := by
  obtain ⟨g, cap, rfl, hcell⟩ := car_cells hO
  have HC := Lib.hid hcell
  clear hO hcell
  go_enter Tryd.func30, Tryd.ntmps30
  go_wp2
  go_loop [5, 6] (fun n' x => ∃ (k p : Nat), k ≤ 32 ∧ p < 4294967296 ∧ Hid (p = Sm.it n (c % 2 ^ k)) ∧ n' = .int .u32 p ∧ x = .int .i64 k) (fun _ x => 32 - (intOf x).toNat)
  case atStart => exact ⟨0, 0, by omega, by omega, Lib.hid (by rw [Nat.pow_zero, Nat.mod_one, Sm.it_zero]), rfl, rfl⟩
  case round =>
    obtain ⟨k, p, hk, hp, HP, rfl, rfl⟩ := hrel
    by_cases h : k < 32
    · have hce := HC.out k h
      have hst := Sm.apply_step n c k
      have hB : c / 2 ^ k % 2 < 2 := Nat.mod_lt _ (by omega)
      have e3 : ((c : Int) / 2 ^ k).tmod 2 = ((c / 2 ^ k % 2 : Nat) : Int) := by
        rw [show (c : Int) / 2 ^ k = ((c / 2 ^ k : Nat) : Int) from by push_cast; rfl]
        rfl
      have hI := Sm.it_lt n (Sm.pow_lt k h)
      generalize c / 2 ^ k % 2 = B at *
      by_cases hb : B = 1
      · rw [if_pos hb, ← HP.out] at hst
        subst hb
        generalize Sm.it n (2 ^ k) = q at *
        have HS := Lib.hid hst.symm
        have e4 := u32_xor_nat p q hp hI
        have hx := Sm.xor_lt hp hI
        clear hst
        go_wp2
        go_round
        case rel => exact ⟨k + 1, _, by omega, hx, HS, rfl, by go_num⟩
        case measure => simp [intOf]; omega
      · rw [if_neg hb, ← HP.out] at hst
        obtain rfl : B = 0 := by omega
        have HS := Lib.hid hst.symm
        clear hst hb
        go_wp2
        go_round
        case rel => exact ⟨k + 1, _, by omega, hp, HS, rfl, by go_num⟩
        case measure => simp [intOf]; omega
    · obtain rfl : k = 32 := by omega
      go_wp2
      go_ret
      exact ⟨ret_u32 (by rw [HP.out, Nat.mod_eq_of_lt (by simpa using hc)]), rfl⟩
theorem Tryd.info22 : (Tryd.prog.info? 22).map (fun i => (i.zero, i.size, i.bytes)) = some (some (.int .u32 0), 1, 4) := by kernel_rfl
theorem own_snoc {w : World} {base : Nat} {v : Value} {xs : List Nat} {c : Nat} (h : Own w base v (xs.map uv ++ [.int .u32 (c : Int)])) : Own w base v ((xs ++ [c]).map uv) := by
  rw [List.map_append, List.map_cons, List.map_nil]; exact h
theorem car_twice (n i : Nat) : Sm.it n (Sm.it n (2 ^ i)) = Sm.it (2 * n) (2 ^ i) := by rw [← Sm.it_add, show n + n = 2 * n from by omega]
set_option maxRecDepth 100000 in
set_option maxHeartbeats 1000000 in
theorem twice_any (n base : Nat) (v : Value) (w : World) (hO : Own w base v ((Sm.car n).map uv)) (hb : base ≤ w.heap.size) :
   Calls Tryd.prog 31 #[v] w fun e w' => ∃ v', e = .returned v' ∧ Own w' base v' ((Sm.car (2 * n)).map uv) ∧ Below w.heap.size w w' := by
  obtain ⟨i0, hi, hz0, hz1, hz2⟩ := info_parts Tryd.info22
  obtain ⟨g, cap, hv, hcell⟩ := car_cells hO
  have HC := Lib.hid hcell
  have HO := Lib.hid hO
  have hg : g < w.heap.size := (hO.lt g (by rw [hv]; rfl)).2
  subst hv
  clear hO hcell
  go_enter Tryd.func31, Tryd.ntmps31
  go_wp2
  go_loopw [3, 4] (fun u x wr => ∃ (k : Nat), k ≤ 32 ∧ x = .int .i64 k ∧ Hid (Own wr w.heap.size u (((Sm.car (2 * n)).take k).map uv)) ∧ Hid (Below w.heap.size w wr)) (fun _ x _ => 32 - (intOf x).toNat)
  case atStart => exact ⟨0, by omega, rfl, Lib.hid (Own.nil _ _), Lib.hid (Below.refl _ _)⟩
  case round =>
    obtain ⟨k, hk, rfl, HW, HB⟩ := hrel
    by_cases h : k < 32
    · have hce : wr.cell? ⟨g, k, none⟩ = some (.int .u32 (Sm.it n (2 ^ k) : Nat)) := (HB.out.cell (p := ⟨g, k, none⟩) hg).trans (HC.out k h)
      have hI := Sm.it_lt n (Sm.pow_lt k h)
      have HN : Hid ((Sm.car (2 * n)).take (k + 1) = (Sm.car (2 * n)).take k ++ [Sm.it n (Sm.it n (2 ^ k))]) := Lib.hid (by rw [Sm.car_take _ k h, car_twice])
      have HO2 : Hid (Own wr base (.slice (some ⟨g, 0, none⟩) 32 cap) ((Sm.car n).map uv)) := Lib.hid (HO.out.below HB.out (fun k hk => by cases hk; exact hg))
      have HL : Hid ((((Sm.car (2 * n)).take k).map uv).length = k) := Lib.hid (by simp [Sm.car_length]; omega)
      have HZ : Hid (w.heap.size ≤ wr.heap.size) := Lib.hid HB.out.size
      generalize Sm.it n (2 ^ k) = q at *
      go_wp2_with (first | (go_at_call 30; refine (apply_any q n base _ _ hI HO2.out).mono ?_; rintro e w' ⟨rfl, rfl⟩) | (at_builtin; refine wpList_append_Own _ rfl (.tmp 11) (.tmp 18) 45 45 rfl w.heap.size 22 i0 (.int .u32 0) 4 Tryd.underlying45 hi hz0 hz1 hz2 rfl u3 (((Sm.car (2 * n)).take k).map uv) rfl (HW.out.alloc _) _ 1 _ rfl (Src.one wr Tryd.underlying45 _ _ rfl) ?c1 ?c2 ?c3 ?_; rotate_right; intro v' w1 hown1 hgr hwh; have HO1 := Lib.hid hown1; have HG := Lib.hid hgr; have HH := Lib.hid hwh; clear hown1 hgr hwh))
      case c1 => rw [HL.out]; omega
      case c2 => rw [HL.out]; omega
      case c3 => exact Nat.le_trans HZ.out (by simp)
      go_roundw
      case rel =>
        refine ⟨k + 1, by omega, by go_num, Lib.hid ?_, Lib.hid ?_⟩
        · rw [HN.out]; exact own_snoc HO1.out
        · exact (HB.out.alloc HZ.out _).grown HG.out (Nat.le_trans HZ.out (by simp)) (fun k hk => (HW.out.lt k hk).1)
      case measure => simp [intOf]; omega
    · obtain rfl : k = 32 := by omega
      have HF : Hid (Own wr w.heap.size u3 ((Sm.car (2 * n)).map uv)) := Lib.hid (by have := HW.out; rwa [List.take_of_length_le (by simp [Sm.car_length])] at this)
      go_wp2
      go_ret
      exact ⟨_, rfl, HF.out.mono hb, HB.out⟩
theorem pow_val (k : Nat) (h : k < 32) : Value.int .u32 (2 ^ k % 4294967296) = .int .u32 ((2 ^ k : Nat) : Int) := by
  have e : (2 : Int) ^ k = ((2 ^ k : Nat) : Int) := by push_cast; rfl
  have := Sm.pow_lt k h
  rw [e]
  generalize 2 ^ k = p at *
  rw [Int.emod_eq_of_lt (by omega) (by omega)]
theorem rstep_any (c : Nat) (w : World) (hc : c < 4294967296) :
   Calls Tryd.prog 24 #[.int .u32 c, .int .u32 0] w fun e w' => e = .returned (.int .u32 (Sm.st c : Nat)) ∧ w = w' := by
  have := bit_any c 0 w hc (by omega)
  rwa [Nat.xor_zero] at this
set_option maxRecDepth 100000 in
set_option maxHeartbeats 2000000 in
theorem carry_in (a N : Nat) (w : World) (ha : a < 4294967296) (h1 : N < 9223372036854775808) :
   Calls Tryd.prog 27 #[.int .u32 a, .int .i64 N] w fun e w' => e = .returned (.int .u32 (Sm.it (8 * N) a : Nat)) ∧ Below w.heap.size w w' := by
  obtain ⟨i0, hi, hz0, hz1, hz2⟩ := info_parts Tryd.info22
  go_enter Tryd.func27, Tryd.ntmps27
  go_wp2
  go_loopw [5, 6] (fun u x wr => ∃ (k : Nat), k ≤ 32 ∧ x = .int .i64 k ∧ Hid (Own wr w.heap.size u (((Sm.car 8).take k).map uv)) ∧ Hid (Below w.heap.size w wr)) (fun _ x _ => 32 - (intOf x).toNat)
  case atStart => exact ⟨0, by omega, rfl, Lib.hid (Own.nil _ _), Lib.hid (Below.refl _ _)⟩
  case round =>
    obtain ⟨k, hk, rfl, HW, HB⟩ := hrel
    by_cases h : k < 32
    · have hp := Sm.pow_lt k h
      have HN : Hid ((Sm.car 8).take (k + 1) = (Sm.car 8).take k ++ [Sm.it 8 (2 ^ k)]) := Lib.hid (Sm.car_take _ k h)
      have HZ : Hid (w.heap.size ≤ wr.heap.size) := Lib.hid HB.out.size
      have hd : decide ((k : Int) < 32) = true := decide_eq_true (by omega)
      go_wp2
      clear hd
      go_loop [7, 8] (fun y z => ∃ (j q : Nat), j ≤ 8 ∧ q < 4294967296 ∧ Hid (q = Sm.it j (2 ^ k)) ∧ y = .int .u32 q ∧ z = .int .i64 j) (fun _ z => 8 - (intOf z).toNat)
      case atStart => exact ⟨0, 2 ^ k, by omega, hp, Lib.hid rfl, pow_val k h, rfl⟩
      case round =>
        obtain ⟨j, q, hj, hq, HQ, rfl, rfl⟩ := hrel
        by_cases h8 : j < 8
        · have HS : Hid (Sm.st q = Sm.it (j + 1) (2 ^ k)) := Lib.hid (by rw [HQ.out, Sm.st_it])
          have hx := Sm.st_lt hq
          go_wp2_with (go_at_call 24; refine (rstep_any q _ hq).mono ?_; rintro e w' ⟨rfl, rfl⟩)
          go_round
          case rel => exact ⟨j + 1, _, by omega, hx, HS, rfl, by go_num⟩
          case measure => simp [intOf]; omega
        · obtain rfl : j = 8 := by omega
          go_wp2_with (at_builtin; refine wpList_append_Own _ rfl (.tmp 22) (.tmp 24) 45 45 rfl w.heap.size 22 i0 (.int .u32 0) 4 Tryd.underlying45 hi hz0 hz1 hz2 rfl u5 (((Sm.car 8).take k).map uv) rfl (HW.out.alloc _) _ 1 _ rfl (Src.one wr Tryd.underlying45 _ _ rfl) ?c1 ?c2 ?c3 ?_; rotate_right; intro v' w1 hown1 hgr hwh; have HO1 := Lib.hid hown1; have HG := Lib.hid hgr; have HH := Lib.hid hwh; clear hown1 hgr hwh)
          case c1 => rw [Sm.car_length]; omega
          case c2 => rw [Sm.car_length]; omega
          case c3 => exact Nat.le_trans HZ.out (by simp)
          go_roundw
          case rel =>
            refine ⟨k + 1, by omega, by go_num, Lib.hid ?_, Lib.hid ?_⟩
            · rw [HN.out, ← HQ.out]; exact own_snoc HO1.out
            · exact (HB.out.alloc HZ.out _).grown HG.out (Nat.le_trans HZ.out (by simp)) (fun k hk => (HW.out.lt k hk).1)
          case measure => simp [intOf]; omega
    · have HF : Hid (Own wr w.heap.size u5 ((Sm.car (8 * 2 ^ 0)).map uv)) := Lib.hid (by have := HW.out; rwa [List.take_of_length_le (by rw [Sm.car_length]; omega)] at this)
      clear HW
      have hd : decide ((k : Int) < 32) = false := decide_eq_false (by omega)
      go_wp2
      clear hd
      go_loopw [0, 5, 1] (fun x u y wq => ∃ (k m A : Nat), A < 4294967296 ∧ m < 9223372036854775808 ∧ Hid (Sm.it (8 * (2 ^ k * m)) A = Sm.it (8 * N) a) ∧ Hid (Own wq w.heap.size u ((Sm.car (8 * 2 ^ k)).map uv)) ∧ Hid (Below w.heap.size w wq) ∧ x = .int .u32 A ∧ y = .int .i64 m) (fun _ _ y _ => (intOf y).toNat)
      case atStart => exact ⟨0, N, a, ha, h1, Lib.hid (by rw [Nat.pow_zero, Nat.one_mul]), HF, HB, rfl, rfl⟩
      case round =>
        clear HF
        obtain ⟨k, m, A, hA, hm, HS, HO, HB2, rfl, rfl⟩ := hrel
        by_cases hp : 0 < m
        · have hst := Sm.join_step A k m
          have hx := Sm.it_lt (8 * 2 ^ k) hA
          have HZ : Hid (w.heap.size ≤ wr.heap.size) := Lib.hid HB2.out.size
          have HG : Hid ((2 * (8 * 2 ^ k) : Nat) = 8 * 2 ^ (k + 1)) := Lib.hid (by rw [Nat.pow_succ]; omega)
          have C1 := Lib.hid (apply_any A (8 * 2 ^ k) _ u5 _ hA HO.out)
          have C2 := Lib.hid (twice_any (8 * 2 ^ k) _ u5 _ HO.out HZ.out)
          have HB3 := Lib.hid HB2.out
          by_cases ho : m % 2 = 1
          · rw [if_pos ho, HS.out] at hst
            have HS2 := Lib.hid hst
            clear hst
            have e3 : (m : Int) % 2 = 1 := by omega
            go_wp2_with (first | (go_at_call 30; refine C1.out.mono ?_; rintro e w' ⟨rfl, rfl⟩) | (go_at_call 31; refine C2.out.mono ?_; rintro e w1 ⟨v', rfl, hO1, hb1⟩; have HO1 := Lib.hid hO1; have HB1 := Lib.hid hb1; clear hO1 hb1))
            go_roundw
            case rel => exact ⟨k + 1, m / 2, _, hx, by omega, HS2, Lib.hid (by rw [← HG.out]; exact HO1.out), Lib.hid (below_on HB2.out HB1.out), rfl, by go_num⟩
            case measure => simp [intOf]; omega
          · rw [if_neg ho, HS.out] at hst
            have HS2 := Lib.hid hst
            clear hst
            have e3 : (m : Int) % 2 = 0 := by omega
            go_wp2_with (first | (go_at_call 30; refine C1.out.mono ?_; rintro e w' ⟨rfl, rfl⟩) | (go_at_call 31; refine C2.out.mono ?_; rintro e w1 ⟨v', rfl, hO1, hb1⟩; have HO1 := Lib.hid hO1; have HB1 := Lib.hid hb1; clear hO1 hb1))
            go_roundw
            case rel => exact ⟨k + 1, m / 2, _, hA, by omega, HS2, Lib.hid (by rw [← HG.out]; exact HO1.out), Lib.hid (below_on HB2.out HB1.out), rfl, by go_num⟩
            case measure => simp [intOf]; omega
        · obtain rfl : m = 0 := by omega
          have e5 : Hid (A = Sm.it (8 * N) a) := by
            have := HS.out
            rw [Nat.mul_zero, Nat.mul_zero] at this
            exact this
          go_wp2
          go_ret
          exact ⟨ret_u32 (by rw [e5.out]), HB2.out⟩
set_option maxRecDepth 100000 in
set_option maxHeartbeats 1000000 in
theorem carry_neg (a : Nat) (n : Int) (w : World) (h0 : -9223372036854775808 ≤ n) (hn : n < 0) :
   Calls Tryd.prog 27 #[.int .u32 a, .int .i64 n] w fun e w' => e = .returned (.int .u32 a) ∧ Below w.heap.size w w' := by
  obtain ⟨i0, hi, hz0, hz1, hz2⟩ := info_parts Tryd.info22
  go_enter Tryd.func27, Tryd.ntmps27
  go_wp2
  go_loopw [5, 6] (fun u x wr => ∃ (k : Nat), k ≤ 32 ∧ x = .int .i64 k ∧ Hid (Own wr w.heap.size u (((Sm.car 8).take k).map uv)) ∧ Hid (Below w.heap.size w wr)) (fun _ x _ => 32 - (intOf x).toNat)
  case atStart => exact ⟨0, by omega, rfl, Lib.hid (Own.nil _ _), Lib.hid (Below.refl _ _)⟩
  case round =>
    obtain ⟨k, hk, rfl, HW, HB⟩ := hrel
    by_cases h : k < 32
    · have hp := Sm.pow_lt k h
      have HN : Hid ((Sm.car 8).take (k + 1) = (Sm.car 8).take k ++ [Sm.it 8 (2 ^ k)]) := Lib.hid (Sm.car_take _ k h)
      have HZ : Hid (w.heap.size ≤ wr.heap.size) := Lib.hid HB.out.size
      have hd : decide ((k : Int) < 32) = true := decide_eq_true (by omega)
      go_wp2
      clear hd
      go_loop [7, 8] (fun y z => ∃ (j q : Nat), j ≤ 8 ∧ q < 4294967296 ∧ Hid (q = Sm.it j (2 ^ k)) ∧ y = .int .u32 q ∧ z = .int .i64 j) (fun _ z => 8 - (intOf z).toNat)
      case atStart => exact ⟨0, 2 ^ k, by omega, hp, Lib.hid rfl, pow_val k h, rfl⟩
      case round =>
        obtain ⟨j, q, hj, hq, HQ, rfl, rfl⟩ := hrel
        by_cases h8 : j < 8
        · have HS : Hid (Sm.st q = Sm.it (j + 1) (2 ^ k)) := Lib.hid (by rw [HQ.out, Sm.st_it])
          have hx := Sm.st_lt hq
          go_wp2_with (go_at_call 24; refine (rstep_any q _ hq).mono ?_; rintro e w' ⟨rfl, rfl⟩)
          go_round
          case rel => exact ⟨j + 1, _, by omega, hx, HS, rfl, by go_num⟩
          case measure => simp [intOf]; omega
        · obtain rfl : j = 8 := by omega
          go_wp2_with (at_builtin; refine wpList_append_Own _ rfl (.tmp 22) (.tmp 24) 45 45 rfl w.heap.size 22 i0 (.int .u32 0) 4 Tryd.underlying45 hi hz0 hz1 hz2 rfl u5 (((Sm.car 8).take k).map uv) rfl (HW.out.alloc _) _ 1 _ rfl (Src.one wr Tryd.underlying45 _ _ rfl) ?c1 ?c2 ?c3 ?_; rotate_right; intro v' w1 hown1 hgr hwh; have HO1 := Lib.hid hown1; have HG := Lib.hid hgr; have HH := Lib.hid hwh; clear hown1 hgr hwh)
          case c1 => rw [Sm.car_length]; omega
          case c2 => rw [Sm.car_length]; omega
          case c3 => exact Nat.le_trans HZ.out (by simp)
          go_roundw
          case rel =>
            refine ⟨k + 1, by omega, by go_num, Lib.hid ?_, Lib.hid ?_⟩
            · rw [HN.out, ← HQ.out]; exact own_snoc HO1.out
            · exact (HB.out.alloc HZ.out _).grown HG.out (Nat.le_trans HZ.out (by simp)) (fun k hk => (HW.out.lt k hk).1)
          case measure => simp [intOf]; omega
    · obtain rfl : k = 32 := by omega
      go_wp2
      refine wp_loop_rounds 1 ?_
      rw [rounds_succ]
      go_wp2
      go_ret
      exact ⟨rfl, HB.out⟩
set_option maxRecDepth 100000 in
set_option maxHeartbeats 1000000 in
theorem rjoin_any (a b : Nat) (n : Int) (w : World) (ha : a < 4294967296) (hb : b < 4294967296) (h0 : -9223372036854775808 ≤ n) (h1 : n ≤ 9223372036854775807) :
   Calls Tryd.prog 20 #[.int .u32 a, .int .u32 b, .int .i64 n] w fun e w' => e = .returned (.int .u32 (Sm.join a b n : Nat)) ∧ Below w.heap.size w w' := by
  have C : Calls Tryd.prog 27 #[.int .u32 a, .int .i64 n] w fun e w' => e = .returned (.int .u32 (Sm.it (8 * n.toNat) a : Nat)) ∧ Below w.heap.size w w' := by
    by_cases hn : 0 ≤ n
    · obtain ⟨N, rfl⟩ := Int.eq_ofNat_of_zero_le hn
      exact carry_in a N w ha (by omega)
    · rw [show n.toNat = 0 from by omega]
      exact carry_neg a n w h0 (by omega)
  have CH := Lib.hid C
  have e1 : bits .xor .u32 ((Sm.it (8 * n.toNat) a : Nat) : Int) (b : Int) = (Sm.join a b n : Nat) := u32_xor_nat _ _ (Sm.it_lt _ ha) hb
  generalize Sm.it (8 * n.toNat) a = x at *
  clear C
  go_enter Tryd.func20, Tryd.ntmps20
  go_wp2_with (go_at_call 27; refine CH.out.mono ?_; rintro e w1 ⟨rfl, hb1⟩; have HB := Lib.hid hb1; clear hb1)
  go_ret
  exact ⟨rfl, HB.out⟩
end Go.Proofs.YtmbndjdpbpajmaaDoor
