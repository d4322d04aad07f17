/- The document's own answers that make no memory: a step, Add, Of, Mask, Plain. -/
import Derived.Test.YtkbifmgddbilmaaDoorSd
import Derived.Test.YtkbifmgddbilmaaDoorSb
namespace Go.Proofs.YtkbifmgddbilmaaDoor
open Go.RowKit
set_option maxRecDepth 100000 in
set_option maxHeartbeats 1000000 in
theorem bit_any (c b : Nat) (w : World) (hc : c < 4294967296) (hb : b < 2) :
   Calls Tryd.prog 46 #[.int .u32 c, .int .u32 b] w fun e w' => e = .returned (.int .u32 (Sm.st (c ^^^ b) : Nat)) ∧ w = w' := by
  have e0 := Sm.st_bit c b hb
  by_cases h : c % 2 = b
  · rw [if_pos h] at e0
    have e1 : ((c : Int) % 2) = (b : Int) := by omega
    have e2 : ((c : Int) / 2) = ((Sm.st (c ^^^ b) : Nat) : Int) := by omega
    generalize Sm.st (c ^^^ b) = r at *
    clear e0 h
    go_enter Tryd.func46, Tryd.ntmps46
    go_wp2
    go_ret
    exact ⟨rfl, rfl⟩
  · rw [if_neg h] at e0
    have e1 : (((c : Int) % 2) == (b : Int)) = false := by rw [beq_eq_false_iff_ne]; omega
    have e2 : bits .xor .u32 ((c : Int) / 2) 2197175160 = ((Sm.st (c ^^^ b) : Nat) : Int) := by
      rw [e0, show ((c : Int) / 2) = ((c / 2 : Nat) : Int) from by omega]
      exact u32_xor_nat _ 2197175160 (by omega) (by omega)
    generalize Sm.st (c ^^^ b) = r at *
    clear e0 h
    go_enter Tryd.func46, Tryd.ntmps46
    go_wp2
    go_ret
    exact ⟨rfl, rfl⟩
set_option maxRecDepth 100000 in
set_option maxHeartbeats 1000000 in
theorem radd_in (c C R : Nat) (s : ByteArray) (w : World) (hs : s.size ≤ 140737488351232) (hC : C < 4294967296)
    (e1 : bits .xor .u32 (c : Int) 4294967295 = (C : Int)) (e2 : Hid (bits .xor .u32 ((Sm.crc C s.data.toList : Nat) : Int) 4294967295 = (R : Int))) :
   Calls Tryd.prog 41 #[.int .u32 c, .string s] w fun e w' => e = .returned (.int .u32 R) ∧ w = w' := by
  go_enter Tryd.func41, Tryd.ntmps41
  go_wp2
  go_loop [0, 5] (fun n x => ∃ (k r : Nat), k ≤ s.size ∧ Hid (r = Sm.crc C (s.data.toList.take k)) ∧ n = .int .u32 r ∧ x = .int .i64 k) (fun _ x => s.size - (intOf x).toNat)
  case atStart => exact ⟨0, C, by omega, Lib.hid rfl, rfl, rfl⟩
  case round =>
    obtain ⟨k, r, hk, HR, rfl, rfl⟩ := hrel
    have hr : r < 4294967296 := by rw [HR.out]; exact Sm.crc_lt hC _
    by_cases hlt : k < s.size
    · have hb := (s[k]).toNat_lt
      have HS : Hid (Sm.it 8 (r ^^^ (s[k]).toNat) = Sm.crc C (s.data.toList.take (k + 1))) := Lib.hid (by rw [take_snoc s k hlt, Sm.crc_snoc, ← HR.out])
      go_wp2
      go_loop [0, 6] (fun n x => ∃ (j q : Nat), j ≤ 8 ∧ q < 4294967296 ∧ Hid (q = Sm.it j (r ^^^ (s[k]).toNat % 2 ^ j)) ∧ n = .int .u32 q ∧ x = .int .i64 j) (fun _ x => 8 - (intOf x).toNat)
      case atStart => exact ⟨0, r, by omega, hr, Lib.hid (Sm.byte_start _ _).symm, rfl, rfl⟩
      case round =>
        obtain ⟨j, q, hj, hq, HQ, rfl, rfl⟩ := hrel
        by_cases h8 : j < 8
        · have hB : s[k].toNat / 2 ^ j % 2 < 2 := Nat.mod_lt _ (by omega)
          have e3 : ((s[k].toNat : Nat) : Int) / 2 ^ j % 2 = ((s[k].toNat / 2 ^ j % 2 : Nat) : Int) := by push_cast; rfl
          have HN : Hid (Sm.st (q ^^^ (s[k].toNat / 2 ^ j % 2)) = Sm.it (j + 1) (r ^^^ (s[k]).toNat % 2 ^ (j + 1))) := Lib.hid (by rw [HQ.out, Sm.byte_step])
          generalize s[k].toNat / 2 ^ j % 2 = B at *
          have hx := Sm.st_lt (Sm.xor_lt hq (show B < 4294967296 by omega))
          go_wp2_with (go_at_call 46; refine (bit_any q B _ hq hB).mono ?_; rintro e w' ⟨rfl, rfl⟩)
          go_round
          case rel => exact ⟨j + 1, _, by omega, hx, HN, rfl, by go_num⟩
          case measure => simp [intOf]; omega
        · obtain rfl : j = 8 := by omega
          have HF : Hid (q = Sm.crc C (s.data.toList.take (k + 1))) := Lib.hid (by rw [HQ.out, Sm.byte_end _ _ (by omega), HS.out])
          clear HS HQ
          go_wp2
          go_round
          case rel => exact ⟨k + 1, q, by omega, HF, rfl, by go_num⟩
          case measure => simp [intOf]; omega
    · obtain rfl : k = s.size := by omega
      have e4 : bits .xor .u32 ((r : Nat) : Int) 4294967295 = (R : Int) := by rw [HR.out, List.take_of_length_le (by simp)]; exact e2.out
      go_wp2
      go_ret
      exact ⟨rfl, rfl⟩
theorem xor_ones (a : Nat) (ha : a < 4294967296) : bits .xor .u32 (a : Int) 4294967295 = ((4294967295 ^^^ a : Nat) : Int) := by
  rw [Nat.xor_comm]; exact u32_xor_nat a 4294967295 ha (by omega)
theorem radd_any (c : Nat) (s : ByteArray) (w : World) (hc : c < 4294967296) (hs : s.size ≤ 140737488351232) :
   Calls Tryd.prog 41 #[.int .u32 c, .string s] w fun e w' => e = .returned (.int .u32 (Sm.add c s.data.toList : Nat)) ∧ w = w' :=
  radd_in c (4294967295 ^^^ c) (Sm.add c s.data.toList) s w hs (Sm.xor_lt (by omega) hc) (xor_ones c hc) (Lib.hid (xor_ones _ (Sm.crc_lt (Sm.xor_lt (by omega) hc) _)))
set_option maxRecDepth 100000 in
set_option maxHeartbeats 1000000 in
theorem rof_any (s : ByteArray) (w : World) (hs : s.size ≤ 140737488351232) :
   Calls Tryd.prog 34 #[.string s] w fun e w' => e = .returned (.int .u32 (Sm.add 0 s.data.toList : Nat)) ∧ w = w' := by
  go_enter Tryd.func34, Tryd.ntmps34
  go_wp2_with (go_at_call 41; refine (radd_any 0 _ _ (by omega) hs).mono ?_; rintro e w' ⟨rfl, rfl⟩)
  go_ret
  exact ⟨rfl, rfl⟩
set_option maxRecDepth 100000 in
set_option maxHeartbeats 1000000 in
theorem rmask_any (c : Nat) (w : World) (hc : c < 4294967296) :
   Calls Tryd.prog 33 #[.int .u32 c] w fun e w' => e = .returned (.int .u32 (Sm.mask c : Nat)) ∧ w = w' := by
  go_enter Tryd.func33, Tryd.ntmps33
  go_wp2
  go_loop [0, 3] (fun n x => ∃ (j q : Nat), j ≤ 15 ∧ q < 4294967296 ∧ Hid (q = Sm.rr j c) ∧ n = .int .u32 q ∧ x = .int .i64 j) (fun _ x => 15 - (intOf x).toNat)
  case atStart => exact ⟨0, c, by omega, hc, Lib.hid rfl, rfl, rfl⟩
  case round =>
    obtain ⟨j, q, hj, hq, HQ, rfl, rfl⟩ := hrel
    by_cases h : j < 15
    · have HN : Hid (Sm.one q = Sm.rr (j + 1) c) := Lib.hid (by rw [HQ.out]; rfl)
      have e1 : (q : Int) / 2 + (q : Int) % 2 * 2147483648 = (Sm.one q : Nat) := by unfold Sm.one; omega
      have hx := Sm.one_lt hq
      generalize Sm.one q = r at *
      go_wp2
      go_round
      case rel => exact ⟨j + 1, r, by omega, hx, HN, rfl, by go_num⟩
      case measure => simp [intOf]; omega
    · obtain rfl : j = 15 := by omega
      go_wp2
      go_ret
      refine ⟨ret_u32 ?_, rfl⟩
      rw [Sm.mask, ← Sm.rr_rot, ← HQ.out, Sm.up]
      omega
end Go.Proofs.YtkbifmgddbilmaaDoor
