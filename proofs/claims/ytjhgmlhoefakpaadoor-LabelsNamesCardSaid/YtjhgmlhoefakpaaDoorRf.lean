/- The contracts of what reads: Fixed, and the document's Read, Uvarint, ReadFixed, over the seat's own program. -/
import Derived.Test.YtjhgmlhoefakpaaDoorBi
import Derived.Test.YtjhgmlhoefakpaaDoorMb
import Derived.Lib.Strings
namespace Go.Proofs.YtjhgmlhoefakpaaDoor
open Go.RowKit
theorem two_ne4 {z : Int} (h : z = 4 ∨ z = 8) : ((z != 4) && (z != 8)) = false := by rcases h with rfl | rfl <;> decide
set_option maxRecDepth 100000 in
set_option maxHeartbeats 1000000 in
theorem read_any (s : ByteArray) (w : World) (hs : s.size ≤ 140737488351232) (N C K : Nat) (hr : Bt.rd s.data.toList 0 0 = (N, C, K)) :
   Calls Tryd.prog 97 #[.string s] w fun e w' => e = .returned (.tuple #[.int .u64 N, .int .i64 C, .int .i64 K]) ∧ w = w' := by
  have HR := Lib.hid hr
  clear hr
  go_enter Tryd.func97, Tryd.ntmps97
  go_wp2
  go_loop [5, 6, 7] (fun n x h => ∃ (k acc T : Nat), k ≤ 9 ∧ k ≤ s.size ∧ Hid (acc < 128 ^ k) ∧ Hid (T = 128 ^ k) ∧ T ≤ 9223372036854775808 ∧ Hid (Bt.rd (s.data.toList.drop k) k acc = (N, C, K)) ∧ n = .int .u64 acc ∧ x = .int .u64 T ∧ h = .int .i64 k) (fun _ _ x => s.size - (intOf x).toNat)
  case atStart => exact ⟨0, 0, 1, by omega, by omega, Lib.hid (by simp), Lib.hid rfl, by omega, HR, rfl, rfl, rfl⟩
  case round =>
    obtain ⟨k, acc, T, hk, hs', HA, HT, hT, HK, rfl, rfl, rfl⟩ := hrel
    by_cases hlt : k < s.size
    · have hb := (s[k]).toNat_lt
      have HL : Hid (s.data.toList.drop k = s[k] :: s.data.toList.drop (k + 1)) := Bt.drop_cons (by simpa using hlt)
      by_cases h9 : k = 9 ∧ 1 < s[k].toNat
      · obtain ⟨rfl, hb1⟩ := h9
        go_wp2
        go_ret3
        have e := HK.out
        rw [HL.out, Bt.rd_form _ _ hb1] at e
        cases e
        exact ⟨ret_uv rfl rfl rfl, rfl⟩
      · have HS := Lib.hid (Bt.ref_step acc T k s[k] HT.out hk HA.out h9)
        have hg : ((((k : Int) == 9)) && decide ((1 : Int) < (s[k].toNat : Int))) = false := by
          rw [Bool.and_eq_false_iff, beq_eq_false_iff_ne, decide_eq_false_iff_not]
          omega
        by_cases h9' : k = 9
        · subst h9'
          have hb1 : s[9].toNat ≤ 1 := by omega
          have hb128 : s[9].toNat < 128 := by omega
          go_wp2
          go_ret3
          have e := HK.out
          rw [HL.out, Bt.rd_end _ _ _ (by omega) hb128] at e
          cases e
          refine ⟨ret_uv ?_ ?_ rfl, rfl⟩
          · have h := HS.out.1
            rw [Nat.mod_eq_of_lt hb128] at h
            rw [← h]
          · omega
        · have h9b : ((k : Int) == 9) = false := by rw [beq_eq_false_iff_ne]; omega
          by_cases hb128 : s[k].toNat < 128
          · go_wp2
            go_ret3
            have e := HK.out
            rw [HL.out, Bt.rd_end _ _ _ (by omega) hb128] at e
            cases e
            refine ⟨ret_uv ?_ ?_ rfl, rfl⟩
            · have h := HS.out.1
              rw [Nat.mod_eq_of_lt hb128] at h
              rw [← h]
            · omega
          · have hb4 : 128 ≤ s[k].toNat := by omega
            have h8 : k ≤ 8 := by omega
            have hT2 : T * 128 ≤ 9223372036854775808 := by
              have := Bt.pow9 (k := k + 1) (by omega)
              rw [HT.out, ← Nat.pow_succ]; exact this
            have HM : Hid (s[k].toNat % 128 = s[k].toNat - 128) := Lib.hid (by omega)
            have HF := Lib.hid (Bt.fits acc (s[k].toNat % 128) k h8 HA.out (by omega))
            have HE : Hid (Bt.rd (s.data.toList.drop (k + 1)) (k + 1) (acc + s[k].toNat % 128 * 128 ^ k) = (N, C, K)) := by
              have e := HK.out
              rw [HL.out, Bt.rd_more _ _ _ h9 hb4, ← HM.out] at e
              exact e
            go_wp2
            go_round
            case rel =>
              refine ⟨k + 1, acc + s[k].toNat % 128 * 128 ^ k, T * 128, by omega, by omega, HF.out.1, Lib.hid (by rw [HT.out, Nat.pow_succ]), hT2, HE, ?_, ?_, ?_⟩
              · rw [HS.out.1]
              · go_num
              · go_num
            case measure => simp [intOf]; omega
    · obtain rfl : k = s.size := by omega
      have e := HK.out
      rw [List.drop_eq_nil_of_le (by simp), Bt.rd_nil] at e
      cases e
      go_wp2
      go_ret3
      exact ⟨ret_uv rfl rfl rfl, rfl⟩
theorem drop_extract (s : ByteArray) (a : Nat) : (s.extract a s.size).data.toList = s.data.toList.drop a := by
  rw [Lib.extract_data, List.take_of_length_le (by simp)]
set_option maxRecDepth 100000 in
set_option maxHeartbeats 1000000 in
theorem ruvarint_ok (s : ByteArray) (at' : Nat) (w : World) (h1 : at' ≤ s.size) (hs : s.size ≤ 140737488351232) (N C X : Nat) (hr : Bt.rd (s.data.toList.drop at') 0 0 = (N, C, 0)) (hX : at' + C = X) (hC : C ≤ 10) :
   Calls Tryd.prog 85 #[.string s, .int .i64 at'] w fun e w' => e = .returned (.tuple #[.int .u64 N, .int .i64 X, .int .i64 0]) ∧ w = w' := by
  have C1 := fun w => Lib.hid (read_any (s.extract at' s.size) w (by simp; omega) N C 0 (by rw [drop_extract]; exact hr))
  have D1 := Lib.hid C1
  clear C1 hr
  have hg0 : decide ((at' : Int) < 0) = false := decide_eq_false (by omega)
  have hg1 : decide (s.size < at') = false := decide_eq_false (by omega)
  go_enter Tryd.func85, Tryd.ntmps85
  go_wp2_with fail
  refine (D1.out _).out.mono ?_
  rintro e w' ⟨rfl, rfl⟩
  go_wp2
  go_ret3
  exact ⟨ret_uv rfl (by omega) rfl, rfl⟩
set_option maxRecDepth 100000 in
set_option maxHeartbeats 1000000 in
theorem ruvarint_no (s : ByteArray) (at' : Nat) (w : World) (h1 : at' ≤ s.size) (hs : s.size ≤ 140737488351232) (K : Nat) (hK : (K : Int) ≠ 0) (hr : Bt.rd (s.data.toList.drop at') 0 0 = (0, 0, K)) :
   Calls Tryd.prog 85 #[.string s, .int .i64 at'] w fun e w' => e = .returned (.tuple #[.int .u64 0, .int .i64 0, .int .i64 K]) ∧ w = w' := by
  have C1 := fun w => Lib.hid (read_any (s.extract at' s.size) w (by simp; omega) 0 0 K (by rw [drop_extract]; exact hr))
  have D1 := Lib.hid C1
  clear C1 hr
  have hg0 : decide ((at' : Int) < 0) = false := decide_eq_false (by omega)
  have hg1 : decide (s.size < at') = false := decide_eq_false (by omega)
  have hk0 : ((K : Int) != 0) = true := by rw [bne_iff_ne]; exact hK
  go_enter Tryd.func85, Tryd.ntmps85
  go_wp2_with fail
  refine (D1.out _).out.mono ?_
  rintro e w' ⟨rfl, rfl⟩
  go_wp2
  go_ret3
  exact ⟨ret_uv rfl rfl rfl, rfl⟩
set_option maxRecDepth 100000 in
set_option maxHeartbeats 1000000 in
theorem ruvarint_out (s : ByteArray) (at' : Int) (w : World) (h : at' < 0 ∨ (s.size : Int) < at') :
   Calls Tryd.prog 85 #[.string s, .int .i64 at'] w fun e w' => e = .returned (.tuple #[.int .u64 0, .int .i64 0, .int .i64 1]) ∧ w = w' := by
  by_cases hn : at' < 0
  all_goals
    go_enter Tryd.func85, Tryd.ntmps85
    go_wp2
    go_ret3
    exact ⟨rfl, rfl⟩
end Go.Proofs.YtjhgmlhoefakpaaDoor
