/- The contracts of what reads: Fixed, and the document's Read, Uvarint, ReadFixed, over the seat's own program. -/
import Derived.Test.YtpcpbdcdapmlnaaDoorBi
import Derived.Test.YtpcpbdcdapmlnaaDoorMa
import Derived.Lib.Strings
namespace Go.Proofs.YtpcpbdcdapmlnaaDoor
open Go.RowKit
theorem two_ne4 {z : Int} (h : z = 4 ∨ z = 8) : ((z != 4) && (z != 8)) = false := by rcases h with rfl | rfl <;> decide
set_option maxRecDepth 100000 in
set_option maxHeartbeats 1000000 in
theorem fixed_ok4 (s : ByteArray) (at' : Nat) (w : World) (h1 : at' + 4 ≤ s.size) (hs : s.size ≤ 140737488351232) :
   Calls Tryd.prog 76 #[.string s, .int .i64 at', .int .i64 4] w fun e w' => e = .returned (.tuple #[.int .u64 (Bt.fat s.data.toList at' 4), .int .i64 ((at' + 4 : Nat) : Int), .int .i64 0]) ∧ w = w' := by
  have hd : decide (0 ≤ (at' : Int) ∧ (at' : Int) ≤ (s.size : Int)) = true := decide_eq_true (by omega)
  go_enter Tryd.func76, Tryd.ntmps76
  go_wp2_with (go_at_call 88; refine (isPlace_any _ _ _).mono ?_; rintro e w' ⟨rfl, rfl⟩; simp only [hd])
  go_loop [6, 29] (fun n i => ∃ (k acc : Nat), k ≤ 4 ∧ Hid (acc = Bt.fat s.data.toList at' k) ∧ n = .int .u64 acc ∧ i = .int .i64 k) (fun _ i => 4 - (intOf i).toNat)
  case atStart => exact ⟨0, 0, by omega, Lib.hid rfl, rfl, rfl⟩
  case round =>
    obtain ⟨k, acc, hk, HA, rfl, rfl⟩ := hrel
    by_cases hlt : k < 4
    · have hin : at' + k < s.size := by omega
      have hbb := (s[at' + k]).toNat_lt
      have HO : Hid (bits .or .u64 (acc : Int) (IntKind.u64.wrap ((s[at' + k].toNat : Int) * 2 ^ (8 * k))) = ((acc + s[at' + k].toNat * 256 ^ k : Nat) : Int)) := Bt.or_fix acc k _ (by omega) (by rw [HA.out]; exact Bt.fat_lt)
      have HF : Hid (Bt.fat s.data.toList at' (k + 1) = Bt.fat s.data.toList at' k + s[at' + k].toNat * 256 ^ k) := Bt.fat_succ (by simpa using hin)
      go_wp2
      go_round
      case rel =>
        refine ⟨k + 1, acc + s[at' + k].toNat * 256 ^ k, by omega, Lib.hid ?_, ?_, ?_⟩
        · rw [HF.out, ← HA.out]
        · rw [HO.out]
        · go_num
      case measure => simp [intOf]; omega
    · obtain rfl : k = 4 := by omega
      go_wp2
      go_ret3
      exact ⟨ret_uv (by rw [HA.out]) (by omega) rfl, rfl⟩
set_option maxRecDepth 100000 in
set_option maxHeartbeats 1000000 in
theorem fixed_short4 (s : ByteArray) (at' : Nat) (w : World) (h0 : at' ≤ s.size) (h1 : s.size < at' + 4) :
   Calls Tryd.prog 76 #[.string s, .int .i64 at', .int .i64 4] w fun e w' => e = .returned (.tuple #[.int .u64 0, .int .i64 0, .int .i64 8]) ∧ w = w' := by
  have hd : decide (0 ≤ (at' : Int) ∧ (at' : Int) ≤ (s.size : Int)) = true := decide_eq_true (by omega)
  go_enter Tryd.func76, Tryd.ntmps76
  go_wp2_with (go_at_call 88; refine (isPlace_any _ _ _).mono ?_; rintro e w' ⟨rfl, rfl⟩; simp only [hd])
  go_ret3
  exact ⟨rfl, rfl⟩
set_option maxRecDepth 100000 in
set_option maxHeartbeats 1000000 in
theorem fixed_arg4 (s : ByteArray) (at' : Int) (w : World) (h0 : at' < 0 ∨ (s.size : Int) < at') :
   Calls Tryd.prog 76 #[.string s, .int .i64 at', .int .i64 4] w fun e w' => e = .returned (.tuple #[.int .u64 0, .int .i64 0, .int .i64 1]) ∧ w = w' := by
  have hd : decide (0 ≤ at' ∧ at' ≤ (s.size : Int)) = false := decide_eq_false (by omega)
  by_cases hn : at' < 0
  all_goals
    go_enter Tryd.func76, Tryd.ntmps76
    go_wp2_with (go_at_call 88; refine (isPlace_any _ _ _).mono ?_; rintro e w' ⟨rfl, rfl⟩; simp only [hd])
    go_ret3
    exact ⟨rfl, rfl⟩
set_option maxRecDepth 100000 in
set_option maxHeartbeats 1000000 in
theorem fixed_ok8 (s : ByteArray) (at' : Nat) (w : World) (h1 : at' + 8 ≤ s.size) (hs : s.size ≤ 140737488351232) :
   Calls Tryd.prog 76 #[.string s, .int .i64 at', .int .i64 8] w fun e w' => e = .returned (.tuple #[.int .u64 (Bt.fat s.data.toList at' 8), .int .i64 ((at' + 8 : Nat) : Int), .int .i64 0]) ∧ w = w' := by
  have hd : decide (0 ≤ (at' : Int) ∧ (at' : Int) ≤ (s.size : Int)) = true := decide_eq_true (by omega)
  go_enter Tryd.func76, Tryd.ntmps76
  go_wp2_with (go_at_call 88; refine (isPlace_any _ _ _).mono ?_; rintro e w' ⟨rfl, rfl⟩; simp only [hd])
  go_loop [6, 29] (fun n i => ∃ (k acc : Nat), k ≤ 8 ∧ Hid (acc = Bt.fat s.data.toList at' k) ∧ n = .int .u64 acc ∧ i = .int .i64 k) (fun _ i => 8 - (intOf i).toNat)
  case atStart => exact ⟨0, 0, by omega, Lib.hid rfl, rfl, rfl⟩
  case round =>
    obtain ⟨k, acc, hk, HA, rfl, rfl⟩ := hrel
    by_cases hlt : k < 8
    · have hin : at' + k < s.size := by omega
      have hbb := (s[at' + k]).toNat_lt
      have HO : Hid (bits .or .u64 (acc : Int) (IntKind.u64.wrap ((s[at' + k].toNat : Int) * 2 ^ (8 * k))) = ((acc + s[at' + k].toNat * 256 ^ k : Nat) : Int)) := Bt.or_fix acc k _ (by omega) (by rw [HA.out]; exact Bt.fat_lt)
      have HF : Hid (Bt.fat s.data.toList at' (k + 1) = Bt.fat s.data.toList at' k + s[at' + k].toNat * 256 ^ k) := Bt.fat_succ (by simpa using hin)
      go_wp2
      go_round
      case rel =>
        refine ⟨k + 1, acc + s[at' + k].toNat * 256 ^ k, by omega, Lib.hid ?_, ?_, ?_⟩
        · rw [HF.out, ← HA.out]
        · rw [HO.out]
        · go_num
      case measure => simp [intOf]; omega
    · obtain rfl : k = 8 := by omega
      go_wp2
      go_ret3
      exact ⟨ret_uv (by rw [HA.out]) (by omega) rfl, rfl⟩
set_option maxRecDepth 100000 in
set_option maxHeartbeats 1000000 in
theorem fixed_short8 (s : ByteArray) (at' : Nat) (w : World) (h0 : at' ≤ s.size) (h1 : s.size < at' + 8) :
   Calls Tryd.prog 76 #[.string s, .int .i64 at', .int .i64 8] w fun e w' => e = .returned (.tuple #[.int .u64 0, .int .i64 0, .int .i64 8]) ∧ w = w' := by
  have hd : decide (0 ≤ (at' : Int) ∧ (at' : Int) ≤ (s.size : Int)) = true := decide_eq_true (by omega)
  go_enter Tryd.func76, Tryd.ntmps76
  go_wp2_with (go_at_call 88; refine (isPlace_any _ _ _).mono ?_; rintro e w' ⟨rfl, rfl⟩; simp only [hd])
  go_ret3
  exact ⟨rfl, rfl⟩
set_option maxRecDepth 100000 in
set_option maxHeartbeats 1000000 in
theorem fixed_arg8 (s : ByteArray) (at' : Int) (w : World) (h0 : at' < 0 ∨ (s.size : Int) < at') :
   Calls Tryd.prog 76 #[.string s, .int .i64 at', .int .i64 8] w fun e w' => e = .returned (.tuple #[.int .u64 0, .int .i64 0, .int .i64 1]) ∧ w = w' := by
  have hd : decide (0 ≤ at' ∧ at' ≤ (s.size : Int)) = false := decide_eq_false (by omega)
  by_cases hn : at' < 0
  all_goals
    go_enter Tryd.func76, Tryd.ntmps76
    go_wp2_with (go_at_call 88; refine (isPlace_any _ _ _).mono ?_; rintro e w' ⟨rfl, rfl⟩; simp only [hd])
    go_ret3
    exact ⟨rfl, rfl⟩
set_option maxRecDepth 100000 in
set_option maxHeartbeats 1000000 in
theorem fixed_no (s : ByteArray) (at' z : Int) (w : World) (h4 : (z == 4) = false) (h8 : (z == 8) = false) :
   Calls Tryd.prog 76 #[.string s, .int .i64 at', .int .i64 z] w fun e w' => e = .returned (.tuple #[.int .u64 0, .int .i64 0, .int .i64 1]) ∧ w = w' := by
  have g4 : (z != 4) = true := by rw [bne, h4]; rfl
  have g8 : (z != 8) = true := by rw [bne, h8]; rfl
  go_enter Tryd.func76, Tryd.ntmps76
  go_wp2
  go_ret3
  exact ⟨rfl, rfl⟩
set_option maxRecDepth 100000 in
set_option maxHeartbeats 1000000 in
theorem read_any (s : ByteArray) (w : World) (hs : s.size ≤ 140737488351232) (N C K : Nat) (hr : Bt.rd s.data.toList 0 0 = (N, C, K)) :
   Calls Tryd.prog 89 #[.string s] w fun e w' => e = .returned (.tuple #[.int .u64 N, .int .i64 C, .int .i64 K]) ∧ w = w' := by
  have HR := Lib.hid hr
  clear hr
  go_enter Tryd.func89, Tryd.ntmps89
  go_wp2
  go_loop [5, 6, 7] (fun n x h => ∃ (k acc T : Nat), k ≤ 9 ∧ k ≤ s.size ∧ Hid (acc < 128 ^ k) ∧ Hid (T = 128 ^ k) ∧ T ≤ 9223372036854775808 ∧ Hid (Bt.rd (s.data.toList.drop k) k acc = (N, C, K)) ∧ n = .int .u64 acc ∧ x = .int .u64 T ∧ h = .int .i64 k) (fun _ _ x => s.size - (intOf x).toNat)
  case atStart => exact ⟨0, 0, 1, by omega, by omega, Lib.hid (by simp), Lib.hid rfl, by omega, HR, rfl, rfl, rfl⟩
  case round =>
    obtain ⟨k, acc, T, hk, hs', HA, HT, hT, HK, rfl, rfl, rfl⟩ := hrel
    by_cases hlt : k < s.size
    · have hb := (s[k]).toNat_lt
      have HL : Hid (s.data.toList.drop k = s[k] :: s.data.toList.drop (k + 1)) := Bt.drop_cons (by simpa using hlt)
      by_cases h9 : k = 9 ∧ 1 < s[k].toNat
      · obtain ⟨rfl, hb1⟩ := h9
        go_wp2
        go_ret3
        have e := HK.out
        rw [HL.out, Bt.rd_form _ _ hb1] at e
        cases e
        exact ⟨ret_uv rfl rfl rfl, rfl⟩
      · have HS := Lib.hid (Bt.ref_step acc T k s[k] HT.out hk HA.out h9)
        have hg : ((((k : Int) == 9)) && decide ((1 : Int) < (s[k].toNat : Int))) = false := by
          rw [Bool.and_eq_false_iff, beq_eq_false_iff_ne, decide_eq_false_iff_not]
          omega
        by_cases h9' : k = 9
        · subst h9'
          have hb1 : s[9].toNat ≤ 1 := by omega
          have hb128 : s[9].toNat < 128 := by omega
          go_wp2
          go_ret3
          have e := HK.out
          rw [HL.out, Bt.rd_end _ _ _ (by omega) hb128] at e
          cases e
          refine ⟨ret_uv ?_ ?_ rfl, rfl⟩
          · have h := HS.out.1
            rw [Nat.mod_eq_of_lt hb128] at h
            rw [← h]
          · omega
        · have h9b : ((k : Int) == 9) = false := by rw [beq_eq_false_iff_ne]; omega
          by_cases hb128 : s[k].toNat < 128
          · go_wp2
            go_ret3
            have e := HK.out
            rw [HL.out, Bt.rd_end _ _ _ (by omega) hb128] at e
            cases e
            refine ⟨ret_uv ?_ ?_ rfl, rfl⟩
            · have h := HS.out.1
              rw [Nat.mod_eq_of_lt hb128] at h
              rw [← h]
            · omega
          · have hb4 : 128 ≤ s[k].toNat := by omega
            have h8 : k ≤ 8 := by omega
            have hT2 : T * 128 ≤ 9223372036854775808 := by
              have := Bt.pow9 (k := k + 1) (by omega)
              rw [HT.out, ← Nat.pow_succ]; exact this
            have HM : Hid (s[k].toNat % 128 = s[k].toNat - 128) := Lib.hid (by omega)
            have HF := Lib.hid (Bt.fits acc (s[k].toNat % 128) k h8 HA.out (by omega))
            have HE : Hid (Bt.rd (s.data.toList.drop (k + 1)) (k + 1) (acc + s[k].toNat % 128 * 128 ^ k) = (N, C, K)) := by
              have e := HK.out
              rw [HL.out, Bt.rd_more _ _ _ h9 hb4, ← HM.out] at e
              exact e
            go_wp2
            go_round
            case rel =>
              refine ⟨k + 1, acc + s[k].toNat % 128 * 128 ^ k, T * 128, by omega, by omega, HF.out.1, Lib.hid (by rw [HT.out, Nat.pow_succ]), hT2, HE, ?_, ?_, ?_⟩
              · rw [HS.out.1]
              · go_num
              · go_num
            case measure => simp [intOf]; omega
    · obtain rfl : k = s.size := by omega
      have e := HK.out
      rw [List.drop_eq_nil_of_le (by simp), Bt.rd_nil] at e
      cases e
      go_wp2
      go_ret3
      exact ⟨ret_uv rfl rfl rfl, rfl⟩

theorem drop_extract (s : ByteArray) (a : Nat) : (s.extract a s.size).data.toList = s.data.toList.drop a := by
  rw [Lib.extract_data, List.take_of_length_le (by simp)]
set_option maxRecDepth 100000 in
set_option maxHeartbeats 1000000 in
theorem ruvarint_ok (s : ByteArray) (at' : Nat) (w : World) (h1 : at' ≤ s.size) (hs : s.size ≤ 140737488351232) (N C X : Nat) (hr : Bt.rd (s.data.toList.drop at') 0 0 = (N, C, 0)) (hX : at' + C = X) (hC : C ≤ 10) :
   Calls Tryd.prog 80 #[.string s, .int .i64 at'] w fun e w' => e = .returned (.tuple #[.int .u64 N, .int .i64 X, .int .i64 0]) ∧ w = w' := by
  have C1 := fun w => Lib.hid (read_any (s.extract at' s.size) w (by simp; omega) N C 0 (by rw [drop_extract]; exact hr))
  have D1 := Lib.hid C1
  clear C1 hr
  have hg0 : decide ((at' : Int) < 0) = false := decide_eq_false (by omega)
  have hg1 : decide (s.size < at') = false := decide_eq_false (by omega)
  go_enter Tryd.func80, Tryd.ntmps80
  go_wp2_with fail
  refine (D1.out _).out.mono ?_
  rintro e w' ⟨rfl, rfl⟩
  go_wp2
  go_ret3
  exact ⟨ret_uv rfl (by omega) rfl, rfl⟩
set_option maxRecDepth 100000 in
set_option maxHeartbeats 1000000 in
theorem ruvarint_no (s : ByteArray) (at' : Nat) (w : World) (h1 : at' ≤ s.size) (hs : s.size ≤ 140737488351232) (K : Nat) (hK : (K : Int) ≠ 0) (hr : Bt.rd (s.data.toList.drop at') 0 0 = (0, 0, K)) :
   Calls Tryd.prog 80 #[.string s, .int .i64 at'] w fun e w' => e = .returned (.tuple #[.int .u64 0, .int .i64 0, .int .i64 K]) ∧ w = w' := by
  have C1 := fun w => Lib.hid (read_any (s.extract at' s.size) w (by simp; omega) 0 0 K (by rw [drop_extract]; exact hr))
  have D1 := Lib.hid C1
  clear C1 hr
  have hg0 : decide ((at' : Int) < 0) = false := decide_eq_false (by omega)
  have hg1 : decide (s.size < at') = false := decide_eq_false (by omega)
  have hk0 : ((K : Int) != 0) = true := by rw [bne_iff_ne]; exact hK
  go_enter Tryd.func80, Tryd.ntmps80
  go_wp2_with fail
  refine (D1.out _).out.mono ?_
  rintro e w' ⟨rfl, rfl⟩
  go_wp2
  go_ret3
  exact ⟨ret_uv rfl rfl rfl, rfl⟩
set_option maxRecDepth 100000 in
set_option maxHeartbeats 1000000 in
theorem ruvarint_out (s : ByteArray) (at' : Int) (w : World) (h : at' < 0 ∨ (s.size : Int) < at') :
   Calls Tryd.prog 80 #[.string s, .int .i64 at'] w fun e w' => e = .returned (.tuple #[.int .u64 0, .int .i64 0, .int .i64 1]) ∧ w = w' := by
  by_cases hn : at' < 0
  all_goals
    go_enter Tryd.func80, Tryd.ntmps80
    go_wp2
    go_ret3
    exact ⟨rfl, rfl⟩
end Go.Proofs.YtpcpbdcdapmlnaaDoor
