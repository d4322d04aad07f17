/- The contracts of what reads: Fixed, and the document's Read, Uvarint, ReadFixed, over the seat's own program. -/
import Derived.Test.YtioflicmpnkfeaaGreatBi
import Derived.Test.YtioflicmpnkfeaaGreatMb
import Derived.Lib.Strings
namespace Go.Proofs.YtioflicmpnkfeaaGreat
open Go.RowKit
theorem two_ne4 {z : Int} (h : z = 4 ∨ z = 8) : ((z != 4) && (z != 8)) = false := by rcases h with rfl | rfl <;> decide
set_option maxRecDepth 100000 in
set_option maxHeartbeats 1000000 in
theorem fixed_ok4 (s : ByteArray) (at' : Nat) (w : World) (h1 : at' + 4 ≤ s.size) (hs : s.size ≤ 140737488351232) :
   Calls Tryz.prog 96 #[.string s, .int .i64 at', .int .i64 4] w fun e w' => e = .returned (.tuple #[.int .u64 (Bt.fat s.data.toList at' 4), .int .i64 ((at' + 4 : Nat) : Int), .int .i64 0]) ∧ w = w' := by
  have hd : decide (0 ≤ (at' : Int) ∧ (at' : Int) ≤ (s.size : Int)) = true := decide_eq_true (by omega)
  go_enter Tryz.func96, Tryz.ntmps96
  go_wp2_with (go_at_call 99; refine (isPlace_any _ _ _).mono ?_; rintro e w' ⟨rfl, rfl⟩; simp only [hd])
  go_loop [6, 29] (fun n i => ∃ (k acc : Nat), k ≤ 4 ∧ Hid (acc = Bt.fat s.data.toList at' k) ∧ n = .int .u64 acc ∧ i = .int .i64 k) (fun _ i => 4 - (intOf i).toNat)
  case atStart => exact ⟨0, 0, by omega, Lib.hid rfl, rfl, rfl⟩
  case round =>
    obtain ⟨k, acc, hk, HA, rfl, rfl⟩ := hrel
    by_cases hlt : k < 4
    · have hin : at' + k < s.size := by omega
      have hbb := (s[at' + k]).toNat_lt
      have HO : Hid (bits .or .u64 (acc : Int) (IntKind.u64.wrap ((s[at' + k].toNat : Int) * 2 ^ (8 * k))) = ((acc + s[at' + k].toNat * 256 ^ k : Nat) : Int)) := Bt.or_fix acc k _ (by omega) (by rw [HA.out]; exact Bt.fat_lt)
      have HF : Hid (Bt.fat s.data.toList at' (k + 1) = Bt.fat s.data.toList at' k + s[at' + k].toNat * 256 ^ k) := Bt.fat_succ (by simpa using hin)
      go_wp2
      go_round
      case rel =>
        refine ⟨k + 1, acc + s[at' + k].toNat * 256 ^ k, by omega, Lib.hid ?_, ?_, ?_⟩
        · rw [HF.out, ← HA.out]
        · rw [HO.out]
        · go_num
      case measure => simp [intOf]; omega
    · obtain rfl : k = 4 := by omega
      go_wp2
      go_ret3
      exact ⟨ret_uv (by rw [HA.out]) (by omega) rfl, rfl⟩
set_option maxRecDepth 100000 in
set_option maxHeartbeats 1000000 in
theorem fixed_short4 (s : ByteArray) (at' : Nat) (w : World) (h0 : at' ≤ s.size) (h1 : s.size < at' + 4) :
   Calls Tryz.prog 96 #[.string s, .int .i64 at', .int .i64 4] w fun e w' => e = .returned (.tuple #[.int .u64 0, .int .i64 0, .int .i64 8]) ∧ w = w' := by
  have hd : decide (0 ≤ (at' : Int) ∧ (at' : Int) ≤ (s.size : Int)) = true := decide_eq_true (by omega)
  go_enter Tryz.func96, Tryz.ntmps96
  go_wp2_with (go_at_call 99; refine (isPlace_any _ _ _).mono ?_; rintro e w' ⟨rfl, rfl⟩; simp only [hd])
  go_ret3
  exact ⟨rfl, rfl⟩
set_option maxRecDepth 100000 in
set_option maxHeartbeats 1000000 in
theorem fixed_arg4 (s : ByteArray) (at' : Int) (w : World) (h0 : at' < 0 ∨ (s.size : Int) < at') :
   Calls Tryz.prog 96 #[.string s, .int .i64 at', .int .i64 4] w fun e w' => e = .returned (.tuple #[.int .u64 0, .int .i64 0, .int .i64 1]) ∧ w = w' := by
  have hd : decide (0 ≤ at' ∧ at' ≤ (s.size : Int)) = false := decide_eq_false (by omega)
  by_cases hn : at' < 0
  all_goals
    go_enter Tryz.func96, Tryz.ntmps96
    go_wp2_with (go_at_call 99; refine (isPlace_any _ _ _).mono ?_; rintro e w' ⟨rfl, rfl⟩; simp only [hd])
    go_ret3
    exact ⟨rfl, rfl⟩
set_option maxRecDepth 100000 in
set_option maxHeartbeats 1000000 in
theorem fixed_ok8 (s : ByteArray) (at' : Nat) (w : World) (h1 : at' + 8 ≤ s.size) (hs : s.size ≤ 140737488351232) :
   Calls Tryz.prog 96 #[.string s, .int .i64 at', .int .i64 8] w fun e w' => e = .returned (.tuple #[.int .u64 (Bt.fat s.data.toList at' 8), .int .i64 ((at' + 8 : Nat) : Int), .int .i64 0]) ∧ w = w' := by
  have hd : decide (0 ≤ (at' : Int) ∧ (at' : Int) ≤ (s.size : Int)) = true := decide_eq_true (by omega)
  go_enter Tryz.func96, Tryz.ntmps96
  go_wp2_with (go_at_call 99; refine (isPlace_any _ _ _).mono ?_; rintro e w' ⟨rfl, rfl⟩; simp only [hd])
  go_loop [6, 29] (fun n i => ∃ (k acc : Nat), k ≤ 8 ∧ Hid (acc = Bt.fat s.data.toList at' k) ∧ n = .int .u64 acc ∧ i = .int .i64 k) (fun _ i => 8 - (intOf i).toNat)
  case atStart => exact ⟨0, 0, by omega, Lib.hid rfl, rfl, rfl⟩
  case round =>
    obtain ⟨k, acc, hk, HA, rfl, rfl⟩ := hrel
    by_cases hlt : k < 8
    · have hin : at' + k < s.size := by omega
      have hbb := (s[at' + k]).toNat_lt
      have HO : Hid (bits .or .u64 (acc : Int) (IntKind.u64.wrap ((s[at' + k].toNat : Int) * 2 ^ (8 * k))) = ((acc + s[at' + k].toNat * 256 ^ k : Nat) : Int)) := Bt.or_fix acc k _ (by omega) (by rw [HA.out]; exact Bt.fat_lt)
      have HF : Hid (Bt.fat s.data.toList at' (k + 1) = Bt.fat s.data.toList at' k + s[at' + k].toNat * 256 ^ k) := Bt.fat_succ (by simpa using hin)
      go_wp2
      go_round
      case rel =>
        refine ⟨k + 1, acc + s[at' + k].toNat * 256 ^ k, by omega, Lib.hid ?_, ?_, ?_⟩
        · rw [HF.out, ← HA.out]
        · rw [HO.out]
        · go_num
      case measure => simp [intOf]; omega
    · obtain rfl : k = 8 := by omega
      go_wp2
      go_ret3
      exact ⟨ret_uv (by rw [HA.out]) (by omega) rfl, rfl⟩
set_option maxRecDepth 100000 in
set_option maxHeartbeats 1000000 in
theorem fixed_short8 (s : ByteArray) (at' : Nat) (w : World) (h0 : at' ≤ s.size) (h1 : s.size < at' + 8) :
   Calls Tryz.prog 96 #[.string s, .int .i64 at', .int .i64 8] w fun e w' => e = .returned (.tuple #[.int .u64 0, .int .i64 0, .int .i64 8]) ∧ w = w' := by
  have hd : decide (0 ≤ (at' : Int) ∧ (at' : Int) ≤ (s.size : Int)) = true := decide_eq_true (by omega)
  go_enter Tryz.func96, Tryz.ntmps96
  go_wp2_with (go_at_call 99; refine (isPlace_any _ _ _).mono ?_; rintro e w' ⟨rfl, rfl⟩; simp only [hd])
  go_ret3
  exact ⟨rfl, rfl⟩
set_option maxRecDepth 100000 in
set_option maxHeartbeats 1000000 in
theorem fixed_arg8 (s : ByteArray) (at' : Int) (w : World) (h0 : at' < 0 ∨ (s.size : Int) < at') :
   Calls Tryz.prog 96 #[.string s, .int .i64 at', .int .i64 8] w fun e w' => e = .returned (.tuple #[.int .u64 0, .int .i64 0, .int .i64 1]) ∧ w = w' := by
  have hd : decide (0 ≤ at' ∧ at' ≤ (s.size : Int)) = false := decide_eq_false (by omega)
  by_cases hn : at' < 0
  all_goals
    go_enter Tryz.func96, Tryz.ntmps96
    go_wp2_with (go_at_call 99; refine (isPlace_any _ _ _).mono ?_; rintro e w' ⟨rfl, rfl⟩; simp only [hd])
    go_ret3
    exact ⟨rfl, rfl⟩
set_option maxRecDepth 100000 in
set_option maxHeartbeats 1000000 in
theorem fixed_no (s : ByteArray) (at' z : Int) (w : World) (h4 : (z == 4) = false) (h8 : (z == 8) = false) :
   Calls Tryz.prog 96 #[.string s, .int .i64 at', .int .i64 z] w fun e w' => e = .returned (.tuple #[.int .u64 0, .int .i64 0, .int .i64 1]) ∧ w = w' := by
  have g4 : (z != 4) = true := by rw [bne, h4]; rfl
  have g8 : (z != 8) = true := by rw [bne, h8]; rfl
  go_enter Tryz.func96, Tryz.ntmps96
  go_wp2
  go_ret3
  exact ⟨rfl, rfl⟩
theorem drop_extract (s : ByteArray) (a : Nat) : (s.extract a s.size).data.toList = s.data.toList.drop a := by
  rw [Lib.extract_data, List.take_of_length_le (by simp)]
end Go.Proofs.YtioflicmpnkfeaaGreat
