/- The contracts of what reads: Fixed, and the document's Read, Uvarint, ReadFixed, over the seat's own program. -/
import Derived.Test.YtkbifmgddbilmaaDoorBi
import Derived.Test.YtkbifmgddbilmaaDoorMb
import Derived.Lib.Strings
namespace Go.Proofs.YtkbifmgddbilmaaDoor
open Go.RowKit
theorem two_ne4 {z : Int} (h : z = 4 ∨ z = 8) : ((z != 4) && (z != 8)) = false := by rcases h with rfl | rfl <;> decide
set_option maxRecDepth 100000 in
set_option maxHeartbeats 1000000 in
theorem fixed_ok4 (s : ByteArray) (at' : Nat) (w : World) (h1 : at' + 4 ≤ s.size) (hs : s.size ≤ 140737488351232) :
   Calls Tryd.prog 29 #[.string s, .int .i64 at', .int .i64 4] w fun e w' => e = .returned (.tuple #[.int .u64 (Bt.fat s.data.toList at' 4), .int .i64 ((at' + 4 : Nat) : Int), .int .i64 0]) ∧ w = w' := by
  have hd : decide (0 ≤ (at' : Int) ∧ (at' : Int) ≤ (s.size : Int)) = true := decide_eq_true (by omega)
  go_enter Tryd.func29, Tryd.ntmps29
  go_wp2_with (go_at_call 40; refine (isPlace_any _ _ _).mono ?_; rintro e w' ⟨rfl, rfl⟩; simp only [hd])
  go_loop [6, 29] (fun n i => ∃ (k acc : Nat), k ≤ 4 ∧ Hid (acc = Bt.fat s.data.toList at' k) ∧ n = .int .u64 acc ∧ i = .int .i64 k) (fun _ i => 4 - (intOf i).toNat)
  case atStart => exact ⟨0, 0, by omega, Lib.hid rfl, rfl, rfl⟩
  case round =>
    obtain ⟨k, acc, hk, HA, rfl, rfl⟩ := hrel
    by_cases hlt : k < 4
    · have hin : at' + k < s.size := by omega
      have hbb := (s[at' + k]).toNat_lt
      have HO : Hid (bits .or .u64 (acc : Int) (IntKind.u64.wrap ((s[at' + k].toNat : Int) * 2 ^ (8 * k))) = ((acc + s[at' + k].toNat * 256 ^ k : Nat) : Int)) := Bt.or_fix acc k _ (by omega) (by rw [HA.out]; exact Bt.fat_lt)
      have HF : Hid (Bt.fat s.data.toList at' (k + 1) = Bt.fat s.data.toList at' k + s[at' + k].toNat * 256 ^ k) := Bt.fat_succ (by simpa using hin)
      go_wp2
      go_round
      case rel =>
        refine ⟨k + 1, acc + s[at' + k].toNat * 256 ^ k, by omega, Lib.hid ?_, ?_, ?_⟩
        · rw [HF.out, ← HA.out]
        · rw [HO.out]
        · go_num
      case measure => simp [intOf]; omega
    · obtain rfl : k = 4 := by omega
      go_wp2
      go_ret3
      exact ⟨ret_uv (by rw [HA.out]) (by omega) rfl, rfl⟩
end Go.Proofs.YtkbifmgddbilmaaDoor
