/- The contracts of package bits' functions, over the seat's own program. -/
import Derived.Test.YtpcpbdcdapmlnaaDoorProg
import Derived.Test.YtpcpbdcdapmlnaaDoorMa
import Derived.Test.YtpcpbdcdapmlnaaDoorOw
import Derived.WalkKit
import Derived.WalkLawsBesides
import Derived.WalkSpells
import Derived.Deep.LoopGhost
import Derived.Lib.Hide
namespace Go.Proofs.YtpcpbdcdapmlnaaDoor
open Go.RowKit
set_option maxHeartbeats 400000 in
theorem isPlace_any (s : ByteArray) (at' : Int) (w : World) :
   Calls Tryd.prog 88 #[.string s, .int .i64 at'] w fun e w' => e = .returned (.bool (decide (0 ≤ at' ∧ at' ≤ (s.size : Int)))) ∧ w = w' := by
  by_cases h : 0 ≤ at'
  · go_enter Tryd.func88, Tryd.ntmps88
    go_wp2
    go_ret
    refine ⟨by simp [h], rfl⟩
  · go_enter Tryd.func88, Tryd.ntmps88
    go_wp2
    go_ret
    refine ⟨by rw [decide_eq_false (by omega)]; rfl, rfl⟩
theorem getElem_toList (s : ByteArray) (j : Nat) (h : j < s.size) : s.data.toList[j]'(by simpa using h) = s[j] := rfl
theorem ret_uv {n n' x x' k k' : Int} (h1 : n = n') (h2 : x = x') (h3 : k = k') : Ending.returned (.tuple #[.int .u64 n, .int .i64 x, .int .i64 k]) = Ending.returned (.tuple #[.int .u64 n', .int .i64 x', .int .i64 k']) := by rw [h1, h2, h3]
set_option maxRecDepth 100000 in
set_option maxHeartbeats 1000000 in
theorem uvarint_in (s : ByteArray) (at' : Nat) (w : World) (h1 : at' ≤ s.size) (hs : s.size ≤ 140737488351232) (N C K : Nat) (hr : Bt.rd (s.data.toList.drop at') 0 0 = (N, C, K)) :
   Calls Tryd.prog 87 #[.string s, .int .i64 at'] w fun e w' => e = .returned (.tuple #[.int .u64 N, .int .i64 (if K = 0 then ((at' + C : Nat) : Int) else 0), .int .i64 K]) ∧ w = w' := by
  have hd : decide (0 ≤ (at' : Int) ∧ (at' : Int) ≤ (s.size : Int)) = true := decide_eq_true (by omega)
  have HR := Lib.hid hr
  clear hr
  go_enter Tryd.func87, Tryd.ntmps87
  go_wp2
  go_step3
  go_wp2_with (go_at_call 88; refine (isPlace_any _ _ _).mono ?_; rintro e w' ⟨rfl, rfl⟩; simp only [hd])
  go_step3
  go_wp2
  go_loop [4, 5, 7] (fun n x h => ∃ (k acc : Nat), k ≤ 9 ∧ at' + k ≤ s.size ∧ Hid (acc < 128 ^ k) ∧ Hid (Bt.rd (s.data.toList.drop (at' + k)) k acc = (N, C, K)) ∧ n = .int .u64 acc ∧ x = .int .i64 ((at' + k : Nat) : Int) ∧ h = .int .i64 ((7 * k : Nat) : Int)) (fun _ x _ => s.size - (intOf x).toNat)
  case atStart => exact ⟨0, 0, by omega, by omega, Lib.hid (by simp), HR, rfl, rfl, rfl⟩
  case round =>
    obtain ⟨k, acc, hk, hs', HA, HK, rfl, rfl, rfl⟩ := hrel
    by_cases hlt : at' + k < s.size
    · have hb := (s[at' + k]).toNat_lt
      have HL : Hid (s.data.toList.drop (at' + k) = s[at' + k] :: s.data.toList.drop (at' + (k + 1))) := Bt.drop_cons (by simpa using hlt)
      by_cases h9 : k = 9
      · subst h9
        by_cases hb1 : 1 < s[at' + 9].toNat
        · go_wp2
          rw [Exit.noGoto_ret]
          go_ret3
          have e := HK.out
          rw [HL.out, Bt.rd_form _ _ hb1] at e
          cases e
          exact ⟨ret_uv rfl rfl rfl, rfl⟩
        · have hb2 : s[at' + 9].toNat ≤ 1 := by omega
          go_wp2
          rw [Exit.noGoto_ret]
          go_ret3
          have e := HK.out
          rw [HL.out, Bt.rd_end _ _ _ (by omega) (by omega)] at e
          cases e
          exact ⟨ret_uv (Bt.or_last _ _ HA.out hb2) (by simp; omega) rfl, rfl⟩
      · have h8 : k ≤ 8 := by omega
        have h63 : ((7 * (k : Int)) == 63) = false := by rw [beq_eq_false_iff_ne]; omega
        by_cases hb3 : s[at' + k].toNat < 128
        · go_wp2
          rw [Exit.noGoto_ret]
          go_ret3
          have e := HK.out
          rw [HL.out, Bt.rd_end _ _ _ (by omega) (by omega)] at e
          cases e
          exact ⟨ret_uv (Bt.or_step _ _ _ h8 HA.out hb3) (by simp; omega) rfl, rfl⟩
        · have hb4 : 128 ≤ s[at' + k].toNat := by omega
          have HF := Lib.hid (Bt.fits acc (s[at' + k].toNat - 128) k h8 HA.out (by omega))
          have HE : Hid (Bt.rd (s.data.toList.drop (at' + (k + 1))) (k + 1) (acc + (s[at' + k].toNat - 128) * 128 ^ k) = (N, C, K)) := by
            have e := HK.out
            rw [HL.out, Bt.rd_more _ _ _ (by omega) hb4] at e
            exact e
          go_wp2
          go_round
          case rel =>
            refine ⟨k + 1, acc + (s[at' + k].toNat - 128) * 128 ^ k, ?_, ?_, HF.out.1, HE, ?_, ?_, ?_⟩
            · omega
            · omega
            · rw [Bt.or_step' acc k (s[at' + k]) h8 HA.out hb4]
            · go_num
            · go_num
          case measure => simp [intOf]; omega
    · obtain rfl : k = s.size - at' := by omega
      have hq : (((at' + (s.size - at') : Nat) : Int) == (s.size : Int)) = true := by rw [beq_iff_eq]; omega
      have e := HK.out
      rw [List.drop_eq_nil_of_le (by simp; omega), Bt.rd_nil] at e
      cases e
      go_wp2
      all_goals
        (try rw [Exit.noGoto_ret])
        go_ret3
        exact ⟨ret_uv rfl rfl rfl, rfl⟩
set_option maxHeartbeats 400000 in
theorem uvarint_out (s : ByteArray) (at' : Int) (w : World) (h : at' < 0 ∨ (s.size : Int) < at') :
   Calls Tryd.prog 87 #[.string s, .int .i64 at'] w fun e w' => e = .returned (.tuple #[.int .u64 0, .int .i64 0, .int .i64 1]) ∧ w = w' := by
  have hd : decide (0 ≤ at' ∧ at' ≤ (s.size : Int)) = false := decide_eq_false (by omega)
  go_enter Tryd.func87, Tryd.ntmps87
  go_wp2
  go_step3
  go_wp2_with (go_at_call 88; refine (isPlace_any _ _ _).mono ?_; rintro e w' ⟨rfl, rfl⟩; simp only [hd])
  rw [Exit.noGoto_ret]
  go_ret3
  exact ⟨rfl, rfl⟩
theorem ret_u64 {a b : Int} (h : a = b) : Ending.returned (.int .u64 a) = .returned (.int .u64 b) := by rw [h]
theorem ret_i64 {a b : Int} (h : a = b) : Ending.returned (.int .i64 a) = .returned (.int .i64 b) := by rw [h]
theorem uvarint_ok (s : ByteArray) (at' : Nat) (w : World) (h1 : at' ≤ s.size) (hs : s.size ≤ 140737488351232) (N C X : Nat) (hr : Bt.rd (s.data.toList.drop at') 0 0 = (N, C, 0)) (hX : at' + C = X) :
   Calls Tryd.prog 87 #[.string s, .int .i64 at'] w fun e w' => e = .returned (.tuple #[.int .u64 N, .int .i64 X, .int .i64 0]) ∧ w = w' := by
  have h := uvarint_in s at' w h1 hs N C 0 hr
  rw [if_pos rfl, hX] at h
  exact h
theorem uvarint_no (s : ByteArray) (at' : Nat) (w : World) (h1 : at' ≤ s.size) (hs : s.size ≤ 140737488351232) (K : Nat) (hK : K ≠ 0) (hr : Bt.rd (s.data.toList.drop at') 0 0 = (0, 0, K)) :
   Calls Tryd.prog 87 #[.string s, .int .i64 at'] w fun e w' => e = .returned (.tuple #[.int .u64 0, .int .i64 0, .int .i64 K]) ∧ w = w' := by
  have h := uvarint_in s at' w h1 hs 0 0 K hr
  rw [if_neg hK] at h
  exact h
end Go.Proofs.YtpcpbdcdapmlnaaDoor
