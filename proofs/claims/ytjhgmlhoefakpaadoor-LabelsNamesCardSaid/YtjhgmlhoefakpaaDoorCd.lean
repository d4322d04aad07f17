/- The contracts of the document's MayName and MayValue. -/
import Derived.Test.YtjhgmlhoefakpaaDoorCb
import Derived.Test.YtjhgmlhoefakpaaDoorRu
namespace Go.Proofs.YtjhgmlhoefakpaaDoor
open Go.RowKit
set_option maxRecDepth 100000
set_option maxHeartbeats 400000
theorem rmayN_any (s : ByteArray) (w : World) : Calls Tryd.prog 22 #[.string s] w fun e w' => e = .returned (.bool (mayN s.data.toList)) ∧ w = w' := by
  have hsz := Lib.size_eq s
  by_cases h0 : s.size = 0
  · have he := emp_t h0
    rw [mayN_short (.inl (by omega))]
    clear hsz h0
    go_enter Tryd.func22, Tryd.ntmps22
    go_wp2
    go_ret
    exact ⟨rfl, rfl⟩
  have he := emp_f h0
  by_cases h1 : 64 < s.size
  · rw [mayN_short (.inr (by omega))]
    have h1' : decide ((64 : Int) < (s.size : Int)) = true := decide_eq_true (by omega)
    clear hsz h0
    go_enter Tryd.func22, Tryd.ntmps22
    go_wp2
    go_ret
    exact ⟨rfl, rfl⟩
  have hp : 0 < s.size := by omega
  obtain ⟨c, hc⟩ : ∃ c : UInt8, s[0]'hp = c := ⟨_, rfl⟩
  by_cases hd : 48 ≤ c.toNat ∧ c.toNat ≤ 57
  · rw [mayN_dg (l := s.data.toList) (by omega) (by rw [el_at s 0 hp, hc]; unfold isDg; exact decide_eq_true hd)]
    have g1 := hd.1
    have g2 := hd.2
    clear hsz h0 hd
    go_enter Tryd.func22, Tryd.ntmps22
    go_wp2
    go_ret
    exact ⟨rfl, rfl⟩
  have HY := Lib.hid fun ha => mayN_yes (l := s.data.toList) (by omega) (by omega) (by rw [el_at s 0 hp, hc]; unfold isDg; exact decide_eq_false hd) ha
  clear hsz h0
  rcases (show c.toNat < 48 ∨ 57 < c.toNat by omega) with gc | gc
  · go_enter Tryd.func22, Tryd.ntmps22
    go_wp2
    clear hc hd
    go_loopw [3] (fun i wr => ∃ k : Nat, i = .int .i64 k ∧ k ≤ s.size ∧ wr = w ∧ Hid (∀ j (h : j < s.size), j < k → nmB s[j] = true)) (fun i _ => s.size - (intOf i).toNat)
    case atStart => exact ⟨0, rfl, by omega, rfl, Lib.hid fun j _ hj => by omega⟩
    case round =>
      obtain ⟨k, rfl, hk, rfl, HK⟩ := hrel
      by_cases hlt : k < s.size
      · obtain ⟨x, hx⟩ : ∃ x : UInt8, s[k]'hlt = x := ⟨_, rfl⟩
        have HX := Lib.hid hx
        have hb : x.toNat < 256 := UInt8.toNat_lt x
        by_cases hA : 97 ≤ x.toNat ∧ x.toNat ≤ 122
        · have HN := Lib.hid (show nmB x = true by unfold nmB isDg isLt; simp; omega)
          have f0 : decide ((97 : Int) ≤ (x.toNat : Int)) = true := decide_eq_true (by omega)
          have f1 : decide ((x.toNat : Int) ≤ 122) = true := decide_eq_true (by omega)
          have f2 : decide ((65 : Int) ≤ (x.toNat : Int)) = true := decide_eq_true (by omega)
          have f3 : decide ((x.toNat : Int) ≤ 90) = false := decide_eq_false (by omega)
          have f4 : decide ((48 : Int) ≤ (x.toNat : Int)) = true := decide_eq_true (by omega)
          have f5 : decide ((x.toNat : Int) ≤ 57) = false := decide_eq_false (by omega)
          clear hA
          go_wp2
          go_roundw
          case rel =>
            refine ⟨k + 1, by simp, by omega, (by first | rfl | trivial), Lib.hid fun j hj hjk => ?_⟩
            rcases Nat.lt_or_ge j k with h | h
            · exact HK.out j hj h
            · obtain rfl : j = k := by omega
              rw [HX.out, HN.out]
          case measure => (try simp [intOf]); (try omega)
        by_cases hB : 65 ≤ x.toNat ∧ x.toNat ≤ 90
        · have HN := Lib.hid (show nmB x = true by unfold nmB isDg isLt; simp; omega)
          have f0 : decide ((97 : Int) ≤ (x.toNat : Int)) = false := decide_eq_false (by omega)
          have f1 : decide ((x.toNat : Int) ≤ 122) = true := decide_eq_true (by omega)
          have f2 : decide ((65 : Int) ≤ (x.toNat : Int)) = true := decide_eq_true (by omega)
          have f3 : decide ((x.toNat : Int) ≤ 90) = true := decide_eq_true (by omega)
          have f4 : decide ((48 : Int) ≤ (x.toNat : Int)) = true := decide_eq_true (by omega)
          have f5 : decide ((x.toNat : Int) ≤ 57) = false := decide_eq_false (by omega)
          clear hB hA
          go_wp2
          go_roundw
          case rel =>
            refine ⟨k + 1, by simp, by omega, (by first | rfl | trivial), Lib.hid fun j hj hjk => ?_⟩
            rcases Nat.lt_or_ge j k with h | h
            · exact HK.out j hj h
            · obtain rfl : j = k := by omega
              rw [HX.out, HN.out]
          case measure => (try simp [intOf]); (try omega)
        by_cases hC : 48 ≤ x.toNat ∧ x.toNat ≤ 57
        · have HN := Lib.hid (show nmB x = true by unfold nmB isDg isLt; simp; omega)
          have f0 : decide ((97 : Int) ≤ (x.toNat : Int)) = false := decide_eq_false (by omega)
          have f1 : decide ((x.toNat : Int) ≤ 122) = true := decide_eq_true (by omega)
          have f2 : decide ((65 : Int) ≤ (x.toNat : Int)) = false := decide_eq_false (by omega)
          have f3 : decide ((x.toNat : Int) ≤ 90) = true := decide_eq_true (by omega)
          have f4 : decide ((48 : Int) ≤ (x.toNat : Int)) = true := decide_eq_true (by omega)
          have f5 : decide ((x.toNat : Int) ≤ 57) = true := decide_eq_true (by omega)
          clear hC hA hB
          go_wp2
          go_roundw
          case rel =>
            refine ⟨k + 1, by simp, by omega, (by first | rfl | trivial), Lib.hid fun j hj hjk => ?_⟩
            rcases Nat.lt_or_ge j k with h | h
            · exact HK.out j hj h
            · obtain rfl : j = k := by omega
              rw [HX.out, HN.out]
          case measure => (try simp [intOf]); (try omega)
        by_cases hD : x.toNat = 95
        · have HN := Lib.hid (show nmB x = true by unfold nmB isDg isLt; simp; omega)
          have f0 : decide ((97 : Int) ≤ (x.toNat : Int)) = false := decide_eq_false (by omega)
          have f1 : decide ((x.toNat : Int) ≤ 122) = true := decide_eq_true (by omega)
          have f2 : decide ((65 : Int) ≤ (x.toNat : Int)) = true := decide_eq_true (by omega)
          have f3 : decide ((x.toNat : Int) ≤ 90) = false := decide_eq_false (by omega)
          have f4 : decide ((48 : Int) ≤ (x.toNat : Int)) = true := decide_eq_true (by omega)
          have f5 : decide ((x.toNat : Int) ≤ 57) = false := decide_eq_false (by omega)
          have g1 : ((x.toNat : Int) == 95) = true := by simp [hD]
          clear hD hA hB hC
          go_wp2
          go_roundw
          case rel =>
            refine ⟨k + 1, by simp, by omega, (by first | rfl | trivial), Lib.hid fun j hj hjk => ?_⟩
            rcases Nat.lt_or_ge j k with h | h
            · exact HK.out j hj h
            · obtain rfl : j = k := by omega
              rw [HX.out, HN.out]
          case measure => (try simp [intOf]); (try omega)
        have gD : ((x.toNat : Int) == 95) = false := beq_eq_false_iff_ne.2 (by omega)
        rcases (show x.toNat < 48 ∨ 58 ≤ x.toNat ∧ x.toNat < 65 ∨ 91 ≤ x.toNat ∧ x.toNat < 95 ∨ x.toNat = 96 ∨ 123 ≤ x.toNat by omega) with g | g | g | g | g
        · have HN := Lib.hid (show nmB x = false by unfold nmB isDg isLt; simp; omega)
          have f0 : decide ((97 : Int) ≤ (x.toNat : Int)) = false := decide_eq_false (by omega)
          have f1 : decide ((x.toNat : Int) ≤ 122) = true := decide_eq_true (by omega)
          have f2 : decide ((65 : Int) ≤ (x.toNat : Int)) = false := decide_eq_false (by omega)
          have f3 : decide ((x.toNat : Int) ≤ 90) = true := decide_eq_true (by omega)
          have f4 : decide ((48 : Int) ≤ (x.toNat : Int)) = false := decide_eq_false (by omega)
          have f5 : decide ((x.toNat : Int) ≤ 57) = true := decide_eq_true (by omega)
          clear g hA hB hC hD
          go_wp2
          go_ret
          exact ⟨ret_b (mayN_no k (by rw [← Lib.size_eq]; exact hlt) (by rw [el_at s k hlt, HX.out, HN.out])).symm, rfl⟩
        · have HN := Lib.hid (show nmB x = false by unfold nmB isDg isLt; simp; omega)
          have f0 : decide ((97 : Int) ≤ (x.toNat : Int)) = false := decide_eq_false (by omega)
          have f1 : decide ((x.toNat : Int) ≤ 122) = true := decide_eq_true (by omega)
          have f2 : decide ((65 : Int) ≤ (x.toNat : Int)) = false := decide_eq_false (by omega)
          have f3 : decide ((x.toNat : Int) ≤ 90) = true := decide_eq_true (by omega)
          have f4 : decide ((48 : Int) ≤ (x.toNat : Int)) = true := decide_eq_true (by omega)
          have f5 : decide ((x.toNat : Int) ≤ 57) = false := decide_eq_false (by omega)
          clear g hA hB hC hD
          go_wp2
          go_ret
          exact ⟨ret_b (mayN_no k (by rw [← Lib.size_eq]; exact hlt) (by rw [el_at s k hlt, HX.out, HN.out])).symm, rfl⟩
        · have HN := Lib.hid (show nmB x = false by unfold nmB isDg isLt; simp; omega)
          have f0 : decide ((97 : Int) ≤ (x.toNat : Int)) = false := decide_eq_false (by omega)
          have f1 : decide ((x.toNat : Int) ≤ 122) = true := decide_eq_true (by omega)
          have f2 : decide ((65 : Int) ≤ (x.toNat : Int)) = true := decide_eq_true (by omega)
          have f3 : decide ((x.toNat : Int) ≤ 90) = false := decide_eq_false (by omega)
          have f4 : decide ((48 : Int) ≤ (x.toNat : Int)) = true := decide_eq_true (by omega)
          have f5 : decide ((x.toNat : Int) ≤ 57) = false := decide_eq_false (by omega)
          clear g hA hB hC hD
          go_wp2
          go_ret
          exact ⟨ret_b (mayN_no k (by rw [← Lib.size_eq]; exact hlt) (by rw [el_at s k hlt, HX.out, HN.out])).symm, rfl⟩
        · have HN := Lib.hid (show nmB x = false by unfold nmB isDg isLt; simp; omega)
          have f0 : decide ((97 : Int) ≤ (x.toNat : Int)) = false := decide_eq_false (by omega)
          have f1 : decide ((x.toNat : Int) ≤ 122) = true := decide_eq_true (by omega)
          have f2 : decide ((65 : Int) ≤ (x.toNat : Int)) = true := decide_eq_true (by omega)
          have f3 : decide ((x.toNat : Int) ≤ 90) = false := decide_eq_false (by omega)
          have f4 : decide ((48 : Int) ≤ (x.toNat : Int)) = true := decide_eq_true (by omega)
          have f5 : decide ((x.toNat : Int) ≤ 57) = false := decide_eq_false (by omega)
          clear g hA hB hC hD
          go_wp2
          go_ret
          exact ⟨ret_b (mayN_no k (by rw [← Lib.size_eq]; exact hlt) (by rw [el_at s k hlt, HX.out, HN.out])).symm, rfl⟩
        · have HN := Lib.hid (show nmB x = false by unfold nmB isDg isLt; simp; omega)
          have f0 : decide ((97 : Int) ≤ (x.toNat : Int)) = true := decide_eq_true (by omega)
          have f1 : decide ((x.toNat : Int) ≤ 122) = false := decide_eq_false (by omega)
          have f2 : decide ((65 : Int) ≤ (x.toNat : Int)) = true := decide_eq_true (by omega)
          have f3 : decide ((x.toNat : Int) ≤ 90) = false := decide_eq_false (by omega)
          have f4 : decide ((48 : Int) ≤ (x.toNat : Int)) = true := decide_eq_true (by omega)
          have f5 : decide ((x.toNat : Int) ≤ 57) = false := decide_eq_false (by omega)
          clear g hA hB hC hD
          go_wp2
          go_ret
          exact ⟨ret_b (mayN_no k (by rw [← Lib.size_eq]; exact hlt) (by rw [el_at s k hlt, HX.out, HN.out])).symm, rfl⟩
      · obtain rfl : k = s.size := by omega
        go_wp2
        go_ret
        exact ⟨ret_b (HY.out fun j hj => HK.out j (by rw [Lib.size_eq]; exact hj) (by rw [Lib.size_eq]; exact hj)).symm, rfl⟩
  · go_enter Tryd.func22, Tryd.ntmps22
    go_wp2
    clear hc hd
    go_loopw [3] (fun i wr => ∃ k : Nat, i = .int .i64 k ∧ k ≤ s.size ∧ wr = w ∧ Hid (∀ j (h : j < s.size), j < k → nmB s[j] = true)) (fun i _ => s.size - (intOf i).toNat)
    case atStart => exact ⟨0, rfl, by omega, rfl, Lib.hid fun j _ hj => by omega⟩
    case round =>
      obtain ⟨k, rfl, hk, rfl, HK⟩ := hrel
      by_cases hlt : k < s.size
      · obtain ⟨x, hx⟩ : ∃ x : UInt8, s[k]'hlt = x := ⟨_, rfl⟩
        have HX := Lib.hid hx
        have hb : x.toNat < 256 := UInt8.toNat_lt x
        by_cases hA : 97 ≤ x.toNat ∧ x.toNat ≤ 122
        · have HN := Lib.hid (show nmB x = true by unfold nmB isDg isLt; simp; omega)
          have f0 : decide ((97 : Int) ≤ (x.toNat : Int)) = true := decide_eq_true (by omega)
          have f1 : decide ((x.toNat : Int) ≤ 122) = true := decide_eq_true (by omega)
          have f2 : decide ((65 : Int) ≤ (x.toNat : Int)) = true := decide_eq_true (by omega)
          have f3 : decide ((x.toNat : Int) ≤ 90) = false := decide_eq_false (by omega)
          have f4 : decide ((48 : Int) ≤ (x.toNat : Int)) = true := decide_eq_true (by omega)
          have f5 : decide ((x.toNat : Int) ≤ 57) = false := decide_eq_false (by omega)
          clear hA
          go_wp2
          go_roundw
          case rel =>
            refine ⟨k + 1, by simp, by omega, (by first | rfl | trivial), Lib.hid fun j hj hjk => ?_⟩
            rcases Nat.lt_or_ge j k with h | h
            · exact HK.out j hj h
            · obtain rfl : j = k := by omega
              rw [HX.out, HN.out]
          case measure => (try simp [intOf]); (try omega)
        by_cases hB : 65 ≤ x.toNat ∧ x.toNat ≤ 90
        · have HN := Lib.hid (show nmB x = true by unfold nmB isDg isLt; simp; omega)
          have f0 : decide ((97 : Int) ≤ (x.toNat : Int)) = false := decide_eq_false (by omega)
          have f1 : decide ((x.toNat : Int) ≤ 122) = true := decide_eq_true (by omega)
          have f2 : decide ((65 : Int) ≤ (x.toNat : Int)) = true := decide_eq_true (by omega)
          have f3 : decide ((x.toNat : Int) ≤ 90) = true := decide_eq_true (by omega)
          have f4 : decide ((48 : Int) ≤ (x.toNat : Int)) = true := decide_eq_true (by omega)
          have f5 : decide ((x.toNat : Int) ≤ 57) = false := decide_eq_false (by omega)
          clear hB hA
          go_wp2
          go_roundw
          case rel =>
            refine ⟨k + 1, by simp, by omega, (by first | rfl | trivial), Lib.hid fun j hj hjk => ?_⟩
            rcases Nat.lt_or_ge j k with h | h
            · exact HK.out j hj h
            · obtain rfl : j = k := by omega
              rw [HX.out, HN.out]
          case measure => (try simp [intOf]); (try omega)
        by_cases hC : 48 ≤ x.toNat ∧ x.toNat ≤ 57
        · have HN := Lib.hid (show nmB x = true by unfold nmB isDg isLt; simp; omega)
          have f0 : decide ((97 : Int) ≤ (x.toNat : Int)) = false := decide_eq_false (by omega)
          have f1 : decide ((x.toNat : Int) ≤ 122) = true := decide_eq_true (by omega)
          have f2 : decide ((65 : Int) ≤ (x.toNat : Int)) = false := decide_eq_false (by omega)
          have f3 : decide ((x.toNat : Int) ≤ 90) = true := decide_eq_true (by omega)
          have f4 : decide ((48 : Int) ≤ (x.toNat : Int)) = true := decide_eq_true (by omega)
          have f5 : decide ((x.toNat : Int) ≤ 57) = true := decide_eq_true (by omega)
          clear hC hA hB
          go_wp2
          go_roundw
          case rel =>
            refine ⟨k + 1, by simp, by omega, (by first | rfl | trivial), Lib.hid fun j hj hjk => ?_⟩
            rcases Nat.lt_or_ge j k with h | h
            · exact HK.out j hj h
            · obtain rfl : j = k := by omega
              rw [HX.out, HN.out]
          case measure => (try simp [intOf]); (try omega)
        by_cases hD : x.toNat = 95
        · have HN := Lib.hid (show nmB x = true by unfold nmB isDg isLt; simp; omega)
          have f0 : decide ((97 : Int) ≤ (x.toNat : Int)) = false := decide_eq_false (by omega)
          have f1 : decide ((x.toNat : Int) ≤ 122) = true := decide_eq_true (by omega)
          have f2 : decide ((65 : Int) ≤ (x.toNat : Int)) = true := decide_eq_true (by omega)
          have f3 : decide ((x.toNat : Int) ≤ 90) = false := decide_eq_false (by omega)
          have f4 : decide ((48 : Int) ≤ (x.toNat : Int)) = true := decide_eq_true (by omega)
          have f5 : decide ((x.toNat : Int) ≤ 57) = false := decide_eq_false (by omega)
          have g1 : ((x.toNat : Int) == 95) = true := by simp [hD]
          clear hD hA hB hC
          go_wp2
          go_roundw
          case rel =>
            refine ⟨k + 1, by simp, by omega, (by first | rfl | trivial), Lib.hid fun j hj hjk => ?_⟩
            rcases Nat.lt_or_ge j k with h | h
            · exact HK.out j hj h
            · obtain rfl : j = k := by omega
              rw [HX.out, HN.out]
          case measure => (try simp [intOf]); (try omega)
        have gD : ((x.toNat : Int) == 95) = false := beq_eq_false_iff_ne.2 (by omega)
        rcases (show x.toNat < 48 ∨ 58 ≤ x.toNat ∧ x.toNat < 65 ∨ 91 ≤ x.toNat ∧ x.toNat < 95 ∨ x.toNat = 96 ∨ 123 ≤ x.toNat by omega) with g | g | g | g | g
        · have HN := Lib.hid (show nmB x = false by unfold nmB isDg isLt; simp; omega)
          have f0 : decide ((97 : Int) ≤ (x.toNat : Int)) = false := decide_eq_false (by omega)
          have f1 : decide ((x.toNat : Int) ≤ 122) = true := decide_eq_true (by omega)
          have f2 : decide ((65 : Int) ≤ (x.toNat : Int)) = false := decide_eq_false (by omega)
          have f3 : decide ((x.toNat : Int) ≤ 90) = true := decide_eq_true (by omega)
          have f4 : decide ((48 : Int) ≤ (x.toNat : Int)) = false := decide_eq_false (by omega)
          have f5 : decide ((x.toNat : Int) ≤ 57) = true := decide_eq_true (by omega)
          clear g hA hB hC hD
          go_wp2
          go_ret
          exact ⟨ret_b (mayN_no k (by rw [← Lib.size_eq]; exact hlt) (by rw [el_at s k hlt, HX.out, HN.out])).symm, rfl⟩
        · have HN := Lib.hid (show nmB x = false by unfold nmB isDg isLt; simp; omega)
          have f0 : decide ((97 : Int) ≤ (x.toNat : Int)) = false := decide_eq_false (by omega)
          have f1 : decide ((x.toNat : Int) ≤ 122) = true := decide_eq_true (by omega)
          have f2 : decide ((65 : Int) ≤ (x.toNat : Int)) = false := decide_eq_false (by omega)
          have f3 : decide ((x.toNat : Int) ≤ 90) = true := decide_eq_true (by omega)
          have f4 : decide ((48 : Int) ≤ (x.toNat : Int)) = true := decide_eq_true (by omega)
          have f5 : decide ((x.toNat : Int) ≤ 57) = false := decide_eq_false (by omega)
          clear g hA hB hC hD
          go_wp2
          go_ret
          exact ⟨ret_b (mayN_no k (by rw [← Lib.size_eq]; exact hlt) (by rw [el_at s k hlt, HX.out, HN.out])).symm, rfl⟩
        · have HN := Lib.hid (show nmB x = false by unfold nmB isDg isLt; simp; omega)
          have f0 : decide ((97 : Int) ≤ (x.toNat : Int)) = false := decide_eq_false (by omega)
          have f1 : decide ((x.toNat : Int) ≤ 122) = true := decide_eq_true (by omega)
          have f2 : decide ((65 : Int) ≤ (x.toNat : Int)) = true := decide_eq_true (by omega)
          have f3 : decide ((x.toNat : Int) ≤ 90) = false := decide_eq_false (by omega)
          have f4 : decide ((48 : Int) ≤ (x.toNat : Int)) = true := decide_eq_true (by omega)
          have f5 : decide ((x.toNat : Int) ≤ 57) = false := decide_eq_false (by omega)
          clear g hA hB hC hD
          go_wp2
          go_ret
          exact ⟨ret_b (mayN_no k (by rw [← Lib.size_eq]; exact hlt) (by rw [el_at s k hlt, HX.out, HN.out])).symm, rfl⟩
        · have HN := Lib.hid (show nmB x = false by unfold nmB isDg isLt; simp; omega)
          have f0 : decide ((97 : Int) ≤ (x.toNat : Int)) = false := decide_eq_false (by omega)
          have f1 : decide ((x.toNat : Int) ≤ 122) = true := decide_eq_true (by omega)
          have f2 : decide ((65 : Int) ≤ (x.toNat : Int)) = true := decide_eq_true (by omega)
          have f3 : decide ((x.toNat : Int) ≤ 90) = false := decide_eq_false (by omega)
          have f4 : decide ((48 : Int) ≤ (x.toNat : Int)) = true := decide_eq_true (by omega)
          have f5 : decide ((x.toNat : Int) ≤ 57) = false := decide_eq_false (by omega)
          clear g hA hB hC hD
          go_wp2
          go_ret
          exact ⟨ret_b (mayN_no k (by rw [← Lib.size_eq]; exact hlt) (by rw [el_at s k hlt, HX.out, HN.out])).symm, rfl⟩
        · have HN := Lib.hid (show nmB x = false by unfold nmB isDg isLt; simp; omega)
          have f0 : decide ((97 : Int) ≤ (x.toNat : Int)) = true := decide_eq_true (by omega)
          have f1 : decide ((x.toNat : Int) ≤ 122) = false := decide_eq_false (by omega)
          have f2 : decide ((65 : Int) ≤ (x.toNat : Int)) = true := decide_eq_true (by omega)
          have f3 : decide ((x.toNat : Int) ≤ 90) = false := decide_eq_false (by omega)
          have f4 : decide ((48 : Int) ≤ (x.toNat : Int)) = true := decide_eq_true (by omega)
          have f5 : decide ((x.toNat : Int) ≤ 57) = false := decide_eq_false (by omega)
          clear g hA hB hC hD
          go_wp2
          go_ret
          exact ⟨ret_b (mayN_no k (by rw [← Lib.size_eq]; exact hlt) (by rw [el_at s k hlt, HX.out, HN.out])).symm, rfl⟩
      · obtain rfl : k = s.size := by omega
        go_wp2
        go_ret
        exact ⟨ret_b (HY.out fun j hj => HK.out j (by rw [Lib.size_eq]; exact hj) (by rw [Lib.size_eq]; exact hj)).symm, rfl⟩
theorem flat_pre : ∀ (pre rs : List Nat) (t : List UInt8), AllR rs → AllR pre → flat rs = flat pre ++ t → ∃ suf, rs = pre ++ suf ∧ t = flat suf
  | [], rs, t, _, _, h => ⟨rs, rfl, by rw [h]; rfl⟩
  | c :: pre, [], t, _, _, h => by
    have := congrArg List.length h
    rw [flat_cons] at this
    have h2 := enc_length c
    simp [flat] at this
    omega
  | c :: pre, d :: rs, t, h1, h2, h => by
    rw [flat_cons, flat_cons, List.append_assoc] at h
    have e1 := rn_enc (h1 d (by simp)) (flat rs)
    rw [h, rn_enc (h2 c (by simp))] at e1
    simp only [Prod.mk.injEq] at e1
    obtain ⟨rfl, _⟩ := e1
    obtain ⟨suf, rfl, hs⟩ := flat_pre pre rs t (fun x hx => h1 x (by simp [hx])) (fun x hx => h2 x (by simp [hx])) (List.append_cancel_left h)
    exact ⟨suf, rfl, hs⟩
theorem rmayV_any (s : ByteArray) (w : World) (hs : s.size ≤ 9223372036854775807) : Calls Tryd.prog 23 #[.string s] w fun e w' => e = .returned (.bool (mayV s.data.toList)) ∧ w = w' := by
  have HS := Lib.hid (Lib.size_eq s)
  go_enter Tryd.func23, Tryd.ntmps23
  go_wp2
  go_loopw [3, 4] (fun n a wr => ∃ (pre : List Nat) (P : Nat), n = .int .i64 pre.length ∧ a = .int .i64 P ∧ P ≤ s.size ∧ wr = w ∧ Hid (P = (flat pre).length ∧ s.data.toList.take P = flat pre ∧ AllR pre ∧ ∀ c ∈ pre, OkV c = true)) (fun _ a _ => s.size - (intOf a).toNat)
  case atStart => exact ⟨[], 0, rfl, rfl, by omega, rfl, Lib.hid ⟨rfl, rfl, (fun c hc => by cases hc), (fun c hc => by cases hc)⟩⟩
  case round =>
    obtain ⟨pre, P, rfl, rfl, hP, rfl, H⟩ := hrel
    have hpl : pre.length ≤ P := by
      have h1 := flat_len pre
      have h2 := H.out.1
      omega
    by_cases hlt : P < s.size
    · have hR : ∀ w, Calls Tryd.prog 50 #[.string (s.extract P s.size)] w fun e w' => e = rnRet (rn (s.extract P s.size).data.toList) ∧ w = w' := fun w => rune_any _ w (by simp; omega)
      have hext : (s.extract P s.size).data.toList = s.data.toList.drop P := Lib.ext_list s P
      rw [hext] at hR
      have hdec : s.data.toList = flat pre ++ s.data.toList.drop P := by rw [← H.out.2.1, List.take_append_drop]
      have HD := Lib.hid hdec
      have HI := Lib.hid (rn_inv (l := s.data.toList.drop P))
      obtain ⟨c, k, hck⟩ : ∃ c k, rn (s.data.toList.drop P) = (c, k) := ⟨_, _, rfl⟩
      rw [hck] at hR
      have HC := Lib.hid hck
      have hcb : c ≤ 1114111 := by
        by_cases hk0 : k = 0
        · have h1 := hck
          unfold rn at h1
          split at h1
          · cases h1; omega
          · split at h1
            · cases h1; omega
            · have := Lib.decodeL_rune (s.data.toList.drop P); rw [h1] at this; exact this
        · have h1 := (HI.out (by rw [hck]; exact hk0)).1
          rw [hck] at h1
          unfold OkR at h1
          simp only at h1
          omega
      clear hext hdec hck
      unfold rnRet at hR
      simp only at hR
      have hno : k = 0 ∨ (k ≠ 0 ∧ (c < 32 ∨ c = 127)) → mayV s.data.toList = false := by
        intro h
        cases hm : mayV s.data.toList with
        | false => rfl
        | true =>
          exfalso
          obtain ⟨rs, e1, e2, e3, e4, e5⟩ := mayV_iff.1 hm
          have hru := runes_flat e2
          rw [← e1] at hru
          have hpre : ∃ suf, rs = pre ++ suf ∧ s.data.toList.drop P = flat suf := by
            have h1 : flat rs = flat pre ++ s.data.toList.drop P := by rw [← e1]; exact HD.out
            exact flat_pre pre rs _ e2 H.out.2.2.1 h1
          obtain ⟨suf, rfl, hsuf⟩ := hpre
          have hne : suf ≠ [] := by
            rintro rfl
            have h2 := congrArg List.length hsuf
            rw [List.length_drop, ← HS.out] at h2
            simp [flat] at h2
            omega
          obtain ⟨d, suf, rfl⟩ := List.exists_cons_of_ne_nil hne
          have hd := rn_enc (e2 d (by simp)) (flat suf)
          rw [← flat_cons, ← hsuf, HC.out] at hd
          have hl := enc_length d
          have hv := e3 d (by simp)
          unfold OkV at hv
          simp only [Bool.and_eq_true, decide_eq_true_eq, Prod.mk.injEq] at hv hd
          omega
      have HNO := Lib.hid hno
      clear hno
      by_cases g0 : k = 0
      · subst g0
        have HM := Lib.hid (HNO.out (.inl rfl))
        go_wp2_with (go_at_call 50; refine (hR _).mono ?_; rintro e w' ⟨rfl, rfl⟩)
        go_ret
        exact ⟨ret_b HM.out.symm, rfl⟩
      · have g0z : ((k : Int) == 0) = false := beq_eq_false_iff_ne.2 (by omega)
        by_cases g1 : c < 32
        · have HM := Lib.hid (HNO.out (.inr ⟨g0, .inl g1⟩))
          have g1z : decide ((c : Int) < 32) = true := decide_eq_true (by omega)
          clear g0 g1
          go_wp2_with (go_at_call 50; refine (hR _).mono ?_; rintro e w' ⟨rfl, rfl⟩)
          go_ret
          exact ⟨ret_b HM.out.symm, rfl⟩
        · have g1z : decide ((c : Int) < 32) = false := decide_eq_false (by omega)
          by_cases g2 : c = 127
          · have HM := Lib.hid (HNO.out (.inr ⟨g0, .inr g2⟩))
            have g2z : ((c : Int) == 127) = true := by simp [g2]
            clear g0 g1 g2
            go_wp2_with (go_at_call 50; refine (hR _).mono ?_; rintro e w' ⟨rfl, rfl⟩)
            go_ret
            exact ⟨ret_b HM.out.symm, rfl⟩
          · have g2z : ((c : Int) == 127) = false := beq_eq_false_iff_ne.2 (by omega)
            have hov := Lib.hid (show OkV c = true by unfold OkV; rw [decide_eq_true (by omega), decide_eq_true g2]; rfl)
            have hin := HI.out (by rw [HC.out]; exact g0)
            rw [HC.out] at hin
            simp only at hin
            obtain ⟨i1, i2, i3⟩ := hin
            have hel := enc_length c
            have hPk : P + k ≤ s.size := by
              have := congrArg List.length i2
              rw [List.length_append, List.length_drop, List.length_drop, ← HS.out] at this
              omega
            obtain ⟨Q, hQ⟩ : ∃ Q, P + k = Q := ⟨_, rfl⟩
            have hQz : (P : Int) + (k : Int) = (Q : Int) := by omega
            have hF : Hid (Q = (flat (pre ++ [c])).length ∧ s.data.toList.take Q = flat (pre ++ [c]) ∧ AllR (pre ++ [c]) ∧ ∀ x ∈ pre ++ [c], OkV x = true) := by
              have e1 : flat (pre ++ [c]) = flat pre ++ enc c := by rw [flat_app, flat_cons]; simp [flat]
              refine Lib.hid ⟨?_, ?_, ?_, ?_⟩
              · rw [e1, List.length_append, ← H.out.1, ← i3]; omega
              · rw [e1, ← hQ]
                have h3 := HD.out
                rw [i2, ← List.append_assoc] at h3
                rw [h3]
                have h4 : P + k = (flat pre ++ enc c).length := by rw [List.length_append, ← H.out.1, ← i3]
                rw [h4, List.take_left]
              · intro x hx
                rcases List.mem_append.1 hx with hx | hx
                · exact H.out.2.2.1 x hx
                · simp only [List.mem_singleton] at hx; subst hx; exact i1
              · intro x hx
                rcases List.mem_append.1 hx with hx | hx
                · exact H.out.2.2.2 x hx
                · simp only [List.mem_singleton] at hx; subst hx; exact hov.out
            have hKp : 0 < k := by omega
            have hQs : Q ≤ s.size := by omega
            have hQm : P < Q := by omega
            clear g0 g1 g2 i1 i2 i3 hel hPk hQ
            go_wp2_with (go_at_call 50; refine (hR _).mono ?_; rintro e w' ⟨rfl, rfl⟩)
            go_roundw
            case rel =>
              exact ⟨pre ++ [c], Q, by simp, by first | rfl | simp, hQs, (by first | rfl | trivial), hF⟩
            case measure => (try simp [intOf]); (try omega)
    · obtain rfl : P = s.size := by omega
      have hfl : s.data.toList = flat pre := by
        have h1 := H.out.2.1
        rw [HS.out, List.take_length] at h1
        exact h1
      have HF := Lib.hid hfl
      clear hfl hlt
      obtain ⟨n, hn⟩ : ∃ n, pre.length = n := ⟨_, rfl⟩
      have hres : mayV s.data.toList = decide (1 ≤ n ∧ n ≤ 64) := by
        by_cases h1 : 1 ≤ pre.length
        · rw [HF.out, mayV_flat H.out.2.2.1 H.out.2.2.2 h1, hn]
          congr 1
          simp
          omega
        · cases pre with
          | nil => rw [HF.out]; simp at hn; subst hn; rfl
          | cons _ _ => simp at h1
      have HM := Lib.hid hres
      clear hres
      have HN := Lib.hid hn
      rw [hn] at hpl ⊢
      clear hn
      by_cases g1 : 1 ≤ n
      · go_wp2
        go_ret
        exact ⟨ret_b (by rw [HM.out]; by_cases h2 : n ≤ 64 <;> simp [g1, h2] <;> omega), rfl⟩
      · go_wp2
        go_ret
        exact ⟨ret_b (by rw [HM.out]; simp [g1]), rfl⟩
end Go.Proofs.YtjhgmlhoefakpaaDoor
