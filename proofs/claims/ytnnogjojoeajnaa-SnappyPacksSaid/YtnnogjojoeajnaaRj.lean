/- The contract of the document's Match. -/
import Derived.Test.YtnnogjojoeajnaaMq
import Derived.BigQuiet
namespace Go.Proofs.Ytnnogjojoeajnaa
open Go.RowKit
theorem desc_cons {a O : Nat} (h : O ≤ a) : desc (a + 1 - O) = (a - O) :: desc (a + 1 - (O + 1)) := by
  rw [show a + 1 - O = (a - O) + 1 by omega, desc, show a + 1 - (O + 1) = a - O by omega]
set_option maxRecDepth 100000 in
set_option maxHeartbeats 2000000 in
theorem rmatch_in (s : ByteArray) (hs : s.size ≤ 1000000) (a : Nat) (ha : a < s.size) (w : World) :
    Calls Try.prog 29 #[.string s, .int .i64 a] w (Two w (mat s.data.toList a)) := by
  have hl0 : s.data.toList.length = s.size := by simp
  have hg0 : decide ((a : Int) < 0) = false := decide_eq_false (by omega)
  have hg1 : decide ((s.size : Int) ≤ (a : Int)) = false := decide_eq_false (by omega)
  have hg2 : decide (s.size ≤ a) = false := decide_eq_false (by omega)
  obtain ⟨most, hmost⟩ : ∃ m, min 64 (s.size - a) = m := ⟨_, rfl⟩
  have HM : Hid (bst s.data.toList a most (desc a) 0 0 = mat s.data.toList a) := Lib.hid (by
    unfold mat
    rw [hl0, lg_bst _ _ _ _ _ _ (Nat.zero_le _), hmost])
  have hm64 : most ≤ 64 := by omega
  have hma : a + most ≤ s.size := by omega
  have HMO := Lib.hid hmost
  have HL0 := Lib.hid hl0
  clear hmost hl0
  go_enter Try.func29, Try.ntmps29
  go_wp2
  go_loopw [6, 7, 8] (fun u x i wr => ∃ (off n O : Nat), u = .int .i64 (off : Int) ∧ x = .int .i64 (n : Int) ∧ i = .int .i64 (O : Int) ∧ 1 ≤ O ∧ O ≤ a + 1 ∧ n ≤ 64 ∧ Hid (bst s.data.toList a most (desc (a + 1 - O)) off n = mat s.data.toList a) ∧ Hid (Below w.heap.size w wr)) (fun _ _ i _ => a + 1 - (intOf i).toNat)
  case atStart => exact ⟨0, 0, 1, rfl, rfl, rfl, by omega, by omega, by omega, Lib.hid (by rw [show a + 1 - 1 = a by omega]; exact HM.out), Lib.hid (Below.refl _ _)⟩
  case round =>
    obtain ⟨off, n, O, rfl, rfl, rfl, hO1, hO2, hn, HR, HB⟩ := hrel
    by_cases hOa : O ≤ a
    · by_cases hO5 : O ≤ 65535
      · obtain ⟨p, hp⟩ : ∃ p, a - O = p := ⟨_, rfl⟩
        have hpa : p + O = a := by omega
        have hrun := HR.out
        rw [desc_cons hOa, bst, if_neg (by omega), hp] at hrun
        have HRN := Lib.hid hrun
        have hd1 : decide ((O : Int) ≤ (a : Int)) = true := decide_eq_true (by omega)
        have hd2 : decide ((O : Int) ≤ 65535) = true := decide_eq_true (by omega)
        have hd3 : decide (O ≤ a) = true := decide_eq_true (by omega)
        have HPA := Lib.hid hpa
        have HP := Lib.hid hp
        clear hrun hp hpa
        go_wp2
        go_loopw [9] (fun i wr2 => ∃ (k m : Nat), i = .int .i64 (k : Int) ∧ k + m = most ∧ Hid (alk (s.data.toList.drop (p + k)) (s.data.toList.drop (a + k)) m + k = al s.data.toList p a most) ∧ Hid (Below w.heap.size w wr2)) (fun i _ => most - (intOf i).toNat)
        case atStart => exact ⟨0, most, rfl, by omega, Lib.hid rfl, HB⟩
        case round =>
          obtain ⟨k, m, rfl, hkm, HK, HBi⟩ := hrel
          cases m with
          | zero =>
            obtain rfl : k = most := by omega
            have HE : Hid (al s.data.toList p a k = k) := Lib.hid (by
              rw [← HK.out]
              cases s.data.toList.drop (p + k) <;> cases s.data.toList.drop (a + k) <;> simp [alk])
            have hw1 : IntKind.i64.wrap ((a : Int) + (k : Int)) = (a : Int) + (k : Int) := by rw [Bt.wrap_i64]; omega
            have HMM := HMO
            by_cases h64 : k = 64
            · subst h64
              have hd5 : decide ((64 : Int) < 64) = false := by decide
              clear hw1
              by_cases hgt : n < 64
              · have hgi : (n : Int) < (64 : Int) := by omega
                go_wp2
                go_big_quiet (fail)
                go_wp2
                go_roundw
                case rel =>
                  refine ⟨O, 64, O + 1, rfl, rfl, by go_num, by omega, by omega, by omega, Lib.hid ?_, Lib.hid (below_drewN HBi.out _)⟩
                  have h := HRN.out
                  rw [HE.out, if_pos hgt, show a - p = O by have := HPA.out; omega] at h
                  exact h
                case measure => simp [intOf]; omega
              · have hgi : (64 : Int) ≤ (n : Int) := by omega
                go_wp2
                go_big_quiet (fail)
                go_wp2
                go_roundw
                case rel =>
                  refine ⟨off, n, O + 1, rfl, rfl, by go_num, by omega, by omega, by omega, Lib.hid ?_, Lib.hid (below_drewN HBi.out _)⟩
                  have h := HRN.out
                  rw [HE.out, if_neg hgt] at h
                  exact h
                case measure => simp [intOf]; omega
            · have hks : a + k = s.size := by have := HMO.out; omega
              have hd5 : decide ((k : Int) < 64) = true := decide_eq_true (by omega)
              have hd6 : decide (k < 64) = true := decide_eq_true (by omega)
              have hd7 : decide ((a : Int) + (k : Int) < (s.size : Int)) = false := decide_eq_false (by omega)
              have hd8 : decide (a + k < s.size) = false := decide_eq_false (by omega)
              have HKS := Lib.hid hks
              clear hks
              by_cases hgt : n < k
              · have hgi : (n : Int) < (k : Int) := by omega
                go_wp2
                go_big_quiet (fail)
                go_wp2
                go_roundw
                case rel =>
                  refine ⟨O, k, O + 1, rfl, rfl, by go_num, by omega, by omega, by omega, Lib.hid ?_, Lib.hid (below_drewN HBi.out _)⟩
                  have h := HRN.out
                  rw [HE.out, if_pos hgt, show a - p = O by have := HPA.out; omega] at h
                  exact h
                case measure => simp [intOf]; omega
              · have hgi : (k : Int) ≤ (n : Int) := by omega
                go_wp2
                go_big_quiet (fail)
                go_wp2
                go_roundw
                case rel =>
                  refine ⟨off, n, O + 1, rfl, rfl, by go_num, by omega, by omega, by omega, Lib.hid ?_, Lib.hid (below_drewN HBi.out _)⟩
                  have h := HRN.out
                  rw [HE.out, if_neg hgt] at h
                  exact h
                case measure => simp [intOf]; omega
          | succ m =>
            have hk64 : k < 64 := by omega
            have hks : a + k < s.size := by omega
            obtain ⟨X, hX⟩ : ∃ X, X = p + k := ⟨_, rfl⟩
            obtain ⟨Y, hY⟩ : ∃ Y, Y = a + k := ⟨_, rfl⟩
            have hpO := HPA.out
            have h1 : X < s.size := by omega
            have h2 : Y < s.size := by omega
            have h1i : (X : Int) < (s.size : Int) := by omega
            have h2i : (Y : Int) < (s.size : Int) := by omega
            have w2 : (a : Int) + (k : Int) = (Y : Int) := by omega
            have w3 : (Y : Int) - (O : Int) = (X : Int) := by omega
            have w4 : IntKind.i64.wrap ((Y : Int) - (O : Int)) = (X : Int) := by rw [Bt.wrap_i64]; omega
            have w5 : IntKind.i64.wrap ((a : Int) + (k : Int)) = (Y : Int) := by rw [Bt.wrap_i64]; omega
            have hd5 : decide ((k : Int) < 64) = true := decide_eq_true (by omega)
            have hd6 : decide (k < 64) = true := decide_eq_true (by omega)
            have hd7 : decide ((Y : Int) < (s.size : Int)) = true := decide_eq_true (by omega)
            have hd8 : decide (Y < s.size) = true := decide_eq_true (by omega)
            have hk := HK.out
            rw [← hX, ← hY, getB s _ h1, getB s _ h2, alk] at hk
            have e1 : X + 1 = p + (k + 1) := by omega
            have e2 : Y + 1 = a + (k + 1) := by omega
            rw [e1, e2] at hk
            have HK2 := Lib.hid hk
            have HXX := Lib.hid hX; have HYY := Lib.hid hY
            clear hk hX hY e1 e2 hks hpO
            generalize hx : s[X] = x at *
            generalize hy : s[Y] = y at *
            by_cases hxy : x = y
            · subst hxy
              have he : (x == x) = true := by simp
              go_wp2
              go_big_quiet (fail)
              go_wp2
              go_roundw
              case rel =>
                refine ⟨k + 1, m, by go_num, by omega, Lib.hid ?_, Lib.hid (below_drewN HBi.out _)⟩
                have := HK2.out
                rw [if_pos trivial] at this
                omega
              case measure => simp [intOf]; omega
            · have hbv : ((y.toNat : Int) == (x.toNat : Int)) = false := by
                rw [beq_eq_false_iff_ne]
                intro e
                exact hxy (UInt8.toNat_inj.1 (by omega))
              have hbv2 : (y.toNat == x.toNat) = false := by
                rw [beq_eq_false_iff_ne]
                intro e
                exact hxy (UInt8.toNat_inj.1 (by omega))
              have HE : Hid (al s.data.toList p a most = k) := Lib.hid (by
                have := HK2.out
                rw [if_neg hxy] at this
                omega)
              have HXY := Lib.hid hxy
              clear hxy
              by_cases hgt : n < k
              · have hgi : (n : Int) < (k : Int) := by omega
                go_wp2
                go_big_quiet (fail)
                go_wp2
                go_roundw
                case rel =>
                  refine ⟨O, k, O + 1, rfl, rfl, by go_num, by omega, by omega, by omega, Lib.hid ?_, Lib.hid (below_drewN HBi.out _)⟩
                  have h := HRN.out
                  rw [HE.out, if_pos hgt, show a - p = O by have := HPA.out; omega] at h
                  exact h
                case measure => simp [intOf]; omega
              · have hgi : (k : Int) ≤ (n : Int) := by omega
                go_wp2
                go_big_quiet (fail)
                go_wp2
                go_roundw
                case rel =>
                  refine ⟨off, n, O + 1, rfl, rfl, by go_num, by omega, by omega, by omega, Lib.hid ?_, Lib.hid (below_drewN HBi.out _)⟩
                  have h := HRN.out
                  rw [HE.out, if_neg hgt] at h
                  exact h
                case measure => simp [intOf]; omega
      · have HE : Hid ((off, n) = mat s.data.toList a) := Lib.hid (by
          have hrun := HR.out
          rw [desc_cons hOa, bst, if_pos (by omega)] at hrun
          exact hrun)
        have hd1 : decide ((O : Int) ≤ (a : Int)) = true := decide_eq_true (by omega)
        have hd2 : decide ((O : Int) ≤ 65535) = false := decide_eq_false (by omega)
        have hd3 : decide (O ≤ a) = true := decide_eq_true (by omega)
        have hO5i : (65535 : Int) < (O : Int) := by omega
        clear hO5
        go_wp2
        go_ret2
        rw [← HE.out]
        exact ⟨rfl, HB.out⟩
    · have HE : Hid ((off, n) = mat s.data.toList a) := Lib.hid (by
        have hrun := HR.out
        rw [show a + 1 - O = 0 by omega, desc, bst] at hrun
        exact hrun)
      have hd1 : decide ((O : Int) ≤ (a : Int)) = false := decide_eq_false (by omega)
      have hd3 : decide (O ≤ a) = false := decide_eq_false (by omega)
      go_wp2
      go_ret2
      rw [← HE.out]
      exact ⟨rfl, HB.out⟩
end Go.Proofs.Ytnnogjojoeajnaa
