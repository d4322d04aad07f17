/- KeysBytes: the law answers true, for every input. No condition. -/
import Derived.Test.YtbiokdphjildcaaRows
import Derived.Test.YtbiokdphjildcaaKg
import Derived.WalkKit
import Derived.ProofKit
import Derived.OpenShut
import Derived.ShutString
namespace Go.Proofs.Ytbiokdphjildcaa.keysBytes
open Go.ChangeShapes Go.WideShapes Go.ChangeAt Go.RowKit
open Go.ChangeMaps (open_string shut_string)
set_option linter.unusedVariables false
set_option maxRecDepth 100000 in
set_option maxHeartbeats 4000000 in

theorem core (a : ByteArray) (b : ByteArray) (w0 : a.size ≤ maxLen) (w1 : b.size ≤ maxLen) (w : World) :
    Calls Try.prog 9 #[.string a, .string b] w fun e w' => e = .returned (.bool true) ∧ Below w.heap.size w w' := by
  have HB0 : Hid (Below w.heap.size w w) := Lib.hid (Below.refl _ _)
  have HAW := Lib.hid awake_any
  by_cases ga : 3000 < a.size
  · have qa : decide ((3000 : Int) < (a.size : Int)) = true := decide_eq_true (by omega)
    clear ga
    go_enter Try.func9, Try.ntmps9
    go_wp2_with fail
    refine (HAW.out _).mono ?_
    rintro e w1 ⟨rfl, hb⟩
    have HB1 := Lib.hid (below_trans' HB0.out hb)
    clear hb
    go_wp2
    go_ret
    exact ⟨rfl, HB1.out⟩
  have qa : decide ((3000 : Int) < (a.size : Int)) = false := decide_eq_false (by omega)
  have hla : a.size ≤ 3000 := by omega
  clear ga
  by_cases gb : 3000 < b.size
  · have qb : decide ((3000 : Int) < (b.size : Int)) = true := decide_eq_true (by omega)
    clear gb
    go_enter Try.func9, Try.ntmps9
    go_wp2_with fail
    refine (HAW.out _).mono ?_
    rintro e w1 ⟨rfl, hb⟩
    have HB1 := Lib.hid (below_trans' HB0.out hb)
    clear hb
    go_wp2
    go_ret
    exact ⟨rfl, HB1.out⟩
  have qb : decide ((3000 : Int) < (b.size : Int)) = false := decide_eq_false (by omega)
  have hlb : b.size ≤ 3000 := by omega
  clear gb
  have hsz := Lib.size_eq a
  have h12 := key_any a
  have h13 := prefix_any a
  have h11 := name_any a
  have h23 := prefix_any b
  have h33 := prefix_any (a ++ b)
  have HL : Hid (prefB a.data.toList = (decide (a.size ≤ 64) && a.data.toList.all fun c => keyB [c])) := Lib.hid (by rw [prefB_all, ← hsz])
  have HT : Hid (∀ k, k = a.size → a.data.toList.take k = a.data.toList) := Lib.hid fun k hk => List.take_of_length_le (by omega)
  have HPB : Hid (prefB a.data.toList = true → prefB b.data.toList = true → prefB (a ++ b).data.toList = decide ((a.size : Int) + (b.size : Int) ≤ 64)) := Lib.hid (fun h k => by
    rw [bs_app, prefB_app h k, ← Lib.size_eq, ← Lib.size_eq, Bool.eq_iff_iff, decide_eq_true_eq, decide_eq_true_eq]; omega)
  by_cases h0 : a.size = 0
  · have he := emp_t h0
    have hnil : a.data.toList = [] := List.eq_nil_of_length_eq_zero (by omega)
    have hK : keyB a.data.toList = false := by rw [hnil]; rfl
    have hP : prefB a.data.toList = true := by rw [hnil]; rfl
    have hN : nameB a.data.toList = false := by rw [hnil]; rfl
    clear hnil h0
    have HPa : Hid (prefB a.data.toList = true) := Lib.hid hP
    rw [hK] at h12
    have H12 := Lib.hid h12
    rw [hP] at h13
    have H13 := Lib.hid h13
    rw [hN] at h11
    have H11 := Lib.hid h11
    clear h12 h13 h11 hK hN hsz
    have HPB2 := Lib.hid (HPB.out hP)
    clear hP HPB
    cases hb : prefB b.data.toList with
    | false =>
      rw [hb] at h23
      have H23 := Lib.hid h23
      clear h23 h33 hb HPB2
      go_enter Try.func9, Try.ntmps9
      go_wp2_with fail
      refine (HAW.out _).mono ?_
      rintro e w1 ⟨rfl, hb⟩
      have HB1 := Lib.hid (below_trans' HB0.out hb)
      clear hb
      go_wp2_with fail
      refine (H12.out _).mono ?_
      rintro e w' ⟨rfl, rfl⟩
      go_wp2_with fail
      refine (H11.out _).mono ?_
      rintro e w' ⟨rfl, rfl⟩
      go_wp2_with fail
      refine (H13.out _).mono ?_
      rintro e w' ⟨rfl, rfl⟩
      go_wp2
      go_loopw [6, 5] (fun i g wr => ∃ k : Nat, ∃ x : Bool, i = .int .i64 k ∧ g = .bool x ∧ k ≤ a.size ∧ wr = w1 ∧ Hid (x = (decide (a.size ≤ 64) && (a.data.toList.take k).all fun c => keyB [c]))) (fun i _ _ => a.size - (intOf i).toNat)
      case atStart => exact ⟨0, _, rfl, rfl, by omega, rfl, Lib.hid (by rw [List.take_zero, List.all_nil, Bool.and_true, Bool.eq_iff_iff, decide_eq_true_eq, decide_eq_true_eq]; omega)⟩
      case round =>
        obtain ⟨k, x, rfl, rfl, hk, rfl, HX⟩ := hrel
        by_cases hlt : k < a.size
        · obtain ⟨y, hy⟩ : ∃ y : UInt8, a[k]'hlt = y := ⟨_, rfl⟩
          have HS := Lib.hid (all_step (f := fun c => keyB [c]) hlt)
          rw [hy] at HS
          have hK := key_any (a.extract k (k + 1))
          rw [ext_one hlt, hy] at hK
          clear hy
          generalize hkb : keyB [y] = z at *
          have HK := Lib.hid hK
          clear hK
          cases x
          · have HX2 : Hid (false = (decide (a.size ≤ 64) && (a.data.toList.take (k + 1)).all fun c => keyB [c])) := Lib.hid (by rw [HS.out, ← Bool.and_assoc, ← HX.out]; rfl)
            go_wp2
            go_roundw
            case rel => exact ⟨k + 1, _, by simp, rfl, by omega, (by first | rfl | trivial), HX2⟩
            case measure => (try simp [intOf]); (try omega)
          · have HX2 : Hid (z = (decide (a.size ≤ 64) && (a.data.toList.take (k + 1)).all fun c => keyB [c])) := Lib.hid (by rw [HS.out, ← Bool.and_assoc, ← HX.out]; simp)
            clear hkb
            go_wp2_with fail
            refine (HK.out _).mono ?_
            rintro e w' ⟨rfl, rfl⟩
            go_wp2
            go_roundw
            case rel => exact ⟨k + 1, _, by simp, rfl, by omega, (by first | rfl | trivial), HX2⟩
            case measure => (try simp [intOf]); (try omega)
        · obtain rfl : k = a.size := by omega
          obtain rfl : x = true := by rw [HX.out, HT.out _ rfl, ← HL.out]; exact HPa.out
          go_wp2_with fail
          refine (H13.out _).mono ?_
          rintro e w' ⟨rfl, rfl⟩
          go_wp2_with fail
          refine (H13.out _).mono ?_
          rintro e w' ⟨rfl, rfl⟩
          go_wp2_with fail
          refine (H23.out _).mono ?_
          rintro e w' ⟨rfl, rfl⟩
          go_wp2
          go_ret
          exact ⟨rfl, HB1.out⟩
    | true =>
      rw [hb] at h23
      have H23 := Lib.hid h23
      rw [HPB2.out hb] at h33
      have e64 : (decide ((a.size : Int) + (b.size : Int) ≤ 64) == decide ((a.size : Int) + (b.size : Int) ≤ 64)) = true := by simp
      have H33 := Lib.hid h33
      clear h23 h33 hb HPB2
      go_enter Try.func9, Try.ntmps9
      go_wp2_with fail
      refine (HAW.out _).mono ?_
      rintro e w1 ⟨rfl, hb⟩
      have HB1 := Lib.hid (below_trans' HB0.out hb)
      clear hb
      go_wp2_with fail
      refine (H12.out _).mono ?_
      rintro e w' ⟨rfl, rfl⟩
      go_wp2_with fail
      refine (H11.out _).mono ?_
      rintro e w' ⟨rfl, rfl⟩
      go_wp2_with fail
      refine (H13.out _).mono ?_
      rintro e w' ⟨rfl, rfl⟩
      go_wp2
      go_loopw [6, 5] (fun i g wr => ∃ k : Nat, ∃ x : Bool, i = .int .i64 k ∧ g = .bool x ∧ k ≤ a.size ∧ wr = w1 ∧ Hid (x = (decide (a.size ≤ 64) && (a.data.toList.take k).all fun c => keyB [c]))) (fun i _ _ => a.size - (intOf i).toNat)
      case atStart => exact ⟨0, _, rfl, rfl, by omega, rfl, Lib.hid (by rw [List.take_zero, List.all_nil, Bool.and_true, Bool.eq_iff_iff, decide_eq_true_eq, decide_eq_true_eq]; omega)⟩
      case round =>
        obtain ⟨k, x, rfl, rfl, hk, rfl, HX⟩ := hrel
        by_cases hlt : k < a.size
        · obtain ⟨y, hy⟩ : ∃ y : UInt8, a[k]'hlt = y := ⟨_, rfl⟩
          have HS := Lib.hid (all_step (f := fun c => keyB [c]) hlt)
          rw [hy] at HS
          have hK := key_any (a.extract k (k + 1))
          rw [ext_one hlt, hy] at hK
          clear hy
          generalize hkb : keyB [y] = z at *
          have HK := Lib.hid hK
          clear hK
          cases x
          · have HX2 : Hid (false = (decide (a.size ≤ 64) && (a.data.toList.take (k + 1)).all fun c => keyB [c])) := Lib.hid (by rw [HS.out, ← Bool.and_assoc, ← HX.out]; rfl)
            go_wp2
            go_roundw
            case rel => exact ⟨k + 1, _, by simp, rfl, by omega, (by first | rfl | trivial), HX2⟩
            case measure => (try simp [intOf]); (try omega)
          · have HX2 : Hid (z = (decide (a.size ≤ 64) && (a.data.toList.take (k + 1)).all fun c => keyB [c])) := Lib.hid (by rw [HS.out, ← Bool.and_assoc, ← HX.out]; simp)
            clear hkb
            go_wp2_with fail
            refine (HK.out _).mono ?_
            rintro e w' ⟨rfl, rfl⟩
            go_wp2
            go_roundw
            case rel => exact ⟨k + 1, _, by simp, rfl, by omega, (by first | rfl | trivial), HX2⟩
            case measure => (try simp [intOf]); (try omega)
        · obtain rfl : k = a.size := by omega
          obtain rfl : x = true := by rw [HX.out, HT.out _ rfl, ← HL.out]; exact HPa.out
          go_wp2_with fail
          refine (H13.out _).mono ?_
          rintro e w' ⟨rfl, rfl⟩
          go_wp2_with fail
          refine (H13.out _).mono ?_
          rintro e w' ⟨rfl, rfl⟩
          go_wp2_with fail
          refine (H23.out _).mono ?_
          rintro e w' ⟨rfl, rfl⟩
          go_wp2_with fail
          refine (H33.out _).mono ?_
          rintro e w' ⟨rfl, rfl⟩
          go_wp2
          go_ret
          exact ⟨rfl, HB1.out⟩
  have he := emp_f h0
  have hpk : prefB a.data.toList = keyB a.data.toList := prefB_eq (by omega)
  clear h0
  cases hK : keyB a.data.toList with
  | false =>
    have hN : nameB a.data.toList = false := by
      cases hn : nameB a.data.toList with
      | false => rfl
      | true => rw [name_key hn] at hK; cases hK
    have hP := hpk.trans hK
    clear hpk
    have HPa : Hid (prefB a.data.toList = false) := Lib.hid hP
    rw [hK] at h12
    have H12 := Lib.hid h12
    rw [hP] at h13
    have H13 := Lib.hid h13
    rw [hN] at h11
    have H11 := Lib.hid h11
    clear h12 h13 h11 hK hN hsz
    clear hP HPB h23 h33
    go_enter Try.func9, Try.ntmps9
    go_wp2_with fail
    refine (HAW.out _).mono ?_
    rintro e w1 ⟨rfl, hb⟩
    have HB1 := Lib.hid (below_trans' HB0.out hb)
    clear hb
    go_wp2_with fail
    refine (H12.out _).mono ?_
    rintro e w' ⟨rfl, rfl⟩
    go_wp2_with fail
    refine (H11.out _).mono ?_
    rintro e w' ⟨rfl, rfl⟩
    go_wp2_with fail
    refine (H13.out _).mono ?_
    rintro e w' ⟨rfl, rfl⟩
    go_wp2_with fail
    refine (H12.out _).mono ?_
    rintro e w' ⟨rfl, rfl⟩
    go_wp2
    go_loopw [6, 5] (fun i g wr => ∃ k : Nat, ∃ x : Bool, i = .int .i64 k ∧ g = .bool x ∧ k ≤ a.size ∧ wr = w1 ∧ Hid (x = (decide (a.size ≤ 64) && (a.data.toList.take k).all fun c => keyB [c]))) (fun i _ _ => a.size - (intOf i).toNat)
    case atStart => exact ⟨0, _, rfl, rfl, by omega, rfl, Lib.hid (by rw [List.take_zero, List.all_nil, Bool.and_true, Bool.eq_iff_iff, decide_eq_true_eq, decide_eq_true_eq]; omega)⟩
    case round =>
      obtain ⟨k, x, rfl, rfl, hk, rfl, HX⟩ := hrel
      by_cases hlt : k < a.size
      · obtain ⟨y, hy⟩ : ∃ y : UInt8, a[k]'hlt = y := ⟨_, rfl⟩
        have HS := Lib.hid (all_step (f := fun c => keyB [c]) hlt)
        rw [hy] at HS
        have hK := key_any (a.extract k (k + 1))
        rw [ext_one hlt, hy] at hK
        clear hy
        generalize hkb : keyB [y] = z at *
        have HK := Lib.hid hK
        clear hK
        cases x
        · have HX2 : Hid (false = (decide (a.size ≤ 64) && (a.data.toList.take (k + 1)).all fun c => keyB [c])) := Lib.hid (by rw [HS.out, ← Bool.and_assoc, ← HX.out]; rfl)
          go_wp2
          go_roundw
          case rel => exact ⟨k + 1, _, by simp, rfl, by omega, (by first | rfl | trivial), HX2⟩
          case measure => (try simp [intOf]); (try omega)
        · have HX2 : Hid (z = (decide (a.size ≤ 64) && (a.data.toList.take (k + 1)).all fun c => keyB [c])) := Lib.hid (by rw [HS.out, ← Bool.and_assoc, ← HX.out]; simp)
          clear hkb
          go_wp2_with fail
          refine (HK.out _).mono ?_
          rintro e w' ⟨rfl, rfl⟩
          go_wp2
          go_roundw
          case rel => exact ⟨k + 1, _, by simp, rfl, by omega, (by first | rfl | trivial), HX2⟩
          case measure => (try simp [intOf]); (try omega)
      · obtain rfl : k = a.size := by omega
        obtain rfl : x = false := by rw [HX.out, HT.out _ rfl, ← HL.out]; exact HPa.out
        go_wp2_with fail
        refine (H13.out _).mono ?_
        rintro e w' ⟨rfl, rfl⟩
        go_wp2_with fail
        refine (H13.out _).mono ?_
        rintro e w' ⟨rfl, rfl⟩
        go_wp2
        go_ret
        exact ⟨rfl, HB1.out⟩
  | true =>
    have hP := hpk.trans hK
    clear hpk
    cases hN : nameB a.data.toList with
    | false =>
      have HPa : Hid (prefB a.data.toList = true) := Lib.hid hP
      rw [hK] at h12
      have H12 := Lib.hid h12
      rw [hP] at h13
      have H13 := Lib.hid h13
      rw [hN] at h11
      have H11 := Lib.hid h11
      clear h12 h13 h11 hK hN hsz
      have HPB2 := Lib.hid (HPB.out hP)
      clear hP HPB
      cases hb : prefB b.data.toList with
      | false =>
        rw [hb] at h23
        have H23 := Lib.hid h23
        clear h23 h33 hb HPB2
        go_enter Try.func9, Try.ntmps9
        go_wp2_with fail
        refine (HAW.out _).mono ?_
        rintro e w1 ⟨rfl, hb⟩
        have HB1 := Lib.hid (below_trans' HB0.out hb)
        clear hb
        go_wp2_with fail
        refine (H12.out _).mono ?_
        rintro e w' ⟨rfl, rfl⟩
        go_wp2_with fail
        refine (H13.out _).mono ?_
        rintro e w' ⟨rfl, rfl⟩
        go_wp2_with fail
        refine (H11.out _).mono ?_
        rintro e w' ⟨rfl, rfl⟩
        go_wp2_with fail
        refine (H13.out _).mono ?_
        rintro e w' ⟨rfl, rfl⟩
        go_wp2_with fail
        refine (H12.out _).mono ?_
        rintro e w' ⟨rfl, rfl⟩
        go_wp2
        go_loopw [6, 5] (fun i g wr => ∃ k : Nat, ∃ x : Bool, i = .int .i64 k ∧ g = .bool x ∧ k ≤ a.size ∧ wr = w1 ∧ Hid (x = (decide (a.size ≤ 64) && (a.data.toList.take k).all fun c => keyB [c]))) (fun i _ _ => a.size - (intOf i).toNat)
        case atStart => exact ⟨0, _, rfl, rfl, by omega, rfl, Lib.hid (by rw [List.take_zero, List.all_nil, Bool.and_true, Bool.eq_iff_iff, decide_eq_true_eq, decide_eq_true_eq]; omega)⟩
        case round =>
          obtain ⟨k, x, rfl, rfl, hk, rfl, HX⟩ := hrel
          by_cases hlt : k < a.size
          · obtain ⟨y, hy⟩ : ∃ y : UInt8, a[k]'hlt = y := ⟨_, rfl⟩
            have HS := Lib.hid (all_step (f := fun c => keyB [c]) hlt)
            rw [hy] at HS
            have hK := key_any (a.extract k (k + 1))
            rw [ext_one hlt, hy] at hK
            clear hy
            generalize hkb : keyB [y] = z at *
            have HK := Lib.hid hK
            clear hK
            cases x
            · have HX2 : Hid (false = (decide (a.size ≤ 64) && (a.data.toList.take (k + 1)).all fun c => keyB [c])) := Lib.hid (by rw [HS.out, ← Bool.and_assoc, ← HX.out]; rfl)
              go_wp2
              go_roundw
              case rel => exact ⟨k + 1, _, by simp, rfl, by omega, (by first | rfl | trivial), HX2⟩
              case measure => (try simp [intOf]); (try omega)
            · have HX2 : Hid (z = (decide (a.size ≤ 64) && (a.data.toList.take (k + 1)).all fun c => keyB [c])) := Lib.hid (by rw [HS.out, ← Bool.and_assoc, ← HX.out]; simp)
              clear hkb
              go_wp2_with fail
              refine (HK.out _).mono ?_
              rintro e w' ⟨rfl, rfl⟩
              go_wp2
              go_roundw
              case rel => exact ⟨k + 1, _, by simp, rfl, by omega, (by first | rfl | trivial), HX2⟩
              case measure => (try simp [intOf]); (try omega)
          · obtain rfl : k = a.size := by omega
            obtain rfl : x = true := by rw [HX.out, HT.out _ rfl, ← HL.out]; exact HPa.out
            go_wp2_with fail
            refine (H13.out _).mono ?_
            rintro e w' ⟨rfl, rfl⟩
            go_wp2_with fail
            refine (H13.out _).mono ?_
            rintro e w' ⟨rfl, rfl⟩
            go_wp2_with fail
            refine (H23.out _).mono ?_
            rintro e w' ⟨rfl, rfl⟩
            go_wp2
            go_ret
            exact ⟨rfl, HB1.out⟩
      | true =>
        rw [hb] at h23
        have H23 := Lib.hid h23
        rw [HPB2.out hb] at h33
        have e64 : (decide ((a.size : Int) + (b.size : Int) ≤ 64) == decide ((a.size : Int) + (b.size : Int) ≤ 64)) = true := by simp
        have H33 := Lib.hid h33
        clear h23 h33 hb HPB2
        go_enter Try.func9, Try.ntmps9
        go_wp2_with fail
        refine (HAW.out _).mono ?_
        rintro e w1 ⟨rfl, hb⟩
        have HB1 := Lib.hid (below_trans' HB0.out hb)
        clear hb
        go_wp2_with fail
        refine (H12.out _).mono ?_
        rintro e w' ⟨rfl, rfl⟩
        go_wp2_with fail
        refine (H13.out _).mono ?_
        rintro e w' ⟨rfl, rfl⟩
        go_wp2_with fail
        refine (H11.out _).mono ?_
        rintro e w' ⟨rfl, rfl⟩
        go_wp2_with fail
        refine (H13.out _).mono ?_
        rintro e w' ⟨rfl, rfl⟩
        go_wp2_with fail
        refine (H12.out _).mono ?_
        rintro e w' ⟨rfl, rfl⟩
        go_wp2
        go_loopw [6, 5] (fun i g wr => ∃ k : Nat, ∃ x : Bool, i = .int .i64 k ∧ g = .bool x ∧ k ≤ a.size ∧ wr = w1 ∧ Hid (x = (decide (a.size ≤ 64) && (a.data.toList.take k).all fun c => keyB [c]))) (fun i _ _ => a.size - (intOf i).toNat)
        case atStart => exact ⟨0, _, rfl, rfl, by omega, rfl, Lib.hid (by rw [List.take_zero, List.all_nil, Bool.and_true, Bool.eq_iff_iff, decide_eq_true_eq, decide_eq_true_eq]; omega)⟩
        case round =>
          obtain ⟨k, x, rfl, rfl, hk, rfl, HX⟩ := hrel
          by_cases hlt : k < a.size
          · obtain ⟨y, hy⟩ : ∃ y : UInt8, a[k]'hlt = y := ⟨_, rfl⟩
            have HS := Lib.hid (all_step (f := fun c => keyB [c]) hlt)
            rw [hy] at HS
            have hK := key_any (a.extract k (k + 1))
            rw [ext_one hlt, hy] at hK
            clear hy
            generalize hkb : keyB [y] = z at *
            have HK := Lib.hid hK
            clear hK
            cases x
            · have HX2 : Hid (false = (decide (a.size ≤ 64) && (a.data.toList.take (k + 1)).all fun c => keyB [c])) := Lib.hid (by rw [HS.out, ← Bool.and_assoc, ← HX.out]; rfl)
              go_wp2
              go_roundw
              case rel => exact ⟨k + 1, _, by simp, rfl, by omega, (by first | rfl | trivial), HX2⟩
              case measure => (try simp [intOf]); (try omega)
            · have HX2 : Hid (z = (decide (a.size ≤ 64) && (a.data.toList.take (k + 1)).all fun c => keyB [c])) := Lib.hid (by rw [HS.out, ← Bool.and_assoc, ← HX.out]; simp)
              clear hkb
              go_wp2_with fail
              refine (HK.out _).mono ?_
              rintro e w' ⟨rfl, rfl⟩
              go_wp2
              go_roundw
              case rel => exact ⟨k + 1, _, by simp, rfl, by omega, (by first | rfl | trivial), HX2⟩
              case measure => (try simp [intOf]); (try omega)
          · obtain rfl : k = a.size := by omega
            obtain rfl : x = true := by rw [HX.out, HT.out _ rfl, ← HL.out]; exact HPa.out
            go_wp2_with fail
            refine (H13.out _).mono ?_
            rintro e w' ⟨rfl, rfl⟩
            go_wp2_with fail
            refine (H13.out _).mono ?_
            rintro e w' ⟨rfl, rfl⟩
            go_wp2_with fail
            refine (H23.out _).mono ?_
            rintro e w' ⟨rfl, rfl⟩
            go_wp2_with fail
            refine (H33.out _).mono ?_
            rintro e w' ⟨rfl, rfl⟩
            go_wp2
            go_ret
            exact ⟨rfl, HB1.out⟩
    | true =>
      have HPa : Hid (prefB a.data.toList = true) := Lib.hid hP
      rw [hK] at h12
      have H12 := Lib.hid h12
      rw [hP] at h13
      have H13 := Lib.hid h13
      rw [hN] at h11
      have H11 := Lib.hid h11
      clear h12 h13 h11 hK hN hsz
      have HPB2 := Lib.hid (HPB.out hP)
      clear hP HPB
      cases hb : prefB b.data.toList with
      | false =>
        rw [hb] at h23
        have H23 := Lib.hid h23
        clear h23 h33 hb HPB2
        go_enter Try.func9, Try.ntmps9
        go_wp2_with fail
        refine (HAW.out _).mono ?_
        rintro e w1 ⟨rfl, hb⟩
        have HB1 := Lib.hid (below_trans' HB0.out hb)
        clear hb
        go_wp2_with fail
        refine (H12.out _).mono ?_
        rintro e w' ⟨rfl, rfl⟩
        go_wp2_with fail
        refine (H13.out _).mono ?_
        rintro e w' ⟨rfl, rfl⟩
        go_wp2_with fail
        refine (H11.out _).mono ?_
        rintro e w' ⟨rfl, rfl⟩
        go_wp2_with fail
        refine (H12.out _).mono ?_
        rintro e w' ⟨rfl, rfl⟩
        go_wp2_with fail
        refine (H13.out _).mono ?_
        rintro e w' ⟨rfl, rfl⟩
        go_wp2_with fail
        refine (H12.out _).mono ?_
        rintro e w' ⟨rfl, rfl⟩
        go_wp2
        go_loopw [6, 5] (fun i g wr => ∃ k : Nat, ∃ x : Bool, i = .int .i64 k ∧ g = .bool x ∧ k ≤ a.size ∧ wr = w1 ∧ Hid (x = (decide (a.size ≤ 64) && (a.data.toList.take k).all fun c => keyB [c]))) (fun i _ _ => a.size - (intOf i).toNat)
        case atStart => exact ⟨0, _, rfl, rfl, by omega, rfl, Lib.hid (by rw [List.take_zero, List.all_nil, Bool.and_true, Bool.eq_iff_iff, decide_eq_true_eq, decide_eq_true_eq]; omega)⟩
        case round =>
          obtain ⟨k, x, rfl, rfl, hk, rfl, HX⟩ := hrel
          by_cases hlt : k < a.size
          · obtain ⟨y, hy⟩ : ∃ y : UInt8, a[k]'hlt = y := ⟨_, rfl⟩
            have HS := Lib.hid (all_step (f := fun c => keyB [c]) hlt)
            rw [hy] at HS
            have hK := key_any (a.extract k (k + 1))
            rw [ext_one hlt, hy] at hK
            clear hy
            generalize hkb : keyB [y] = z at *
            have HK := Lib.hid hK
            clear hK
            cases x
            · have HX2 : Hid (false = (decide (a.size ≤ 64) && (a.data.toList.take (k + 1)).all fun c => keyB [c])) := Lib.hid (by rw [HS.out, ← Bool.and_assoc, ← HX.out]; rfl)
              go_wp2
              go_roundw
              case rel => exact ⟨k + 1, _, by simp, rfl, by omega, (by first | rfl | trivial), HX2⟩
              case measure => (try simp [intOf]); (try omega)
            · have HX2 : Hid (z = (decide (a.size ≤ 64) && (a.data.toList.take (k + 1)).all fun c => keyB [c])) := Lib.hid (by rw [HS.out, ← Bool.and_assoc, ← HX.out]; simp)
              clear hkb
              go_wp2_with fail
              refine (HK.out _).mono ?_
              rintro e w' ⟨rfl, rfl⟩
              go_wp2
              go_roundw
              case rel => exact ⟨k + 1, _, by simp, rfl, by omega, (by first | rfl | trivial), HX2⟩
              case measure => (try simp [intOf]); (try omega)
          · obtain rfl : k = a.size := by omega
            obtain rfl : x = true := by rw [HX.out, HT.out _ rfl, ← HL.out]; exact HPa.out
            go_wp2_with fail
            refine (H13.out _).mono ?_
            rintro e w' ⟨rfl, rfl⟩
            go_wp2_with fail
            refine (H13.out _).mono ?_
            rintro e w' ⟨rfl, rfl⟩
            go_wp2_with fail
            refine (H23.out _).mono ?_
            rintro e w' ⟨rfl, rfl⟩
            go_wp2
            go_ret
            exact ⟨rfl, HB1.out⟩
      | true =>
        rw [hb] at h23
        have H23 := Lib.hid h23
        rw [HPB2.out hb] at h33
        have e64 : (decide ((a.size : Int) + (b.size : Int) ≤ 64) == decide ((a.size : Int) + (b.size : Int) ≤ 64)) = true := by simp
        have H33 := Lib.hid h33
        clear h23 h33 hb HPB2
        go_enter Try.func9, Try.ntmps9
        go_wp2_with fail
        refine (HAW.out _).mono ?_
        rintro e w1 ⟨rfl, hb⟩
        have HB1 := Lib.hid (below_trans' HB0.out hb)
        clear hb
        go_wp2_with fail
        refine (H12.out _).mono ?_
        rintro e w' ⟨rfl, rfl⟩
        go_wp2_with fail
        refine (H13.out _).mono ?_
        rintro e w' ⟨rfl, rfl⟩
        go_wp2_with fail
        refine (H11.out _).mono ?_
        rintro e w' ⟨rfl, rfl⟩
        go_wp2_with fail
        refine (H12.out _).mono ?_
        rintro e w' ⟨rfl, rfl⟩
        go_wp2_with fail
        refine (H13.out _).mono ?_
        rintro e w' ⟨rfl, rfl⟩
        go_wp2_with fail
        refine (H12.out _).mono ?_
        rintro e w' ⟨rfl, rfl⟩
        go_wp2
        go_loopw [6, 5] (fun i g wr => ∃ k : Nat, ∃ x : Bool, i = .int .i64 k ∧ g = .bool x ∧ k ≤ a.size ∧ wr = w1 ∧ Hid (x = (decide (a.size ≤ 64) && (a.data.toList.take k).all fun c => keyB [c]))) (fun i _ _ => a.size - (intOf i).toNat)
        case atStart => exact ⟨0, _, rfl, rfl, by omega, rfl, Lib.hid (by rw [List.take_zero, List.all_nil, Bool.and_true, Bool.eq_iff_iff, decide_eq_true_eq, decide_eq_true_eq]; omega)⟩
        case round =>
          obtain ⟨k, x, rfl, rfl, hk, rfl, HX⟩ := hrel
          by_cases hlt : k < a.size
          · obtain ⟨y, hy⟩ : ∃ y : UInt8, a[k]'hlt = y := ⟨_, rfl⟩
            have HS := Lib.hid (all_step (f := fun c => keyB [c]) hlt)
            rw [hy] at HS
            have hK := key_any (a.extract k (k + 1))
            rw [ext_one hlt, hy] at hK
            clear hy
            generalize hkb : keyB [y] = z at *
            have HK := Lib.hid hK
            clear hK
            cases x
            · have HX2 : Hid (false = (decide (a.size ≤ 64) && (a.data.toList.take (k + 1)).all fun c => keyB [c])) := Lib.hid (by rw [HS.out, ← Bool.and_assoc, ← HX.out]; rfl)
              go_wp2
              go_roundw
              case rel => exact ⟨k + 1, _, by simp, rfl, by omega, (by first | rfl | trivial), HX2⟩
              case measure => (try simp [intOf]); (try omega)
            · have HX2 : Hid (z = (decide (a.size ≤ 64) && (a.data.toList.take (k + 1)).all fun c => keyB [c])) := Lib.hid (by rw [HS.out, ← Bool.and_assoc, ← HX.out]; simp)
              clear hkb
              go_wp2_with fail
              refine (HK.out _).mono ?_
              rintro e w' ⟨rfl, rfl⟩
              go_wp2
              go_roundw
              case rel => exact ⟨k + 1, _, by simp, rfl, by omega, (by first | rfl | trivial), HX2⟩
              case measure => (try simp [intOf]); (try omega)
          · obtain rfl : k = a.size := by omega
            obtain rfl : x = true := by rw [HX.out, HT.out _ rfl, ← HL.out]; exact HPa.out
            go_wp2_with fail
            refine (H13.out _).mono ?_
            rintro e w' ⟨rfl, rfl⟩
            go_wp2_with fail
            refine (H13.out _).mono ?_
            rintro e w' ⟨rfl, rfl⟩
            go_wp2_with fail
            refine (H23.out _).mono ?_
            rintro e w' ⟨rfl, rfl⟩
            go_wp2_with fail
            refine (H33.out _).mono ?_
            rintro e w' ⟨rfl, rfl⟩
            go_wp2
            go_ret
            exact ⟨rfl, HB1.out⟩
theorem own : ownKnob Try.prog.godebug = none := by kernel_rfl
theorem laidOut : laidOutB Try.prog = true := by kernel_rfl
set_option maxRecDepth 100000 in
theorem lifted (os : Os) (started : os.Started) (H : Type) (enc : TypeId × Value → H) :
    ReturnsInHanded {} Try.checked os 9 .any (Rows.keysBytesSpec.pre6 enc Try.prog Try.f9 Rows.keysBytesRow.domain false) (Rows.keysBytesSpec.post enc Try.prog Try.f9 false true false false) := by
  refine returnsInHanded_of_change (C := Try.checked) own started (by kernel_rfl) Try.func9
    (ChangeSpec.witness6 (enc := enc) (C := Try.checked) false ⟨#[], #[.string ByteArray.empty, .string ByteArray.empty], []⟩ 8 (by kernel_rfl) (by kernel_rfl) (by kernel_rfl) (by kernel_rfl)) ?_
  intro W base args ds gs before hval0 hW hcnd _
  have hval : ∀ (j : Nat) t v, Try.f9.params[j]? = some t → args[j]? = some v → Value.okWide Try.prog W .any base t v := hval0
  have hW' := hW
  obtain ⟨p, q, hA0, hV, rfl, hfz, hnd⟩ := hW
  have hA : DataW.TrodAll enc Try.prog W 0 (fun _ => true) true Try.f9.params.toList args.toList ds p := hA0
  rw [Try.params9] at hA hval
  obtain ⟨v0, vs0, d0, ds0, p0, q0, hargs, rfl, rfl, h0, r0⟩ := trodAll_cons hA
  obtain ⟨v1, vs1, d1, ds1, p1, q1, rfl, rfl, rfl, h1, r1⟩ := trodAll_cons r0
  obtain ⟨rfl, rfl, rfl⟩ := trodAll_nil r1
  obtain rfl : args = #[v0, v1] := by cases args; simp_all
  obtain ⟨rfl, rfl⟩ := trodVars_none hV
  have k0 := h0
  have lt0 : ∀ x ∈ p0, x.block < W.heap.size := by obtain ⟨m, hm⟩ := k0; exact DataW.trod_lt m _ _ _ hm
  have k1 := h1
  have lt1 : ∀ x ∈ p1, x.block < W.heap.size := by obtain ⟨m, hm⟩ := k1; exact DataW.trod_lt m _ _ _ hm
  obtain ⟨a0, rfl, rfl, rfl, w0⟩ := open_string Try.underlying9 (hval 0 9 v0 rfl rfl) h0
  obtain ⟨a1, rfl, rfl, rfl, w1⟩ := open_string Try.underlying9 (hval 1 9 v1 rfl rfl) h1
  clear hA0 hval0
  refine (core a0 a1 w0 w1 W ).mono fun e W' ⟨he, bel⟩ => ?_
  subst he
  exact ⟨_, rfl, _, _, _, [], _, [], hW', trodAll_mk1 (shut_bool Try.underlying4 _), (trodAll_cons_mk (Below.trod laidOut (by kernel_rfl) (of_decide_eq_true (by kernel_rfl)) k0 bel lt0) (trodAll_cons_mk (Below.trod laidOut (by kernel_rfl) (of_decide_eq_true (by kernel_rfl)) k1 bel lt1) trodAll_mk0)), rfl, bel.frame _, fun h => by cases h⟩
theorem over : Rows.keysBytesRow.holds Try.pinned (OpenSpec.ofChange Rows.keysBytesSpec) :=
  OpenClaim.holds_of_wide 9 Try.f9 rfl rfl rfl rfl rfl rfl rfl ⟨rfl, rfl, rfl, rfl, rfl⟩ rfl rfl rfl rfl rfl (by kernel_rfl) Try.func9 (by kernel_rfl)
    (of_decide_eq_true (by kernel_rfl)) (by unfold Func.isWrapper; first | (rw [if_pos (by decide +kernel)]; kernel_rfl) | (rw [if_neg (by decide +kernel)]; exact ⟨rfl, rfl⟩))
    (fun os started H enc _ => lifted os started H enc)
theorem proved : Rows.KeysBytesSaid := over
end Go.Proofs.Ytbiokdphjildcaa.keysBytes
