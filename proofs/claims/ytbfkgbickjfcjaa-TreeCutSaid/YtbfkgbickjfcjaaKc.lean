/- Package keys: the document's functions: the contracts. -/
import Derived.Test.YtbfkgbickjfcjaaKa
namespace Go.Proofs.Ytbfkgbickjfcjaa
set_option linter.unusedVariables false
set_option linter.unusedSimpArgs false
open Go Go.RowKit
set_option maxRecDepth 100000
set_option maxHeartbeats 1000000
theorem any_no {s : ByteArray} {c : UInt8} {k : Nat} (h : k ≤ s.size) (H : ∀ j (hj : j < s.size), j < k → (s[j] == c) = false) (hk : k = s.size) : s.data.toList.contains c = false := by
  subst hk
  rw [List.contains_eq_any_beq, List.any_eq_false]
  intro x hx
  obtain ⟨j, hj, rfl⟩ := List.getElem_of_mem hx
  have hj' : j < s.size := by rw [Lib.size_eq]; exact hj
  have := H j hj' hj'
  simp only [beq_eq_false_iff_ne, ne_eq] at this
  simp only [beq_iff_eq]
  intro h2; exact this h2.symm
theorem any_yes {s : ByteArray} {c : UInt8} {k : Nat} (h : k < s.size) (H : (s[k] == c) = true) : s.data.toList.contains c = true := by
  rw [List.contains_eq_any_beq, List.any_eq_true]
  refine ⟨s.data.toList[k]'(by rw [← Lib.size_eq]; exact h), List.getElem_mem _, ?_⟩
  have e : s.data.toList[k]'(by rw [← Lib.size_eq]; exact h) = s[k] := rfl
  rw [e]; simp only [beq_iff_eq] at *; exact H.symm
theorem u8_eq (x c : UInt8) : ((x.toNat : Int) == (c.toNat : Int)) = (x == c) := by
  rw [Bool.eq_iff_iff, beq_iff_eq, beq_iff_eq]
  constructor
  · intro h; exact UInt8.toNat_inj.1 (by omega)
  · intro h; rw [h]
theorem in_any (c : UInt8) (s : ByteArray) (hs : s.size ≤ 100) (w : World) : Calls Try.prog 93 #[.int .u8 c.toNat, .string s] w fun e w' => e = .returned (.bool (s.data.toList.contains c)) ∧ w = w' := by
  go_enter Try.func93, Try.ntmps93
  go_wp2
  go_loopw [5] (fun i wr => ∃ k : Nat, i = .int .i64 k ∧ k ≤ s.size ∧ wr = w ∧ Hid (∀ j (h : j < s.size), j < k → (s[j] == c) = false)) (fun i _ => s.size - (intOf i).toNat)
  case atStart => exact ⟨0, rfl, by omega, rfl, Lib.hid fun j _ hj => by omega⟩
  case round =>
    obtain ⟨k, rfl, hk, rfl, HK⟩ := hrel
    by_cases hlt : k < s.size
    · obtain ⟨x, hx⟩ : ∃ x : UInt8, s[k]'hlt = x := ⟨_, rfl⟩
      have hq := u8_eq x c
      cases hxc : (x == c) with
      | true =>
        rw [hxc] at hq
        have HF := Lib.hid (any_yes hlt (by rw [hx]; exact hxc))
        clear hxc
        go_wp2
        go_ret
        exact ⟨ret_b HF.out.symm, rfl⟩
      | false =>
        rw [hxc] at hq
        have HX : Hid ((s[k]'hlt == c) = false) := Lib.hid (by rw [hx]; exact hxc)
        clear hxc
        go_wp2
        go_roundw
        case rel =>
          refine ⟨k + 1, by simp, by omega, (by first | rfl | trivial), Lib.hid fun j hj hjk => ?_⟩
          rcases Nat.lt_or_ge j k with h | h
          · exact HK.out j hj h
          · obtain rfl : j = k := by omega
            exact HX.out
        case measure => (try simp [intOf]); (try omega)
    · obtain rfl : k = s.size := by omega
      have HF := Lib.hid (any_no (Nat.le_refl _) HK.out rfl)
      go_wp2
      go_ret
      exact ⟨ret_b HF.out.symm, rfl⟩
def madeB (l a : List UInt8) (most : Nat) : Bool := decide (l.length ≤ most) && l.all a.contains
theorem made_any (s a : ByteArray) (m : Nat) (hm : m ≤ 100) (ha : a.size ≤ 100) (w : World) : Calls Try.prog 80 #[.string s, .string a, .int .i64 m] w fun e w' => e = .returned (.bool (madeB s.data.toList a.data.toList m)) ∧ w = w' := by
  have hsz := Lib.size_eq s
  by_cases h1 : m < s.size
  · have HF : Hid (madeB s.data.toList a.data.toList m = false) := Lib.hid (by unfold madeB; rw [decide_eq_false (by omega)]; rfl)
    have h2 : decide ((m : Int) < (s.size : Int)) = true := decide_eq_true (by omega)
    clear hsz
    go_enter Try.func80, Try.ntmps80
    go_wp2
    go_ret
    exact ⟨ret_b HF.out.symm, rfl⟩
  have HF : Hid (madeB s.data.toList a.data.toList m = s.data.toList.all a.data.toList.contains) := Lib.hid (by unfold madeB; rw [decide_eq_true (by omega)]; rfl)
  have HY : Hid ((∀ j (h : j < s.size), a.data.toList.contains s[j] = true) → s.data.toList.all a.data.toList.contains = true) := Lib.hid (by
    intro h
    rw [List.all_eq_true]
    intro x hx
    obtain ⟨j, hj, rfl⟩ := List.getElem_of_mem hx
    exact h j (by omega))
  have HN : Hid (∀ j (h : j < s.size), a.data.toList.contains s[j] = false → s.data.toList.all a.data.toList.contains = false) := Lib.hid (by
    intro j h e
    rw [List.all_eq_false]
    refine ⟨s.data.toList[j]'(by omega), List.getElem_mem _, ?_⟩
    have e2 : s.data.toList[j]'(by omega) = s[j] := rfl
    rw [e2, e]; simp)
  have h2 : s.size ≤ 100 := by omega
  clear hsz
  go_enter Try.func80, Try.ntmps80
  go_wp2
  go_loopw [7] (fun i wr => ∃ k : Nat, i = .int .i64 k ∧ k ≤ s.size ∧ wr = w ∧ Hid (∀ j (h : j < s.size), j < k → a.data.toList.contains s[j] = true)) (fun i _ => s.size - (intOf i).toNat)
  case atStart => exact ⟨0, rfl, by omega, rfl, Lib.hid fun j _ hj => by omega⟩
  case round =>
    obtain ⟨k, rfl, hk, rfl, HK⟩ := hrel
    by_cases hlt : k < s.size
    · obtain ⟨x, hx⟩ : ∃ x : UInt8, s[k]'hlt = x := ⟨_, rfl⟩
      have HI := Lib.hid (in_any x a ha)
      cases hxc : a.data.toList.contains x with
      | true =>
        rw [hxc] at HI
        have HX : Hid (a.data.toList.contains (s[k]'hlt) = true) := Lib.hid (by rw [hx]; exact hxc)
        clear hxc
        go_wp2_with fail
        refine (HI.out _).mono ?_
        rintro e w' ⟨rfl, rfl⟩
        go_wp2
        go_roundw
        case rel =>
          refine ⟨k + 1, by simp, by omega, (by first | rfl | trivial), Lib.hid fun j hj hjk => ?_⟩
          rcases Nat.lt_or_ge j k with h | h
          · exact HK.out j hj h
          · obtain rfl : j = k := by omega
            exact HX.out
        case measure => (try simp [intOf]); (try omega)
      | false =>
        rw [hxc] at HI
        have HX := Lib.hid (HN.out k hlt (by rw [hx]; exact hxc))
        clear hxc
        go_wp2_with fail
        refine (HI.out _).mono ?_
        rintro e w' ⟨rfl, rfl⟩
        go_wp2
        go_ret
        exact ⟨ret_b (by rw [HF.out, HX.out]), rfl⟩
    · obtain rfl : k = s.size := by omega
      have HX := Lib.hid (HY.out fun j hj => HK.out j hj hj)
      go_wp2
      go_ret
      exact ⟨ret_b (by rw [HF.out, HX.out]), rfl⟩
def nmA : ByteArray := { data := ([97, 98, 99, 100, 101, 102, 103, 104, 105, 106, 107, 108, 109, 110, 111, 112, 113, 114, 115, 116, 117, 118, 119, 120, 121, 122, 65, 66, 67, 68, 69, 70].append [71, 72, 73, 74, 75, 76, 77, 78, 79, 80, 81, 82, 83, 84, 85, 86, 87, 88, 89, 90, 48, 49, 50, 51, 52, 53, 54, 55, 56, 57, 45, 95, 46]).toArray }
def kyA : ByteArray := { data := ([97, 98, 99, 100, 101, 102, 103, 104, 105, 106, 107, 108, 109, 110, 111, 112, 113, 114, 115, 116, 117, 118, 119, 120, 121, 122, 65, 66, 67, 68, 69, 70, 71].append [72, 73, 74, 75, 76, 77, 78, 79, 80, 81, 82, 83, 84, 85, 86, 87, 88, 89, 90, 48, 49, 50, 51, 52, 53, 54, 55, 56, 57, 45, 95, 46, 47]).toArray }
theorem nm_tab : ∀ n, n < 256 → nmA.data.toList.contains (UInt8.ofNat n) = decide (wh n = 2) := by decide +kernel
theorem ky_tab : ∀ n, n < 256 → kyA.data.toList.contains (UInt8.ofNat n) = decide (1 ≤ wh n) := by decide +kernel
theorem nm_in : nmA.data.toList.contains = nmc := by
  funext c
  have := nm_tab c.toNat c.toNat_lt
  rw [UInt8.ofNat_toNat] at this
  exact this
theorem ky_in : kyA.data.toList.contains = kyc := by
  funext c
  have := ky_tab c.toNat c.toNat_lt
  rw [UInt8.ofNat_toNat] at this
  exact this
theorem madeK (s : ByteArray) (w : World) : Calls Try.prog 80 #[.string s, .string kyA, .int .i64 64] w fun e w' => e = .returned (.bool (prefB s.data.toList)) ∧ w = w' := by
  have h := made_any s kyA 64 (by decide) (by decide +kernel) w
  unfold madeB at h
  rw [ky_in] at h
  exact h
theorem rprefix_any (s : ByteArray) (w : World) : Calls Try.prog 84 #[.string s] w fun e w' => e = .returned (.bool (prefB s.data.toList)) ∧ w = w' := by
  have H := Lib.hid (madeK s)
  unfold kyA at H
  go_enter Try.func84, Try.ntmps84
  go_wp2_with fail
  refine (H.out _).mono ?_
  rintro e w' ⟨rfl, rfl⟩
  go_wp2
  go_ret
  exact ⟨rfl, rfl⟩
theorem rkey_any (s : ByteArray) (w : World) : Calls Try.prog 60 #[.string s] w fun e w' => e = .returned (.bool (keyB s.data.toList)) ∧ w = w' := by
  have H := Lib.hid (madeK s)
  unfold kyA at H
  have hsz := Lib.size_eq s
  by_cases h0 : s.size = 0
  · have HF : Hid (keyB s.data.toList = false) := Lib.hid (by unfold keyB; rw [decide_eq_false (by omega)]; rfl)
    have h1 : decide (0 < s.size) = false := decide_eq_false (by omega)
    clear hsz h0
    go_enter Try.func60, Try.ntmps60
    go_wp2
    go_ret
    exact ⟨ret_b HF.out.symm, rfl⟩
  · have HF : Hid (prefB s.data.toList = keyB s.data.toList) := Lib.hid (prefB_eq (by omega))
    have h1 : decide (0 < s.size) = true := decide_eq_true (by omega)
    have h2 : 0 < s.size := by omega
    clear hsz h0
    generalize prefB s.data.toList = b at *
    go_enter Try.func60, Try.ntmps60
    go_wp2_with fail
    refine (H.out _).mono ?_
    rintro e w' ⟨rfl, rfl⟩
    go_wp2
    go_ret
    exact ⟨ret_b HF.out, rfl⟩
theorem rbegins_any (s p : ByteArray) (w : World) : Calls Try.prog 47 #[.string s, .string p] w fun e w' => e = .returned (.bool (Lib.hasPrefix s.data.toList p.data.toList)) ∧ w = w' := by
  rw [← Lib.hasPrefix_of_take, ← Lib.size_eq, ← Lib.size_eq]
  go_enter Try.func47, Try.ntmps47
  go_wp2
  · rename_i h
    go_ret
    refine ⟨?_, rfl⟩
    show Ending.returned (Value.bool ((s.extract 0 p.size).toList == p.toList)) = _
    rw [Lib.extract_toList, Lib.toList_data]
    simp [h]
  · rename_i h
    go_ret
    refine ⟨?_, rfl⟩
    show Ending.returned (Value.bool false) = _
    simp [h]
end Go.Proofs.Ytbfkgbickjfcjaa
