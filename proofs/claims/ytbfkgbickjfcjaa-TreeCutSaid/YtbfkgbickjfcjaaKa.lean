/- Package keys: what a byte may be; names, keys, prefixes: the contracts of the program's functions. -/
import Derived.Test.YtbfkgbickjfcjaaProg
import Derived.Laws.BitsAllLaws
import Derived.RowKit
import Derived.IntWalk
import Derived.Lib.Strings
import Derived.Lib.Slices
import Derived.Lib.Walk
import Derived.Lib.Bytealg
import Derived.Lib.IndexLaws
import Derived.WalkKit
import Derived.WalkLawsBesides
import Derived.WalkSpells
import Derived.Deep.LoopGhost
import Derived.Lib.Hide
import Derived.Below
namespace Go.Proofs.Ytbfkgbickjfcjaa
set_option linter.unusedVariables false
set_option linter.unusedSimpArgs false
open Go Go.RowKit
set_option maxRecDepth 100000
set_option maxHeartbeats 1000000
theorem ret_b {a b : Bool} (h : a = b) : Ending.returned (.bool a) = .returned (.bool b) := by rw [h]
/-- What a byte may be: 2 in a name, 1 in a key alone, else 0. -/
def wh (n : Nat) : Nat := if 97 ≤ n ∧ n ≤ 122 ∨ 65 ≤ n ∧ n ≤ 90 ∨ 48 ≤ n ∧ n ≤ 57 ∨ n = 45 ∨ n = 95 ∨ n = 46 then 2 else if n = 47 then 1 else 0
theorem wh_two {n : Nat} (h : 97 ≤ n ∧ n ≤ 122 ∨ 65 ≤ n ∧ n ≤ 90 ∨ 48 ≤ n ∧ n ≤ 57 ∨ n = 45 ∨ n = 95 ∨ n = 46) : wh n = 2 := if_pos h
theorem what_n (n : Nat) (w : World) : Calls Try.prog 98 #[.int .u8 n] w fun e w' => e = .returned (.int .u8 (wh n : Nat)) ∧ w = w' := by
  go_enter Try.func98, Try.ntmps98
  go_wp2
  all_goals
    go_ret
    refine ⟨?_, rfl⟩
    simp only [beq_eq_false_iff_ne, beq_iff_eq, ne_eq] at *
    first
    | (rw [show wh n = 2 from wh_two (by omega)]; rfl)
    | (rw [show wh n = 1 from by unfold wh; rw [if_neg (by omega), if_pos (by omega)]]; rfl)
    | (rw [show wh n = 0 from by unfold wh; rw [if_neg (by omega), if_neg (by omega)]]; rfl)
def nmc (c : UInt8) : Bool := decide (wh c.toNat = 2)
def kyc (c : UInt8) : Bool := decide (1 ≤ wh c.toNat)
theorem wh_le (n : Nat) : wh n = 0 ∨ wh n = 1 ∨ wh n = 2 := by
  unfold wh
  split
  · exact .inr (.inr rfl)
  · split
    · exact .inr (.inl rfl)
    · exact .inl rfl
theorem kyc_nmc {c : UInt8} (h : nmc c = true) : kyc c = true := by
  unfold nmc at h; unfold kyc; simp only [decide_eq_true_eq] at *; omega
theorem ret_bb {a b c d : Bool} (h : a = b) (k : c = d) : Ending.returned (.tuple #[.bool a, .bool c]) = .returned (.tuple #[.bool b, .bool d]) := by rw [h, k]
theorem stands_any (c : UInt8) (w : World) : Calls Try.prog 92 #[.int .u8 c.toNat] w fun e w' => e = .returned (.tuple #[.bool (nmc c), .bool (kyc c)]) ∧ w = w' := by
  have H := Lib.hid (what_n c.toNat w)
  unfold nmc kyc
  rcases wh_le c.toNat with e | e | e <;> rw [e] at H ⊢ <;> clear e
  all_goals
    go_enter Try.func92, Try.ntmps92
    go_wp2_with (go_at_call 98; refine H.out.mono ?_; rintro e w' ⟨rfl, rfl⟩)
    go_ret2
    exact ⟨rfl, rfl⟩
def allN (l : List UInt8) : Bool := l.all nmc
def allK (l : List UInt8) : Bool := l.all kyc
theorem all_step {f : UInt8 → Bool} {s : ByteArray} {k : Nat} (h : k < s.size) : (s.data.toList.take (k + 1)).all f = ((s.data.toList.take k).all f && f (s[k]'h)) := by
  have hk : k < s.data.toList.length := by rw [← Lib.size_eq]; exact h
  rw [List.take_succ_eq_append_getElem hk, List.all_append]
  simp only [List.all_cons, List.all_nil, Bool.and_true]
  rfl
theorem all_any (s : ByteArray) (hs : s.size ≤ 64) (w : World) : Calls Try.prog 78 #[.string s] w fun e w' => e = .returned (.tuple #[.bool (allN s.data.toList), .bool (allK s.data.toList)]) ∧ w = w' := by
  have HE : Hid (∀ k, k = s.size → s.data.toList.take k = s.data.toList) := Lib.hid fun k hk => List.take_of_length_le (by rw [← Lib.size_eq]; omega)
  go_enter Try.func78, Try.ntmps78
  go_wp2
  go_loopw [9, 2, 3] (fun i p q wr => ∃ k : Nat, ∃ a b : Bool, i = .int .i64 k ∧ p = .bool a ∧ q = .bool b ∧ k ≤ s.size ∧ wr = w ∧ Hid (a = (s.data.toList.take k).all nmc) ∧ Hid (b = (s.data.toList.take k).all kyc)) (fun i _ _ _ => s.size - (intOf i).toNat)
  case atStart => exact ⟨0, true, true, rfl, rfl, rfl, by omega, rfl, Lib.hid rfl, Lib.hid rfl⟩
  case round =>
    obtain ⟨k, a, b, rfl, rfl, rfl, hk, rfl, HA, HB⟩ := hrel
    by_cases hlt : k < s.size
    · obtain ⟨x, hx⟩ : ∃ x : UInt8, s[k]'hlt = x := ⟨_, rfl⟩
      have HS := stands_any x
      have HA2 := Lib.hid (all_step (f := nmc) hlt)
      have HB2 := Lib.hid (all_step (f := kyc) hlt)
      rw [hx] at HA2 HB2
      rw [← HA.out] at HA2
      rw [← HB.out] at HB2
      generalize nmc x = p at HS HA2
      generalize kyc x = q at HS HB2
      clear HA HB
      cases a <;> cases b
      all_goals
        go_wp2_with (go_at_call 92; refine (HS _).mono ?_; rintro e w' ⟨rfl, rfl⟩)
        go_roundw
        case rel => exact ⟨k + 1, _, _, by simp, rfl, rfl, by omega, (by first | rfl | trivial), Lib.hid (by rw [HA2.out]; rfl), Lib.hid (by rw [HB2.out]; rfl)⟩
        case measure => (try simp [intOf]); (try omega)
    · obtain rfl : k = s.size := by omega
      go_wp2
      go_ret2
      exact ⟨ret_bb (by rw [HA.out, HE.out _ rfl]; rfl) (by rw [HB.out, HE.out _ rfl]; rfl), rfl⟩
theorem emp_t {s : ByteArray} (h : s.size = 0) : s.toList.isEmpty = true := by
  rw [Lib.toList_data, List.isEmpty_iff, ← List.length_eq_zero_iff, ← Lib.size_eq]; exact h
theorem emp_f {s : ByteArray} (h : s.size ≠ 0) : s.toList.isEmpty = false := by
  rw [Lib.toList_data, List.isEmpty_eq_false_iff]
  intro e
  apply h
  rw [Lib.size_eq, e]; rfl
def nameB (l : List UInt8) : Bool := decide (0 < l.length) && decide (l.length ≤ 24) && allN l
def keyB (l : List UInt8) : Bool := decide (0 < l.length) && decide (l.length ≤ 64) && allK l
def prefB (l : List UInt8) : Bool := decide (l.length ≤ 64) && allK l
theorem key_any (s : ByteArray) (w : World) : Calls Try.prog 56 #[.string s] w fun e w' => e = .returned (.bool (keyB s.data.toList)) ∧ w = w' := by
  have hsz := Lib.size_eq s
  by_cases h0 : s.size = 0
  · have he := emp_t h0
    rw [show keyB s.data.toList = false from by unfold keyB; rw [decide_eq_false (by omega)]; rfl]
    clear hsz h0
    go_enter Try.func56, Try.ntmps56
    go_wp2
    go_ret
    exact ⟨rfl, rfl⟩
  have he := emp_f h0
  by_cases h1 : 64 < s.size
  · rw [show keyB s.data.toList = false from by unfold keyB; rw [decide_eq_false (p := _ ≤ 64) (by omega), Bool.and_false]; rfl]
    have h1' : decide ((64 : Int) < (s.size : Int)) = true := decide_eq_true (by omega)
    clear hsz h0
    go_enter Try.func56, Try.ntmps56
    go_wp2
    go_ret
    exact ⟨rfl, rfl⟩
  have h1' : decide ((64 : Int) < (s.size : Int)) = false := decide_eq_false (by omega)
  rw [show keyB s.data.toList = allK s.data.toList from by unfold keyB; rw [decide_eq_true (p := _ ≤ 64) (by omega), decide_eq_true (by omega)]; rfl]
  have HA := Lib.hid (all_any s (by omega))
  clear hsz h0 h1
  go_enter Try.func56, Try.ntmps56
  go_wp2_with (go_at_call 78; refine (HA.out _).mono ?_; rintro e w' ⟨rfl, rfl⟩)
  go_ret
  exact ⟨rfl, rfl⟩
theorem prefB_eq {l : List UInt8} (h : l.length ≠ 0) : prefB l = keyB l := by
  unfold prefB keyB; rw [decide_eq_true (p := 0 < _) (by omega)]; rfl
theorem prefix_any (s : ByteArray) (w : World) : Calls Try.prog 70 #[.string s] w fun e w' => e = .returned (.bool (prefB s.data.toList)) ∧ w = w' := by
  have hsz := Lib.size_eq s
  by_cases h0 : s.size = 0
  · have he := emp_t h0
    rw [show prefB s.data.toList = true from by rw [List.eq_nil_of_length_eq_zero (l := s.data.toList) (by omega)]; rfl]
    clear hsz h0
    go_enter Try.func70, Try.ntmps70
    go_wp2
    go_ret
    exact ⟨rfl, rfl⟩
  have he := emp_f h0
  rw [prefB_eq (by omega)]
  have HK := Lib.hid (key_any s)
  clear hsz h0
  go_enter Try.func70, Try.ntmps70
  go_wp2_with (go_at_call 56; refine (HK.out _).mono ?_; rintro e w' ⟨rfl, rfl⟩)
  go_ret
  exact ⟨rfl, rfl⟩
theorem hasPre_any (s p : ByteArray) (w : World) : Calls Try.prog 96 #[.string s, .string p] w fun e w' => e = .returned (.bool (Lib.hasPrefix s.data.toList p.data.toList)) ∧ w = w' := by
  rw [← Lib.hasPrefix_of_take, ← Lib.size_eq, ← Lib.size_eq]
  go_enter Try.func96, Try.ntmps96
  go_wp2
  · rename_i h
    go_ret
    refine ⟨?_, rfl⟩
    show Ending.returned (Value.bool ((s.extract 0 p.size).toList == p.toList)) = _
    rw [Lib.extract_toList, Lib.toList_data]
    simp [h]
  · rename_i h
    go_ret
    refine ⟨?_, rfl⟩
    show Ending.returned (Value.bool false) = _
    simp [h]
theorem hasPre31_any (s p : ByteArray) (w : World) : Calls Try.prog 88 #[.string s, .string p] w fun e w' => e = .returned (.bool (Lib.hasPrefix s.data.toList p.data.toList)) ∧ w = w' := by
  have H := Lib.hid (hasPre_any s p)
  go_enter Try.func88, Try.ntmps88
  go_wp2_with (go_at_call 96; refine (H.out _).mono ?_; rintro e w' ⟨rfl, rfl⟩)
  go_ret
  exact ⟨rfl, rfl⟩
theorem begins_any (s p : ByteArray) (w : World) : Calls Try.prog 74 #[.string s, .string p] w fun e w' => e = .returned (.bool (Lib.hasPrefix s.data.toList p.data.toList)) ∧ w = w' := by
  have H := Lib.hid (hasPre31_any s p)
  go_enter Try.func74, Try.ntmps74
  go_wp2_with (go_at_call 88; refine (H.out _).mono ?_; rintro e w' ⟨rfl, rfl⟩)
  go_ret
  exact ⟨rfl, rfl⟩
def clsB (t : ByteArray) : ByteArray := if nameB t.data.toList then ⟨#[99, 47]⟩ ++ t ++ ⟨#[47]⟩ else ⟨#[]⟩
def tenB (t : ByteArray) : ByteArray := if nameB t.data.toList then ⟨#[116, 47]⟩ ++ t else ⟨#[]⟩
def cluB (t c : ByteArray) : ByteArray := if nameB t.data.toList && nameB c.data.toList then ⟨#[99, 47]⟩ ++ t ++ ⟨#[47]⟩ ++ c else ⟨#[]⟩
theorem ret_s {a b : ByteArray} (h : a = b) : Ending.returned (.string a) = .returned (.string b) := by rw [h]
end Go.Proofs.Ytbfkgbickjfcjaa
