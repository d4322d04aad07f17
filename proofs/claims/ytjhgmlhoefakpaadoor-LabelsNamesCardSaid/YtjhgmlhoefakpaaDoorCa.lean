/- The contracts of MayName, the program's and the document's. -/
import Derived.Test.YtjhgmlhoefakpaaDoorPd
import Derived.Test.YtjhgmlhoefakpaaDoorBu
import Derived.Deep.LoopGhost
import Derived.WalkSpells
namespace Go.Proofs.YtjhgmlhoefakpaaDoor
open Go.RowKit
set_option maxRecDepth 100000
set_option maxHeartbeats 400000
theorem ret_b {a b : Bool} (h : a = b) : Ending.returned (.bool a) = .returned (.bool b) := by rw [h]
theorem isDg_n (n : Nat) (w : World) : Calls Tryd.prog 40 #[.int .u8 n] w fun e w' => e = .returned (.bool (decide (48 ≤ n ∧ n ≤ 57))) ∧ w = w' := by
  by_cases h1 : 48 ≤ n
  · go_enter Tryd.func40, Tryd.ntmps40
    go_wp2
    go_ret
    exact ⟨ret_b (by by_cases h2 : n ≤ 57 <;> simp [h1, h2] <;> omega), rfl⟩
  · go_enter Tryd.func40, Tryd.ntmps40
    go_wp2
    go_ret
    exact ⟨ret_b (by simp [h1]), rfl⟩
theorem isDg_any (c : UInt8) (w : World) : Calls Tryd.prog 40 #[.int .u8 c.toNat] w fun e w' => e = .returned (.bool (isDg c)) ∧ w = w' := isDg_n c.toNat w
theorem isLt_n (n : Nat) (w : World) : Calls Tryd.prog 41 #[.int .u8 n] w fun e w' => e = .returned (.bool (decide (97 ≤ n ∧ n ≤ 122 ∨ 65 ≤ n ∧ n ≤ 90 ∨ n = 95))) ∧ w = w' := by
  by_cases h1 : 97 ≤ n ∧ n ≤ 122
  · have g1 := h1.1
    have g2 := h1.2
    go_enter Tryd.func41, Tryd.ntmps41
    go_wp2
    go_ret
    exact ⟨ret_b (by first | rfl | (rw [decide_eq_true (p := _ ∨ _) (.inl h1)]; done)), rfl⟩
  · by_cases h2 : 65 ≤ n ∧ n ≤ 90
    · have g1 := h2.1
      have g2 := h2.2
      clear h1
      go_enter Tryd.func41, Tryd.ntmps41
      go_wp2
      go_ret
      exact ⟨ret_b (by first | rfl | (rw [decide_eq_true (p := _ ∨ _) (.inr (.inl h2))]; done)), rfl⟩
    · by_cases h3 : n = 95
      · subst h3
        go_enter Tryd.func41, Tryd.ntmps41
        go_wp2
        go_ret
        exact ⟨rfl, rfl⟩
      · rw [decide_eq_false (by omega)]
        have h3z : ((n : Int) == 95) = false := beq_eq_false_iff_ne.2 (by omega)
        by_cases g1 : 97 ≤ n
        · have g2 : ¬ n ≤ 122 := by omega
          have g3 : ¬ n ≤ 90 := by omega
          have g4 : 65 ≤ n := by omega
          clear h1 h2 h3
          go_enter Tryd.func41, Tryd.ntmps41
          go_wp2
          go_ret
          exact ⟨ret_b (by first | rfl | exact h3z | simp_all), rfl⟩
        · clear h1
          by_cases g3 : 65 ≤ n
          · have g4 : ¬ n ≤ 90 := by omega
            clear h2 h3
            go_enter Tryd.func41, Tryd.ntmps41
            go_wp2
            go_ret
            exact ⟨ret_b (by first | rfl | exact h3z | simp_all), rfl⟩
          · clear h2 h3
            go_enter Tryd.func41, Tryd.ntmps41
            go_wp2
            go_ret
            exact ⟨ret_b (by first | rfl | exact h3z | simp_all), rfl⟩
theorem isLt_any (c : UInt8) (w : World) : Calls Tryd.prog 41 #[.int .u8 c.toNat] w fun e w' => e = .returned (.bool (isLt c)) ∧ w = w' := isLt_n c.toNat w
theorem mayN_cons (c : UInt8) (r : List UInt8) : mayN (c :: r) = (decide (r.length ≤ 63) && !isDg c && (c :: r).all fun c => isDg c || isLt c) := rfl
def nmB (c : UInt8) : Bool := isDg c || isLt c
theorem mayN_short {l : List UInt8} (h : l.length = 0 ∨ 64 < l.length) : mayN l = false := by
  cases l with
  | nil => rfl
  | cons c r =>
    simp only [List.length_cons] at h
    rw [mayN_cons, decide_eq_false (by omega)]; rfl
theorem mayN_dg {l : List UInt8} (h : 0 < l.length) (hd : isDg l[0] = true) : mayN l = false := by
  cases l with
  | nil => rfl
  | cons c r => simp only [List.getElem_cons_zero] at hd; rw [mayN_cons, hd]; simp
theorem mayN_no {l : List UInt8} (j : Nat) (h : j < l.length) (hd : nmB l[j] = false) : mayN l = false := by
  have hm : l[j] ∈ l := List.getElem_mem h
  cases hh : mayN l with
  | false => rfl
  | true =>
    have := mayN_all hh _ hm
    unfold nmB at hd
    rcases this with e | e <;> rw [e] at hd <;> simp at hd
theorem mayN_yes {l : List UInt8} (h : 0 < l.length) (h1 : l.length ≤ 64) (hd : isDg l[0] = false) (ha : ∀ j (h : j < l.length), nmB l[j] = true) : mayN l = true := by
  cases l with
  | nil => simp at h
  | cons c r =>
    simp only [List.getElem_cons_zero] at hd
    simp only [List.length_cons] at h1
    rw [mayN_cons, hd, decide_eq_true (by omega)]
    simp only [Bool.not_false, Bool.and_true, Bool.true_and, List.all_eq_true]
    intro x hx
    obtain ⟨j, hj, rfl⟩ := List.getElem_of_mem hx
    exact ha j hj
theorem emp_t {s : ByteArray} (h : s.size = 0) : s.toList.isEmpty = true := by
  rw [Lib.toList_data, List.isEmpty_iff, ← List.length_eq_zero_iff, ← Lib.size_eq]; exact h
theorem emp_f {s : ByteArray} (h : s.size ≠ 0) : s.toList.isEmpty = false := by
  rw [Lib.toList_data, List.isEmpty_eq_false_iff]
  intro e
  apply h
  rw [Lib.size_eq, e]; rfl
theorem el_at (s : ByteArray) (k : Nat) (h : k < s.size) : s.data.toList[k]'(by rw [← Lib.size_eq]; exact h) = s[k] := rfl
theorem mayN_any (s : ByteArray) (w : World) : Calls Tryd.prog 14 #[.string s] w fun e w' => e = .returned (.bool (mayN s.data.toList)) ∧ w = w' := by
  have hsz := Lib.size_eq s
  by_cases h0 : s.size = 0
  · have he := emp_t h0
    rw [mayN_short (.inl (by omega))]
    clear hsz h0
    go_enter Tryd.func14, Tryd.ntmps14
    go_wp2
    go_ret
    exact ⟨rfl, rfl⟩
  have he := emp_f h0
  by_cases h1 : 64 < s.size
  · rw [mayN_short (.inr (by omega))]
    have h1' : decide ((64 : Int) < (s.size : Int)) = true := decide_eq_true (by omega)
    clear hsz h0
    go_enter Tryd.func14, Tryd.ntmps14
    go_wp2
    go_ret
    exact ⟨rfl, rfl⟩
  have hp : 0 < s.size := by omega
  obtain ⟨c, hc⟩ : ∃ c : UInt8, s[0]'hp = c := ⟨_, rfl⟩
  have HC := isDg_any c
  cases hd : isDg c with
  | true =>
    rw [mayN_dg (l := s.data.toList) (by omega) (by rw [el_at s 0 hp, hc]; exact hd)]
    rw [hd] at HC
    clear hsz h0 hd
    go_enter Tryd.func14, Tryd.ntmps14
    go_wp2_with (go_at_call 40; refine (HC _).mono ?_; rintro e w' ⟨rfl, rfl⟩)
    go_ret
    exact ⟨rfl, rfl⟩
  | false =>
    have HY := Lib.hid fun ha => mayN_yes (l := s.data.toList) (by omega) (by omega) (by rw [el_at s 0 hp, hc]; exact hd) ha
    have HD := Lib.hid hd
    rw [hd] at HC
    clear hsz h0 hd
    go_enter Tryd.func14, Tryd.ntmps14
    go_wp2_with (go_at_call 40; refine (HC _).mono ?_; rintro e w' ⟨rfl, rfl⟩)
    clear HC hc
    go_loopw [18] (fun i wr => ∃ k : Nat, i = .int .i64 k ∧ k ≤ s.size ∧ wr = w ∧ Hid (∀ j (h : j < s.size), j < k → nmB s[j] = true)) (fun i _ => s.size - (intOf i).toNat)
    case atStart => exact ⟨0, rfl, by omega, rfl, Lib.hid fun j _ hj => by omega⟩
    case round =>
      obtain ⟨k, rfl, hk, rfl, HK⟩ := hrel
      by_cases hlt : k < s.size
      · obtain ⟨x, hx⟩ : ∃ x : UInt8, s[k]'hlt = x := ⟨_, rfl⟩
        have HX := Lib.hid hx
        have HA := isDg_any x
        have HB := isLt_any x
        have HN : Hid (nmB x = (isDg x || isLt x)) := Lib.hid rfl
        generalize isDg x = p at HA HN
        generalize isLt x = q at HB HN
        cases p with
        | true =>
          go_wp2_with (first | (go_at_call 40; refine (HA _).mono ?_; rintro e w' ⟨rfl, rfl⟩) | (go_at_call 41; refine (HB _).mono ?_; rintro e w' ⟨rfl, rfl⟩))
          go_roundw
          case rel =>
            refine ⟨k + 1, by simp, by omega, (by first | rfl | trivial), Lib.hid fun j hj hjk => ?_⟩
            rcases Nat.lt_or_ge j k with h | h
            · exact HK.out j hj h
            · obtain rfl : j = k := by omega
              rw [HX.out, HN.out]; rfl
          case measure => (try simp [intOf]); (try omega)
        | false =>
          cases q with
          | true =>
            go_wp2_with (first | (go_at_call 40; refine (HA _).mono ?_; rintro e w' ⟨rfl, rfl⟩) | (go_at_call 41; refine (HB _).mono ?_; rintro e w' ⟨rfl, rfl⟩))
            go_roundw
            case rel =>
              refine ⟨k + 1, by simp, by omega, (by first | rfl | trivial), Lib.hid fun j hj hjk => ?_⟩
              rcases Nat.lt_or_ge j k with h | h
              · exact HK.out j hj h
              · obtain rfl : j = k := by omega
                rw [HX.out, HN.out]; rfl
            case measure => (try simp [intOf]); (try omega)
          | false =>
            go_wp2_with (first | (go_at_call 40; refine (HA _).mono ?_; rintro e w' ⟨rfl, rfl⟩) | (go_at_call 41; refine (HB _).mono ?_; rintro e w' ⟨rfl, rfl⟩))
            go_ret
            exact ⟨ret_b (mayN_no k (by rw [← Lib.size_eq]; exact hlt) (by rw [el_at s k hlt, HX.out, HN.out]; rfl)).symm, rfl⟩
      · obtain rfl : k = s.size := by omega
        go_wp2
        go_ret
        exact ⟨ret_b (HY.out fun j hj => HK.out j (by rw [Lib.size_eq]; exact hj) (by rw [Lib.size_eq]; exact hj)).symm, rfl⟩
end Go.Proofs.YtjhgmlhoefakpaaDoor
