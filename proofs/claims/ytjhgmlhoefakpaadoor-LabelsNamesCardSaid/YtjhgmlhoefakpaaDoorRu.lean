/- The contract of the document's Rune. -/
import Derived.Test.YtjhgmlhoefakpaaDoorCa
namespace Go.Proofs.YtjhgmlhoefakpaaDoor
open Go.RowKit
set_option maxRecDepth 100000
set_option maxHeartbeats 400000
/-- The rune's number, byte by byte. -/
def cv (base : Nat) (l : List UInt8) : Nat → Nat
  | 0 => (l.getD 0 0).toNat - base
  | i + 1 => cv base l i * 64 + ((l.getD (i + 1) 0).toNat - 128)
theorem rn_low {l : List UInt8} (h : l ≠ []) (h1 : (l.getD 0 0).toNat < 128) : rn l = ((l.getD 0 0).toNat, 1) := by
  unfold rn
  rw [if_neg h, Lib.decodeL_N]
  unfold Lib.decodeN
  rw [if_pos h1, if_neg (by simp only; omega)]
theorem rn_mid {l : List UInt8} (h1 : 128 ≤ (l.getD 0 0).toNat) (h2 : (l.getD 0 0).toNat < 192 ∨ 248 ≤ (l.getD 0 0).toNat) : rn l = (0, 0) := by
  unfold rn
  split
  · rfl
  · have hb := UInt8.toNat_lt (l.getD 0 0)
    rw [Lib.decodeL_N]
    unfold Lib.decodeN
    generalize (l.getD 0 0).toNat = a at *
    rw [if_neg (c := a < 128) (by omega), if_neg (c := a / 32 = 6 ∧ _) (by omega), if_neg (c := a / 16 = 14 ∧ _) (by omega), if_neg (c := a / 8 = 30 ∧ _) (by omega), if_pos (by simp)]
abbrev Ct (l : List UInt8) (j : Nat) : Prop := 128 ≤ (l.getD j 0).toNat ∧ (l.getD j 0).toNat < 192
def dec (d : Nat × Nat) : Nat × Nat := if d.1 = 65533 ∧ d.2 = 1 then (0, 0) else d
theorem dec_bad : dec (65533, 1) = (0, 0) := rfl
theorem dec_ok {c k : Nat} (h : k ≠ 1) : dec (c, k) = (c, k) := by unfold dec; rw [if_neg]; simp only; omega
theorem dec_two (n a b x y : Nat) (h0 : 192 ≤ a) (h1 : a < 224) : dec (Lib.decodeN n a b x y) = if 2 ≤ n ∧ (128 ≤ b ∧ b < 192) ∧ 128 ≤ (a - 192) * 64 + (b - 128) then ((a - 192) * 64 + (b - 128), 2) else (0, 0) := by
  unfold Lib.decodeN
  rw [if_neg (c := a < 128) (by omega)]
  by_cases c1 : 1 < n ∧ b / 64 = 2
  · rw [if_pos (c := a / 32 = 6 ∧ _) ⟨by omega, c1⟩]
    by_cases c2 : a % 32 * 64 + b % 64 ≥ 128
    · rw [if_pos c2, if_pos (by omega), dec_ok (by omega)]
      congr 1
      omega
    · rw [if_neg c2, dec_bad, if_neg (by omega)]
  · rw [if_neg (c := a / 32 = 6 ∧ _) (by omega), if_neg (c := a / 16 = 14 ∧ _) (by omega), if_neg (c := a / 8 = 30 ∧ _) (by omega), dec_bad, if_neg (by omega)]
theorem dec_three (n a b d y : Nat) (h0 : 224 ≤ a) (h1 : a < 240) : dec (Lib.decodeN n a b d y) = if 3 ≤ n ∧ (128 ≤ b ∧ b < 192) ∧ (128 ≤ d ∧ d < 192) ∧ 2048 ≤ ((a - 224) * 64 + (b - 128)) * 64 + (d - 128) ∧ ¬ (55296 ≤ ((a - 224) * 64 + (b - 128)) * 64 + (d - 128) ∧ ((a - 224) * 64 + (b - 128)) * 64 + (d - 128) ≤ 57343) then (((a - 224) * 64 + (b - 128)) * 64 + (d - 128), 3) else (0, 0) := by
  unfold Lib.decodeN
  rw [if_neg (c := a < 128) (by omega), if_neg (c := a / 32 = 6 ∧ _) (by omega)]
  by_cases c1 : (1 < n ∧ b / 64 = 2) ∧ (2 < n ∧ d / 64 = 2)
  · rw [if_pos (c := a / 16 = 14 ∧ _) ⟨by omega, c1⟩]
    have hc' : ((a - 224) * 64 + (b - 128)) * 64 + (d - 128) = a % 16 * 4096 + b % 64 * 64 + d % 64 := by omega
    rw [hc']
    generalize a % 16 * 4096 + b % 64 * 64 + d % 64 = c at *
    by_cases c2 : c ≥ 2048 ∧ (c < 55296 ∨ (57344 ≤ c ∧ c ≤ 1114111))
    · rw [if_pos c2, if_pos (by omega), dec_ok (by omega)]
    · rw [if_neg c2, dec_bad, if_neg (by omega)]
  · rw [if_neg (c := a / 16 = 14 ∧ _) (by omega), if_neg (c := a / 8 = 30 ∧ _) (by omega), dec_bad, if_neg (by omega)]
theorem dec_four (n a b d f : Nat) (h0 : 240 ≤ a) (h1 : a < 248) : dec (Lib.decodeN n a b d f) = if 4 ≤ n ∧ (128 ≤ b ∧ b < 192) ∧ (128 ≤ d ∧ d < 192) ∧ (128 ≤ f ∧ f < 192) ∧ 65536 ≤ (((a - 240) * 64 + (b - 128)) * 64 + (d - 128)) * 64 + (f - 128) ∧ (((a - 240) * 64 + (b - 128)) * 64 + (d - 128)) * 64 + (f - 128) ≤ 1114111 then ((((a - 240) * 64 + (b - 128)) * 64 + (d - 128)) * 64 + (f - 128), 4) else (0, 0) := by
  unfold Lib.decodeN
  rw [if_neg (c := a < 128) (by omega), if_neg (c := a / 32 = 6 ∧ _) (by omega), if_neg (c := a / 16 = 14 ∧ _) (by omega)]
  by_cases c1 : (1 < n ∧ b / 64 = 2) ∧ (2 < n ∧ d / 64 = 2) ∧ (3 < n ∧ f / 64 = 2)
  · rw [if_pos (c := a / 8 = 30 ∧ _) ⟨by omega, c1⟩]
    have hc' : (((a - 240) * 64 + (b - 128)) * 64 + (d - 128)) * 64 + (f - 128) = a % 8 * 262144 + b % 64 * 4096 + d % 64 * 64 + f % 64 := by omega
    rw [hc']
    generalize a % 8 * 262144 + b % 64 * 4096 + d % 64 * 64 + f % 64 = c at *
    by_cases c2 : c ≥ 65536 ∧ (c < 55296 ∨ (57344 ≤ c ∧ c ≤ 1114111))
    · rw [if_pos c2, if_pos (by omega), dec_ok (by omega)]
    · rw [if_neg c2, dec_bad, if_neg (by omega)]
  · rw [if_neg (c := a / 8 = 30 ∧ _) (by omega), dec_bad, if_neg (by omega)]
theorem rn_dec {l : List UInt8} (h : l ≠ []) : rn l = dec (Lib.decodeN l.length (l.getD 0 0).toNat (l.getD 1 0).toNat (l.getD 2 0).toNat (l.getD 3 0).toNat) := by
  unfold rn
  rw [if_neg h, Lib.decodeL_N]; rfl
theorem rn_two {l : List UInt8} (h0 : 192 ≤ (l.getD 0 0).toNat) (h1 : (l.getD 0 0).toNat < 224) : rn l = if 2 ≤ l.length ∧ Ct l 1 ∧ 128 ≤ cv 192 l 1 then (cv 192 l 1, 2) else (0, 0) := by
  rw [rn_dec (by rintro rfl; simp at h0)]
  exact dec_two _ _ _ _ _ h0 h1
theorem rn_three {l : List UInt8} (h0 : 224 ≤ (l.getD 0 0).toNat) (h1 : (l.getD 0 0).toNat < 240) : rn l = if 3 ≤ l.length ∧ Ct l 1 ∧ Ct l 2 ∧ 2048 ≤ cv 224 l 2 ∧ ¬ (55296 ≤ cv 224 l 2 ∧ cv 224 l 2 ≤ 57343) then (cv 224 l 2, 3) else (0, 0) := by
  rw [rn_dec (by rintro rfl; simp at h0)]
  exact dec_three _ _ _ _ _ h0 h1
theorem rn_four {l : List UInt8} (h0 : 240 ≤ (l.getD 0 0).toNat) (h1 : (l.getD 0 0).toNat < 248) : rn l = if 4 ≤ l.length ∧ Ct l 1 ∧ Ct l 2 ∧ Ct l 3 ∧ 65536 ≤ cv 240 l 3 ∧ cv 240 l 3 ≤ 1114111 then (cv 240 l 3, 4) else (0, 0) := by
  rw [rn_dec (by rintro rfl; simp at h0)]
  exact dec_four _ _ _ _ _ h0 h1
theorem nct_two {l : List UInt8} {k : Nat} (h1 : 1 ≤ k) (h2 : k ≤ 1) (hno : ¬ Ct l k) : ¬ (2 ≤ l.length ∧ Ct l 1 ∧ 128 ≤ cv 192 l 1) := by
  intro h
  obtain rfl : k = 1 := by omega
  exact hno h.2.1
theorem nct_three {l : List UInt8} {k : Nat} (h1 : 1 ≤ k) (h2 : k ≤ 2) (hno : ¬ Ct l k) : ¬ (3 ≤ l.length ∧ Ct l 1 ∧ Ct l 2 ∧ 2048 ≤ cv 224 l 2 ∧ ¬ (55296 ≤ cv 224 l 2 ∧ cv 224 l 2 ≤ 57343)) := by
  intro h
  rcases (show k = 1 ∨ k = 2 by omega) with rfl | rfl
  · exact hno h.2.1
  · exact hno h.2.2.1
theorem nct_four {l : List UInt8} {k : Nat} (h1 : 1 ≤ k) (h2 : k ≤ 3) (hno : ¬ Ct l k) : ¬ (4 ≤ l.length ∧ Ct l 1 ∧ Ct l 2 ∧ Ct l 3 ∧ 65536 ≤ cv 240 l 3 ∧ cv 240 l 3 ≤ 1114111) := by
  intro h
  rcases (show k = 1 ∨ k = 2 ∨ k = 3 by omega) with rfl | rfl | rfl
  · exact hno h.2.1
  · exact hno h.2.2.1
  · exact hno h.2.2.2.1
/-- What Rune tells. -/
def rnRet (p : Nat × Nat) : Ending := .returned (.tuple #[.int .i64 p.1, .int .i64 p.2])
theorem cv_lt {base : Nat} {l : List UInt8} (h : (l.getD 0 0).toNat - base < 32) : ∀ i, (∀ j, 1 ≤ j → j ≤ i → Ct l j) → cv base l i < 32 * 64 ^ i
  | 0, _ => by simpa [cv] using h
  | i + 1, hj => by
    have ih := cv_lt h i (fun j h1 h2 => hj j h1 (by omega))
    have h1 := hj (i + 1) (by omega) (Nat.le_refl _)
    unfold Ct at h1
    rw [cv, Nat.pow_succ]
    omega
theorem getD_at (s : ByteArray) (k : Nat) (h : k < s.size) : s.data.toList.getD k 0 = s[k] := by
  rw [List.getD_eq_getElem?_getD, List.getElem?_eq_getElem (by rw [← Lib.size_eq]; exact h), el_at s k h]; rfl
theorem rune_low (s : ByteArray) (w : World) (hp : 0 < s.size) (h1 : (s[0]'hp).toNat < 128) : Calls Tryd.prog 50 #[.string s] w fun e w' => e = rnRet (rn s.data.toList) ∧ w = w' := by
  have he := emp_f (s := s) (by omega)
  rw [rn_low (fun h => by have := Lib.size_eq s; rw [h, List.length_nil] at this; omega) (by rw [getD_at s 0 hp]; exact h1), getD_at s 0 hp]
  obtain ⟨x, hx⟩ : ∃ x : UInt8, s[0]'hp = x := ⟨_, rfl⟩
  rw [hx] at h1 ⊢
  have hxb : x.toNat < 256 := UInt8.toNat_lt x
  generalize hX : x.toNat = X at *
  go_enter Tryd.func50, Tryd.ntmps50
  go_wp2
  go_ret2
  exact ⟨rfl, rfl⟩
theorem rune_mid (s : ByteArray) (w : World) (hp : 0 < s.size) (h1 : 128 ≤ (s[0]'hp).toNat) (h2 : (s[0]'hp).toNat < 192 ∨ 248 ≤ (s[0]'hp).toNat) : Calls Tryd.prog 50 #[.string s] w fun e w' => e = rnRet (rn s.data.toList) ∧ w = w' := by
  have he := emp_f (s := s) (by omega)
  rw [rn_mid (by rw [getD_at s 0 hp]; exact h1) (by rw [getD_at s 0 hp]; exact h2)]
  obtain ⟨x, hx⟩ : ∃ x : UInt8, s[0]'hp = x := ⟨_, rfl⟩
  rw [hx] at h1 h2
  have hxb : x.toNat < 256 := UInt8.toNat_lt x
  generalize hX : x.toNat = X at *
  rcases h2 with h2 | h2
  · go_enter Tryd.func50, Tryd.ntmps50
    go_wp2
    go_ret2
    exact ⟨rfl, rfl⟩
  · go_enter Tryd.func50, Tryd.ntmps50
    go_wp2
    go_ret2
    exact ⟨rfl, rfl⟩
theorem rune_nil (s : ByteArray) (w : World) (hp : s.size = 0) : Calls Tryd.prog 50 #[.string s] w fun e w' => e = rnRet (rn s.data.toList) ∧ w = w' := by
  have he := emp_t hp
  have hn : s.data.toList = [] := List.length_eq_zero_iff.1 (by rw [← Lib.size_eq]; exact hp)
  rw [hn]
  clear hn
  go_enter Tryd.func50, Tryd.ntmps50
  go_wp2
  go_ret2
  exact ⟨rfl, rfl⟩
theorem rune_two (s : ByteArray) (w : World) (hs : s.size ≤ 9223372036854775807) (hp : 0 < s.size) (h1 : 192 ≤ (s[0]'hp).toNat) (h2 : (s[0]'hp).toNat < 224) : Calls Tryd.prog 50 #[.string s] w fun e w' => e = rnRet (rn s.data.toList) ∧ w = w' := by
  have he := emp_f (s := s) (by omega)
  have hsz := Lib.size_eq s
  have hr := rn_two (l := s.data.toList) (by rw [getD_at s 0 hp]; exact h1) (by rw [getD_at s 0 hp]; exact h2)
  have hc0 : cv 192 s.data.toList 0 = (s[0]'hp).toNat - 192 := by rw [cv, getD_at s 0 hp]
  have hcl := cv_lt (base := 192) (l := s.data.toList) (by rw [getD_at s 0 hp]; omega)
  obtain ⟨x, hx⟩ : ∃ x : UInt8, s[0]'hp = x := ⟨_, rfl⟩
  rw [hx] at h1 h2 hc0
  have hxb : x.toNat < 256 := UInt8.toNat_lt x
  generalize hX : x.toNat = X at *
  by_cases hlen : s.size < 2
  · rw [hr, if_neg (by omega)]
    clear hr hc0 hcl hsz
    have hl' : decide ((s.size : Int) < 2) = true := decide_eq_true (by omega)
    go_enter Tryd.func50, Tryd.ntmps50
    go_wp2
    go_ret2
    exact ⟨rfl, rfl⟩
  obtain ⟨C0, hC0⟩ : ∃ C0, X - 192 = C0 := ⟨_, rfl⟩
  have hC0' : (X : Int) - 192 = (C0 : Int) := by omega
  have HR := Lib.hid hr
  have H0 := Lib.hid (show cv 192 s.data.toList 0 = C0 by rw [hc0, hC0])
  have HL := Lib.hid hcl
  have HZ := Lib.hid hsz
  have HM := Lib.hid hlen
  have hl' : decide ((s.size : Int) < 2) = false := decide_eq_false (by omega)
  clear hr hc0 hcl hsz hC0 hlen
  go_enter Tryd.func50, Tryd.ntmps50
  go_wp2
  clear hl' hC0' hX hx h1 h2
  go_loopw [4, 7] (fun c i wr => ∃ k C : Nat, c = .int .i64 C ∧ i = .int .i64 (((k + 1 : Nat) : Int)) ∧ k ≤ 1 ∧ wr = w ∧ Hid (C = cv 192 s.data.toList k) ∧ Hid (∀ j, 1 ≤ j → j ≤ k → Ct s.data.toList j)) (fun _ i _ => 2 - (intOf i).toNat)
  case atStart => exact ⟨0, C0, rfl, rfl, by omega, rfl, Lib.hid H0.out.symm, Lib.hid fun j h1 h2 => by omega⟩
  case round =>
    obtain ⟨k, C, rfl, rfl, hk, rfl, HC, HT⟩ := hrel
    have hCl := HL.out k HT.out
    rw [← HC.out] at hCl
    have hCb : C < 8388608 := by
      have : 64 ^ k ≤ 64 ^ 3 := Nat.pow_le_pow_right (by omega) (by omega)
      omega
    have HCl := Lib.hid hCl
    clear hCl
    by_cases hlt : k + 1 ≤ 1
    · have hks : k + 1 < s.size := by have := HM.out; omega
      obtain ⟨y, hy⟩ : ∃ y : UInt8, s[k + 1]'hks = y := ⟨_, rfl⟩
      have hyl := getD_at s (k + 1) hks
      rw [hy] at hyl
      have HY := Lib.hid hyl
      clear hyl
      have hyb : y.toNat < 256 := UInt8.toNat_lt y
      have HW := Lib.hid (show y.toNat = y.toNat from rfl)
      generalize hYy : y.toNat = Y at *
      have HQ := Lib.hid hYy
      obtain ⟨k1, hk1⟩ : ∃ k1, k1 = k + 1 := ⟨_, rfl⟩
      have hlz : decide ((k1 : Int) ≤ 1) = true := decide_eq_true (by omega)
      rw [← hk1]
      have hks' : k1 < s.size := by omega
      have hy' : s[k1]'hks' = y := by subst hk1; exact hy
      have HK := Lib.hid hk1
      clear hk1 hy hks
      by_cases g1 : Y < 128
      · have g1' : decide ((Y : Int) < 128) = true := decide_eq_true (by omega)
        have hno : Hid (¬ Ct s.data.toList k1) := Lib.hid (by unfold Ct; rw [HK.out, HY.out, HQ.out]; omega)
        clear g1
        go_wp2
        go_ret2
        refine ⟨?_, rfl⟩
        rw [HR.out, if_neg]
        · rfl
        · exact nct_two (by have := HK.out; omega) (by have := HK.out; omega) hno.out
      · have g1' : decide ((Y : Int) < 128) = false := decide_eq_false (by omega)
        by_cases g2 : 192 ≤ Y
        · have g2' : decide ((192 : Int) ≤ (Y : Int)) = true := decide_eq_true (by omega)
          have hno : Hid (¬ Ct s.data.toList k1) := Lib.hid (by unfold Ct; rw [HK.out, HY.out, HQ.out]; omega)
          clear g1 g2
          go_wp2
          go_ret2
          refine ⟨?_, rfl⟩
          rw [HR.out, if_neg]
          · rfl
          · exact nct_two (by have := HK.out; omega) (by have := HK.out; omega) hno.out
        · have g2' : decide ((192 : Int) ≤ (Y : Int)) = false := decide_eq_false (by omega)
          have hct : Hid (Ct s.data.toList k1) := Lib.hid (by unfold Ct; rw [HK.out, HY.out, HQ.out]; omega)
          obtain ⟨M, hM⟩ : ∃ M, C * 64 + (Y - 128) = M := ⟨_, rfl⟩
          have hM' : (C : Int) * 64 + (Y : Int) - 128 = (M : Int) := by omega
          have hMM := Lib.hid (show M = cv 192 s.data.toList k1 by rw [HK.out, cv, HY.out, HQ.out, ← HC.out, hM])
          clear g1 g2 hM
          go_wp2
          go_roundw
          case rel =>
            refine ⟨k1, M, rfl, by simp, by have := HK.out; omega, (by first | rfl | trivial), hMM, Lib.hid fun j h1 h2 => ?_⟩
            rcases Nat.lt_or_ge j k1 with h | h
            · exact HT.out j h1 (by have := HK.out; omega)
            · obtain rfl : j = k1 := by omega
              exact hct.out
          case measure =>
            have := HK.out
            (try simp [intOf])
            (try omega)
    · obtain rfl : k = 1 := by omega
      have HG := Lib.hid (show ∀ j, 1 ≤ j → j ≤ 1 → Ct s.data.toList j from HT.out)
      clear hlt
      by_cases g1 : C < 128
      · have g1' : decide ((C : Int) < 128) = true := decide_eq_true (by omega)
        have HN := Lib.hid g1
        clear g1
        go_wp2
        go_ret2
        refine ⟨?_, rfl⟩
        rw [HR.out, if_neg]
        · rfl
        · have h1 := HN.out
          have h2 := HC.out
          omega
      · have g1' : decide ((C : Int) < 128) = false := decide_eq_false (by omega)
        by_cases g2 : 1114111 < C
        · have g2' : decide ((1114111 : Int) < (C : Int)) = true := decide_eq_true (by omega)
          have HN := Lib.hid g2
          clear g1 g2
          go_wp2
          go_ret2
          refine ⟨?_, rfl⟩
          rw [HR.out, if_neg]
          · rfl
          · have h1 := HN.out
            have h2 := HC.out
            have h3 := HCl.out
            omega
        · have g2' : decide ((1114111 : Int) < (C : Int)) = false := decide_eq_false (by omega)
          by_cases g3 : 55296 ≤ C
          · have g3' : decide ((55296 : Int) ≤ (C : Int)) = true := decide_eq_true (by omega)
            by_cases g4 : C ≤ 57343
            · have g4' : decide ((C : Int) ≤ 57343) = true := decide_eq_true (by omega)
              have HN := Lib.hid (show 55296 ≤ C ∧ C ≤ 57343 from ⟨g3, g4⟩)
              clear g1 g2 g3 g4
              go_wp2
              go_ret2
              refine ⟨?_, rfl⟩
              rw [HR.out, if_neg]
              · rfl
              · have h1 := HN.out
                have h2 := HC.out
                have h3 := HCl.out
                omega
            · have g4' : decide ((C : Int) ≤ 57343) = false := decide_eq_false (by omega)
              have HN := Lib.hid (show 128 ≤ C ∧ 57343 < C ∧ C ≤ 1114111 from ⟨by omega, by omega, by omega⟩)
              clear g1 g2 g3 g4
              go_wp2
              go_ret2
              refine ⟨?_, rfl⟩
              rw [HR.out, if_pos]
              · rw [← HC.out]; rfl
              · have h1 := HN.out
                have h2 := HC.out
                have h3 := HZ.out
                have h4 := HM.out
                rw [← h2]
                exact ⟨by omega, HG.out 1 (by omega) (by omega), by omega⟩
          · have g3' : decide ((55296 : Int) ≤ (C : Int)) = false := decide_eq_false (by omega)
            have HN := Lib.hid (show 128 ≤ C ∧ C < 55296 from ⟨by omega, by omega⟩)
            clear g1 g2 g3
            go_wp2
            go_ret2
            refine ⟨?_, rfl⟩
            rw [HR.out, if_pos]
            · rw [← HC.out]; rfl
            · have h1 := HN.out
              have h2 := HC.out
              have h3 := HZ.out
              have h4 := HM.out
              rw [← h2]
              exact ⟨by omega, HG.out 1 (by omega) (by omega), by omega⟩
theorem rune_three (s : ByteArray) (w : World) (hs : s.size ≤ 9223372036854775807) (hp : 0 < s.size) (h1 : 224 ≤ (s[0]'hp).toNat) (h2 : (s[0]'hp).toNat < 240) : Calls Tryd.prog 50 #[.string s] w fun e w' => e = rnRet (rn s.data.toList) ∧ w = w' := by
  have he := emp_f (s := s) (by omega)
  have hsz := Lib.size_eq s
  have hr := rn_three (l := s.data.toList) (by rw [getD_at s 0 hp]; exact h1) (by rw [getD_at s 0 hp]; exact h2)
  have hc0 : cv 224 s.data.toList 0 = (s[0]'hp).toNat - 224 := by rw [cv, getD_at s 0 hp]
  have hcl := cv_lt (base := 224) (l := s.data.toList) (by rw [getD_at s 0 hp]; omega)
  obtain ⟨x, hx⟩ : ∃ x : UInt8, s[0]'hp = x := ⟨_, rfl⟩
  rw [hx] at h1 h2 hc0
  have hxb : x.toNat < 256 := UInt8.toNat_lt x
  generalize hX : x.toNat = X at *
  by_cases hlen : s.size < 3
  · rw [hr, if_neg (by omega)]
    clear hr hc0 hcl hsz
    have hl' : decide ((s.size : Int) < 3) = true := decide_eq_true (by omega)
    go_enter Tryd.func50, Tryd.ntmps50
    go_wp2
    go_ret2
    exact ⟨rfl, rfl⟩
  obtain ⟨C0, hC0⟩ : ∃ C0, X - 224 = C0 := ⟨_, rfl⟩
  have hC0' : (X : Int) - 224 = (C0 : Int) := by omega
  have HR := Lib.hid hr
  have H0 := Lib.hid (show cv 224 s.data.toList 0 = C0 by rw [hc0, hC0])
  have HL := Lib.hid hcl
  have HZ := Lib.hid hsz
  have HM := Lib.hid hlen
  have hl' : decide ((s.size : Int) < 3) = false := decide_eq_false (by omega)
  clear hr hc0 hcl hsz hC0 hlen
  go_enter Tryd.func50, Tryd.ntmps50
  go_wp2
  clear hl' hC0' hX hx h1 h2
  go_loopw [4, 7] (fun c i wr => ∃ k C : Nat, c = .int .i64 C ∧ i = .int .i64 (((k + 1 : Nat) : Int)) ∧ k ≤ 2 ∧ wr = w ∧ Hid (C = cv 224 s.data.toList k) ∧ Hid (∀ j, 1 ≤ j → j ≤ k → Ct s.data.toList j)) (fun _ i _ => 3 - (intOf i).toNat)
  case atStart => exact ⟨0, C0, rfl, rfl, by omega, rfl, Lib.hid H0.out.symm, Lib.hid fun j h1 h2 => by omega⟩
  case round =>
    obtain ⟨k, C, rfl, rfl, hk, rfl, HC, HT⟩ := hrel
    have hCl := HL.out k HT.out
    rw [← HC.out] at hCl
    have hCb : C < 8388608 := by
      have : 64 ^ k ≤ 64 ^ 3 := Nat.pow_le_pow_right (by omega) (by omega)
      omega
    have HCl := Lib.hid hCl
    clear hCl
    by_cases hlt : k + 1 ≤ 2
    · have hks : k + 1 < s.size := by have := HM.out; omega
      obtain ⟨y, hy⟩ : ∃ y : UInt8, s[k + 1]'hks = y := ⟨_, rfl⟩
      have hyl := getD_at s (k + 1) hks
      rw [hy] at hyl
      have HY := Lib.hid hyl
      clear hyl
      have hyb : y.toNat < 256 := UInt8.toNat_lt y
      have HW := Lib.hid (show y.toNat = y.toNat from rfl)
      generalize hYy : y.toNat = Y at *
      have HQ := Lib.hid hYy
      obtain ⟨k1, hk1⟩ : ∃ k1, k1 = k + 1 := ⟨_, rfl⟩
      have hlz : decide ((k1 : Int) ≤ 2) = true := decide_eq_true (by omega)
      rw [← hk1]
      have hks' : k1 < s.size := by omega
      have hy' : s[k1]'hks' = y := by subst hk1; exact hy
      have HK := Lib.hid hk1
      clear hk1 hy hks
      by_cases g1 : Y < 128
      · have g1' : decide ((Y : Int) < 128) = true := decide_eq_true (by omega)
        have hno : Hid (¬ Ct s.data.toList k1) := Lib.hid (by unfold Ct; rw [HK.out, HY.out, HQ.out]; omega)
        clear g1
        go_wp2
        go_ret2
        refine ⟨?_, rfl⟩
        rw [HR.out, if_neg]
        · rfl
        · exact nct_three (by have := HK.out; omega) (by have := HK.out; omega) hno.out
      · have g1' : decide ((Y : Int) < 128) = false := decide_eq_false (by omega)
        by_cases g2 : 192 ≤ Y
        · have g2' : decide ((192 : Int) ≤ (Y : Int)) = true := decide_eq_true (by omega)
          have hno : Hid (¬ Ct s.data.toList k1) := Lib.hid (by unfold Ct; rw [HK.out, HY.out, HQ.out]; omega)
          clear g1 g2
          go_wp2
          go_ret2
          refine ⟨?_, rfl⟩
          rw [HR.out, if_neg]
          · rfl
          · exact nct_three (by have := HK.out; omega) (by have := HK.out; omega) hno.out
        · have g2' : decide ((192 : Int) ≤ (Y : Int)) = false := decide_eq_false (by omega)
          have hct : Hid (Ct s.data.toList k1) := Lib.hid (by unfold Ct; rw [HK.out, HY.out, HQ.out]; omega)
          obtain ⟨M, hM⟩ : ∃ M, C * 64 + (Y - 128) = M := ⟨_, rfl⟩
          have hM' : (C : Int) * 64 + (Y : Int) - 128 = (M : Int) := by omega
          have hMM := Lib.hid (show M = cv 224 s.data.toList k1 by rw [HK.out, cv, HY.out, HQ.out, ← HC.out, hM])
          clear g1 g2 hM
          go_wp2
          go_roundw
          case rel =>
            refine ⟨k1, M, rfl, by simp, by have := HK.out; omega, (by first | rfl | trivial), hMM, Lib.hid fun j h1 h2 => ?_⟩
            rcases Nat.lt_or_ge j k1 with h | h
            · exact HT.out j h1 (by have := HK.out; omega)
            · obtain rfl : j = k1 := by omega
              exact hct.out
          case measure =>
            have := HK.out
            (try simp [intOf])
            (try omega)
    · obtain rfl : k = 2 := by omega
      have HG := Lib.hid (show ∀ j, 1 ≤ j → j ≤ 2 → Ct s.data.toList j from HT.out)
      clear hlt
      by_cases g1 : C < 2048
      · have g1' : decide ((C : Int) < 2048) = true := decide_eq_true (by omega)
        have HN := Lib.hid g1
        clear g1
        go_wp2
        go_ret2
        refine ⟨?_, rfl⟩
        rw [HR.out, if_neg]
        · rfl
        · have h1 := HN.out
          have h2 := HC.out
          omega
      · have g1' : decide ((C : Int) < 2048) = false := decide_eq_false (by omega)
        by_cases g2 : 1114111 < C
        · have g2' : decide ((1114111 : Int) < (C : Int)) = true := decide_eq_true (by omega)
          have HN := Lib.hid g2
          clear g1 g2
          go_wp2
          go_ret2
          refine ⟨?_, rfl⟩
          rw [HR.out, if_neg]
          · rfl
          · have h1 := HN.out
            have h2 := HC.out
            have h3 := HCl.out
            omega
        · have g2' : decide ((1114111 : Int) < (C : Int)) = false := decide_eq_false (by omega)
          by_cases g3 : 55296 ≤ C
          · have g3' : decide ((55296 : Int) ≤ (C : Int)) = true := decide_eq_true (by omega)
            by_cases g4 : C ≤ 57343
            · have g4' : decide ((C : Int) ≤ 57343) = true := decide_eq_true (by omega)
              have HN := Lib.hid (show 55296 ≤ C ∧ C ≤ 57343 from ⟨g3, g4⟩)
              clear g1 g2 g3 g4
              go_wp2
              go_ret2
              refine ⟨?_, rfl⟩
              rw [HR.out, if_neg]
              · rfl
              · have h1 := HN.out
                have h2 := HC.out
                have h3 := HCl.out
                omega
            · have g4' : decide ((C : Int) ≤ 57343) = false := decide_eq_false (by omega)
              have HN := Lib.hid (show 2048 ≤ C ∧ 57343 < C ∧ C ≤ 1114111 from ⟨by omega, by omega, by omega⟩)
              clear g1 g2 g3 g4
              go_wp2
              go_ret2
              refine ⟨?_, rfl⟩
              rw [HR.out, if_pos]
              · rw [← HC.out]; rfl
              · have h1 := HN.out
                have h2 := HC.out
                have h3 := HZ.out
                have h4 := HM.out
                rw [← h2]
                exact ⟨by omega, HG.out 1 (by omega) (by omega), HG.out 2 (by omega) (by omega), by omega, by omega⟩
          · have g3' : decide ((55296 : Int) ≤ (C : Int)) = false := decide_eq_false (by omega)
            have HN := Lib.hid (show 2048 ≤ C ∧ C < 55296 from ⟨by omega, by omega⟩)
            clear g1 g2 g3
            go_wp2
            go_ret2
            refine ⟨?_, rfl⟩
            rw [HR.out, if_pos]
            · rw [← HC.out]; rfl
            · have h1 := HN.out
              have h2 := HC.out
              have h3 := HZ.out
              have h4 := HM.out
              rw [← h2]
              exact ⟨by omega, HG.out 1 (by omega) (by omega), HG.out 2 (by omega) (by omega), by omega, by omega⟩
theorem rune_four (s : ByteArray) (w : World) (hs : s.size ≤ 9223372036854775807) (hp : 0 < s.size) (h1 : 240 ≤ (s[0]'hp).toNat) (h2 : (s[0]'hp).toNat < 248) : Calls Tryd.prog 50 #[.string s] w fun e w' => e = rnRet (rn s.data.toList) ∧ w = w' := by
  have he := emp_f (s := s) (by omega)
  have hsz := Lib.size_eq s
  have hr := rn_four (l := s.data.toList) (by rw [getD_at s 0 hp]; exact h1) (by rw [getD_at s 0 hp]; exact h2)
  have hc0 : cv 240 s.data.toList 0 = (s[0]'hp).toNat - 240 := by rw [cv, getD_at s 0 hp]
  have hcl := cv_lt (base := 240) (l := s.data.toList) (by rw [getD_at s 0 hp]; omega)
  obtain ⟨x, hx⟩ : ∃ x : UInt8, s[0]'hp = x := ⟨_, rfl⟩
  rw [hx] at h1 h2 hc0
  have hxb : x.toNat < 256 := UInt8.toNat_lt x
  generalize hX : x.toNat = X at *
  by_cases hlen : s.size < 4
  · rw [hr, if_neg (by omega)]
    clear hr hc0 hcl hsz
    have hl' : decide ((s.size : Int) < 4) = true := decide_eq_true (by omega)
    go_enter Tryd.func50, Tryd.ntmps50
    go_wp2
    go_ret2
    exact ⟨rfl, rfl⟩
  obtain ⟨C0, hC0⟩ : ∃ C0, X - 240 = C0 := ⟨_, rfl⟩
  have hC0' : (X : Int) - 240 = (C0 : Int) := by omega
  have HR := Lib.hid hr
  have H0 := Lib.hid (show cv 240 s.data.toList 0 = C0 by rw [hc0, hC0])
  have HL := Lib.hid hcl
  have HZ := Lib.hid hsz
  have HM := Lib.hid hlen
  have hl' : decide ((s.size : Int) < 4) = false := decide_eq_false (by omega)
  clear hr hc0 hcl hsz hC0 hlen
  go_enter Tryd.func50, Tryd.ntmps50
  go_wp2
  clear hl' hC0' hX hx h1 h2
  go_loopw [4, 7] (fun c i wr => ∃ k C : Nat, c = .int .i64 C ∧ i = .int .i64 (((k + 1 : Nat) : Int)) ∧ k ≤ 3 ∧ wr = w ∧ Hid (C = cv 240 s.data.toList k) ∧ Hid (∀ j, 1 ≤ j → j ≤ k → Ct s.data.toList j)) (fun _ i _ => 4 - (intOf i).toNat)
  case atStart => exact ⟨0, C0, rfl, rfl, by omega, rfl, Lib.hid H0.out.symm, Lib.hid fun j h1 h2 => by omega⟩
  case round =>
    obtain ⟨k, C, rfl, rfl, hk, rfl, HC, HT⟩ := hrel
    have hCl := HL.out k HT.out
    rw [← HC.out] at hCl
    have hCb : C < 8388608 := by
      have : 64 ^ k ≤ 64 ^ 3 := Nat.pow_le_pow_right (by omega) (by omega)
      omega
    have HCl := Lib.hid hCl
    clear hCl
    by_cases hlt : k + 1 ≤ 3
    · have hks : k + 1 < s.size := by have := HM.out; omega
      obtain ⟨y, hy⟩ : ∃ y : UInt8, s[k + 1]'hks = y := ⟨_, rfl⟩
      have hyl := getD_at s (k + 1) hks
      rw [hy] at hyl
      have HY := Lib.hid hyl
      clear hyl
      have hyb : y.toNat < 256 := UInt8.toNat_lt y
      have HW := Lib.hid (show y.toNat = y.toNat from rfl)
      generalize hYy : y.toNat = Y at *
      have HQ := Lib.hid hYy
      obtain ⟨k1, hk1⟩ : ∃ k1, k1 = k + 1 := ⟨_, rfl⟩
      have hlz : decide ((k1 : Int) ≤ 3) = true := decide_eq_true (by omega)
      rw [← hk1]
      have hks' : k1 < s.size := by omega
      have hy' : s[k1]'hks' = y := by subst hk1; exact hy
      have HK := Lib.hid hk1
      clear hk1 hy hks
      by_cases g1 : Y < 128
      · have g1' : decide ((Y : Int) < 128) = true := decide_eq_true (by omega)
        have hno : Hid (¬ Ct s.data.toList k1) := Lib.hid (by unfold Ct; rw [HK.out, HY.out, HQ.out]; omega)
        clear g1
        go_wp2
        go_ret2
        refine ⟨?_, rfl⟩
        rw [HR.out, if_neg]
        · rfl
        · exact nct_four (by have := HK.out; omega) (by have := HK.out; omega) hno.out
      · have g1' : decide ((Y : Int) < 128) = false := decide_eq_false (by omega)
        by_cases g2 : 192 ≤ Y
        · have g2' : decide ((192 : Int) ≤ (Y : Int)) = true := decide_eq_true (by omega)
          have hno : Hid (¬ Ct s.data.toList k1) := Lib.hid (by unfold Ct; rw [HK.out, HY.out, HQ.out]; omega)
          clear g1 g2
          go_wp2
          go_ret2
          refine ⟨?_, rfl⟩
          rw [HR.out, if_neg]
          · rfl
          · exact nct_four (by have := HK.out; omega) (by have := HK.out; omega) hno.out
        · have g2' : decide ((192 : Int) ≤ (Y : Int)) = false := decide_eq_false (by omega)
          have hct : Hid (Ct s.data.toList k1) := Lib.hid (by unfold Ct; rw [HK.out, HY.out, HQ.out]; omega)
          obtain ⟨M, hM⟩ : ∃ M, C * 64 + (Y - 128) = M := ⟨_, rfl⟩
          have hM' : (C : Int) * 64 + (Y : Int) - 128 = (M : Int) := by omega
          have hMM := Lib.hid (show M = cv 240 s.data.toList k1 by rw [HK.out, cv, HY.out, HQ.out, ← HC.out, hM])
          clear g1 g2 hM
          go_wp2
          go_roundw
          case rel =>
            refine ⟨k1, M, rfl, by simp, by have := HK.out; omega, (by first | rfl | trivial), hMM, Lib.hid fun j h1 h2 => ?_⟩
            rcases Nat.lt_or_ge j k1 with h | h
            · exact HT.out j h1 (by have := HK.out; omega)
            · obtain rfl : j = k1 := by omega
              exact hct.out
          case measure =>
            have := HK.out
            (try simp [intOf])
            (try omega)
    · obtain rfl : k = 3 := by omega
      have HG := Lib.hid (show ∀ j, 1 ≤ j → j ≤ 3 → Ct s.data.toList j from HT.out)
      clear hlt
      by_cases g1 : C < 65536
      · have g1' : decide ((C : Int) < 65536) = true := decide_eq_true (by omega)
        have HN := Lib.hid g1
        clear g1
        go_wp2
        go_ret2
        refine ⟨?_, rfl⟩
        rw [HR.out, if_neg]
        · rfl
        · have h1 := HN.out
          have h2 := HC.out
          omega
      · have g1' : decide ((C : Int) < 65536) = false := decide_eq_false (by omega)
        by_cases g2 : 1114111 < C
        · have g2' : decide ((1114111 : Int) < (C : Int)) = true := decide_eq_true (by omega)
          have HN := Lib.hid g2
          clear g1 g2
          go_wp2
          go_ret2
          refine ⟨?_, rfl⟩
          rw [HR.out, if_neg]
          · rfl
          · have h1 := HN.out
            have h2 := HC.out
            have h3 := HCl.out
            omega
        · have g2' : decide ((1114111 : Int) < (C : Int)) = false := decide_eq_false (by omega)
          by_cases g3 : 55296 ≤ C
          · have g3' : decide ((55296 : Int) ≤ (C : Int)) = true := decide_eq_true (by omega)
            by_cases g4 : C ≤ 57343
            · have g4' : decide ((C : Int) ≤ 57343) = true := decide_eq_true (by omega)
              have HN := Lib.hid (show 55296 ≤ C ∧ C ≤ 57343 from ⟨g3, g4⟩)
              clear g1 g2 g3 g4
              go_wp2
              go_ret2
              refine ⟨?_, rfl⟩
              rw [HR.out, if_neg]
              · rfl
              · have h1 := HN.out
                have h2 := HC.out
                have h3 := HCl.out
                omega
            · have g4' : decide ((C : Int) ≤ 57343) = false := decide_eq_false (by omega)
              have HN := Lib.hid (show 65536 ≤ C ∧ 57343 < C ∧ C ≤ 1114111 from ⟨by omega, by omega, by omega⟩)
              clear g1 g2 g3 g4
              go_wp2
              go_ret2
              refine ⟨?_, rfl⟩
              rw [HR.out, if_pos]
              · rw [← HC.out]; rfl
              · have h1 := HN.out
                have h2 := HC.out
                have h3 := HZ.out
                have h4 := HM.out
                rw [← h2]
                exact ⟨by omega, HG.out 1 (by omega) (by omega), HG.out 2 (by omega) (by omega), HG.out 3 (by omega) (by omega), by omega, by omega⟩
          · have g3' : decide ((55296 : Int) ≤ (C : Int)) = false := decide_eq_false (by omega)
            have HN := Lib.hid (show 65536 ≤ C ∧ C < 55296 from ⟨by omega, by omega⟩)
            clear g1 g2 g3
            go_wp2
            go_ret2
            refine ⟨?_, rfl⟩
            rw [HR.out, if_pos]
            · rw [← HC.out]; rfl
            · have h1 := HN.out
              have h2 := HC.out
              have h3 := HZ.out
              have h4 := HM.out
              rw [← h2]
              exact ⟨by omega, HG.out 1 (by omega) (by omega), HG.out 2 (by omega) (by omega), HG.out 3 (by omega) (by omega), by omega, by omega⟩
theorem rune_any (s : ByteArray) (w : World) (hs : s.size ≤ 9223372036854775807) : Calls Tryd.prog 50 #[.string s] w fun e w' => e = rnRet (rn s.data.toList) ∧ w = w' := by
  by_cases h0 : s.size = 0
  · exact rune_nil s w h0
  have hp : 0 < s.size := by omega
  by_cases h1 : (s[0]'hp).toNat < 128
  · exact rune_low s w hp h1
  by_cases h2 : (s[0]'hp).toNat < 192 ∨ 248 ≤ (s[0]'hp).toNat
  · exact rune_mid s w hp (by omega) h2
  by_cases h3 : (s[0]'hp).toNat < 224
  · exact rune_two s w hs hp (by omega) h3
  by_cases h4 : (s[0]'hp).toNat < 240
  · exact rune_three s w hs hp (by omega) h4
  · exact rune_four s w hs hp (by omega) (by omega)
end Go.Proofs.YtjhgmlhoefakpaaDoor
