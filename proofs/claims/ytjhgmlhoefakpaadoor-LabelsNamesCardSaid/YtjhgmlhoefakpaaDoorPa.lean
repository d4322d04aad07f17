/- Plain mathematics: runes and their bytes, names, values. -/
import Derived.Lib.ValidLaws
import Derived.Lib.RuneBytes
import Derived.Lib.TrimUEq
namespace Go.Proofs.YtjhgmlhoefakpaaDoor
set_option maxRecDepth 100000
/-- A rune's number. -/
def OkR (c : Nat) : Prop := c < 55296 ∨ (57344 ≤ c ∧ c ≤ 1114111)
instance (c : Nat) : Decidable (OkR c) := by unfold OkR; infer_instance
/-- A rune's bytes. -/
def encN (c : Nat) : List Nat :=
  if c < 128 then [c]
  else if c < 2048 then [192 + c / 64, 128 + c % 64]
  else if c < 65536 then [224 + c / 4096, 128 + c / 64 % 64, 128 + c % 64]
  else [240 + c / 262144, 128 + c / 4096 % 64, 128 + c / 64 % 64, 128 + c % 64]
def enc (c : Nat) : List UInt8 := (encN c).map UInt8.ofNat
/-- The rune at a text's begin, and how many bytes it has; 0: there is none. -/
def rn (l : List UInt8) : Nat × Nat :=
  if l = [] then (0, 0) else if (Lib.decodeL l).1 = 65533 ∧ (Lib.decodeL l).2 = 1 then (0, 0) else Lib.decodeL l
theorem encN_byte {c : Nat} (h : OkR c) : ∀ x ∈ encN c, x < 256 := by
  intro x hx
  unfold encN at hx
  unfold OkR at h
  split at hx
  · simp at hx; omega
  · split at hx
    · simp at hx; omega
    · split at hx
      · simp at hx; omega
      · simp at hx; omega
theorem enc_length (c : Nat) : 1 ≤ (enc c).length ∧ (enc c).length ≤ 4 := by
  unfold enc encN
  split
  · simp
  · split
    · simp
    · split <;> simp
theorem enc_ne (c : Nat) : enc c ≠ [] := by
  have := enc_length c
  intro h
  rw [h] at this
  simp at this
theorem enc_ascii {c : Nat} (h : c < 128) : enc c = [UInt8.ofNat c] := by simp [enc, encN, h]
theorem enc_rune {c : Nat} (h : OkR c) : Lib.encodeRune (c : Int) = enc c := by
  have e : Lib.encodeRuneZ (c : Int) = (encN c).map fun x : Nat => (x : Int) := by
    unfold OkR at h
    unfold encN
    by_cases h1 : c < 128
    · rw [if_pos h1, Lib.encodeRuneZ_one (by omega) (by omega)]; rfl
    by_cases h2 : c < 2048
    · rw [if_neg h1, if_pos h2, Lib.encodeRuneZ_two (by omega) (by omega)]; simp
    by_cases h3 : c < 65536
    · rw [if_neg h1, if_neg h2, if_pos h3, Lib.encodeRuneZ_three (by omega)]; simp
    · rw [if_neg h1, if_neg h2, if_neg h3, Lib.encodeRuneZ_four (by omega) (by omega)]; simp
  unfold Lib.encodeRune enc
  rw [e, List.map_map]
  apply List.map_congr_left
  intro x _
  simp
theorem rn_enc {c : Nat} (h : OkR c) (t : List UInt8) : rn (enc c ++ t) = (c, (enc c).length) := by
  have hne : enc c ++ t ≠ [] := by simp [enc_ne]
  unfold rn
  rw [if_neg hne, Lib.decodeL_N]
  unfold OkR at h
  by_cases h1 : c < 128
  · rw [enc_ascii h1]
    have e : (UInt8.ofNat c).toNat = c := by simp; omega
    simp [Lib.decodeN, h1]
    rw [Nat.mod_eq_of_lt (by omega)]
    simp [h1]
    omega
  by_cases h2 : c < 2048
  · have e : enc c = [UInt8.ofNat (192 + c / 64), UInt8.ofNat (128 + c % 64)] := by simp [enc, encN, h1, h2]
    have e1 : (192 + c / 64) % 256 = 192 + c / 64 := by omega
    have e2 : (128 + c % 64) % 256 = 128 + c % 64 := by omega
    rw [e]
    have d : Lib.decodeN (([UInt8.ofNat (192 + c / 64), UInt8.ofNat (128 + c % 64)] ++ t).length) (192 + c / 64) (128 + c % 64) ((([UInt8.ofNat (192 + c / 64), UInt8.ofNat (128 + c % 64)] ++ t).getD 2 0).toNat) ((([UInt8.ofNat (192 + c / 64), UInt8.ofNat (128 + c % 64)] ++ t).getD 3 0).toNat) = (c, 2) := by
      unfold Lib.decodeN
      rw [if_neg (by omega), if_pos ⟨by omega, by simp, by omega⟩, if_pos (by omega)]
      congr 1
      omega
    have f0 : (([UInt8.ofNat (192 + c / 64), UInt8.ofNat (128 + c % 64)] ++ t).getD 0 0).toNat = 192 + c / 64 := by simp [e1]
    have f1 : (([UInt8.ofNat (192 + c / 64), UInt8.ofNat (128 + c % 64)] ++ t).getD 1 0).toNat = 128 + c % 64 := by simp [e2]
    rw [f0, f1, d, if_neg (by omega)]
    rfl
  by_cases h3 : c < 65536
  · have e : enc c = [UInt8.ofNat (224 + c / 4096), UInt8.ofNat (128 + c / 64 % 64), UInt8.ofNat (128 + c % 64)] := by simp [enc, encN, h1, h2, h3]
    have e1 : (224 + c / 4096) % 256 = 224 + c / 4096 := by omega
    have e2 : (128 + c / 64 % 64) % 256 = 128 + c / 64 % 64 := by omega
    have e3 : (128 + c % 64) % 256 = 128 + c % 64 := by omega
    rw [e]
    generalize hL : [UInt8.ofNat (224 + c / 4096), UInt8.ofNat (128 + c / 64 % 64), UInt8.ofNat (128 + c % 64)] ++ t = L
    have f0 : (L.getD 0 0).toNat = 224 + c / 4096 := by subst hL; simp [e1]
    have f1 : (L.getD 1 0).toNat = 128 + c / 64 % 64 := by subst hL; simp [e2]
    have f2 : (L.getD 2 0).toNat = 128 + c % 64 := by subst hL; simp [e3]
    have fl : 3 ≤ L.length := by subst hL; simp
    have d : Lib.decodeN L.length (224 + c / 4096) (128 + c / 64 % 64) (128 + c % 64) (L.getD 3 0).toNat = (c, 3) := by
      unfold Lib.decodeN
      rw [if_neg (by omega), if_neg (by omega), if_pos ⟨by omega, ⟨by omega, by omega⟩, by omega, by omega⟩, if_pos (by omega)]
      congr 1
      omega
    rw [f0, f1, f2, d, if_neg (by omega)]
    rfl
  · have e : enc c = [UInt8.ofNat (240 + c / 262144), UInt8.ofNat (128 + c / 4096 % 64), UInt8.ofNat (128 + c / 64 % 64), UInt8.ofNat (128 + c % 64)] := by simp [enc, encN, h1, h2, h3]
    have e0 : (240 + c / 262144) % 256 = 240 + c / 262144 := by omega
    have e1 : (128 + c / 4096 % 64) % 256 = 128 + c / 4096 % 64 := by omega
    have e2 : (128 + c / 64 % 64) % 256 = 128 + c / 64 % 64 := by omega
    have e3 : (128 + c % 64) % 256 = 128 + c % 64 := by omega
    rw [e]
    generalize hL : [UInt8.ofNat (240 + c / 262144), UInt8.ofNat (128 + c / 4096 % 64), UInt8.ofNat (128 + c / 64 % 64), UInt8.ofNat (128 + c % 64)] ++ t = L
    have f0 : (L.getD 0 0).toNat = 240 + c / 262144 := by subst hL; simp [e0]
    have f1 : (L.getD 1 0).toNat = 128 + c / 4096 % 64 := by subst hL; simp [e1]
    have f2 : (L.getD 2 0).toNat = 128 + c / 64 % 64 := by subst hL; simp [e2]
    have f3 : (L.getD 3 0).toNat = 128 + c % 64 := by subst hL; simp [e3]
    have fl : 4 ≤ L.length := by subst hL; simp
    have d : Lib.decodeN L.length (240 + c / 262144) (128 + c / 4096 % 64) (128 + c / 64 % 64) (128 + c % 64) = (c, 4) := by
      unfold Lib.decodeN
      rw [if_neg (by omega), if_neg (by omega), if_neg (by omega), if_pos ⟨by omega, ⟨by omega, by omega⟩, ⟨by omega, by omega⟩, by omega, by omega⟩, if_pos (by omega)]
      congr 1
      omega
    rw [f0, f1, f2, f3, d, if_neg (by omega)]
    rfl
theorem u8_of (a : UInt8) (n : Nat) (h : a.toNat = n) : UInt8.ofNat n = a := by subst h; simp
set_option maxHeartbeats 1000000 in
theorem rn_inv {l : List UInt8} (h : (rn l).2 ≠ 0) : OkR (rn l).1 ∧ l = enc (rn l).1 ++ l.drop (rn l).2 ∧ (rn l).2 = (enc (rn l).1).length := by
  unfold rn at *
  by_cases hn : l = []
  · simp [hn] at h
  rw [if_neg hn] at *
  by_cases hb : (Lib.decodeL l).1 = 65533 ∧ (Lib.decodeL l).2 = 1
  · rw [if_pos hb] at h; simp at h
  rw [if_neg hb] at *
  rw [Lib.decodeL_N] at *
  clear h
  match l, hn with
  | a :: r, _ =>
    have ha := UInt8.toNat_lt a
    unfold Lib.decodeN at *
    simp only [List.getD_cons_zero] at *
    by_cases h1 : a.toNat < 128
    · simp only [if_pos h1] at *
      refine ⟨Or.inl (by omega), ?_, ?_⟩
      · rw [enc_ascii h1, u8_of a _ rfl]; rfl
      · rw [enc_ascii h1]; rfl
    simp only [if_neg h1] at *
    by_cases h2 : a.toNat / 32 = 6 ∧ (1 < (a :: r).length ∧ ((a :: r).getD 1 0).toNat / 64 = 2)
    · simp only [if_pos h2] at *
      match r, h2 with
      | b :: r, ⟨x1, _, x2⟩ =>
        simp only [List.getD_cons_succ, List.getD_cons_zero] at *
        have hbt := UInt8.toNat_lt b
        by_cases h3 : a.toNat % 32 * 64 + b.toNat % 64 ≥ 128
        · simp only [if_pos h3] at *
          generalize hc : a.toNat % 32 * 64 + b.toNat % 64 = c at *
          have e : enc c = [a, b] := by
            unfold enc encN
            rw [if_neg (by omega), if_pos (by omega)]
            simp only [List.map_cons, List.map_nil]
            rw [u8_of a _ (by omega), u8_of b _ (by omega)]
          exact ⟨Or.inl (by omega), by rw [e]; rfl, by rw [e]; rfl⟩
        · simp only [if_neg h3] at hb
          exact absurd ⟨trivial, trivial⟩ hb
      | [], ⟨_, x, _⟩ => simp at x
    simp only [if_neg h2] at *
    by_cases h3 : a.toNat / 16 = 14 ∧ (1 < (a :: r).length ∧ ((a :: r).getD 1 0).toNat / 64 = 2) ∧ (2 < (a :: r).length ∧ ((a :: r).getD 2 0).toNat / 64 = 2)
    · simp only [if_pos h3] at *
      match r, h3 with
      | b :: d :: r, ⟨x1, ⟨_, x2⟩, _, x3⟩ =>
        simp only [List.getD_cons_succ, List.getD_cons_zero] at *
        have hbt := UInt8.toNat_lt b
        have hdt := UInt8.toNat_lt d
        generalize hc : a.toNat % 16 * 4096 + b.toNat % 64 * 64 + d.toNat % 64 = c at *
        by_cases h4 : c ≥ 2048 ∧ (c < 55296 ∨ (57344 ≤ c ∧ c ≤ 1114111))
        · simp only [if_pos h4] at *
          have e : enc c = [a, b, d] := by
            unfold enc encN
            rw [if_neg (by omega), if_neg (by omega), if_pos (by omega)]
            simp only [List.map_cons, List.map_nil]
            rw [u8_of a _ (by omega), u8_of b _ (by omega), u8_of d _ (by omega)]
          exact ⟨h4.2, by rw [e]; rfl, by rw [e]; rfl⟩
        · simp only [if_neg h4] at hb
          exact absurd ⟨trivial, trivial⟩ hb
      | [b], ⟨_, _, x, _⟩ => simp at x
      | [], ⟨_, _, x, _⟩ => simp at x
    simp only [if_neg h3] at *
    by_cases h4 : a.toNat / 8 = 30 ∧ (1 < (a :: r).length ∧ ((a :: r).getD 1 0).toNat / 64 = 2) ∧ (2 < (a :: r).length ∧ ((a :: r).getD 2 0).toNat / 64 = 2) ∧ (3 < (a :: r).length ∧ ((a :: r).getD 3 0).toNat / 64 = 2)
    · simp only [if_pos h4] at *
      rcases r with _ | ⟨b, r⟩
      · exact absurd h4.2.1.1 (by simp)
      rcases r with _ | ⟨d, r⟩
      · exact absurd h4.2.2.1.1 (by simp)
      rcases r with _ | ⟨f, r⟩
      · exact absurd h4.2.2.2.1 (by simp)
      obtain ⟨x1, ⟨_, x2⟩, ⟨_, x3⟩, _, x4⟩ := h4
      simp only [List.getD_cons_succ, List.getD_cons_zero] at *
      have hbt := UInt8.toNat_lt b
      have hdt := UInt8.toNat_lt d
      have hft := UInt8.toNat_lt f
      generalize hc : a.toNat % 8 * 262144 + b.toNat % 64 * 4096 + d.toNat % 64 * 64 + f.toNat % 64 = c at *
      by_cases h5 : c ≥ 65536 ∧ (c < 55296 ∨ (57344 ≤ c ∧ c ≤ 1114111))
      · simp only [if_pos h5] at *
        have e : enc c = [a, b, d, f] := by
          unfold enc encN
          rw [if_neg (by omega), if_neg (by omega), if_neg (by omega)]
          simp only [List.map_cons, List.map_nil]
          rw [u8_of a _ (by omega), u8_of b _ (by omega), u8_of d _ (by omega), u8_of f _ (by omega)]
        exact ⟨h5.2, by rw [e]; rfl, by rw [e]; rfl⟩
      · simp only [if_neg h5] at hb
        exact absurd ⟨trivial, trivial⟩ hb
    · simp only [if_neg h4] at hb
      exact absurd ⟨trivial, trivial⟩ hb
end Go.Proofs.YtjhgmlhoefakpaaDoor
