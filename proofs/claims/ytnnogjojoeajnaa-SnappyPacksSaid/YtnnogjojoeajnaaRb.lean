/- The contract of the document's element. -/
import Derived.Test.YtnnogjojoeajnaaRa
namespace Go.Proofs.Ytnnogjojoeajnaa
open Go.RowKit
/-- What the document's element tells. -/
def relem (x : Pt × Nat × Bool) : Array Value := if x.2.2 then #[pv x.1, .int .i64 ((x.2.1 + 1 : Nat) : Int)] else #[pv pt0, .int .i64 (-1)]
theorem sub_list (s : ByteArray) (c : UInt8) (r : List UInt8) (h : s.data.toList = c :: r) (i j : Nat) : s.extract (i + 1) (j + 1) = bs ((r.drop i).take (j - i)) := by
  rw [extract_bs, h, List.drop_succ_cons, show j + 1 - (i + 1) = j - i by omega]
theorem head0 {s : ByteArray} {c : UInt8} {r : List UInt8} (h : s.data.toList = c :: r) (hh : 0 < s.size) : s[0] = c := by
  have e : s.data.toList[0]'(by rw [h]; simp) = c := by simp [h]
  exact e
theorem head1 {s : ByteArray} {c d : UInt8} {r : List UInt8} (h : s.data.toList = c :: d :: r) (hh : 1 < s.size) : s[1] = d := by
  have e : s.data.toList[1]'(by rw [h]; simp) = d := by simp [h]
  exact e
theorem ret48 {R : Ending → World → Prop} {a : Act} {w : World} {c : Bool} {t : ByteArray} {o l k : Int} (B : Nat) (h2 : a.tmps.getD 2 undef = .pointer (some ⟨B, 0, none⟩)) (h3 : a.tmps.getD 3 undef = .int .i64 k) (hd : a.defers = [])
    (hB : w.heap[B]? = some (.cells #[.bool c, .string t, .int .i64 o, .int .i64 l] 76 (0, 0))) (hR : R (.returned (.tuple #[.agg #[.bool c, .string t, .int .i64 o, .int .i64 l], .int .i64 k])) w) : bodyPost Try.prog Try.f48 R .ret a w :=
  bodyPost_ret (by
    have hl := run_loadVar_row (P := Try.prog) w B 76 76 #[.bool c, .string t, .int .i64 o, .int .i64 l] (0, 0) _ hB Try.underlying76 rfl (by kernel_rfl)
    rw [results_cell_tmp Try.results48, h2, h3]
    simp [asAddr, hl, Result.andThen]) hd hR
set_option maxRecDepth 100000 in
set_option maxHeartbeats 1000000 in
theorem relem_near (s : ByteArray) (c : UInt8) (r : List UInt8) (h : s.data.toList = c :: r) (hs : s.size ≤ 1000000) (h1 : c.toNat % 4 = 1) (w : World) :
    Calls Try.prog 48 #[.string s] w fun e w' => e = .returned (.tuple (relem (el c r))) ∧ Below w.heap.size w w' := by
  have hsz : s.size = r.length + 1 := by
    have : s.data.toList.length = s.size := by simp
    rw [h] at this
    simpa using this.symm
  have h0 : 0 < s.size := by omega
  have g0 := head0 h h0
  have hcl := c.toNat_lt
  by_cases hl : 1 ≤ r.length
  · obtain ⟨d, r2, rfl⟩ : ∃ d r2, r = d :: r2 := by
      cases r with
      | nil => simp at hl
      | cons d r2 => exact ⟨d, r2, rfl⟩
    have h01 : 1 < s.size := by simp at hsz; omega
    have g1 := head1 h h01
    have he : el c (d :: r2) = (⟨true, bs [], (c.toNat / 32 * 256 + d.toNat : Nat), (c.toNat / 4 % 8 + 4 : Nat)⟩, 1, true) := by
      unfold el cpy
      rw [if_neg (by omega), if_pos h1, if_pos (by simp)]
      simp [low]
    rw [he]
    have hs2 : 2 ≤ (s.size : Int) := by simp at hsz; omega
    have hs2n : 2 ≤ s.size := by omega
    have hdl := d.toNat_lt
    clear he h hsz hl
    obtain ⟨X, hX⟩ : ∃ X, c.toNat = X := ⟨_, rfl⟩
    obtain ⟨Y, hY⟩ : ∃ Y, d.toNat = Y := ⟨_, rfl⟩
    rw [hX] at h1 hcl ⊢
    rw [hY] at hdl ⊢
    have m1 : (X : Int).tmod 4 = 1 := by rw [Int.tmod_eq_emod_of_nonneg (by omega)]; omega
    have m2 : (X : Int) % 4 = 1 := by omega
    have m3 : (X : Int).tdiv 4 = ((X / 4 : Nat) : Int) := by rw [Int.tdiv_eq_ediv_of_nonneg (by omega)]; omega
    have m5 : (X : Int) / 4 = ((X / 4 : Nat) : Int) := by omega
    have m6 : ((X / 4 : Nat) : Int).tmod 8 = ((X / 4 % 8 : Nat) : Int) := by rw [Int.tmod_eq_emod_of_nonneg (by omega)]; omega
    have m7 : ((X / 4 : Nat) : Int) % 8 = ((X / 4 % 8 : Nat) : Int) := by omega
    have m8 : (X : Int).tdiv 32 = ((X / 32 : Nat) : Int) := by rw [Int.tdiv_eq_ediv_of_nonneg (by omega)]; omega
    have m9 : (X : Int) / 32 = ((X / 32 : Nat) : Int) := by omega
    have b1 : X / 4 % 8 ≤ 7 := by omega
    have b2 : X / 32 ≤ 7 := by omega
    have E1 : Hid (relem (⟨true, bs [], (X / 32 * 256 + Y : Nat), (X / 4 % 8 + 4 : Nat)⟩, 1, true) = #[.agg #[.bool true, .string ⟨#[]⟩, .int .i64 ((X / 32 : Nat) * 256 + Y : Int), .int .i64 (4 + (X / 4 % 8 : Nat) : Int)], .int .i64 2]) := Lib.hid (by
      unfold relem pv
      simp
      refine ⟨rfl, by omega⟩)
    rw [E1.out]
    clear E1
    generalize X / 4 % 8 = A at *
    generalize X / 4 = A2 at *
    generalize X / 32 = A3 at *
    go_enter Try.func48, Try.ntmps48
    go_wp2
    exact ret48 w.heap.size rfl rfl rfl (World.alloc_heap_new w _) ⟨rfl, (Below.refl _ w).alloc (Nat.le_refl _) _⟩
  · have he : (el c r).2.2 = false := by
      unfold el cpy
      rw [if_neg (by omega), if_pos h1, if_neg (by omega)]
    have E1 : Hid (relem (el c r) = #[.agg #[.bool false, .string ⟨#[]⟩, .int .i64 0, .int .i64 0], .int .i64 (-1)]) := Lib.hid (by
      unfold relem
      rw [he]
      rfl)
    have hs2 : (s.size : Int) < 2 := by omega
    rw [E1.out]
    clear E1 he h hsz hl
    obtain ⟨X, hX⟩ : ∃ X, c.toNat = X := ⟨_, rfl⟩
    rw [hX] at h1 hcl
    have m1 : (X : Int).tmod 4 = 1 := by rw [Int.tmod_eq_emod_of_nonneg (by omega)]; omega
    have m2 : (X : Int) % 4 = 1 := by omega
    go_enter Try.func48, Try.ntmps48
    go_wp2
    exact ret48 w.heap.size rfl rfl rfl (World.alloc_heap_new w _) ⟨rfl, (Below.refl _ w).alloc (Nat.le_refl _) _⟩
theorem size_cons {s : ByteArray} {c : UInt8} {r : List UInt8} (h : s.data.toList = c :: r) : s.size = r.length + 1 := by
  have : s.data.toList.length = s.size := by simp
  rw [h] at this
  simpa using this.symm
set_option maxRecDepth 100000 in
set_option maxHeartbeats 1000000 in
theorem relem_two (s : ByteArray) (c : UInt8) (r : List UInt8) (h : s.data.toList = c :: r) (hs : s.size ≤ 1000000) (h1 : c.toNat % 4 = 2) (w : World) :
    Calls Try.prog 48 #[.string s] w fun e w' => e = .returned (.tuple (relem (el c r))) ∧ Below w.heap.size w w' := by
  have hsz := size_cons h
  have h0 : 0 < s.size := by omega
  have g0 := head0 h h0
  have hcl := c.toNat_lt
  by_cases hl : 2 ≤ r.length
  · have he : el c r = (⟨true, bs [], (low (r.take 2) : Nat), (c.toNat / 4 + 1 : Nat)⟩, 2, true) := by
      unfold el cpy
      rw [if_neg (by omega), if_neg (by omega), if_pos h1, if_pos hl]
    rw [he]
    have hs2 : 3 ≤ (s.size : Int) := by omega
    have hs2n : 3 ≤ s.size := by omega
    have hex : (s.extract 1 3).data.toList = r.take 2 := by
      rw [sub_list s c r h 0 2, bs_data]
      rfl
    have hlw := fun W => Lib.hid (rlow_any (s.extract 1 3) (by simp; omega) W)
    rw [hex] at hlw
    clear he h hsz hl hex
    generalize low (r.take 2) = Y at *
    obtain ⟨X, hX⟩ : ∃ X, c.toNat = X := ⟨_, rfl⟩
    rw [hX] at h1 hcl ⊢
    have m1 : (X : Int).tmod 4 = 2 := by rw [Int.tmod_eq_emod_of_nonneg (by omega)]; omega
    have m2 : (X : Int) % 4 = 2 := by omega
    have m3 : (X : Int).tdiv 4 = ((X / 4 : Nat) : Int) := by rw [Int.tdiv_eq_ediv_of_nonneg (by omega)]; omega
    have m5 : (X : Int) / 4 = ((X / 4 : Nat) : Int) := by omega
    have b1 : X / 4 ≤ 63 := by omega
    have E1 : Hid (relem (⟨true, bs [], (Y : Nat), (X / 4 + 1 : Nat)⟩, 2, true) = #[.agg #[.bool true, .string ⟨#[]⟩, .int .i64 (Y : Int), .int .i64 ((X / 4 : Nat) + 1 : Int)], .int .i64 3]) := Lib.hid (by
      unfold relem pv
      simp
      rfl)
    rw [E1.out]
    clear E1
    generalize X / 4 = A2 at *
    go_enter Try.func48, Try.ntmps48
    go_wp2_with (go_at_call 67; refine (hlw _).out.mono ?_; rintro e w' ⟨rfl, rfl⟩)
    exact ret48 w.heap.size rfl rfl rfl (World.alloc_heap_new w _) ⟨rfl, (Below.refl _ w).alloc (Nat.le_refl _) _⟩
  · have he : (el c r).2.2 = false := by
      unfold el cpy
      rw [if_neg (by omega), if_neg (by omega), if_pos h1, if_neg hl]
    have E1 : Hid (relem (el c r) = #[.agg #[.bool false, .string ⟨#[]⟩, .int .i64 0, .int .i64 0], .int .i64 (-1)]) := Lib.hid (by
      unfold relem
      rw [he]
      rfl)
    have hs2 : (s.size : Int) < 3 := by omega
    rw [E1.out]
    clear E1 he h hsz hl
    obtain ⟨X, hX⟩ : ∃ X, c.toNat = X := ⟨_, rfl⟩
    rw [hX] at h1 hcl
    have m1 : (X : Int).tmod 4 = 2 := by rw [Int.tmod_eq_emod_of_nonneg (by omega)]; omega
    have m2 : (X : Int) % 4 = 2 := by omega
    go_enter Try.func48, Try.ntmps48
    go_wp2
    exact ret48 w.heap.size rfl rfl rfl (World.alloc_heap_new w _) ⟨rfl, (Below.refl _ w).alloc (Nat.le_refl _) _⟩
set_option maxRecDepth 100000 in
set_option maxHeartbeats 1000000 in
theorem relem_four (s : ByteArray) (c : UInt8) (r : List UInt8) (h : s.data.toList = c :: r) (hs : s.size ≤ 1000000) (h1 : c.toNat % 4 = 3) (w : World) :
    Calls Try.prog 48 #[.string s] w fun e w' => e = .returned (.tuple (relem (el c r))) ∧ Below w.heap.size w w' := by
  have hsz := size_cons h
  have h0 : 0 < s.size := by omega
  have g0 := head0 h h0
  have hcl := c.toNat_lt
  by_cases hl : 4 ≤ r.length
  · have he : el c r = (⟨true, bs [], (low (r.take 4) : Nat), (c.toNat / 4 + 1 : Nat)⟩, 4, true) := by
      unfold el cpy
      rw [if_neg (by omega), if_neg (by omega), if_neg (by omega), if_pos hl]
    rw [he]
    have hs2 : 5 ≤ (s.size : Int) := by omega
    have hs2n : 5 ≤ s.size := by omega
    have hex : (s.extract 1 5).data.toList = r.take 4 := by
      rw [sub_list s c r h 0 4, bs_data]
      rfl
    have hlw := fun W => Lib.hid (rlow_any (s.extract 1 5) (by simp; omega) W)
    rw [hex] at hlw
    clear he h hsz hl hex
    generalize low (r.take 4) = Y at *
    obtain ⟨X, hX⟩ : ∃ X, c.toNat = X := ⟨_, rfl⟩
    rw [hX] at h1 hcl ⊢
    have m1 : (X : Int).tmod 4 = 3 := by rw [Int.tmod_eq_emod_of_nonneg (by omega)]; omega
    have m2 : (X : Int) % 4 = 3 := by omega
    have m3 : (X : Int).tdiv 4 = ((X / 4 : Nat) : Int) := by rw [Int.tdiv_eq_ediv_of_nonneg (by omega)]; omega
    have m5 : (X : Int) / 4 = ((X / 4 : Nat) : Int) := by omega
    have b1 : X / 4 ≤ 63 := by omega
    have E1 : Hid (relem (⟨true, bs [], (Y : Nat), (X / 4 + 1 : Nat)⟩, 4, true) = #[.agg #[.bool true, .string ⟨#[]⟩, .int .i64 (Y : Int), .int .i64 ((X / 4 : Nat) + 1 : Int)], .int .i64 5]) := Lib.hid (by
      unfold relem pv
      simp
      rfl)
    rw [E1.out]
    clear E1
    generalize X / 4 = A2 at *
    go_enter Try.func48, Try.ntmps48
    go_wp2_with (go_at_call 67; refine (hlw _).out.mono ?_; rintro e w' ⟨rfl, rfl⟩)
    exact ret48 w.heap.size rfl rfl rfl (World.alloc_heap_new w _) ⟨rfl, (Below.refl _ w).alloc (Nat.le_refl _) _⟩
  · have he : (el c r).2.2 = false := by
      unfold el cpy
      rw [if_neg (by omega), if_neg (by omega), if_neg (by omega), if_neg hl]
    have E1 : Hid (relem (el c r) = #[.agg #[.bool false, .string ⟨#[]⟩, .int .i64 0, .int .i64 0], .int .i64 (-1)]) := Lib.hid (by
      unfold relem
      rw [he]
      rfl)
    have hs2 : (s.size : Int) < 5 := by omega
    rw [E1.out]
    clear E1 he h hsz hl
    obtain ⟨X, hX⟩ : ∃ X, c.toNat = X := ⟨_, rfl⟩
    rw [hX] at h1 hcl
    have m1 : (X : Int).tmod 4 = 3 := by rw [Int.tmod_eq_emod_of_nonneg (by omega)]; omega
    have m2 : (X : Int) % 4 = 3 := by omega
    go_enter Try.func48, Try.ntmps48
    go_wp2
    exact ret48 w.heap.size rfl rfl rfl (World.alloc_heap_new w _) ⟨rfl, (Below.refl _ w).alloc (Nat.le_refl _) _⟩
set_option maxRecDepth 100000 in
set_option maxHeartbeats 1000000 in
theorem relem_lit (s : ByteArray) (c : UInt8) (r : List UInt8) (h : s.data.toList = c :: r) (hs : s.size ≤ 1000000) (h1 : c.toNat % 4 = 0) (h6 : c.toNat / 4 < 60) (w : World) :
    Calls Try.prog 48 #[.string s] w fun e w' => e = .returned (.tuple (relem (el c r))) ∧ Below w.heap.size w w' := by
  have hsz := size_cons h
  have h0 : 0 < s.size := by omega
  have g0 := head0 h h0
  have hcl := c.toNat_lt
  have he : el c r = lit r 0 (c.toNat / 4 + 1) := by
    unfold el
    rw [if_pos h1, if_pos h6]
  rw [he]
  obtain ⟨X, hX⟩ : ∃ X, c.toNat = X := ⟨_, rfl⟩
  rw [hX] at h1 h6 hcl ⊢
  have m1 : (X : Int).tmod 4 = 0 := by rw [Int.tmod_eq_emod_of_nonneg (by omega)]; omega
  have m2 : (X : Int) % 4 = 0 := by omega
  have m3 : (X : Int).tdiv 4 = ((X / 4 : Nat) : Int) := by rw [Int.tdiv_eq_ediv_of_nonneg (by omega)]; omega
  have m5 : (X : Int) / 4 = ((X / 4 : Nat) : Int) := by omega
  generalize X / 4 = A at *
  unfold lit
  by_cases hl : 0 + (A + 1) ≤ r.length
  · rw [if_pos hl]
    have hex : s.extract 1 (1 + (A + 1)) = bs ((r.drop 0).take (A + 1)) := by
      rw [show 1 + (A + 1) = (A + 1) + 1 by omega, sub_list s c r h 0 (A + 1)]
      rfl
    have E1 : Hid (relem (⟨false, bs ((r.drop 0).take (A + 1)), 0, 0⟩, 0 + (A + 1), true) = #[.agg #[.bool false, .string (bs ((r.drop 0).take (A + 1))), .int .i64 0, .int .i64 0], .int .i64 (1 + ((A : Int) + 1))]) := Lib.hid (by
      unfold relem pv
      simp
      omega)
    rw [E1.out, ← hex]
    obtain ⟨Y, hY⟩ : ∃ Y, 1 + (A + 1) = Y := ⟨_, rfl⟩
    have wY : 1 + ((A : Int) + 1) = (Y : Int) := by omega
    have hYs : Y ≤ s.size := by omega
    have hY1 : 1 ≤ Y := by omega
    have hns : ¬ ((s.size : Int) - 1 < (A : Int) + 1) := by omega
    have hns2 : ((A : Int) + 1) ≤ ((s.size : Int) - 1) := by omega
    rw [hY, wY]
    have HY := Lib.hid hY
    clear E1 he h hsz hl hex hY
    go_enter Try.func48, Try.ntmps48
    go_wp2
    exact ret48 w.heap.size rfl rfl rfl (World.alloc_heap_new w _) ⟨rfl, (Below.refl _ w).alloc (Nat.le_refl _) _⟩
  · rw [if_neg hl]
    have E1 : Hid (relem (⟨false, bs [], 0, 0⟩, 0, false) = #[.agg #[.bool false, .string ⟨#[]⟩, .int .i64 0, .int .i64 0], .int .i64 (-1)]) := Lib.hid rfl
    rw [E1.out]
    have hns : ((s.size : Int) - 1 < (A : Int) + 1) := by omega
    clear E1 he h hsz hl
    go_enter Try.func48, Try.ntmps48
    go_wp2
    exact ret48 w.heap.size rfl rfl rfl (World.alloc_heap_new w _) ⟨rfl, (Below.refl _ w).alloc (Nat.le_refl _) _⟩
set_option maxRecDepth 100000 in
set_option maxHeartbeats 1000000 in
theorem relem_long (s : ByteArray) (c : UInt8) (r : List UInt8) (h : s.data.toList = c :: r) (hs : s.size ≤ 1000000) (h1 : c.toNat % 4 = 0) (h6 : ¬ c.toNat / 4 < 60) (w : World) :
    Calls Try.prog 48 #[.string s] w fun e w' => e = .returned (.tuple (relem (el c r))) ∧ Below w.heap.size w w' := by
  have hsz := size_cons h
  have h0 : 0 < s.size := by omega
  have g0 := head0 h h0
  have hcl := c.toNat_lt
  have he : el c r = if c.toNat / 4 - 59 ≤ r.length then lit r (c.toNat / 4 - 59) (low (r.take (c.toNat / 4 - 59)) + 1) else (⟨false, bs [], 0, 0⟩, r.length, false) := by
    unfold el
    rw [if_pos h1, if_neg h6]
  rw [he]
  obtain ⟨X, hX⟩ : ∃ X, c.toNat = X := ⟨_, rfl⟩
  rw [hX] at h1 h6 hcl ⊢
  have m1 : (X : Int).tmod 4 = 0 := by rw [Int.tmod_eq_emod_of_nonneg (by omega)]; omega
  have m2 : (X : Int) % 4 = 0 := by omega
  have m3 : (X : Int).tdiv 4 = ((X / 4 : Nat) : Int) := by rw [Int.tdiv_eq_ediv_of_nonneg (by omega)]; omega
  have m5 : (X : Int) / 4 = ((X / 4 : Nat) : Int) := by omega
  have hA : X / 4 ≤ 63 := by omega
  generalize X / 4 = A at *
  obtain ⟨K, hK⟩ : ∃ K, A - 59 = K := ⟨_, rfl⟩
  rw [hK]
  have hK1 : 1 ≤ K := by omega
  have hK4 : K ≤ 4 := by omega
  obtain rfl : A = K + 59 := by omega
  have m6 : ((K + 59 : Nat) : Int) + 1 = (K : Int) + 60 := by omega
  have m7 : (K : Int) + 60 - 60 = (K : Int) := by omega
  have m8 : ((K + 59 : Nat) : Int) = (K : Int) + 59 := by omega
  have m9 : (K : Int) + 59 + 1 - 60 = (K : Int) := by omega
  have m10 : ¬ ((K : Int) + 59 + 1 ≤ 60) := by omega
  clear h6 hA hK
  by_cases hl : K ≤ r.length
  · rw [if_pos hl]
    have hex : (s.extract 1 (1 + K)).data.toList = r.take K := by
      rw [show 1 + K = K + 1 by omega, sub_list s c r h 0 K, bs_data]
      rfl
    have hlw := fun W => Lib.hid (rlow_any (s.extract 1 (1 + K)) (by simp; omega) W)
    rw [hex] at hlw
    have hll : low (r.take K) < 4294967296 := by
      have h1 := low_lt (r.take K)
      have h2 : (256 : Nat) ^ (r.take K).length ≤ 256 ^ 4 := Nat.pow_le_pow_right (by omega) (by rw [List.length_take]; omega)
      have h3 : (256 : Nat) ^ 4 = 4294967296 := by decide
      omega
    generalize low (r.take K) = Y at *
    obtain ⟨Z, hZ⟩ : ∃ Z, 1 + K = Z := ⟨_, rfl⟩
    have wZ : 1 + (K : Int) = (Z : Int) := by omega
    have hZs : Z ≤ s.size := by omega
    have hZ1 : 1 ≤ Z := by omega
    rw [hZ] at hlw
    unfold lit
    by_cases hl2 : K + (Y + 1) ≤ r.length
    · rw [if_pos hl2]
      obtain ⟨V, hV⟩ : ∃ V, Z + (Y + 1) = V := ⟨_, rfl⟩
      have hex2 : s.extract Z V = bs ((r.drop K).take (Y + 1)) := by
        rw [← hV, ← hZ, show 1 + K + (Y + 1) = (K + (Y + 1)) + 1 by omega, show 1 + K = K + 1 by omega, sub_list s c r h K (K + (Y + 1)), show K + (Y + 1) - K = Y + 1 by omega]
      have E1 : Hid (relem (⟨false, bs ((r.drop K).take (Y + 1)), 0, 0⟩, K + (Y + 1), true) = #[.agg #[.bool false, .string (s.extract Z V), .int .i64 0, .int .i64 0], .int .i64 (V : Int)]) := Lib.hid (by
        unfold relem pv
        rw [hex2]
        simp
        omega)
      rw [E1.out]
      have wV : (Z : Int) + ((Y : Int) + 1) = (V : Int) := by omega
      have hVs : V ≤ s.size := by omega
      have hZV : Z ≤ V := by omega
      have hns2 : ((Y : Int) + 1) ≤ ((s.size : Int) - (Z : Int)) := by omega
      have HZ := Lib.hid hZ
      have HV := Lib.hid hV
      clear E1 he h hsz hl hl2 hex hex2 hZ hV
      go_enter Try.func48, Try.ntmps48
      go_wp2_with (go_at_call 67; refine (hlw _).out.mono ?_; rintro e w' ⟨rfl, rfl⟩)
      exact ret48 w.heap.size rfl rfl rfl (World.alloc_heap_new w _) ⟨rfl, (Below.refl _ w).alloc (Nat.le_refl _) _⟩
    · rw [if_neg hl2]
      have E1 : Hid (relem (⟨false, bs [], 0, 0⟩, K, false) = #[.agg #[.bool false, .string ⟨#[]⟩, .int .i64 0, .int .i64 0], .int .i64 (-1)]) := Lib.hid rfl
      rw [E1.out]
      have hns : ((s.size : Int) - (Z : Int) < (Y : Int) + 1) := by omega
      have HZ := Lib.hid hZ
      clear E1 he h hsz hl hl2 hex hZ
      go_enter Try.func48, Try.ntmps48
      go_wp2_with (go_at_call 67; refine (hlw _).out.mono ?_; rintro e w' ⟨rfl, rfl⟩)
      exact ret48 w.heap.size rfl rfl rfl (World.alloc_heap_new w _) ⟨rfl, (Below.refl _ w).alloc (Nat.le_refl _) _⟩
  · rw [if_neg hl]
    have E1 : Hid (relem (⟨false, bs [], 0, 0⟩, r.length, false) = #[.agg #[.bool false, .string ⟨#[]⟩, .int .i64 0, .int .i64 0], .int .i64 (-1)]) := Lib.hid rfl
    rw [E1.out]
    have hns : ((s.size : Int) < 1 + (K : Int)) := by omega
    clear E1 he h hsz hl
    go_enter Try.func48, Try.ntmps48
    go_wp2
    exact ret48 w.heap.size rfl rfl rfl (World.alloc_heap_new w _) ⟨rfl, (Below.refl _ w).alloc (Nat.le_refl _) _⟩
theorem relem_any (s : ByteArray) (c : UInt8) (r : List UInt8) (h : s.data.toList = c :: r) (hs : s.size ≤ 1000000) (w : World) :
    Calls Try.prog 48 #[.string s] w fun e w' => e = .returned (.tuple (relem (el c r))) ∧ Below w.heap.size w w' := by
  by_cases h0 : c.toNat % 4 = 0
  · by_cases h6 : c.toNat / 4 < 60
    · exact relem_lit s c r h hs h0 h6 w
    · exact relem_long s c r h hs h0 h6 w
  · by_cases h1 : c.toNat % 4 = 1
    · exact relem_near s c r h hs h1 w
    · by_cases h2 : c.toNat % 4 = 2
      · exact relem_two s c r h hs h2 w
      · exact relem_four s c r h hs (by omega) w
end Go.Proofs.Ytnnogjojoeajnaa
