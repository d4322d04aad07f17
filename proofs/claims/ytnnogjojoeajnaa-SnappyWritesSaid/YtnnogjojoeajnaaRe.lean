/- The contracts of the document's May and one. -/
import Derived.Test.YtnnogjojoeajnaaRa
import Derived.Test.YtnnogjojoeajnaaPq
import Derived.Test.YtnnogjojoeajnaaQr
namespace Go.Proofs.Ytnnogjojoeajnaa
open Go.RowKit Go.Sort
set_option maxRecDepth 100000 in
set_option maxHeartbeats 1000000 in
theorem rmay_any (p : Pt) (hp : p.ok) (w : World) :
   Calls Try.prog 49 #[pv p] w fun e w' => e = .returned (.bool (may p)) ∧ Below w.heap.size w w' := by
  obtain ⟨c, t, o, l⟩ := p
  obtain ⟨h1, h2, h3, h4, h5⟩ := hp
  dsimp only at h1 h2 h3 h4 h5
  have fin : ∀ (o : Obj), Below w.heap.size w (w.alloc o) := fun o => (Below.refl _ _).alloc (Nat.le_refl _) _
  unfold may pv
  dsimp only
  cases c
  · by_cases hs1 : 1 ≤ t.size
    · have hs1i : 1 ≤ (t.size : Int) := by omega
      by_cases hs2 : (t.size : Int) ≤ 65536
      · by_cases hl : l = 0
        · subst hl
          by_cases ho : o = 0
          · subst ho
            go_enter Try.func49, Try.ntmps49
            go_wp2
            go_ret
            exact ⟨ret_bool (by simp <;> omega), fin _⟩
          · have hob : (o == 0) = false := by rw [beq_eq_false_iff_ne]; exact ho
            go_enter Try.func49, Try.ntmps49
            go_wp2
            go_ret
            exact ⟨ret_bool (by simp <;> omega), fin _⟩
        · have hlb : (l == 0) = false := by rw [beq_eq_false_iff_ne]; exact hl
          go_enter Try.func49, Try.ntmps49
          go_wp2
          go_ret
          exact ⟨ret_bool (by simp <;> omega), fin _⟩
      · go_enter Try.func49, Try.ntmps49
        go_wp2
        go_ret
        exact ⟨ret_bool (by simp <;> omega), fin _⟩
    · have hs1i : (t.size : Int) < 1 := by omega
      go_enter Try.func49, Try.ntmps49
      go_wp2
      go_ret
      exact ⟨ret_bool (by simp <;> omega), fin _⟩
  · by_cases ht : t.size = 0
    · obtain rfl := ba_empty ht
      by_cases hl : 1 ≤ l
      · by_cases hl2 : l ≤ 64
        · by_cases ho : 1 ≤ o
          · go_enter Try.func49, Try.ntmps49
            go_wp2
            go_ret
            exact ⟨ret_bool (by simp <;> omega), fin _⟩
          · go_enter Try.func49, Try.ntmps49
            go_wp2
            go_ret
            exact ⟨ret_bool (by simp <;> omega), fin _⟩
        · go_enter Try.func49, Try.ntmps49
          go_wp2
          go_ret
          exact ⟨ret_bool (by simp <;> omega), fin _⟩
      · go_enter Try.func49, Try.ntmps49
        go_wp2
        go_ret
        exact ⟨ret_bool (by simp <;> omega), fin _⟩
    · have hb : t.toList.isEmpty = false := by
        rw [toList_eq, List.isEmpty_eq_false_iff]
        intro h
        exact ht (by have := congrArg List.length h; simpa using this)
      have ht2 : (t.size == 0) = false := by rw [beq_eq_false_iff_ne]; exact ht
      go_enter Try.func49, Try.ntmps49
      go_wp2
      go_ret
      exact ⟨ret_bool (by simp <;> omega), fin _⟩
/-- Behind a box of a part. -/
structure Bx76 (W : World) (B : Nat) (c : Bool) (t : ByteArray) (o l : Int) : Prop where
  c0 : ∀ d os, (grow (redrawn W d) os).cell? ⟨B, 0, none⟩ = some (.bool c)
  c1 : ∀ d os, (grow (redrawn W d) os).cell? ⟨B, 1, none⟩ = some (.string t)
  c2 : ∀ d os, (grow (redrawn W d) os).cell? ⟨B, 2, none⟩ = some (.int .i64 o)
  c3 : ∀ d os, (grow (redrawn W d) os).cell? ⟨B, 3, none⟩ = some (.int .i64 l)
theorem Bx76.new (w : World) (c : Bool) (t : ByteArray) (o l : Int) : Bx76 (w.alloc (.cells #[.bool c, .string t, .int .i64 o, .int .i64 l] 76)) w.heap.size c t o l := by
  have hc : ∀ j, (w.alloc (.cells #[.bool c, .string t, .int .i64 o, .int .i64 l] 76)).cell? ⟨w.heap.size, j, none⟩ = _ := fun j => World.cell?_alloc_mark w _ 76 (0, 0) j
  exact ⟨cell_regrown (hc 0), cell_regrown (hc 1), cell_regrown (hc 2), cell_regrown (hc 3)⟩
theorem bytes_grown (n k : Nat) (hn : n ≤ 9223372036854775807) (hk : k ≤ 4) (W : World) (d : Nat) (os : Array Obj) :
    Calls Try.prog 68 #[.int .i64 n, .int .i64 k] (grow (redrawn W d) os) fun e w'' => e = .returned (.string (bs (Bt.fx k n))) ∧ ∃ p : Regrown, w'' = grow (redrawn W p.d) p.os := Calls.regrown_of (rbytes_any n k hn hk _)
theorem fx_one (n : Nat) : Bt.fx 1 n = [UInt8.ofNat n] := rfl
set_option maxRecDepth 100000 in
set_option maxHeartbeats 2000000 in
theorem one_near (o K L : Nat) (ho : o < 2048) (hKL : K = L + 4) (hL : L ≤ 7) (w : World) :
    Calls Try.prog 51 #[.agg #[.bool true, .string ⟨#[]⟩, .int .i64 (o : Int), .int .i64 (K : Int)]] w fun e w' => e = .returned (.string (bs [UInt8.ofNat (o / 256 * 32 + L * 4 + 1), UInt8.ofNat o])) ∧ Below w.heap.size w w' := by
  have HE0 : bs (Bt.fx 1 (o / 256 * 32 + L * 4 + 1)) ++ bs (Bt.fx 1 (o % 256)) = bs [UInt8.ofNat (o / 256 * 32 + L * 4 + 1), UInt8.ofNat o] := by rw [bs_append, fx_one, fx_one, Bt.ofNat_mod]; rfl
  obtain ⟨Q, hQ⟩ : ∃ Q, o / 256 = Q := ⟨_, rfl⟩
  obtain ⟨r, hr⟩ : ∃ r, o % 256 = r := ⟨_, rfl⟩
  obtain ⟨Q32, hQ32⟩ : ∃ x, Q * 32 = x := ⟨_, rfl⟩
  obtain ⟨L4, hL4⟩ : ∃ x, L * 4 = x := ⟨_, rfl⟩
  obtain ⟨S, hS⟩ : ∃ x, Q32 + L4 = x := ⟨_, rfl⟩
  obtain ⟨X, hX⟩ : ∃ x, S + 1 = x := ⟨_, rfl⟩
  rw [hQ, hQ32, hL4, hS, hX, hr] at HE0
  have q1 : (o : Int).tdiv 256 = (Q : Int) := by rw [Int.tdiv_eq_ediv_of_nonneg (by omega)]; omega
  have q2 : (o : Int) / 256 = (Q : Int) := by omega
  have q3 : (o : Int).tmod 256 = (r : Int) := by rw [Int.tmod_eq_emod_of_nonneg (by omega)]; omega
  have q4 : (o : Int) % 256 = (r : Int) := by omega
  have q5 : (Q : Int) * 32 = (Q32 : Int) := by omega
  have q6 : (K : Int) - 4 = (L : Int) := by omega
  have q7 : (L : Int) * 4 = (L4 : Int) := by omega
  have q8 : (Q32 : Int) + (L4 : Int) = (S : Int) := by omega
  have q9 : (S : Int) + 1 = (X : Int) := by omega
  have b1 : Q ≤ 7 := by omega
  have b2 : r < 256 := by omega
  have b3 : Q32 ≤ 224 := by omega
  have b4 : L4 ≤ 28 := by omega
  have b5 : S ≤ 252 := by omega
  have b6 : X ≤ 253 := by omega
  have b7 : 4 ≤ (K : Int) := by omega
  have b8 : (K : Int) ≤ 11 := by omega
  have b9 : (o : Int) < 2048 := by omega
  have z1 : (bs (Bt.fx 1 X)).size = 1 := rfl
  have z2 : (bs (Bt.fx 1 r)).size = 1 := rfl
  have C1 := fun W d os => bytes_grown X 1 (by omega) (by omega) W d os
  have C2 := fun W d os => bytes_grown r 1 (by omega) (by omega) W d os
  generalize bs (Bt.fx 1 X) = u1 at *
  generalize bs (Bt.fx 1 r) = u2 at *
  have HE := Lib.hid HE0
  have HX : Hid (o / 256 * 32 + L * 4 + 1 = X) := Lib.hid (by rw [hQ, hQ32, hL4, hS, hX])
  have HC1 := Lib.hid C1
  have HC2 := Lib.hid C2
  clear HE0 C1 C2 hQ hr hQ32 hL4 hS hX hKL
  have HB1 : Hid (Below w.heap.size w (w.alloc (.cells #[.bool true, .string ⟨#[]⟩, .int .i64 (o : Int), .int .i64 (K : Int)] 76))) := Lib.hid ((Below.refl _ w).alloc (Nat.le_refl _) _)
  obtain ⟨k0, k1, k2, k3⟩ := Bx76.new w true ⟨#[]⟩ (o : Int) (K : Int)
  go_enter Try.func51, Try.ntmps51
  go_wp2
  generalize hW1 : w.alloc (.cells #[.bool true, .string ⟨#[]⟩, .int .i64 (o : Int), .int .i64 (K : Int)] 76) = W1 at *
  generalize hB : w.heap.size = B0 at *
  refine wp_region_quiet_below (by kernel_rfl) (by kernel_rfl) ?_
  iterate 10 (go_big_quiet_step (fail))
  go_big_quiet_step (first | (go_at_call 68; exact HC1.out _ _ _))
  iterate 3 (go_big_quiet_step (fail))
  go_big_quiet_step (first | (go_at_call 68; exact HC2.out _ _ _))
  iterate 2 (go_big_quiet_step (fail))
  refine wpQuiet_nil ?_
  intro W2 hw2
  have hb2 : Below W1.heap.size W1 W2 := by obtain ⟨q, rfl⟩ := hw2; exact below_regrown _ _ _
  have HB2 := Lib.hid hb2
  clear hw2 hb2 k0 k1 k2 k3
  go_wp2
  go_ret
  refine ⟨ret_str (by rw [HX.out]; exact HE.out), ?_⟩
  rw [hB]
  exact HB1.out.trans (HB2.out.mono (by have := HB1.out.size; omega))
set_option maxRecDepth 100000 in
set_option maxHeartbeats 2000000 in
theorem one_far_a (o K L : Nat) (hKL : K = L + 1) (hL : L ≤ 63) (ho : o < 65536) (hc : K < 4) (w : World) :
    Calls Try.prog 51 #[.agg #[.bool true, .string ⟨#[]⟩, .int .i64 (o : Int), .int .i64 (K : Int)]] w fun e w' => e = .returned (.string (bs (UInt8.ofNat (L * 4 + 2) :: Bt.fx 2 o))) ∧ Below w.heap.size w w' := by
  have HE0 : bs (Bt.fx 1 (L * 4 + 2)) ++ bs (Bt.fx 2 o) = bs (UInt8.ofNat (L * 4 + 2) :: Bt.fx 2 o) := by rw [bs_append, fx_one]; rfl
  obtain ⟨L4, hL4⟩ : ∃ x, L * 4 = x := ⟨_, rfl⟩
  obtain ⟨X, hX⟩ : ∃ x, L4 + 2 = x := ⟨_, rfl⟩
  rw [hL4, hX] at HE0
  have q6 : (K : Int) - 1 = (L : Int) := by omega
  have q7 : (L : Int) * 4 = (L4 : Int) := by omega
  have q9 : (L4 : Int) + 2 = (X : Int) := by omega
  have b4 : L4 ≤ 252 := by omega
  have b6 : X ≤ 255 := by omega
  have b9 : (o : Int) < 65536 := by omega
  have b10 : (K : Int) < 4 := by omega
  have z1 : (bs (Bt.fx 1 X)).size = 1 := rfl
  have z2 : (bs (Bt.fx 2 o)).size = 2 := rfl
  have C1 := fun W d os => bytes_grown X 1 (by omega) (by omega) W d os
  have C2 := fun W d os => bytes_grown o 2 (by omega) (by omega) W d os
  have HX : Hid (L * 4 + 2 = X) := Lib.hid (by rw [hL4, hX])
  generalize hu2 : bs (Bt.fx 2 o) = u2 at *
  generalize bs (Bt.fx 1 X) = u1 at *
  have HE := Lib.hid HE0
  have HC1 := Lib.hid C1
  have HC2 := Lib.hid C2
  clear HE0 C1 C2 hL4 hX hKL hu2 ho hc
  generalize (o : Int) = OI at *
  have HB1 : Hid (Below w.heap.size w (w.alloc (.cells #[.bool true, .string ⟨#[]⟩,   .int .i64 OI, .int .i64 (K : Int)] 76))) := Lib.hid ((Below.refl _ w).alloc (Nat.le_refl _) _)
  obtain ⟨k0, k1, k2, k3⟩ := Bx76.new w true ⟨#[]⟩ OI (K : Int)
  go_enter Try.func51, Try.ntmps51
  go_wp2
  generalize hW1 : w.alloc (.cells #[.bool true, .string ⟨#[]⟩,   .int .i64 OI, .int .i64 (K : Int)] 76) = W1 at *
  generalize hB : w.heap.size = B0 at *
  refine wp_region_quiet_below (by kernel_rfl) (by kernel_rfl) ?_
  iterate 5 (go_big_quiet_step (fail))
  go_big_quiet_step (first | (go_at_call 68; exact HC1.out _ _ _))
  iterate 2 (go_big_quiet_step (fail))
  go_big_quiet_step (first | (go_at_call 68; exact HC2.out _ _ _))
  iterate 2 (go_big_quiet_step (fail))
  refine wpQuiet_nil ?_
  intro W2 hw2
  have hb2 : Below W1.heap.size W1 W2 := by obtain ⟨q, rfl⟩ := hw2; exact below_regrown _ _ _
  have HB2 := Lib.hid hb2
  clear hw2 hb2 k0 k1 k2 k3
  go_wp2
  go_ret
  refine ⟨ret_str (by rw [HX.out]; exact HE.out), ?_⟩
  rw [hB]
  exact HB1.out.trans (HB2.out.mono (by have := HB1.out.size; omega))
set_option maxRecDepth 100000 in
set_option maxHeartbeats 2000000 in
theorem one_far_b (o K L : Nat) (hKL : K = L + 1) (hL : L ≤ 63) (ho : o < 65536) (hc : 11 < K) (w : World) :
    Calls Try.prog 51 #[.agg #[.bool true, .string ⟨#[]⟩, .int .i64 (o : Int), .int .i64 (K : Int)]] w fun e w' => e = .returned (.string (bs (UInt8.ofNat (L * 4 + 2) :: Bt.fx 2 o))) ∧ Below w.heap.size w w' := by
  have HE0 : bs (Bt.fx 1 (L * 4 + 2)) ++ bs (Bt.fx 2 o) = bs (UInt8.ofNat (L * 4 + 2) :: Bt.fx 2 o) := by rw [bs_append, fx_one]; rfl
  obtain ⟨L4, hL4⟩ : ∃ x, L * 4 = x := ⟨_, rfl⟩
  obtain ⟨X, hX⟩ : ∃ x, L4 + 2 = x := ⟨_, rfl⟩
  rw [hL4, hX] at HE0
  have q6 : (K : Int) - 1 = (L : Int) := by omega
  have q7 : (L : Int) * 4 = (L4 : Int) := by omega
  have q9 : (L4 : Int) + 2 = (X : Int) := by omega
  have b4 : L4 ≤ 252 := by omega
  have b6 : X ≤ 255 := by omega
  have b9 : (o : Int) < 65536 := by omega
  have b10 : 4 ≤ (K : Int) := by omega
  have b11 : 11 < (K : Int) := by omega
  have z1 : (bs (Bt.fx 1 X)).size = 1 := rfl
  have z2 : (bs (Bt.fx 2 o)).size = 2 := rfl
  have C1 := fun W d os => bytes_grown X 1 (by omega) (by omega) W d os
  have C2 := fun W d os => bytes_grown o 2 (by omega) (by omega) W d os
  have HX : Hid (L * 4 + 2 = X) := Lib.hid (by rw [hL4, hX])
  generalize hu2 : bs (Bt.fx 2 o) = u2 at *
  generalize bs (Bt.fx 1 X) = u1 at *
  have HE := Lib.hid HE0
  have HC1 := Lib.hid C1
  have HC2 := Lib.hid C2
  clear HE0 C1 C2 hL4 hX hKL hu2 ho hc
  generalize (o : Int) = OI at *
  have HB1 : Hid (Below w.heap.size w (w.alloc (.cells #[.bool true, .string ⟨#[]⟩,   .int .i64 OI, .int .i64 (K : Int)] 76))) := Lib.hid ((Below.refl _ w).alloc (Nat.le_refl _) _)
  obtain ⟨k0, k1, k2, k3⟩ := Bx76.new w true ⟨#[]⟩ OI (K : Int)
  go_enter Try.func51, Try.ntmps51
  go_wp2
  generalize hW1 : w.alloc (.cells #[.bool true, .string ⟨#[]⟩,   .int .i64 OI, .int .i64 (K : Int)] 76) = W1 at *
  generalize hB : w.heap.size = B0 at *
  refine wp_region_quiet_below (by kernel_rfl) (by kernel_rfl) ?_
  iterate 5 (go_big_quiet_step (fail))
  go_big_quiet_step (first | (go_at_call 68; exact HC1.out _ _ _))
  iterate 2 (go_big_quiet_step (fail))
  go_big_quiet_step (first | (go_at_call 68; exact HC2.out _ _ _))
  iterate 2 (go_big_quiet_step (fail))
  refine wpQuiet_nil ?_
  intro W2 hw2
  have hb2 : Below W1.heap.size W1 W2 := by obtain ⟨q, rfl⟩ := hw2; exact below_regrown _ _ _
  have HB2 := Lib.hid hb2
  clear hw2 hb2 k0 k1 k2 k3
  go_wp2
  go_ret
  refine ⟨ret_str (by rw [HX.out]; exact HE.out), ?_⟩
  rw [hB]
  exact HB1.out.trans (HB2.out.mono (by have := HB1.out.size; omega))
set_option maxRecDepth 100000 in
set_option maxHeartbeats 2000000 in
theorem one_far_c (o K L : Nat) (hKL : K = L + 1) (hL : L ≤ 63) (ho : o < 65536) (hc : 4 ≤ K) (hc2 : K ≤ 11) (hc3 : 2048 ≤ o) (w : World) :
    Calls Try.prog 51 #[.agg #[.bool true, .string ⟨#[]⟩, .int .i64 (o : Int), .int .i64 (K : Int)]] w fun e w' => e = .returned (.string (bs (UInt8.ofNat (L * 4 + 2) :: Bt.fx 2 o))) ∧ Below w.heap.size w w' := by
  have HE0 : bs (Bt.fx 1 (L * 4 + 2)) ++ bs (Bt.fx 2 o) = bs (UInt8.ofNat (L * 4 + 2) :: Bt.fx 2 o) := by rw [bs_append, fx_one]; rfl
  obtain ⟨L4, hL4⟩ : ∃ x, L * 4 = x := ⟨_, rfl⟩
  obtain ⟨X, hX⟩ : ∃ x, L4 + 2 = x := ⟨_, rfl⟩
  rw [hL4, hX] at HE0
  have q6 : (K : Int) - 1 = (L : Int) := by omega
  have q7 : (L : Int) * 4 = (L4 : Int) := by omega
  have q9 : (L4 : Int) + 2 = (X : Int) := by omega
  have b4 : L4 ≤ 252 := by omega
  have b6 : X ≤ 255 := by omega
  have b9 : (o : Int) < 65536 := by omega
  have b10 : 4 ≤ (K : Int) := by omega
  have b11 : (K : Int) ≤ 11 := by omega
  have b12 : 2048 ≤ (o : Int) := by omega
  have z1 : (bs (Bt.fx 1 X)).size = 1 := rfl
  have z2 : (bs (Bt.fx 2 o)).size = 2 := rfl
  have C1 := fun W d os => bytes_grown X 1 (by omega) (by omega) W d os
  have C2 := fun W d os => bytes_grown o 2 (by omega) (by omega) W d os
  have HX : Hid (L * 4 + 2 = X) := Lib.hid (by rw [hL4, hX])
  generalize hu2 : bs (Bt.fx 2 o) = u2 at *
  generalize bs (Bt.fx 1 X) = u1 at *
  have HE := Lib.hid HE0
  have HC1 := Lib.hid C1
  have HC2 := Lib.hid C2
  clear HE0 C1 C2 hL4 hX hKL hu2 ho hc2 hc3 hc
  generalize (o : Int) = OI at *
  have HB1 : Hid (Below w.heap.size w (w.alloc (.cells #[.bool true, .string ⟨#[]⟩,   .int .i64 OI, .int .i64 (K : Int)] 76))) := Lib.hid ((Below.refl _ w).alloc (Nat.le_refl _) _)
  obtain ⟨k0, k1, k2, k3⟩ := Bx76.new w true ⟨#[]⟩ OI (K : Int)
  go_enter Try.func51, Try.ntmps51
  go_wp2
  generalize hW1 : w.alloc (.cells #[.bool true, .string ⟨#[]⟩,   .int .i64 OI, .int .i64 (K : Int)] 76) = W1 at *
  generalize hB : w.heap.size = B0 at *
  refine wp_region_quiet_below (by kernel_rfl) (by kernel_rfl) ?_
  iterate 5 (go_big_quiet_step (fail))
  go_big_quiet_step (first | (go_at_call 68; exact HC1.out _ _ _))
  iterate 2 (go_big_quiet_step (fail))
  go_big_quiet_step (first | (go_at_call 68; exact HC2.out _ _ _))
  iterate 2 (go_big_quiet_step (fail))
  refine wpQuiet_nil ?_
  intro W2 hw2
  have hb2 : Below W1.heap.size W1 W2 := by obtain ⟨q, rfl⟩ := hw2; exact below_regrown _ _ _
  have HB2 := Lib.hid hb2
  clear hw2 hb2 k0 k1 k2 k3
  go_wp2
  go_ret
  refine ⟨ret_str (by rw [HX.out]; exact HE.out), ?_⟩
  rw [hB]
  exact HB1.out.trans (HB2.out.mono (by have := HB1.out.size; omega))
set_option maxRecDepth 100000 in
set_option maxHeartbeats 2000000 in
theorem one_fst_a (o K L : Nat) (hKL : K = L + 1) (hL : L ≤ 63) (ho : 65536 ≤ o) (ho2 : o < 4294967296) (hc : K < 4) (w : World) :
    Calls Try.prog 51 #[.agg #[.bool true, .string ⟨#[]⟩, .int .i64 (o : Int), .int .i64 (K : Int)]] w fun e w' => e = .returned (.string (bs (UInt8.ofNat (L * 4 + 3) :: Bt.fx 4 o))) ∧ Below w.heap.size w w' := by
  have HE0 : bs (Bt.fx 1 (L * 4 + 3)) ++ bs (Bt.fx 4 o) = bs (UInt8.ofNat (L * 4 + 3) :: Bt.fx 4 o) := by rw [bs_append, fx_one]; rfl
  obtain ⟨L4, hL4⟩ : ∃ x, L * 4 = x := ⟨_, rfl⟩
  obtain ⟨X, hX⟩ : ∃ x, L4 + 3 = x := ⟨_, rfl⟩
  rw [hL4, hX] at HE0
  have q6 : (K : Int) - 1 = (L : Int) := by omega
  have q7 : (L : Int) * 4 = (L4 : Int) := by omega
  have q9 : (L4 : Int) + 3 = (X : Int) := by omega
  have b4 : L4 ≤ 252 := by omega
  have b6 : X ≤ 255 := by omega
  have b9 : 65536 ≤ (o : Int) := by omega
  have b10 : (K : Int) < 4 := by omega
  have z1 : (bs (Bt.fx 1 X)).size = 1 := rfl
  have z2 : (bs (Bt.fx 4 o)).size = 4 := rfl
  have C1 := fun W d os => bytes_grown X 1 (by omega) (by omega) W d os
  have C2 := fun W d os => bytes_grown o 4 (by omega) (by omega) W d os
  have HX : Hid (L * 4 + 3 = X) := Lib.hid (by rw [hL4, hX])
  generalize hu2 : bs (Bt.fx 4 o) = u2 at *
  generalize bs (Bt.fx 1 X) = u1 at *
  have HE := Lib.hid HE0
  have HC1 := Lib.hid C1
  have HC2 := Lib.hid C2
  clear HE0 C1 C2 hL4 hX hKL hu2 ho ho2 hc
  generalize (o : Int) = OI at *
  have HB1 : Hid (Below w.heap.size w (w.alloc (.cells #[.bool true, .string ⟨#[]⟩,   .int .i64 OI, .int .i64 (K : Int)] 76))) := Lib.hid ((Below.refl _ w).alloc (Nat.le_refl _) _)
  obtain ⟨k0, k1, k2, k3⟩ := Bx76.new w true ⟨#[]⟩ OI (K : Int)
  go_enter Try.func51, Try.ntmps51
  go_wp2
  generalize hW1 : w.alloc (.cells #[.bool true, .string ⟨#[]⟩,   .int .i64 OI, .int .i64 (K : Int)] 76) = W1 at *
  generalize hB : w.heap.size = B0 at *
  refine wp_region_quiet_below (by kernel_rfl) (by kernel_rfl) ?_
  iterate 5 (go_big_quiet_step (fail))
  go_big_quiet_step (first | (go_at_call 68; exact HC1.out _ _ _))
  iterate 2 (go_big_quiet_step (fail))
  go_big_quiet_step (first | (go_at_call 68; exact HC2.out _ _ _))
  iterate 2 (go_big_quiet_step (fail))
  refine wpQuiet_nil ?_
  intro W2 hw2
  have hb2 : Below W1.heap.size W1 W2 := by obtain ⟨q, rfl⟩ := hw2; exact below_regrown _ _ _
  have HB2 := Lib.hid hb2
  clear hw2 hb2 k0 k1 k2 k3
  go_wp2
  go_ret
  refine ⟨ret_str (by rw [HX.out]; exact HE.out), ?_⟩
  rw [hB]
  exact HB1.out.trans (HB2.out.mono (by have := HB1.out.size; omega))
set_option maxRecDepth 100000 in
set_option maxHeartbeats 2000000 in
theorem one_fst_b (o K L : Nat) (hKL : K = L + 1) (hL : L ≤ 63) (ho : 65536 ≤ o) (ho2 : o < 4294967296) (hc : 11 < K) (w : World) :
    Calls Try.prog 51 #[.agg #[.bool true, .string ⟨#[]⟩, .int .i64 (o : Int), .int .i64 (K : Int)]] w fun e w' => e = .returned (.string (bs (UInt8.ofNat (L * 4 + 3) :: Bt.fx 4 o))) ∧ Below w.heap.size w w' := by
  have HE0 : bs (Bt.fx 1 (L * 4 + 3)) ++ bs (Bt.fx 4 o) = bs (UInt8.ofNat (L * 4 + 3) :: Bt.fx 4 o) := by rw [bs_append, fx_one]; rfl
  obtain ⟨L4, hL4⟩ : ∃ x, L * 4 = x := ⟨_, rfl⟩
  obtain ⟨X, hX⟩ : ∃ x, L4 + 3 = x := ⟨_, rfl⟩
  rw [hL4, hX] at HE0
  have q6 : (K : Int) - 1 = (L : Int) := by omega
  have q7 : (L : Int) * 4 = (L4 : Int) := by omega
  have q9 : (L4 : Int) + 3 = (X : Int) := by omega
  have b4 : L4 ≤ 252 := by omega
  have b6 : X ≤ 255 := by omega
  have b9 : 65536 ≤ (o : Int) := by omega
  have b10 : 4 ≤ (K : Int) := by omega
  have b11 : 11 < (K : Int) := by omega
  have z1 : (bs (Bt.fx 1 X)).size = 1 := rfl
  have z2 : (bs (Bt.fx 4 o)).size = 4 := rfl
  have C1 := fun W d os => bytes_grown X 1 (by omega) (by omega) W d os
  have C2 := fun W d os => bytes_grown o 4 (by omega) (by omega) W d os
  have HX : Hid (L * 4 + 3 = X) := Lib.hid (by rw [hL4, hX])
  generalize hu2 : bs (Bt.fx 4 o) = u2 at *
  generalize bs (Bt.fx 1 X) = u1 at *
  have HE := Lib.hid HE0
  have HC1 := Lib.hid C1
  have HC2 := Lib.hid C2
  clear HE0 C1 C2 hL4 hX hKL hu2 ho ho2 hc
  generalize (o : Int) = OI at *
  have HB1 : Hid (Below w.heap.size w (w.alloc (.cells #[.bool true, .string ⟨#[]⟩,   .int .i64 OI, .int .i64 (K : Int)] 76))) := Lib.hid ((Below.refl _ w).alloc (Nat.le_refl _) _)
  obtain ⟨k0, k1, k2, k3⟩ := Bx76.new w true ⟨#[]⟩ OI (K : Int)
  go_enter Try.func51, Try.ntmps51
  go_wp2
  generalize hW1 : w.alloc (.cells #[.bool true, .string ⟨#[]⟩,   .int .i64 OI, .int .i64 (K : Int)] 76) = W1 at *
  generalize hB : w.heap.size = B0 at *
  refine wp_region_quiet_below (by kernel_rfl) (by kernel_rfl) ?_
  iterate 5 (go_big_quiet_step (fail))
  go_big_quiet_step (first | (go_at_call 68; exact HC1.out _ _ _))
  iterate 2 (go_big_quiet_step (fail))
  go_big_quiet_step (first | (go_at_call 68; exact HC2.out _ _ _))
  iterate 2 (go_big_quiet_step (fail))
  refine wpQuiet_nil ?_
  intro W2 hw2
  have hb2 : Below W1.heap.size W1 W2 := by obtain ⟨q, rfl⟩ := hw2; exact below_regrown _ _ _
  have HB2 := Lib.hid hb2
  clear hw2 hb2 k0 k1 k2 k3
  go_wp2
  go_ret
  refine ⟨ret_str (by rw [HX.out]; exact HE.out), ?_⟩
  rw [hB]
  exact HB1.out.trans (HB2.out.mono (by have := HB1.out.size; omega))
set_option maxRecDepth 100000 in
set_option maxHeartbeats 2000000 in
theorem one_fst_c (o K L : Nat) (hKL : K = L + 1) (hL : L ≤ 63) (ho : 65536 ≤ o) (ho2 : o < 4294967296) (hc : 4 ≤ K) (hc2 : K ≤ 11) (w : World) :
    Calls Try.prog 51 #[.agg #[.bool true, .string ⟨#[]⟩, .int .i64 (o : Int), .int .i64 (K : Int)]] w fun e w' => e = .returned (.string (bs (UInt8.ofNat (L * 4 + 3) :: Bt.fx 4 o))) ∧ Below w.heap.size w w' := by
  have HE0 : bs (Bt.fx 1 (L * 4 + 3)) ++ bs (Bt.fx 4 o) = bs (UInt8.ofNat (L * 4 + 3) :: Bt.fx 4 o) := by rw [bs_append, fx_one]; rfl
  obtain ⟨L4, hL4⟩ : ∃ x, L * 4 = x := ⟨_, rfl⟩
  obtain ⟨X, hX⟩ : ∃ x, L4 + 3 = x := ⟨_, rfl⟩
  rw [hL4, hX] at HE0
  have q6 : (K : Int) - 1 = (L : Int) := by omega
  have q7 : (L : Int) * 4 = (L4 : Int) := by omega
  have q9 : (L4 : Int) + 3 = (X : Int) := by omega
  have b4 : L4 ≤ 252 := by omega
  have b6 : X ≤ 255 := by omega
  have b9 : 65536 ≤ (o : Int) := by omega
  have b10 : 4 ≤ (K : Int) := by omega
  have b11 : (K : Int) ≤ 11 := by omega
  have b12 : 2048 ≤ (o : Int) := by omega
  have z1 : (bs (Bt.fx 1 X)).size = 1 := rfl
  have z2 : (bs (Bt.fx 4 o)).size = 4 := rfl
  have C1 := fun W d os => bytes_grown X 1 (by omega) (by omega) W d os
  have C2 := fun W d os => bytes_grown o 4 (by omega) (by omega) W d os
  have HX : Hid (L * 4 + 3 = X) := Lib.hid (by rw [hL4, hX])
  generalize hu2 : bs (Bt.fx 4 o) = u2 at *
  generalize bs (Bt.fx 1 X) = u1 at *
  have HE := Lib.hid HE0
  have HC1 := Lib.hid C1
  have HC2 := Lib.hid C2
  clear HE0 C1 C2 hL4 hX hKL hu2 ho ho2 hc2 hc
  generalize (o : Int) = OI at *
  have HB1 : Hid (Below w.heap.size w (w.alloc (.cells #[.bool true, .string ⟨#[]⟩,   .int .i64 OI, .int .i64 (K : Int)] 76))) := Lib.hid ((Below.refl _ w).alloc (Nat.le_refl _) _)
  obtain ⟨k0, k1, k2, k3⟩ := Bx76.new w true ⟨#[]⟩ OI (K : Int)
  go_enter Try.func51, Try.ntmps51
  go_wp2
  generalize hW1 : w.alloc (.cells #[.bool true, .string ⟨#[]⟩,   .int .i64 OI, .int .i64 (K : Int)] 76) = W1 at *
  generalize hB : w.heap.size = B0 at *
  refine wp_region_quiet_below (by kernel_rfl) (by kernel_rfl) ?_
  iterate 5 (go_big_quiet_step (fail))
  go_big_quiet_step (first | (go_at_call 68; exact HC1.out _ _ _))
  iterate 2 (go_big_quiet_step (fail))
  go_big_quiet_step (first | (go_at_call 68; exact HC2.out _ _ _))
  iterate 2 (go_big_quiet_step (fail))
  refine wpQuiet_nil ?_
  intro W2 hw2
  have hb2 : Below W1.heap.size W1 W2 := by obtain ⟨q, rfl⟩ := hw2; exact below_regrown _ _ _
  have HB2 := Lib.hid hb2
  clear hw2 hb2 k0 k1 k2 k3
  go_wp2
  go_ret
  refine ⟨ret_str (by rw [HX.out]; exact HE.out), ?_⟩
  rw [hB]
  exact HB1.out.trans (HB2.out.mono (by have := HB1.out.size; omega))
set_option maxRecDepth 100000 in
set_option maxHeartbeats 2000000 in
theorem one_lit_a (t : ByteArray) (N : Nat) (hN : t.size = N + 1) (h : N < 60) (w : World) :
    Calls Try.prog 51 #[.agg #[.bool false, .string t, .int .i64 0, .int .i64 0]] w fun e w' => e = .returned (.string (bs (UInt8.ofNat (N * 4) :: t.data.toList))) ∧ Below w.heap.size w w' := by
  have HE0 : bs (Bt.fx 1 (N * 4)) ++ t = bs (UInt8.ofNat (N * 4) :: t.data.toList) := by
    have := bs_append (Bt.fx 1 (N * 4)) t.data.toList
    rw [bs_of, fx_one] at this
    exact this
  obtain ⟨X, hX⟩ : ∃ x, N * 4 = x := ⟨_, rfl⟩
  rw [hX] at HE0 ⊢
  have q1 : (t.size : Int) - 1 = (N : Int) := by omega
  have q2 : (N : Int) * 4 = (X : Int) := by omega
  have b1 : X ≤ 236 := by omega
  have b2 : (t.size : Int) ≤ 60 := by omega
  have b3 : 1 ≤ (t.size : Int) := by omega
  have b4 : (N : Int) < 60 := by omega
  have z1 : (bs (Bt.fx 1 X)).size = 1 := rfl
  have C1 := fun W d os => bytes_grown X 1 (by omega) (by omega) W d os
  generalize bs (Bt.fx 1 X) = u1 at *
  have HE := Lib.hid HE0
  have HC1 := Lib.hid C1
  clear HE0 C1 hX hN
  have HB1 : Hid (Below w.heap.size w (w.alloc (.cells #[.bool false, .string t, .int .i64 0, .int .i64 0] 76))) := Lib.hid ((Below.refl _ w).alloc (Nat.le_refl _) _)
  obtain ⟨k0, k1, k2, k3⟩ := Bx76.new w false t 0 0
  go_enter Try.func51, Try.ntmps51
  go_wp2
  generalize hW1 : w.alloc (.cells #[.bool false, .string t, .int .i64 0, .int .i64 0] 76) = W1 at *
  generalize hB : w.heap.size = B0 at *
  refine wp_region_quiet_below (by kernel_rfl) (by kernel_rfl) ?_
  iterate 2 (go_big_quiet_step (fail))
  go_big_quiet_step (first | (go_at_call 68; exact HC1.out _ _ _))
  iterate 4 (go_big_quiet_step (fail))
  refine wpQuiet_nil ?_
  intro W2 hw2
  have hb2 : Below W1.heap.size W1 W2 := by obtain ⟨q, rfl⟩ := hw2; exact below_regrown _ _ _
  have HB2 := Lib.hid hb2
  clear hw2 hb2 k0 k1 k2 k3
  go_wp2
  go_ret
  refine ⟨ret_str HE.out, ?_⟩
  rw [hB]
  exact HB1.out.trans (HB2.out.mono (by have := HB1.out.size; omega))
set_option maxRecDepth 100000 in
set_option maxHeartbeats 2000000 in
theorem one_lit_b (t : ByteArray) (N : Nat) (hN : t.size = N + 1) (h : 60 ≤ N) (h2 : N < 256) (w : World) :
    Calls Try.prog 51 #[.agg #[.bool false, .string t, .int .i64 0, .int .i64 0]] w fun e w' => e = .returned (.string (bs (UInt8.ofNat 240 :: Bt.fx 1 N ++ t.data.toList))) ∧ Below w.heap.size w w' := by
  have HE0 : bs (Bt.fx 1 240) ++ bs (Bt.fx 1 N) ++ t = bs (UInt8.ofNat 240 :: Bt.fx 1 N ++ t.data.toList) := by
    have := bs_append (Bt.fx 1 240 ++ Bt.fx 1 N) t.data.toList
    rw [bs_of, fx_one] at this
    rw [bs_append]
    exact this
  have q1 : (t.size : Int) - 1 = (N : Int) := by omega
  have b3 : 1 ≤ (t.size : Int) := by omega
  have b4 : 60 ≤ (N : Int) := by omega
  have b5 : (N : Int) < 256 := by omega
  have b6 : (t.size : Int) ≤ 65536 := by omega
  have z1 : (bs (Bt.fx 1 240)).size = 1 := rfl
  have z2 : (bs (Bt.fx 1 N)).size = 1 := rfl
  have C1 := fun W d os => bytes_grown 240 1 (by omega) (by omega) W d os
  have C2 := fun W d os => bytes_grown N 1 (by omega) (by omega) W d os
  generalize hu2 : bs (Bt.fx 1 N) = u2 at *
  generalize bs (Bt.fx 1 240) = u1 at *
  have HE := Lib.hid HE0
  have HC1 := Lib.hid C1
  have HC2 := Lib.hid C2
  generalize (N : Int) = NI at *
  clear HE0 C1 C2 hN h h2 hu2
  have HB1 : Hid (Below w.heap.size w (w.alloc (.cells #[.bool false, .string t, .int .i64 0, .int .i64 0] 76))) := Lib.hid ((Below.refl _ w).alloc (Nat.le_refl _) _)
  obtain ⟨k0, k1, k2, k3⟩ := Bx76.new w false t 0 0
  go_enter Try.func51, Try.ntmps51
  go_wp2
  generalize hW1 : w.alloc (.cells #[.bool false, .string t, .int .i64 0, .int .i64 0] 76) = W1 at *
  generalize hB : w.heap.size = B0 at *
  refine wp_region_quiet_below (by kernel_rfl) (by kernel_rfl) ?_
  go_big_quiet_step (first | (go_at_call 68; exact HC1.out _ _ _))
  iterate 1 (go_big_quiet_step (fail))
  go_big_quiet_step (first | (go_at_call 68; exact HC2.out _ _ _))
  iterate 5 (go_big_quiet_step (fail))
  refine wpQuiet_nil ?_
  intro W2 hw2
  have hb2 : Below W1.heap.size W1 W2 := by obtain ⟨q, rfl⟩ := hw2; exact below_regrown _ _ _
  have HB2 := Lib.hid hb2
  clear hw2 hb2 k0 k1 k2 k3
  go_wp2
  go_ret
  refine ⟨ret_str HE.out, ?_⟩
  rw [hB]
  exact HB1.out.trans (HB2.out.mono (by have := HB1.out.size; omega))
set_option maxRecDepth 100000 in
set_option maxHeartbeats 2000000 in
theorem one_lit_c (t : ByteArray) (N : Nat) (hN : t.size = N + 1) (h : 256 ≤ N) (h2 : N < 65536) (w : World) :
    Calls Try.prog 51 #[.agg #[.bool false, .string t, .int .i64 0, .int .i64 0]] w fun e w' => e = .returned (.string (bs (UInt8.ofNat 244 :: Bt.fx 2 N ++ t.data.toList))) ∧ Below w.heap.size w w' := by
  have HE0 : bs (Bt.fx 1 244) ++ bs (Bt.fx 2 N) ++ t = bs (UInt8.ofNat 244 :: Bt.fx 2 N ++ t.data.toList) := by
    have := bs_append (Bt.fx 1 244 ++ Bt.fx 2 N) t.data.toList
    rw [bs_of, fx_one] at this
    rw [bs_append]
    exact this
  have q1 : (t.size : Int) - 1 = (N : Int) := by omega
  have b3 : 1 ≤ (t.size : Int) := by omega
  have b4 : 256 ≤ (N : Int) := by omega
  have b5 : (N : Int) < 65536 := by omega
  have b6 : (t.size : Int) ≤ 65536 := by omega
  have z1 : (bs (Bt.fx 1 244)).size = 1 := rfl
  have z2 : (bs (Bt.fx 2 N)).size = 2 := rfl
  have C1 := fun W d os => bytes_grown 244 1 (by omega) (by omega) W d os
  have C2 := fun W d os => bytes_grown N 2 (by omega) (by omega) W d os
  generalize hu2 : bs (Bt.fx 2 N) = u2 at *
  generalize bs (Bt.fx 1 244) = u1 at *
  have HE := Lib.hid HE0
  have HC1 := Lib.hid C1
  have HC2 := Lib.hid C2
  generalize (N : Int) = NI at *
  clear HE0 C1 C2 hN h h2 hu2
  have HB1 : Hid (Below w.heap.size w (w.alloc (.cells #[.bool false, .string t, .int .i64 0, .int .i64 0] 76))) := Lib.hid ((Below.refl _ w).alloc (Nat.le_refl _) _)
  obtain ⟨k0, k1, k2, k3⟩ := Bx76.new w false t 0 0
  go_enter Try.func51, Try.ntmps51
  go_wp2
  generalize hW1 : w.alloc (.cells #[.bool false, .string t, .int .i64 0, .int .i64 0] 76) = W1 at *
  generalize hB : w.heap.size = B0 at *
  refine wp_region_quiet_below (by kernel_rfl) (by kernel_rfl) ?_
  go_big_quiet_step (first | (go_at_call 68; exact HC1.out _ _ _))
  iterate 1 (go_big_quiet_step (fail))
  go_big_quiet_step (first | (go_at_call 68; exact HC2.out _ _ _))
  iterate 5 (go_big_quiet_step (fail))
  refine wpQuiet_nil ?_
  intro W2 hw2
  have hb2 : Below W1.heap.size W1 W2 := by obtain ⟨q, rfl⟩ := hw2; exact below_regrown _ _ _
  have HB2 := Lib.hid hb2
  clear hw2 hb2 k0 k1 k2 k3
  go_wp2
  go_ret
  refine ⟨ret_str HE.out, ?_⟩
  rw [hB]
  exact HB1.out.trans (HB2.out.mono (by have := HB1.out.size; omega))
theorem one_any (p : Pt) (hp : may p = true) (w : World) : Calls Try.prog 51 #[pv p] w fun e w' => e = .returned (.string (bs (wrt p))) ∧ Below w.heap.size w w' := by
  obtain ⟨c, t, o, l⟩ := p
  unfold may at hp
  cases c
  · simp only [Bool.false_eq_true, if_false, Bool.and_eq_true, decide_eq_true_eq] at hp
    obtain ⟨⟨h1, h2⟩, h3, h4⟩ := hp
    subst h3
    subst h4
    obtain ⟨N, hN⟩ : ∃ N, t.size = N + 1 := ⟨t.size - 1, by omega⟩
    simp only [wrt, pv, Bool.false_eq_true, if_false]
    unfold lhead nsz
    rw [hN, Nat.add_sub_cancel]
    by_cases h60 : N < 60
    · rw [if_pos h60]
      exact one_lit_a t N hN h60 w
    · rw [if_neg h60]
      by_cases h256 : N < 256
      · rw [if_pos h256]
        exact one_lit_b t N hN (by omega) h256 w
      · rw [if_neg h256, if_pos (by omega)]
        exact one_lit_c t N hN (by omega) (by omega) w
  · simp only [if_true, Bool.and_eq_true, decide_eq_true_eq, beq_iff_eq] at hp
    have ht : t = ⟨#[]⟩ := ba_empty hp.1
    subst ht
    obtain ⟨O, rfl⟩ := Int.eq_ofNat_of_zero_le (show 0 ≤ o by omega)
    obtain ⟨K, rfl⟩ := Int.eq_ofNat_of_zero_le (show 0 ≤ l by omega)
    obtain ⟨L, rfl⟩ : ∃ L, K = L + 1 := ⟨K - 1, by omega⟩
    have e1 : ((O : Int)).toNat = O := by omega
    have e2 : (((L + 1 : Nat) : Int)).toNat = L + 1 := by omega
    have e3 : L + 1 - 1 = L := by omega
    simp only [wrt, pv, if_true, e1, e2, e3]
    by_cases hn : 4 ≤ ((L + 1 : Nat) : Int) ∧ ((L + 1 : Nat) : Int) ≤ 11 ∧ ((O : Nat) : Int) < 2048
    · rw [if_pos hn]
      exact one_near O (L + 1) (L + 1 - 4) (by omega) (by omega) (by omega) w
    · rw [if_neg hn]
      by_cases hf : ((O : Nat) : Int) < 65536
      · rw [if_pos hf]
        by_cases ha : L + 1 < 4
        · exact one_far_a O (L + 1) L rfl (by omega) (by omega) ha w
        · by_cases hb : 11 < L + 1
          · exact one_far_b O (L + 1) L rfl (by omega) (by omega) hb w
          · exact one_far_c O (L + 1) L rfl (by omega) (by omega) (by omega) (by omega) (by omega) w
      · rw [if_neg hf]
        by_cases ha : L + 1 < 4
        · exact one_fst_a O (L + 1) L rfl (by omega) (by omega) (by omega) ha w
        · by_cases hb : 11 < L + 1
          · exact one_fst_b O (L + 1) L rfl (by omega) (by omega) (by omega) hb w
          · exact one_fst_c O (L + 1) L rfl (by omega) (by omega) (by omega) (by omega) (by omega) w
end Go.Proofs.Ytnnogjojoeajnaa
