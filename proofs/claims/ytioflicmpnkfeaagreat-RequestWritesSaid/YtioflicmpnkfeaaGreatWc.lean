/- The document's Sample. -/
import Derived.Test.YtioflicmpnkfeaaGreatWa
namespace Go.Proofs.YtioflicmpnkfeaaGreat
open Go Go.RowKit
set_option maxRecDepth 100000
theorem sm_len {x : Sm} (h : x.ok) : (eM (fSm x)).length ≤ 1000000 := by
  have hb : ∀ n : Nat, n < 18446744073709551616 → (Bt.vint n).length ≤ 10 := fun n hn => by rw [Bt.vint_length]; exact Bt.vlen_u64 (by omega)
  have ht : tn x.t < 18446744073709551616 := by unfold tn; omega
  have h1 : (fby ⟨1, 1, x.b, []⟩).length ≤ 100 := by
    show (Bt.vint (1 * 8 + 1) ++ Bt.fx 8 x.b).length ≤ 100
    rw [List.length_append, Bt.fx_length]; have := hb (1 * 8 + 1) (by omega); omega
  have h2 : (fby ⟨2, 0, tn x.t, []⟩).length ≤ 100 := by
    show (Bt.vint (2 * 8 + 0) ++ Bt.vint (tn x.t)).length ≤ 100
    rw [List.length_append]; have := hb (2 * 8 + 0) (by omega); have := hb _ ht; omega
  unfold fSm eM
  split <;> split <;> simp <;> omega
set_option maxHeartbeats 1000000 in
theorem smp31_11 (t : Int) (b : Nat) (ht : t ≠ 0) (hb : b ≠ 0) (hok : (⟨t, b⟩ : Sm).ok) (w : World) : Calls Tryz.prog 31 #[.agg #[.int .i64 t, .int .u64 (b : Int)]] w (Ret w (.string (bs (eSm ⟨t, b⟩)))) := by
  obtain ⟨i0, hi, hz0, hz1, hz2⟩ := info_parts Tryz.info47
  have hf : fSm ⟨t, b⟩ = [⟨1, 1, b, []⟩, ⟨2, 0, tn t, []⟩] := by unfold fSm; simp [ht, hb]
  have hlen : (eM (fSm ⟨t, b⟩)).length ≤ 1000000 := sm_len hok
  have hW := fun (u : Value) (W : World) (h : FAt W u [⟨1, 1, b, ⟨#[]⟩⟩, ⟨2, 0, tn t, ⟨#[]⟩⟩]) => rw_any (fSm ⟨t, b⟩) (fSm_ok hok) hlen u W (by rw [hf]; exact h)
  have htw : IntKind.u64.wrap t = (tn t : Int) := tn_wrap hok.lo hok.hi
  have ht1 := hok.lo
  have ht2 := hok.hi
  have hb8 := hok.b
  have htn : tn t < 18446744073709551616 := by unfold tn; omega
  have hqb : ((b : Int) != 0) = true := by rw [bne_iff_ne]; omega
  have hqt : (t != 0) = true := by rw [bne_iff_ne]; omega
  rw [show bs (eM (fSm ⟨t, b⟩)) = bs (eSm ⟨t, b⟩) from rfl] at hW
  generalize bs (eSm ⟨t, b⟩) = R at *
  have HW := Lib.hid hW
  generalize tn t = T at *
  have HY0 : Hid (Box2 (w.alloc (.cells #[.int .i64 t, .int .u64 (b : Int)] 54)) w.heap.size 54 (.int .i64 t) (.int .u64 (b : Int))) := Lib.hid (Box2.new _ _ _ _)
  have HB0 : Hid (Below w.heap.size w (w.alloc (.cells #[.int .i64 t, .int .u64 (b : Int)] 54))) := Lib.hid ((Below.refl _ _).alloc (Nat.le_refl _) _)
  have HO0 : Hid (Of (w.alloc (.cells #[.int .i64 t, .int .u64 (b : Int)] 54)) (w.heap.size + 1) (.slice none 0 0) []) := Lib.hid ⟨rfl, .inl ⟨rfl, rfl⟩⟩
  clear hW hf hok hlen hb ht
  go_enter Tryz.func31, Tryz.ntmps31
  have HA1 := Lib.hid ((HO0.out : Of (w.alloc (.cells #[.int .i64 t, .int .u64 (b : Int)] 54)) (w.heap.size + 1) (.slice none 0 0) []).alloc (.cells #[.int .i64 1, .int .u8 1, .int .u64 (b : Int), .string ⟨#[]⟩] 47))
  have hc1 := cells_new4 (w.alloc (.cells #[.int .i64 t, .int .u64 (b : Int)] 54)) (.int .i64 1) (.int .u8 1) (.int .u64 (b : Int)) (.string ⟨#[]⟩) 47
  rw [World.size_alloc] at hc1
  have HC1 := Lib.hid hc1
  clear hc1
  have HD1 := Lib.hid (below_more (.cells #[.int .i64 1, .int .u8 1, .int .u64 (b : Int), .string ⟨#[]⟩] 47) HB0.out)
  have HE1 : Hid (w.heap.size + 1 ≤ ((w.alloc (.cells #[.int .i64 t, .int .u64 (b : Int)] 54)).alloc (.cells #[.int .i64 1, .int .u8 1, .int .u64 (b : Int), .string ⟨#[]⟩] 47)).heap.size) := Lib.hid (by have := HY0.out.lt; rw [World.size_alloc]; omega)
  have HX1 : Hid (Box2 ((w.alloc (.cells #[.int .i64 t, .int .u64 (b : Int)] 54)).alloc (.cells #[.int .i64 1, .int .u8 1, .int .u64 (b : Int), .string ⟨#[]⟩] 47)) w.heap.size 54 (.int .i64 t) (.int .u64 (b : Int))) := Lib.hid (HY0.out.alloc _)
  go_wp2_with (first | (at_builtin; refine wpList_append_own_at _ rfl (.tmp 16) (.tmp 21) 44 rfl (w.heap.size + 1) 47 i0 _ 4 40 Tryz.underlying44 hi hz0 hz1 hz2 (by rfl) (by decide) (.slice a1 1 c1) 1 (cells4 [⟨1, 1, b, ⟨#[]⟩⟩]) rfl HA2.out ⟨u1.heap.size, 0, none⟩ 1 1 [.int .i64 2, .int .u8 0, .int .u64 (T : Int), .string ⟨#[]⟩] rfl rfl HC2.out one4 (by unfold maxLen; omega) (by omega) HE2.out ?_; intro v2 u2 hown hgrow hnil hloc; have HO2 : Hid (Of u2 (w.heap.size + 1) v2 ([⟨1, 1, b, ⟨#[]⟩⟩] ++ [⟨2, 0, T, ⟨#[]⟩⟩])) := Lib.hid (of_snoc rfl hown); have HB2 := Lib.hid (HD2.out.grown hgrow HD2.out.size (fun k e => by have := (own_lt HA2.out k e).1; omega)); have HY2 : Hid (Box2 u2 w.heap.size 54 (.int .i64 t) (.int .u64 (b : Int))) := Lib.hid (HX2.out.kept hgrow (fun e => by have := (own_lt HA2.out _ e.symm).1; omega)); have q0 := HY2.out.c0; have q1 := HY2.out.c1; obtain ⟨a2, c2, hv2⟩ := ownsRow_shape hown; subst hv2; clear hown hgrow hnil hloc) | (at_builtin; refine wpList_append_own_at _ rfl (.tmp 7) (.tmp 11) 44 rfl (w.heap.size + 1) 47 i0 _ 4 40 Tryz.underlying44 hi hz0 hz1 hz2 (by rfl) (by decide) (.slice none 0 0) 0 (cells4 []) rfl HA1.out ⟨w.heap.size + 1, 0, none⟩ 1 1 [.int .i64 1, .int .u8 1, .int .u64 (b : Int), .string ⟨#[]⟩] rfl rfl HC1.out one4 (by unfold maxLen; omega) (by omega) HE1.out ?_; intro v1 u1 hown hgrow hnil hloc; have HO1 : Hid (Of u1 (w.heap.size + 1) v1 ([] ++ [⟨1, 1, b, ⟨#[]⟩⟩])) := Lib.hid (of_snoc rfl hown); have HB1 := Lib.hid (HD1.out.grown hgrow HD1.out.size (fun k e => by have := (own_lt HA1.out k e).1; omega)); have HY1 : Hid (Box2 u1 w.heap.size 54 (.int .i64 t) (.int .u64 (b : Int))) := Lib.hid (HX1.out.kept hgrow (fun e => by have := (own_lt HA1.out _ e.symm).1; omega)); have q0 := HY1.out.c0; have q1 := HY1.out.c1; obtain ⟨a1, c1, hv1⟩ := ownsRow_shape hown; subst hv1; clear hown hgrow hnil hloc; have HA2 := Lib.hid ((HO1.out : Of u1 (w.heap.size + 1) (.slice a1 1 c1) [⟨1, 1, b, ⟨#[]⟩⟩]).alloc (.cells #[.int .i64 2, .int .u8 0, .int .u64 (T : Int), .string ⟨#[]⟩] 47)); have hc2 := cells_new4 u1 (.int .i64 2) (.int .u8 0) (.int .u64 (T : Int)) (.string ⟨#[]⟩) 47; skip; have HC2 := Lib.hid hc2; clear hc2; have HD2 := Lib.hid (below_more (.cells #[.int .i64 2, .int .u8 0, .int .u64 (T : Int), .string ⟨#[]⟩] 47) HB1.out); have HE2 : Hid (w.heap.size + 1 ≤ (u1.alloc (.cells #[.int .i64 2, .int .u8 0, .int .u64 (T : Int), .string ⟨#[]⟩] 47)).heap.size) := Lib.hid (by have := HY1.out.lt; rw [World.size_alloc]; omega); have HX2 : Hid (Box2 (u1.alloc (.cells #[.int .i64 2, .int .u8 0, .int .u64 (T : Int), .string ⟨#[]⟩] 47)) w.heap.size 54 (.int .i64 t) (.int .u64 (b : Int))) := Lib.hid (HY1.out.alloc _)))
  refine (HW.out _ _ HO2.out.at).mono ?_
  rintro e w9 ⟨rfl, hb9⟩
  have HB9 := Lib.hid (below_chain HB2.out hb9)
  clear hb9
  go_wp2
  go_ret
  exact ⟨rfl, HB9.out⟩
set_option maxHeartbeats 1000000 in
theorem smp31_10 (t : Int) (b : Nat) (ht : t = 0) (hb : b ≠ 0) (hok : (⟨t, b⟩ : Sm).ok) (w : World) : Calls Tryz.prog 31 #[.agg #[.int .i64 t, .int .u64 (b : Int)]] w (Ret w (.string (bs (eSm ⟨t, b⟩)))) := by
  obtain ⟨i0, hi, hz0, hz1, hz2⟩ := info_parts Tryz.info47
  have hf : fSm ⟨t, b⟩ = [⟨1, 1, b, []⟩] := by unfold fSm; simp [ht, hb]
  have hlen : (eM (fSm ⟨t, b⟩)).length ≤ 1000000 := sm_len hok
  have hW := fun (u : Value) (W : World) (h : FAt W u [⟨1, 1, b, ⟨#[]⟩⟩]) => rw_any (fSm ⟨t, b⟩) (fSm_ok hok) hlen u W (by rw [hf]; exact h)
  have htw : IntKind.u64.wrap t = (tn t : Int) := tn_wrap hok.lo hok.hi
  have ht1 := hok.lo
  have ht2 := hok.hi
  have hb8 := hok.b
  have htn : tn t < 18446744073709551616 := by unfold tn; omega
  have hqb : ((b : Int) != 0) = true := by rw [bne_iff_ne]; omega
  have hqt : (t != 0) = false := by rw [ht]; rfl
  rw [show bs (eM (fSm ⟨t, b⟩)) = bs (eSm ⟨t, b⟩) from rfl] at hW
  generalize bs (eSm ⟨t, b⟩) = R at *
  have HW := Lib.hid hW
  have HY0 : Hid (Box2 (w.alloc (.cells #[.int .i64 t, .int .u64 (b : Int)] 54)) w.heap.size 54 (.int .i64 t) (.int .u64 (b : Int))) := Lib.hid (Box2.new _ _ _ _)
  have HB0 : Hid (Below w.heap.size w (w.alloc (.cells #[.int .i64 t, .int .u64 (b : Int)] 54))) := Lib.hid ((Below.refl _ _).alloc (Nat.le_refl _) _)
  have HO0 : Hid (Of (w.alloc (.cells #[.int .i64 t, .int .u64 (b : Int)] 54)) (w.heap.size + 1) (.slice none 0 0) []) := Lib.hid ⟨rfl, .inl ⟨rfl, rfl⟩⟩
  clear hW hf hok hlen hb ht
  go_enter Tryz.func31, Tryz.ntmps31
  have HA1 := Lib.hid ((HO0.out : Of (w.alloc (.cells #[.int .i64 t, .int .u64 (b : Int)] 54)) (w.heap.size + 1) (.slice none 0 0) []).alloc (.cells #[.int .i64 1, .int .u8 1, .int .u64 (b : Int), .string ⟨#[]⟩] 47))
  have hc1 := cells_new4 (w.alloc (.cells #[.int .i64 t, .int .u64 (b : Int)] 54)) (.int .i64 1) (.int .u8 1) (.int .u64 (b : Int)) (.string ⟨#[]⟩) 47
  rw [World.size_alloc] at hc1
  have HC1 := Lib.hid hc1
  clear hc1
  have HD1 := Lib.hid (below_more (.cells #[.int .i64 1, .int .u8 1, .int .u64 (b : Int), .string ⟨#[]⟩] 47) HB0.out)
  have HE1 : Hid (w.heap.size + 1 ≤ ((w.alloc (.cells #[.int .i64 t, .int .u64 (b : Int)] 54)).alloc (.cells #[.int .i64 1, .int .u8 1, .int .u64 (b : Int), .string ⟨#[]⟩] 47)).heap.size) := Lib.hid (by have := HY0.out.lt; rw [World.size_alloc]; omega)
  have HX1 : Hid (Box2 ((w.alloc (.cells #[.int .i64 t, .int .u64 (b : Int)] 54)).alloc (.cells #[.int .i64 1, .int .u8 1, .int .u64 (b : Int), .string ⟨#[]⟩] 47)) w.heap.size 54 (.int .i64 t) (.int .u64 (b : Int))) := Lib.hid (HY0.out.alloc _)
  go_wp2_with (at_builtin; refine wpList_append_own_at _ rfl (.tmp 7) (.tmp 11) 44 rfl (w.heap.size + 1) 47 i0 _ 4 40 Tryz.underlying44 hi hz0 hz1 hz2 (by rfl) (by decide) (.slice none 0 0) 0 (cells4 []) rfl HA1.out ⟨w.heap.size + 1, 0, none⟩ 1 1 [.int .i64 1, .int .u8 1, .int .u64 (b : Int), .string ⟨#[]⟩] rfl rfl HC1.out one4 (by unfold maxLen; omega) (by omega) HE1.out ?_; intro v1 u1 hown hgrow hnil hloc; have HO1 : Hid (Of u1 (w.heap.size + 1) v1 ([] ++ [⟨1, 1, b, ⟨#[]⟩⟩])) := Lib.hid (of_snoc rfl hown); have HB1 := Lib.hid (HD1.out.grown hgrow HD1.out.size (fun k e => by have := (own_lt HA1.out k e).1; omega)); have HY1 : Hid (Box2 u1 w.heap.size 54 (.int .i64 t) (.int .u64 (b : Int))) := Lib.hid (HX1.out.kept hgrow (fun e => by have := (own_lt HA1.out _ e.symm).1; omega)); have q0 := HY1.out.c0; have q1 := HY1.out.c1; obtain ⟨a1, c1, hv1⟩ := ownsRow_shape hown; subst hv1; clear hown hgrow hnil hloc)
  refine (HW.out _ _ HO1.out.at).mono ?_
  rintro e w9 ⟨rfl, hb9⟩
  have HB9 := Lib.hid (below_chain HB1.out hb9)
  clear hb9
  go_wp2
  go_ret
  exact ⟨rfl, HB9.out⟩
set_option maxHeartbeats 1000000 in
theorem smp31_01 (t : Int) (b : Nat) (ht : t ≠ 0) (hb : b = 0) (hok : (⟨t, b⟩ : Sm).ok) (w : World) : Calls Tryz.prog 31 #[.agg #[.int .i64 t, .int .u64 (b : Int)]] w (Ret w (.string (bs (eSm ⟨t, b⟩)))) := by
  obtain ⟨i0, hi, hz0, hz1, hz2⟩ := info_parts Tryz.info47
  have hf : fSm ⟨t, b⟩ = [⟨2, 0, tn t, []⟩] := by unfold fSm; simp [ht, hb]
  have hlen : (eM (fSm ⟨t, b⟩)).length ≤ 1000000 := sm_len hok
  have hW := fun (u : Value) (W : World) (h : FAt W u [⟨2, 0, tn t, ⟨#[]⟩⟩]) => rw_any (fSm ⟨t, b⟩) (fSm_ok hok) hlen u W (by rw [hf]; exact h)
  have htw : IntKind.u64.wrap t = (tn t : Int) := tn_wrap hok.lo hok.hi
  have ht1 := hok.lo
  have ht2 := hok.hi
  have hb8 := hok.b
  have htn : tn t < 18446744073709551616 := by unfold tn; omega
  have hqb : ((b : Int) != 0) = false := by rw [hb]; rfl
  have hqt : (t != 0) = true := by rw [bne_iff_ne]; omega
  rw [show bs (eM (fSm ⟨t, b⟩)) = bs (eSm ⟨t, b⟩) from rfl] at hW
  generalize bs (eSm ⟨t, b⟩) = R at *
  have HW := Lib.hid hW
  generalize tn t = T at *
  have HY0 : Hid (Box2 (w.alloc (.cells #[.int .i64 t, .int .u64 (b : Int)] 54)) w.heap.size 54 (.int .i64 t) (.int .u64 (b : Int))) := Lib.hid (Box2.new _ _ _ _)
  have HB0 : Hid (Below w.heap.size w (w.alloc (.cells #[.int .i64 t, .int .u64 (b : Int)] 54))) := Lib.hid ((Below.refl _ _).alloc (Nat.le_refl _) _)
  have HO0 : Hid (Of (w.alloc (.cells #[.int .i64 t, .int .u64 (b : Int)] 54)) (w.heap.size + 1) (.slice none 0 0) []) := Lib.hid ⟨rfl, .inl ⟨rfl, rfl⟩⟩
  clear hW hf hok hlen hb ht
  go_enter Tryz.func31, Tryz.ntmps31
  have HA1 := Lib.hid ((HO0.out : Of (w.alloc (.cells #[.int .i64 t, .int .u64 (b : Int)] 54)) (w.heap.size + 1) (.slice none 0 0) []).alloc (.cells #[.int .i64 2, .int .u8 0, .int .u64 (T : Int), .string ⟨#[]⟩] 47))
  have hc1 := cells_new4 (w.alloc (.cells #[.int .i64 t, .int .u64 (b : Int)] 54)) (.int .i64 2) (.int .u8 0) (.int .u64 (T : Int)) (.string ⟨#[]⟩) 47
  rw [World.size_alloc] at hc1
  have HC1 := Lib.hid hc1
  clear hc1
  have HD1 := Lib.hid (below_more (.cells #[.int .i64 2, .int .u8 0, .int .u64 (T : Int), .string ⟨#[]⟩] 47) HB0.out)
  have HE1 : Hid (w.heap.size + 1 ≤ ((w.alloc (.cells #[.int .i64 t, .int .u64 (b : Int)] 54)).alloc (.cells #[.int .i64 2, .int .u8 0, .int .u64 (T : Int), .string ⟨#[]⟩] 47)).heap.size) := Lib.hid (by have := HY0.out.lt; rw [World.size_alloc]; omega)
  have HX1 : Hid (Box2 ((w.alloc (.cells #[.int .i64 t, .int .u64 (b : Int)] 54)).alloc (.cells #[.int .i64 2, .int .u8 0, .int .u64 (T : Int), .string ⟨#[]⟩] 47)) w.heap.size 54 (.int .i64 t) (.int .u64 (b : Int))) := Lib.hid (HY0.out.alloc _)
  go_wp2_with (at_builtin; refine wpList_append_own_at _ rfl (.tmp 16) (.tmp 21) 44 rfl (w.heap.size + 1) 47 i0 _ 4 40 Tryz.underlying44 hi hz0 hz1 hz2 (by rfl) (by decide) (.slice none 0 0) 0 (cells4 []) rfl HA1.out ⟨w.heap.size + 1, 0, none⟩ 1 1 [.int .i64 2, .int .u8 0, .int .u64 (T : Int), .string ⟨#[]⟩] rfl rfl HC1.out one4 (by unfold maxLen; omega) (by omega) HE1.out ?_; intro v1 u1 hown hgrow hnil hloc; have HO1 : Hid (Of u1 (w.heap.size + 1) v1 ([] ++ [⟨2, 0, T, ⟨#[]⟩⟩])) := Lib.hid (of_snoc rfl hown); have HB1 := Lib.hid (HD1.out.grown hgrow HD1.out.size (fun k e => by have := (own_lt HA1.out k e).1; omega)); have HY1 : Hid (Box2 u1 w.heap.size 54 (.int .i64 t) (.int .u64 (b : Int))) := Lib.hid (HX1.out.kept hgrow (fun e => by have := (own_lt HA1.out _ e.symm).1; omega)); have q0 := HY1.out.c0; have q1 := HY1.out.c1; obtain ⟨a1, c1, hv1⟩ := ownsRow_shape hown; subst hv1; clear hown hgrow hnil hloc)
  refine (HW.out _ _ HO1.out.at).mono ?_
  rintro e w9 ⟨rfl, hb9⟩
  have HB9 := Lib.hid (below_chain HB1.out hb9)
  clear hb9
  go_wp2
  go_ret
  exact ⟨rfl, HB9.out⟩
set_option maxHeartbeats 1000000 in
theorem smp31_00 (t : Int) (b : Nat) (ht : t = 0) (hb : b = 0) (hok : (⟨t, b⟩ : Sm).ok) (w : World) : Calls Tryz.prog 31 #[.agg #[.int .i64 t, .int .u64 (b : Int)]] w (Ret w (.string (bs (eSm ⟨t, b⟩)))) := by
  obtain ⟨i0, hi, hz0, hz1, hz2⟩ := info_parts Tryz.info47
  have hf : fSm ⟨t, b⟩ = [] := by unfold fSm; simp [ht, hb]
  have hlen : (eM (fSm ⟨t, b⟩)).length ≤ 1000000 := sm_len hok
  have hW := fun (u : Value) (W : World) (h : FAt W u []) => rw_any (fSm ⟨t, b⟩) (fSm_ok hok) hlen u W (by rw [hf]; exact h)
  have htw : IntKind.u64.wrap t = (tn t : Int) := tn_wrap hok.lo hok.hi
  have ht1 := hok.lo
  have ht2 := hok.hi
  have hb8 := hok.b
  have htn : tn t < 18446744073709551616 := by unfold tn; omega
  have hqb : ((b : Int) != 0) = false := by rw [hb]; rfl
  have hqt : (t != 0) = false := by rw [ht]; rfl
  rw [show bs (eM (fSm ⟨t, b⟩)) = bs (eSm ⟨t, b⟩) from rfl] at hW
  generalize bs (eSm ⟨t, b⟩) = R at *
  have HW := Lib.hid hW
  have HY0 : Hid (Box2 (w.alloc (.cells #[.int .i64 t, .int .u64 (b : Int)] 54)) w.heap.size 54 (.int .i64 t) (.int .u64 (b : Int))) := Lib.hid (Box2.new _ _ _ _)
  have HB0 : Hid (Below w.heap.size w (w.alloc (.cells #[.int .i64 t, .int .u64 (b : Int)] 54))) := Lib.hid ((Below.refl _ _).alloc (Nat.le_refl _) _)
  have HO0 : Hid (Of (w.alloc (.cells #[.int .i64 t, .int .u64 (b : Int)] 54)) (w.heap.size + 1) (.slice none 0 0) []) := Lib.hid ⟨rfl, .inl ⟨rfl, rfl⟩⟩
  clear hW hf hok hlen hb ht
  go_enter Tryz.func31, Tryz.ntmps31
  go_wp2_with fail
  refine (HW.out _ _ (FAt.nil _)).mono ?_
  rintro e w9 ⟨rfl, hb9⟩
  have HB9 := Lib.hid (below_chain HB0.out hb9)
  clear hb9
  go_wp2
  go_ret
  exact ⟨rfl, HB9.out⟩
theorem smp31_any (x : Sm) (hok : x.ok) (w : World) : Calls Tryz.prog 31 #[.agg #[.int .i64 x.t, .int .u64 (x.b : Int)]] w (Ret w (.string (bs (eSm x)))) := by
  obtain ⟨t, b⟩ := x
  by_cases ht : t = 0 <;> by_cases hb : b = 0
  · exact smp31_00 t b ht hb hok w
  · exact smp31_10 t b ht hb hok w
  · exact smp31_01 t b ht hb hok w
  · exact smp31_11 t b ht hb hok w
end Go.Proofs.YtioflicmpnkfeaaGreat
