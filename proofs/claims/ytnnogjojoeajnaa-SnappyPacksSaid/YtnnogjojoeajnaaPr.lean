/- put: copies. -/
import Derived.Test.YtnnogjojoeajnaaPq
namespace Go.Proofs.Ytnnogjojoeajnaa
open Go.RowKit
theorem src_at {P : Program} {W : World} {B : Nat} {u : Value} {tx e' : TypeId} (hk : P.underlying tx = some (.slice e')) (hc : W.cell? ⟨B, 0, none⟩ = some u) (h1 : u.oneCell' = true) : Src P 1 tx (.slice (some ⟨B, 0, none⟩) 1 1) 1 [u] W :=
  Src.ofSlice _ hk ⟨B, 0, none⟩ 1 1 [u] rfl (fun j v hj => by
    have : j = 0 := by have := (List.getElem?_eq_some_iff.1 hj).1; simpa using this
    subst this
    simp at hj
    subst hj
    have hadd : (⟨B, 0, none⟩ : Addr).add 0 = ⟨B, 0, none⟩ := by unfold Addr.add; simp
    rw [hadd]
    exact hc) (fun v hv => by simp at hv; subst hv; exact h1)
theorem cell_two (w : World) (o : Obj) (u : Value) (e : TypeId) : ((w.alloc o).alloc (.cells #[u] e)).drew.cell? ⟨w.heap.size + 1, 0, none⟩ = some u := by
  have := World.cell?_alloc_mark (w.alloc o) #[u] e (0, 0) 0
  rw [World.size_alloc] at this
  exact this
theorem byte_code {L k : Nat} (hL : L ≤ 63) (_hk : k ≤ 3) (h : bits .or .i64 ((L : Int) * 4) k = ((L * 4 + k : Nat) : Int)) : Value.int .u8 (IntKind.u8.wrap (bits .or .i64 (IntKind.i64.wrap (IntKind.i64.wrap (L : Int) * 4)) k)) = bv (UInt8.ofNat (L * 4 + k)) := by
  have e1 : IntKind.i64.wrap (L : Int) = (L : Int) := by rw [Bt.wrap_i64]; omega
  have e2 : IntKind.i64.wrap ((L : Int) * 4) = (L : Int) * 4 := by rw [Bt.wrap_i64]; omega
  rw [e1, e2, h]
  exact bv_ofNat (Bt.wrap8 _)
set_option maxRecDepth 100000 in
set_option maxHeartbeats 1000000 in
theorem far_a (o l L : Nat) (hlL : l = L + 1) (hL : L ≤ 63) (ho : o < 65536) (hf : l < 4) (R : List UInt8) (hR : R = UInt8.ofNat (L * 4 + 2) :: Bt.fx 2 o) (base : Nat) (v : Value) (xs : List UInt8) (w : World) (hown : Own w base v (xs.map bv)) (hb : base ≤ w.heap.size) (hl : xs.length ≤ 1000000000000) :
   Calls Try.prog 42 #[v, .agg #[.bool true, .string ⟨#[]⟩, .int .i64 o, .int .i64 l]] w (OwnRet w base v (xs ++ R)) := by
  have HR := Lib.hid hR
  clear hR
  obtain ⟨i0, hi, hz0, hz1, hz2⟩ := info_parts Try.info5
  have HO := Lib.hid hown
  clear hown
  have hlen : (xs.map bv).length = xs.length := by simp
  have hli : (l : Int) - 1 = (L : Int) := by omega
  have HLI := Lib.hid hli
  have hor : bits .or .i64 ((L : Int) * 4) 2 = ((L * 4 + 2 : Nat) : Int) := by
    rw [show ((L : Int) * 4) = ((L * 4 : Nat) : Int) from by omega, show (2 : Int) = ((2 : Nat) : Int) from rfl, i64_or_nat _ _ (by omega) (by omega), nat_join 2 (L * 4) 2 (by omega) (by omega)]
  have HOR := Lib.hid hor
  clear hor
  have HHL := Lib.hid hlL
  clear hlL
  have HX := Lib.hid (Box.new w ⟨true, ⟨#[]⟩, o, l⟩)
  have HXD : Hid (Box (w.alloc (.cells #[.bool true, .string ⟨#[]⟩, .int .i64 o, .int .i64 l] 35)).drew w.heap.size ⟨true, ⟨#[]⟩, o, l⟩) := Lib.hid HX.out
  have HXE : Hid (∀ ob : Obj, Box ((w.alloc (.cells #[.bool true, .string ⟨#[]⟩, .int .i64 o, .int .i64 l] 35)).alloc ob).drew w.heap.size ⟨true, ⟨#[]⟩, o, l⟩) := Lib.hid (fun ob => HX.out.same (Below.heap_alloc _ ob _ (by simp)))
  have HOD : Hid (Own (w.alloc (.cells #[.bool true, .string ⟨#[]⟩, .int .i64 o, .int .i64 l] 35)).drew base v (xs.map bv)) := Lib.hid ((HO.out.alloc _).drew)
  have HSD : Hid (Step w (w.alloc (.cells #[.bool true, .string ⟨#[]⟩, .int .i64 o, .int .i64 l] 35)).drew v v) := Lib.hid (((Step.refl w v).alloc _).drew)
  have hne : some w.heap.size ≠ v.ownBlock := by intro e; have := (HO.out.lt _ e.symm).2; omega
  have HNE := Lib.hid hne
  clear hne
  have HNM := Lib.hid (fun (W : World) (u : Value) (h : Own W base u ((xs ++ [UInt8.ofNat (L * 4 + 2)]).map bv)) (hb' : base ≤ W.heap.size) => pnum_own o 2 (by omega) (by omega) base u (xs ++ [UInt8.ofNat (L * 4 + 2)]) W h hb' (by rw [List.length_append, List.length_singleton]; omega))
  have hoi : (o : Int) < 65536 := by omega
  clear ho
  generalize ((o : Nat) : Int) = O at *
  obtain ⟨p0, p1, p2, p3, -, -, -, -⟩ := HX.out.cells
  dsimp only at p0 p1 p2 p3
  go_enter Try.func42, Try.ntmps42
  go_wp2
  go_region_law (first
    | (refine step_append_Own rfl (.tmp 64) (.tmp 71) 28 28 rfl base 5 i0 (.int .u8 0) 1 Try.underlying28 hi hz0 hz1 hz2 rfl v (xs.map bv) rfl (HOD.out.alloc _) _ 1 _ rfl (by exact src_at Try.underlying28 (cell_two _ _ _ _) rfl) (by omega) (by omega) (Nat.le_trans hb (by simp; omega)) ?_; intro v2 w2 ho2 hs2; have HO2 := Lib.hid (own_snoc (byte_code (k := 2) hL (by omega) HOR.out) ho2); have HS2 := Lib.hid ((HSD.out.alloc _).trans hs2); have q2 := ((HXE.out _).kept hs2.grown HNE.out).cells.c2; have HBB := Lib.hid (Nat.le_trans hb HS2.out.grown.size); clear ho2 hs2)
    | (rw [if_pos (by rfl)]; go_simp; go_at_call 62; refine (HNM.out _ _ HO2.out HBB.out).mono ?_; rintro e w3 ⟨v3, rfl, ho3, hs3⟩; dsimp only; have HO3 := Lib.hid ho3; have HS3 := Lib.hid hs3; clear ho3 hs3)
    | (trace_state; fail))
  all_goals
    go_wp2
    go_ret
    refine ⟨v3, rfl, ?_, HS2.out.trans HS3.out⟩
    have h := HO3.out
    rw [List.append_assoc] at h
    rw [HR.out]
    exact h
set_option maxRecDepth 100000 in
set_option maxHeartbeats 1000000 in
theorem far_b (o l L : Nat) (hlL : l = L + 1) (hL : L ≤ 63) (ho : o < 65536) (hf : 11 < l) (R : List UInt8) (hR : R = UInt8.ofNat (L * 4 + 2) :: Bt.fx 2 o) (base : Nat) (v : Value) (xs : List UInt8) (w : World) (hown : Own w base v (xs.map bv)) (hb : base ≤ w.heap.size) (hl : xs.length ≤ 1000000000000) :
   Calls Try.prog 42 #[v, .agg #[.bool true, .string ⟨#[]⟩, .int .i64 o, .int .i64 l]] w (OwnRet w base v (xs ++ R)) := by
  have HR := Lib.hid hR
  clear hR
  obtain ⟨i0, hi, hz0, hz1, hz2⟩ := info_parts Try.info5
  have HO := Lib.hid hown
  clear hown
  have hlen : (xs.map bv).length = xs.length := by simp
  have hli : (l : Int) - 1 = (L : Int) := by omega
  have HLI := Lib.hid hli
  have hor : bits .or .i64 ((L : Int) * 4) 2 = ((L * 4 + 2 : Nat) : Int) := by
    rw [show ((L : Int) * 4) = ((L * 4 : Nat) : Int) from by omega, show (2 : Int) = ((2 : Nat) : Int) from rfl, i64_or_nat _ _ (by omega) (by omega), nat_join 2 (L * 4) 2 (by omega) (by omega)]
  have HOR := Lib.hid hor
  clear hor
  have HHL := Lib.hid hlL
  clear hlL
  have HX := Lib.hid (Box.new w ⟨true, ⟨#[]⟩, o, l⟩)
  have HXD : Hid (Box (w.alloc (.cells #[.bool true, .string ⟨#[]⟩, .int .i64 o, .int .i64 l] 35)).drew w.heap.size ⟨true, ⟨#[]⟩, o, l⟩) := Lib.hid HX.out
  have HXE : Hid (∀ ob : Obj, Box ((w.alloc (.cells #[.bool true, .string ⟨#[]⟩, .int .i64 o, .int .i64 l] 35)).alloc ob).drew w.heap.size ⟨true, ⟨#[]⟩, o, l⟩) := Lib.hid (fun ob => HX.out.same (Below.heap_alloc _ ob _ (by simp)))
  have HOD : Hid (Own (w.alloc (.cells #[.bool true, .string ⟨#[]⟩, .int .i64 o, .int .i64 l] 35)).drew base v (xs.map bv)) := Lib.hid ((HO.out.alloc _).drew)
  have HSD : Hid (Step w (w.alloc (.cells #[.bool true, .string ⟨#[]⟩, .int .i64 o, .int .i64 l] 35)).drew v v) := Lib.hid (((Step.refl w v).alloc _).drew)
  have hne : some w.heap.size ≠ v.ownBlock := by intro e; have := (HO.out.lt _ e.symm).2; omega
  have HNE := Lib.hid hne
  clear hne
  have HNM := Lib.hid (fun (W : World) (u : Value) (h : Own W base u ((xs ++ [UInt8.ofNat (L * 4 + 2)]).map bv)) (hb' : base ≤ W.heap.size) => pnum_own o 2 (by omega) (by omega) base u (xs ++ [UInt8.ofNat (L * 4 + 2)]) W h hb' (by rw [List.length_append, List.length_singleton]; omega))
  have hoi : (o : Int) < 65536 := by omega
  clear ho
  generalize ((o : Nat) : Int) = O at *
  obtain ⟨p0, p1, p2, p3, -, -, -, -⟩ := HX.out.cells
  dsimp only at p0 p1 p2 p3
  go_enter Try.func42, Try.ntmps42
  go_wp2
  go_region_law (first
    | (refine step_append_Own rfl (.tmp 64) (.tmp 71) 28 28 rfl base 5 i0 (.int .u8 0) 1 Try.underlying28 hi hz0 hz1 hz2 rfl v (xs.map bv) rfl (HOD.out.alloc _) _ 1 _ rfl (by exact src_at Try.underlying28 (cell_two _ _ _ _) rfl) (by omega) (by omega) (Nat.le_trans hb (by simp; omega)) ?_; intro v2 w2 ho2 hs2; have HO2 := Lib.hid (own_snoc (byte_code (k := 2) hL (by omega) HOR.out) ho2); have HS2 := Lib.hid ((HSD.out.alloc _).trans hs2); have q2 := ((HXE.out _).kept hs2.grown HNE.out).cells.c2; have HBB := Lib.hid (Nat.le_trans hb HS2.out.grown.size); clear ho2 hs2)
    | (rw [if_pos (by rfl)]; go_simp; go_at_call 62; refine (HNM.out _ _ HO2.out HBB.out).mono ?_; rintro e w3 ⟨v3, rfl, ho3, hs3⟩; dsimp only; have HO3 := Lib.hid ho3; have HS3 := Lib.hid hs3; clear ho3 hs3)
    | (trace_state; fail))
  all_goals
    go_wp2
    go_ret
    refine ⟨v3, rfl, ?_, HS2.out.trans HS3.out⟩
    have h := HO3.out
    rw [List.append_assoc] at h
    rw [HR.out]
    exact h
set_option maxRecDepth 100000 in
set_option maxHeartbeats 1000000 in
theorem far_c (o l L : Nat) (hlL : l = L + 1) (hL : L ≤ 63) (ho : o < 65536) (hf : 4 ≤ l) (hf2 : l ≤ 11) (hf3 : 2048 ≤ o) (R : List UInt8) (hR : R = UInt8.ofNat (L * 4 + 2) :: Bt.fx 2 o) (base : Nat) (v : Value) (xs : List UInt8) (w : World) (hown : Own w base v (xs.map bv)) (hb : base ≤ w.heap.size) (hl : xs.length ≤ 1000000000000) :
   Calls Try.prog 42 #[v, .agg #[.bool true, .string ⟨#[]⟩, .int .i64 o, .int .i64 l]] w (OwnRet w base v (xs ++ R)) := by
  have HR := Lib.hid hR
  clear hR
  obtain ⟨i0, hi, hz0, hz1, hz2⟩ := info_parts Try.info5
  have HO := Lib.hid hown
  clear hown
  have hlen : (xs.map bv).length = xs.length := by simp
  have hli : (l : Int) - 1 = (L : Int) := by omega
  have HLI := Lib.hid hli
  have hor : bits .or .i64 ((L : Int) * 4) 2 = ((L * 4 + 2 : Nat) : Int) := by
    rw [show ((L : Int) * 4) = ((L * 4 : Nat) : Int) from by omega, show (2 : Int) = ((2 : Nat) : Int) from rfl, i64_or_nat _ _ (by omega) (by omega), nat_join 2 (L * 4) 2 (by omega) (by omega)]
  have HOR := Lib.hid hor
  clear hor
  have HHL := Lib.hid hlL
  clear hlL
  have HX := Lib.hid (Box.new w ⟨true, ⟨#[]⟩, o, l⟩)
  have HXD : Hid (Box (w.alloc (.cells #[.bool true, .string ⟨#[]⟩, .int .i64 o, .int .i64 l] 35)).drew w.heap.size ⟨true, ⟨#[]⟩, o, l⟩) := Lib.hid HX.out
  have HXE : Hid (∀ ob : Obj, Box ((w.alloc (.cells #[.bool true, .string ⟨#[]⟩, .int .i64 o, .int .i64 l] 35)).alloc ob).drew w.heap.size ⟨true, ⟨#[]⟩, o, l⟩) := Lib.hid (fun ob => HX.out.same (Below.heap_alloc _ ob _ (by simp)))
  have HOD : Hid (Own (w.alloc (.cells #[.bool true, .string ⟨#[]⟩, .int .i64 o, .int .i64 l] 35)).drew base v (xs.map bv)) := Lib.hid ((HO.out.alloc _).drew)
  have HSD : Hid (Step w (w.alloc (.cells #[.bool true, .string ⟨#[]⟩, .int .i64 o, .int .i64 l] 35)).drew v v) := Lib.hid (((Step.refl w v).alloc _).drew)
  have hne : some w.heap.size ≠ v.ownBlock := by intro e; have := (HO.out.lt _ e.symm).2; omega
  have HNE := Lib.hid hne
  clear hne
  have HNM := Lib.hid (fun (W : World) (u : Value) (h : Own W base u ((xs ++ [UInt8.ofNat (L * 4 + 2)]).map bv)) (hb' : base ≤ W.heap.size) => pnum_own o 2 (by omega) (by omega) base u (xs ++ [UInt8.ofNat (L * 4 + 2)]) W h hb' (by rw [List.length_append, List.length_singleton]; omega))
  have hoi : (o : Int) < 65536 := by omega
  clear ho
  have hf3i : 2048 ≤ (o : Int) := by omega
  clear hf3
  generalize ((o : Nat) : Int) = O at *
  obtain ⟨p0, p1, p2, p3, -, -, -, -⟩ := HX.out.cells
  dsimp only at p0 p1 p2 p3
  go_enter Try.func42, Try.ntmps42
  go_wp2
  go_region_law (first
    | (refine step_append_Own rfl (.tmp 64) (.tmp 71) 28 28 rfl base 5 i0 (.int .u8 0) 1 Try.underlying28 hi hz0 hz1 hz2 rfl v (xs.map bv) rfl (HOD.out.alloc _) _ 1 _ rfl (by exact src_at Try.underlying28 (cell_two _ _ _ _) rfl) (by omega) (by omega) (Nat.le_trans hb (by simp; omega)) ?_; intro v2 w2 ho2 hs2; have HO2 := Lib.hid (own_snoc (byte_code (k := 2) hL (by omega) HOR.out) ho2); have HS2 := Lib.hid ((HSD.out.alloc _).trans hs2); have q2 := ((HXE.out _).kept hs2.grown HNE.out).cells.c2; have HBB := Lib.hid (Nat.le_trans hb HS2.out.grown.size); clear ho2 hs2)
    | (rw [if_pos (by rfl)]; go_simp; go_at_call 62; refine (HNM.out _ _ HO2.out HBB.out).mono ?_; rintro e w3 ⟨v3, rfl, ho3, hs3⟩; dsimp only; have HO3 := Lib.hid ho3; have HS3 := Lib.hid hs3; clear ho3 hs3)
    | (trace_state; fail))
  all_goals
    go_wp2
    go_ret
    refine ⟨v3, rfl, ?_, HS2.out.trans HS3.out⟩
    have h := HO3.out
    rw [List.append_assoc] at h
    rw [HR.out]
    exact h
set_option maxRecDepth 100000 in
set_option maxHeartbeats 1000000 in
theorem fst_a (o l L : Nat) (hlL : l = L + 1) (hL : L ≤ 63) (ho : 65536 ≤ o) (ho2 : o ≤ 4294967295) (hf : l < 4) (R : List UInt8) (hR : R = UInt8.ofNat (L * 4 + 3) :: Bt.fx 4 o) (base : Nat) (v : Value) (xs : List UInt8) (w : World) (hown : Own w base v (xs.map bv)) (hb : base ≤ w.heap.size) (hl : xs.length ≤ 1000000000000) :
   Calls Try.prog 42 #[v, .agg #[.bool true, .string ⟨#[]⟩, .int .i64 o, .int .i64 l]] w (OwnRet w base v (xs ++ R)) := by
  have HR := Lib.hid hR
  clear hR
  obtain ⟨i0, hi, hz0, hz1, hz2⟩ := info_parts Try.info5
  have HO := Lib.hid hown
  clear hown
  have hlen : (xs.map bv).length = xs.length := by simp
  have hli : (l : Int) - 1 = (L : Int) := by omega
  have HLI := Lib.hid hli
  have hor : bits .or .i64 ((L : Int) * 4) 3 = ((L * 4 + 3 : Nat) : Int) := by
    rw [show ((L : Int) * 4) = ((L * 4 : Nat) : Int) from by omega, show (3 : Int) = ((3 : Nat) : Int) from rfl, i64_or_nat _ _ (by omega) (by omega), nat_join 2 (L * 4) 3 (by omega) (by omega)]
  have HOR := Lib.hid hor
  clear hor
  have HHL := Lib.hid hlL
  clear hlL
  have HX := Lib.hid (Box.new w ⟨true, ⟨#[]⟩, o, l⟩)
  have HXD : Hid (Box (w.alloc (.cells #[.bool true, .string ⟨#[]⟩, .int .i64 o, .int .i64 l] 35)).drew w.heap.size ⟨true, ⟨#[]⟩, o, l⟩) := Lib.hid HX.out
  have HXE : Hid (∀ ob : Obj, Box ((w.alloc (.cells #[.bool true, .string ⟨#[]⟩, .int .i64 o, .int .i64 l] 35)).alloc ob).drew w.heap.size ⟨true, ⟨#[]⟩, o, l⟩) := Lib.hid (fun ob => HX.out.same (Below.heap_alloc _ ob _ (by simp)))
  have HOD : Hid (Own (w.alloc (.cells #[.bool true, .string ⟨#[]⟩, .int .i64 o, .int .i64 l] 35)).drew base v (xs.map bv)) := Lib.hid ((HO.out.alloc _).drew)
  have HSD : Hid (Step w (w.alloc (.cells #[.bool true, .string ⟨#[]⟩, .int .i64 o, .int .i64 l] 35)).drew v v) := Lib.hid (((Step.refl w v).alloc _).drew)
  have hne : some w.heap.size ≠ v.ownBlock := by intro e; have := (HO.out.lt _ e.symm).2; omega
  have HNE := Lib.hid hne
  clear hne
  have HNM := Lib.hid (fun (W : World) (u : Value) (h : Own W base u ((xs ++ [UInt8.ofNat (L * 4 + 3)]).map bv)) (hb' : base ≤ W.heap.size) => pnum_own o 4 (by omega) (by omega) base u (xs ++ [UInt8.ofNat (L * 4 + 3)]) W h hb' (by rw [List.length_append, List.length_singleton]; omega))
  have hoi : 65536 ≤ (o : Int) := by omega
  clear ho
  have ho2i : (o : Int) ≤ 4294967295 := by omega
  clear ho2
  generalize ((o : Nat) : Int) = O at *
  obtain ⟨p0, p1, p2, p3, -, -, -, -⟩ := HX.out.cells
  dsimp only at p0 p1 p2 p3
  go_enter Try.func42, Try.ntmps42
  go_wp2
  go_region_law (first
    | (refine step_append_Own rfl (.tmp 5) (.tmp 12) 28 28 rfl base 5 i0 (.int .u8 0) 1 Try.underlying28 hi hz0 hz1 hz2 rfl v (xs.map bv) rfl (HOD.out.alloc _) _ 1 _ rfl (by exact src_at Try.underlying28 (cell_two _ _ _ _) rfl) (by omega) (by omega) (Nat.le_trans hb (by simp; omega)) ?_; intro v2 w2 ho2 hs2; have HO2 := Lib.hid (own_snoc (byte_code (k := 3) hL (by omega) HOR.out) ho2); have HS2 := Lib.hid ((HSD.out.alloc _).trans hs2); have q2 := ((HXE.out _).kept hs2.grown HNE.out).cells.c2; have HBB := Lib.hid (Nat.le_trans hb HS2.out.grown.size); clear ho2 hs2)
    | (rw [if_pos (by rfl)]; go_simp; go_at_call 62; refine (HNM.out _ _ HO2.out HBB.out).mono ?_; rintro e w3 ⟨v3, rfl, ho3, hs3⟩; dsimp only; have HO3 := Lib.hid ho3; have HS3 := Lib.hid hs3; clear ho3 hs3)
    | (trace_state; fail))
  all_goals
    go_wp2
    go_ret
    refine ⟨v3, rfl, ?_, HS2.out.trans HS3.out⟩
    have h := HO3.out
    rw [List.append_assoc] at h
    rw [HR.out]
    exact h
set_option maxRecDepth 100000 in
set_option maxHeartbeats 1000000 in
theorem fst_b (o l L : Nat) (hlL : l = L + 1) (hL : L ≤ 63) (ho : 65536 ≤ o) (ho2 : o ≤ 4294967295) (hf : 11 < l) (R : List UInt8) (hR : R = UInt8.ofNat (L * 4 + 3) :: Bt.fx 4 o) (base : Nat) (v : Value) (xs : List UInt8) (w : World) (hown : Own w base v (xs.map bv)) (hb : base ≤ w.heap.size) (hl : xs.length ≤ 1000000000000) :
   Calls Try.prog 42 #[v, .agg #[.bool true, .string ⟨#[]⟩, .int .i64 o, .int .i64 l]] w (OwnRet w base v (xs ++ R)) := by
  have HR := Lib.hid hR
  clear hR
  obtain ⟨i0, hi, hz0, hz1, hz2⟩ := info_parts Try.info5
  have HO := Lib.hid hown
  clear hown
  have hlen : (xs.map bv).length = xs.length := by simp
  have hli : (l : Int) - 1 = (L : Int) := by omega
  have HLI := Lib.hid hli
  have hor : bits .or .i64 ((L : Int) * 4) 3 = ((L * 4 + 3 : Nat) : Int) := by
    rw [show ((L : Int) * 4) = ((L * 4 : Nat) : Int) from by omega, show (3 : Int) = ((3 : Nat) : Int) from rfl, i64_or_nat _ _ (by omega) (by omega), nat_join 2 (L * 4) 3 (by omega) (by omega)]
  have HOR := Lib.hid hor
  clear hor
  have HHL := Lib.hid hlL
  clear hlL
  have HX := Lib.hid (Box.new w ⟨true, ⟨#[]⟩, o, l⟩)
  have HXD : Hid (Box (w.alloc (.cells #[.bool true, .string ⟨#[]⟩, .int .i64 o, .int .i64 l] 35)).drew w.heap.size ⟨true, ⟨#[]⟩, o, l⟩) := Lib.hid HX.out
  have HXE : Hid (∀ ob : Obj, Box ((w.alloc (.cells #[.bool true, .string ⟨#[]⟩, .int .i64 o, .int .i64 l] 35)).alloc ob).drew w.heap.size ⟨true, ⟨#[]⟩, o, l⟩) := Lib.hid (fun ob => HX.out.same (Below.heap_alloc _ ob _ (by simp)))
  have HOD : Hid (Own (w.alloc (.cells #[.bool true, .string ⟨#[]⟩, .int .i64 o, .int .i64 l] 35)).drew base v (xs.map bv)) := Lib.hid ((HO.out.alloc _).drew)
  have HSD : Hid (Step w (w.alloc (.cells #[.bool true, .string ⟨#[]⟩, .int .i64 o, .int .i64 l] 35)).drew v v) := Lib.hid (((Step.refl w v).alloc _).drew)
  have hne : some w.heap.size ≠ v.ownBlock := by intro e; have := (HO.out.lt _ e.symm).2; omega
  have HNE := Lib.hid hne
  clear hne
  have HNM := Lib.hid (fun (W : World) (u : Value) (h : Own W base u ((xs ++ [UInt8.ofNat (L * 4 + 3)]).map bv)) (hb' : base ≤ W.heap.size) => pnum_own o 4 (by omega) (by omega) base u (xs ++ [UInt8.ofNat (L * 4 + 3)]) W h hb' (by rw [List.length_append, List.length_singleton]; omega))
  have hoi : 65536 ≤ (o : Int) := by omega
  clear ho
  have ho2i : (o : Int) ≤ 4294967295 := by omega
  clear ho2
  generalize ((o : Nat) : Int) = O at *
  obtain ⟨p0, p1, p2, p3, -, -, -, -⟩ := HX.out.cells
  dsimp only at p0 p1 p2 p3
  go_enter Try.func42, Try.ntmps42
  go_wp2
  go_region_law (first
    | (refine step_append_Own rfl (.tmp 5) (.tmp 12) 28 28 rfl base 5 i0 (.int .u8 0) 1 Try.underlying28 hi hz0 hz1 hz2 rfl v (xs.map bv) rfl (HOD.out.alloc _) _ 1 _ rfl (by exact src_at Try.underlying28 (cell_two _ _ _ _) rfl) (by omega) (by omega) (Nat.le_trans hb (by simp; omega)) ?_; intro v2 w2 ho2 hs2; have HO2 := Lib.hid (own_snoc (byte_code (k := 3) hL (by omega) HOR.out) ho2); have HS2 := Lib.hid ((HSD.out.alloc _).trans hs2); have q2 := ((HXE.out _).kept hs2.grown HNE.out).cells.c2; have HBB := Lib.hid (Nat.le_trans hb HS2.out.grown.size); clear ho2 hs2)
    | (rw [if_pos (by rfl)]; go_simp; go_at_call 62; refine (HNM.out _ _ HO2.out HBB.out).mono ?_; rintro e w3 ⟨v3, rfl, ho3, hs3⟩; dsimp only; have HO3 := Lib.hid ho3; have HS3 := Lib.hid hs3; clear ho3 hs3)
    | (trace_state; fail))
  all_goals
    go_wp2
    go_ret
    refine ⟨v3, rfl, ?_, HS2.out.trans HS3.out⟩
    have h := HO3.out
    rw [List.append_assoc] at h
    rw [HR.out]
    exact h
set_option maxRecDepth 100000 in
set_option maxHeartbeats 1000000 in
theorem fst_c (o l L : Nat) (hlL : l = L + 1) (hL : L ≤ 63) (ho : 65536 ≤ o) (ho2 : o ≤ 4294967295) (hf : 4 ≤ l) (hf2 : l ≤ 11) (R : List UInt8) (hR : R = UInt8.ofNat (L * 4 + 3) :: Bt.fx 4 o) (base : Nat) (v : Value) (xs : List UInt8) (w : World) (hown : Own w base v (xs.map bv)) (hb : base ≤ w.heap.size) (hl : xs.length ≤ 1000000000000) :
   Calls Try.prog 42 #[v, .agg #[.bool true, .string ⟨#[]⟩, .int .i64 o, .int .i64 l]] w (OwnRet w base v (xs ++ R)) := by
  have HR := Lib.hid hR
  clear hR
  obtain ⟨i0, hi, hz0, hz1, hz2⟩ := info_parts Try.info5
  have HO := Lib.hid hown
  clear hown
  have hlen : (xs.map bv).length = xs.length := by simp
  have hli : (l : Int) - 1 = (L : Int) := by omega
  have HLI := Lib.hid hli
  have hor : bits .or .i64 ((L : Int) * 4) 3 = ((L * 4 + 3 : Nat) : Int) := by
    rw [show ((L : Int) * 4) = ((L * 4 : Nat) : Int) from by omega, show (3 : Int) = ((3 : Nat) : Int) from rfl, i64_or_nat _ _ (by omega) (by omega), nat_join 2 (L * 4) 3 (by omega) (by omega)]
  have HOR := Lib.hid hor
  clear hor
  have HHL := Lib.hid hlL
  clear hlL
  have HX := Lib.hid (Box.new w ⟨true, ⟨#[]⟩, o, l⟩)
  have HXD : Hid (Box (w.alloc (.cells #[.bool true, .string ⟨#[]⟩, .int .i64 o, .int .i64 l] 35)).drew w.heap.size ⟨true, ⟨#[]⟩, o, l⟩) := Lib.hid HX.out
  have HXE : Hid (∀ ob : Obj, Box ((w.alloc (.cells #[.bool true, .string ⟨#[]⟩, .int .i64 o, .int .i64 l] 35)).alloc ob).drew w.heap.size ⟨true, ⟨#[]⟩, o, l⟩) := Lib.hid (fun ob => HX.out.same (Below.heap_alloc _ ob _ (by simp)))
  have HOD : Hid (Own (w.alloc (.cells #[.bool true, .string ⟨#[]⟩, .int .i64 o, .int .i64 l] 35)).drew base v (xs.map bv)) := Lib.hid ((HO.out.alloc _).drew)
  have HSD : Hid (Step w (w.alloc (.cells #[.bool true, .string ⟨#[]⟩, .int .i64 o, .int .i64 l] 35)).drew v v) := Lib.hid (((Step.refl w v).alloc _).drew)
  have hne : some w.heap.size ≠ v.ownBlock := by intro e; have := (HO.out.lt _ e.symm).2; omega
  have HNE := Lib.hid hne
  clear hne
  have HNM := Lib.hid (fun (W : World) (u : Value) (h : Own W base u ((xs ++ [UInt8.ofNat (L * 4 + 3)]).map bv)) (hb' : base ≤ W.heap.size) => pnum_own o 4 (by omega) (by omega) base u (xs ++ [UInt8.ofNat (L * 4 + 3)]) W h hb' (by rw [List.length_append, List.length_singleton]; omega))
  have hoi : 65536 ≤ (o : Int) := by omega
  clear ho
  have ho2i : (o : Int) ≤ 4294967295 := by omega
  clear ho2
  generalize ((o : Nat) : Int) = O at *
  obtain ⟨p0, p1, p2, p3, -, -, -, -⟩ := HX.out.cells
  dsimp only at p0 p1 p2 p3
  go_enter Try.func42, Try.ntmps42
  go_wp2
  go_region_law (first
    | (refine step_append_Own rfl (.tmp 5) (.tmp 12) 28 28 rfl base 5 i0 (.int .u8 0) 1 Try.underlying28 hi hz0 hz1 hz2 rfl v (xs.map bv) rfl (HOD.out.alloc _) _ 1 _ rfl (by exact src_at Try.underlying28 (cell_two _ _ _ _) rfl) (by omega) (by omega) (Nat.le_trans hb (by simp; omega)) ?_; intro v2 w2 ho2 hs2; have HO2 := Lib.hid (own_snoc (byte_code (k := 3) hL (by omega) HOR.out) ho2); have HS2 := Lib.hid ((HSD.out.alloc _).trans hs2); have q2 := ((HXE.out _).kept hs2.grown HNE.out).cells.c2; have HBB := Lib.hid (Nat.le_trans hb HS2.out.grown.size); clear ho2 hs2)
    | (rw [if_pos (by rfl)]; go_simp; go_at_call 62; refine (HNM.out _ _ HO2.out HBB.out).mono ?_; rintro e w3 ⟨v3, rfl, ho3, hs3⟩; dsimp only; have HO3 := Lib.hid ho3; have HS3 := Lib.hid hs3; clear ho3 hs3)
    | (trace_state; fail))
  all_goals
    go_wp2
    go_ret
    refine ⟨v3, rfl, ?_, HS2.out.trans HS3.out⟩
    have h := HO3.out
    rw [List.append_assoc] at h
    rw [HR.out]
    exact h
end Go.Proofs.Ytnnogjojoeajnaa
