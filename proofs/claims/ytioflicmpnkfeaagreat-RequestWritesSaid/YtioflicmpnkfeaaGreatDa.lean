/- The contracts of the document's May, bytes, Size and Write. -/
import Derived.Test.YtioflicmpnkfeaaGreatVa
namespace Go.Proofs.YtioflicmpnkfeaaGreat
open Go.RowKit
/-- A box of a field of the document. -/
def BoxF (W : World) (B : Nat) (n w v : Int) (t : ByteArray) : Prop := W.heap[B]? = some (.cells #[.int .i64 n, .int .u8 w, .int .u64 v, .string t] 47 (0, 0))
theorem BoxF.new (W : World) (n w v : Int) (t : ByteArray) : BoxF (W.alloc (.cells #[.int .i64 n, .int .u8 w, .int .u64 v, .string t] 47)) W.heap.size n w v t := heap_alloc_new W _
theorem BoxF.lt {W : World} {B : Nat} {n w v : Int} {t : ByteArray} (h : BoxF W B n w v t) : B < W.heap.size := (Array.getElem?_eq_some_iff.1 h).1
theorem BoxF.below {W W' : World} {B m : Nat} {n w v : Int} {t : ByteArray} (h : BoxF W B n w v t) (hb : Below m W W') (hn : W.heap.size ≤ m) : BoxF W' B n w v t := (hb.block B (Nat.lt_of_lt_of_le h.lt hn)).trans h
theorem BoxF.cells {W : World} {B : Nat} {n w v : Int} {t : ByteArray} (h : BoxF W B n w v t) : W.cell? ⟨B, 0, none⟩ = some (.int .i64 n) ∧ W.cell? ⟨B, 1, none⟩ = some (.int .u8 w) ∧ W.cell? ⟨B, 2, none⟩ = some (.int .u64 v) ∧ W.cell? ⟨B, 3, none⟩ = some (.string t) := by
  have hc : ∀ j, W.cell? ⟨B, j, none⟩ = _ := fun j => cell_of_row W B j _ 47 (0, 0) h
  rw [hc, hc, hc, hc]
  exact ⟨rfl, rfl, rfl, rfl⟩
theorem BoxF.free {W : World} {B : Nat} {n w v : Int} {t : ByteArray} (h : BoxF W B n w v t) (j : Nat) : W.frozen? ⟨B, j, none⟩ = false := by
  simp only [World.frozen?]
  rw [h]
  simp
/-- May a field of the document be? -/
def Ff.may (f : Ff) : Bool := decide (1 ≤ f.n ∧ f.n ≤ 536870911) && decide (f.w = 0 ∨ f.w = 1 ∨ f.w = 2 ∨ f.w = 5)
theorem Ff.may_iff {f : Ff} : f.may = true ↔ (1 ≤ f.n ∧ f.n ≤ 536870911) ∧ (f.w = 0 ∨ f.w = 1 ∨ f.w = 2 ∨ f.w = 5) := by
  unfold Ff.may
  simp
set_option maxRecDepth 100000 in
set_option maxHeartbeats 1000000 in
theorem rmay_lo (n w v : Int) (t : ByteArray) (W0 : World) (h : ¬ 1 ≤ n) :
    Calls Tryz.prog 44 #[.agg #[.int .i64 n, .int .u8 w, .int .u64 v, .string t]] W0 (Ret W0 (.bool false)) := by
  have HA := Lib.hid ((Below.refl W0.heap.size W0).alloc (Nat.le_refl _) (.cells #[.int .i64 n, .int .u8 w, .int .u64 v, .string t] 47))
  go_enter Tryz.func44, Tryz.ntmps44
  go_wp2
  go_ret
  exact ⟨rfl, HA.out⟩
set_option maxRecDepth 100000 in
set_option maxHeartbeats 1000000 in
theorem rmay_hi (n w v : Int) (t : ByteArray) (W0 : World) (h : 1 ≤ n) (h2 : ¬ n ≤ 536870911) :
    Calls Tryz.prog 44 #[.agg #[.int .i64 n, .int .u8 w, .int .u64 v, .string t]] W0 (Ret W0 (.bool false)) := by
  have HA := Lib.hid ((Below.refl W0.heap.size W0).alloc (Nat.le_refl _) (.cells #[.int .i64 n, .int .u8 w, .int .u64 v, .string t] 47))
  go_enter Tryz.func44, Tryz.ntmps44
  go_wp2
  go_ret
  exact ⟨rfl, HA.out⟩
set_option maxRecDepth 100000 in
set_option maxHeartbeats 1000000 in
theorem rmay_w0 (n v : Int) (t : ByteArray) (W0 : World) (h : 1 ≤ n) (h2 : n ≤ 536870911) :
    Calls Tryz.prog 44 #[.agg #[.int .i64 n, .int .u8 0, .int .u64 v, .string t]] W0 (Ret W0 (.bool true)) := by
  have HA := Lib.hid ((Below.refl W0.heap.size W0).alloc (Nat.le_refl _) (.cells #[.int .i64 n, .int .u8 0, .int .u64 v, .string t] 47))
  go_enter Tryz.func44, Tryz.ntmps44
  go_wp2
  go_ret
  exact ⟨rfl, HA.out⟩
set_option maxRecDepth 100000 in
set_option maxHeartbeats 1000000 in
theorem rmay_w1 (n v : Int) (t : ByteArray) (W0 : World) (h : 1 ≤ n) (h2 : n ≤ 536870911) :
    Calls Tryz.prog 44 #[.agg #[.int .i64 n, .int .u8 1, .int .u64 v, .string t]] W0 (Ret W0 (.bool true)) := by
  have HA := Lib.hid ((Below.refl W0.heap.size W0).alloc (Nat.le_refl _) (.cells #[.int .i64 n, .int .u8 1, .int .u64 v, .string t] 47))
  go_enter Tryz.func44, Tryz.ntmps44
  go_wp2
  go_ret
  exact ⟨rfl, HA.out⟩
set_option maxRecDepth 100000 in
set_option maxHeartbeats 1000000 in
theorem rmay_w2 (n v : Int) (t : ByteArray) (W0 : World) (h : 1 ≤ n) (h2 : n ≤ 536870911) :
    Calls Tryz.prog 44 #[.agg #[.int .i64 n, .int .u8 2, .int .u64 v, .string t]] W0 (Ret W0 (.bool true)) := by
  have HA := Lib.hid ((Below.refl W0.heap.size W0).alloc (Nat.le_refl _) (.cells #[.int .i64 n, .int .u8 2, .int .u64 v, .string t] 47))
  go_enter Tryz.func44, Tryz.ntmps44
  go_wp2
  go_ret
  exact ⟨rfl, HA.out⟩
set_option maxRecDepth 100000 in
set_option maxHeartbeats 1000000 in
theorem rmay_w5 (n v : Int) (t : ByteArray) (W0 : World) (h : 1 ≤ n) (h2 : n ≤ 536870911) :
    Calls Tryz.prog 44 #[.agg #[.int .i64 n, .int .u8 5, .int .u64 v, .string t]] W0 (Ret W0 (.bool true)) := by
  have HA := Lib.hid ((Below.refl W0.heap.size W0).alloc (Nat.le_refl _) (.cells #[.int .i64 n, .int .u8 5, .int .u64 v, .string t] 47))
  go_enter Tryz.func44, Tryz.ntmps44
  go_wp2
  go_ret
  exact ⟨rfl, HA.out⟩
set_option maxRecDepth 100000 in
set_option maxHeartbeats 1000000 in
theorem rmay_ot (n w v : Int) (t : ByteArray) (W0 : World) (h : 1 ≤ n) (h2 : n ≤ 536870911) (h3 : (w == 0) = false) (h4 : (w == 1) = false) (h5 : (w == 2) = false) (h6 : (w == 5) = false) :
    Calls Tryz.prog 44 #[.agg #[.int .i64 n, .int .u8 w, .int .u64 v, .string t]] W0 (Ret W0 (.bool false)) := by
  have HA := Lib.hid ((Below.refl W0.heap.size W0).alloc (Nat.le_refl _) (.cells #[.int .i64 n, .int .u8 w, .int .u64 v, .string t] 47))
  go_enter Tryz.func44, Tryz.ntmps44
  go_wp2
  go_ret
  exact ⟨rfl, HA.out⟩
theorem rmay_any (f : Ff) (W : World) : Calls Tryz.prog 44 #[fv f] W (Ret W (.bool f.may)) := by
  obtain ⟨n, w, v, t⟩ := f
  by_cases h1 : 1 ≤ n
  · by_cases h2 : n ≤ 536870911
    · by_cases h3 : w = 0 ∨ w = 1 ∨ w = 2 ∨ w = 5
      · rw [Ff.may_iff.2 ⟨⟨h1, h2⟩, h3⟩]
        rcases h3 with rfl | rfl | rfl | rfl
        · exact rmay_w0 n v t W h1 h2
        · exact rmay_w1 n v t W h1 h2
        · exact rmay_w2 n v t W h1 h2
        · exact rmay_w5 n v t W h1 h2
      · rw [show Ff.may ⟨n, w, v, t⟩ = false by
          rw [← Bool.not_eq_true, Ff.may_iff]
          intro h
          exact h3 h.2]
        have hc : ∀ c : Nat, ¬ w = c → ((w : Int) == (c : Int)) = false := fun c hc => by rw [beq_eq_false_iff_ne]; omega
        exact rmay_ot n w v t W h1 h2 (hc 0 (by omega)) (hc 1 (by omega)) (hc 2 (by omega)) (hc 5 (by omega))
    · rw [show Ff.may ⟨n, w, v, t⟩ = false by
        rw [← Bool.not_eq_true, Ff.may_iff]
        intro h
        exact h2 h.1.2]
      exact rmay_hi n w v t W h1 h2
  · rw [show Ff.may ⟨n, w, v, t⟩ = false by
      rw [← Bool.not_eq_true, Ff.may_iff]
      intro h
      exact h1 h.1.1]
    exact rmay_lo n w v t W h1
/-- A field's bytes. -/
def Ff.vb (f : Ff) : List UInt8 := if f.w = 0 then Bt.vint f.v else if f.w = 1 then Bt.fx 8 f.v else if f.w = 2 then Bt.vint f.t.size ++ f.t.data.toList else Bt.fx 4 f.v
def Ff.by (f : Ff) : List UInt8 := Bt.vint (f.n.toNat * 8 + f.w) ++ f.vb
set_option maxRecDepth 100000 in
set_option maxHeartbeats 1000000 in
theorem rby0 (n v : Int) (t kb vb : ByteArray) (hn0 : 0 ≤ n) (hn1 : n ≤ 536870911) (hkb : kb.size ≤ 10) (hvb : vb.size ≤ 2000000000000) (hK : ∀ (k : Int), k = n * 8 + 0 → ∀ W, Calls Tryz.prog 55 #[.int .u64 k] W (Ret W (.string kb))) (hV : ∀ W, Calls Tryz.prog 55 #[.int .u64 v] W (Ret W (.string vb))) (W0 : World) :
    Calls Tryz.prog 45 #[.agg #[.int .i64 n, .int .u8 0, .int .u64 v, .string t]] W0 (Ret W0 (.string (kb ++ vb))) := by
  have HK := Lib.hid hK; have HV := Lib.hid hV
  clear hK hV
  have HA := Lib.hid ((Below.refl W0.heap.size W0).alloc (Nat.le_refl _) (.cells #[.int .i64 n, .int .u8 0, .int .u64 v, .string t] 47))
  have HX := Lib.hid (BoxF.new W0 n 0 v t)
  obtain ⟨p0, p1, p2, p3⟩ := HX.out.cells
  go_enter Tryz.func45, Tryz.ntmps45
  go_wp2_with fail
  refine (HK.out _ (by omega) _).mono ?_
  rintro e w1 ⟨rfl, hb1⟩
  have HB1 := Lib.hid (HA.out.trans (hb1.mono HA.out.size))
  have HX1 := Lib.hid (HX.out.below hb1 (Nat.le_refl _))
  obtain ⟨q0, q1, q2, q3⟩ := HX1.out.cells
  clear hb1 p0 p1 p2 p3
  go_wp2_with fail
  refine (HV.out _).mono ?_
  rintro e w2 ⟨rfl, hb2⟩
  have HB2 := Lib.hid (HB1.out.trans (hb2.mono HB1.out.size))
  clear hb2
  go_wp2
  go_ret
  exact ⟨rfl, HB2.out⟩
set_option maxRecDepth 100000 in
set_option maxHeartbeats 1000000 in
theorem rby1 (n v : Int) (t kb vb : ByteArray) (hn0 : 0 ≤ n) (hn1 : n ≤ 536870911) (hkb : kb.size ≤ 10) (hvb : vb.size ≤ 2000000000000) (hK : ∀ (k : Int), k = n * 8 + 1 → ∀ W, Calls Tryz.prog 55 #[.int .u64 k] W (Ret W (.string kb))) (hV : ∀ W, Calls Tryz.prog 56 #[.int .u64 v, .int .i64 8] W (Ret W (.string vb))) (W0 : World) :
    Calls Tryz.prog 45 #[.agg #[.int .i64 n, .int .u8 1, .int .u64 v, .string t]] W0 (Ret W0 (.string (kb ++ vb))) := by
  have HK := Lib.hid hK; have HV := Lib.hid hV
  clear hK hV
  have HA := Lib.hid ((Below.refl W0.heap.size W0).alloc (Nat.le_refl _) (.cells #[.int .i64 n, .int .u8 1, .int .u64 v, .string t] 47))
  have HX := Lib.hid (BoxF.new W0 n 1 v t)
  obtain ⟨p0, p1, p2, p3⟩ := HX.out.cells
  go_enter Tryz.func45, Tryz.ntmps45
  go_wp2_with fail
  refine (HK.out _ (by omega) _).mono ?_
  rintro e w1 ⟨rfl, hb1⟩
  have HB1 := Lib.hid (HA.out.trans (hb1.mono HA.out.size))
  have HX1 := Lib.hid (HX.out.below hb1 (Nat.le_refl _))
  obtain ⟨q0, q1, q2, q3⟩ := HX1.out.cells
  clear hb1 p0 p1 p2 p3
  go_wp2_with fail
  refine (HV.out _).mono ?_
  rintro e w2 ⟨rfl, hb2⟩
  have HB2 := Lib.hid (HB1.out.trans (hb2.mono HB1.out.size))
  clear hb2
  go_wp2
  go_ret
  exact ⟨rfl, HB2.out⟩
set_option maxRecDepth 100000 in
set_option maxHeartbeats 1000000 in
theorem rby2 (n v : Int) (t kb vb : ByteArray) (hn0 : 0 ≤ n) (hn1 : n ≤ 536870911) (hkb : kb.size ≤ 10) (hvb : vb.size ≤ 2000000000000) (hK : ∀ (k : Int), k = n * 8 + 2 → ∀ W, Calls Tryz.prog 55 #[.int .u64 k] W (Ret W (.string kb))) (hV : ∀ W, Calls Tryz.prog 57 #[.string t] W (Ret W (.string vb))) (W0 : World) :
    Calls Tryz.prog 45 #[.agg #[.int .i64 n, .int .u8 2, .int .u64 v, .string t]] W0 (Ret W0 (.string (kb ++ vb))) := by
  have HK := Lib.hid hK; have HV := Lib.hid hV
  clear hK hV
  have HA := Lib.hid ((Below.refl W0.heap.size W0).alloc (Nat.le_refl _) (.cells #[.int .i64 n, .int .u8 2, .int .u64 v, .string t] 47))
  have HX := Lib.hid (BoxF.new W0 n 2 v t)
  obtain ⟨p0, p1, p2, p3⟩ := HX.out.cells
  go_enter Tryz.func45, Tryz.ntmps45
  go_wp2_with fail
  refine (HK.out _ (by omega) _).mono ?_
  rintro e w1 ⟨rfl, hb1⟩
  have HB1 := Lib.hid (HA.out.trans (hb1.mono HA.out.size))
  have HX1 := Lib.hid (HX.out.below hb1 (Nat.le_refl _))
  obtain ⟨q0, q1, q2, q3⟩ := HX1.out.cells
  clear hb1 p0 p1 p2 p3
  go_wp2_with fail
  refine (HV.out _).mono ?_
  rintro e w2 ⟨rfl, hb2⟩
  have HB2 := Lib.hid (HB1.out.trans (hb2.mono HB1.out.size))
  clear hb2
  go_wp2
  go_ret
  exact ⟨rfl, HB2.out⟩
set_option maxRecDepth 100000 in
set_option maxHeartbeats 1000000 in
theorem rby5 (n v : Int) (t kb vb : ByteArray) (hn0 : 0 ≤ n) (hn1 : n ≤ 536870911) (hkb : kb.size ≤ 10) (hvb : vb.size ≤ 2000000000000) (hK : ∀ (k : Int), k = n * 8 + 5 → ∀ W, Calls Tryz.prog 55 #[.int .u64 k] W (Ret W (.string kb))) (hV : ∀ W, Calls Tryz.prog 56 #[.int .u64 v, .int .i64 4] W (Ret W (.string vb))) (W0 : World) :
    Calls Tryz.prog 45 #[.agg #[.int .i64 n, .int .u8 5, .int .u64 v, .string t]] W0 (Ret W0 (.string (kb ++ vb))) := by
  have HK := Lib.hid hK; have HV := Lib.hid hV
  clear hK hV
  have HA := Lib.hid ((Below.refl W0.heap.size W0).alloc (Nat.le_refl _) (.cells #[.int .i64 n, .int .u8 5, .int .u64 v, .string t] 47))
  have HX := Lib.hid (BoxF.new W0 n 5 v t)
  obtain ⟨p0, p1, p2, p3⟩ := HX.out.cells
  go_enter Tryz.func45, Tryz.ntmps45
  go_wp2_with fail
  refine (HK.out _ (by omega) _).mono ?_
  rintro e w1 ⟨rfl, hb1⟩
  have HB1 := Lib.hid (HA.out.trans (hb1.mono HA.out.size))
  have HX1 := Lib.hid (HX.out.below hb1 (Nat.le_refl _))
  obtain ⟨q0, q1, q2, q3⟩ := HX1.out.cells
  clear hb1 p0 p1 p2 p3
  go_wp2_with fail
  refine (HV.out _).mono ?_
  rintro e w2 ⟨rfl, hb2⟩
  have HB2 := Lib.hid (HB1.out.trans (hb2.mono HB1.out.size))
  clear hb2
  go_wp2
  go_ret
  exact ⟨rfl, HB2.out⟩
theorem Ff.by_ok (f : Ff) (hf : f.ok) (hm : f.may = true) (W : World) : Calls Tryz.prog 45 #[fv f] W (Ret W (.string (bs f.by))) := by
  obtain ⟨⟨g1, g2⟩, g3⟩ := Ff.may_iff.1 hm
  obtain ⟨n, w, v, t⟩ := f
  obtain ⟨k0, k1, k2, k3, k4⟩ := hf
  dsimp only at g1 g2 g3 k0 k1 k2 k3 k4
  obtain ⟨n, rfl⟩ := Int.eq_ofNat_of_zero_le (a := n) (by omega)
  have hK : ∀ (c : Nat), c < 8 → ∀ (k : Int), k = (n : Int) * 8 + (c : Int) → ∀ W, Calls Tryz.prog 55 #[.int .u64 k] W (Ret W (.string (bs (Bt.vint (n * 8 + c))))) := fun c hc k hk W => by
    subst hk
    rw [show (n : Int) * 8 + (c : Int) = ((n * 8 + c : Nat) : Int) by omega]
    exact rvint _ W (by omega)
  have hkb : ∀ c : Nat, c < 8 → (bs (Bt.vint (n * 8 + c))).size ≤ 10 := fun c hc => by
    rw [bs_size, Bt.vint_length]
    exact Bt.vlen_u64 (by omega)
  unfold Ff.by Ff.vb fv
  dsimp only
  rw [← bs_append, show ((n : Int)).toNat = n by omega]
  rcases g3 with rfl | rfl | rfl | rfl
  · rw [if_pos rfl]
    exact rby0 n v t _ _ (by omega) (by omega) (hkb 0 (by omega)) (by rw [bs_size, Bt.vint_length]; have := Bt.vlen_u64 (n := v) k3; omega) (hK 0 (by omega)) (fun W => rvint v W (by omega)) W
  · rw [if_neg (by decide), if_pos rfl]
    exact rby1 n v t _ _ (by omega) (by omega) (hkb 1 (by omega)) (by rw [bs_size, Bt.fx_length]; omega) (hK 1 (by omega)) (fun W => rfixed_any v 8 W (by omega) (by omega)) W
  · rw [if_neg (by decide), if_neg (by decide), if_pos rfl]
    exact rby2 n v t _ _ (by omega) (by omega) (hkb 2 (by omega)) (by rw [bs_size, List.length_append, Bt.vint_length]; have := Bt.vlen_u64 (n := t.size) (by omega); simp; omega) (hK 2 (by omega)) (fun W => rtext_any t W (by omega)) W
  · rw [if_neg (by decide), if_neg (by decide), if_neg (by decide)]
    exact rby5 n v t _ _ (by omega) (by omega) (hkb 5 (by omega)) (by rw [bs_size, Bt.fx_length]; omega) (hK 5 (by omega)) (fun W => rfixed_any v 4 W (by omega) (by omega)) W
theorem Ff.by_le (f : Ff) (hf : f.ok) (hm : f.may = true) : f.by.length ≤ f.t.size + 20 := by
  obtain ⟨⟨g1, g2⟩, g3⟩ := Ff.may_iff.1 hm
  have h1 := Bt.vlen_u64 (n := f.n.toNat * 8 + f.w) (by have := hf.w; omega)
  have h2 := Bt.vlen_u64 (n := f.v) hf.v
  have h3 := Bt.vlen_u64 (n := f.t.size) (by have := hf.t; omega)
  unfold Ff.by Ff.vb
  rw [List.length_append, Bt.vint_length]
  repeat' split
  · rw [Bt.vint_length]; omega
  · rw [Bt.fx_length]; omega
  · rw [List.length_append, Bt.vint_length]; simp; omega
  · rw [Bt.fx_length]; omega
/-- How many bytes a field of the document has. -/
def Ff.size (f : Ff) : Nat := if f.may then f.by.length else 0
/-- What the document's Write comes to, behind bytes. -/
def rwk : List Ff → List UInt8 → List UInt8 × Nat
  | [], b => (b, 0)
  | f :: r, b => if f.may then rwk r (b ++ f.by) else ([], 4)
end Go.Proofs.YtioflicmpnkfeaaGreat
