/- The contract of element: the next part, and what is left. -/
import Derived.Test.YtnnogjojoeajnaaEl
namespace Go.Proofs.Ytnnogjojoeajnaa
open Go.RowKit
/-- A literal of n bytes behind K bytes; a copy whose offset has k bytes; the element that begins by c: the part, how many bytes of r it has, whether none is missing. -/
def lit (r : List UInt8) (K n : Nat) : Pt × Nat × Bool :=
  if K + n ≤ r.length then (⟨false, bs ((r.drop K).take n), 0, 0⟩, K + n, true) else (⟨false, bs [], 0, 0⟩, K, false)
def cpy (r : List UInt8) (l o k : Nat) : Pt × Nat × Bool :=
  (⟨true, bs [], o, l⟩, if k ≤ r.length then (k, true) else (r.length, false))
def el (c : UInt8) (r : List UInt8) : Pt × Nat × Bool :=
  if c.toNat % 4 = 0 then
    if c.toNat / 4 < 60 then lit r 0 (c.toNat / 4 + 1)
    else if c.toNat / 4 - 59 ≤ r.length then lit r (c.toNat / 4 - 59) (low (r.take (c.toNat / 4 - 59)) + 1)
    else (⟨false, bs [], 0, 0⟩, r.length, false)
  else if c.toNat % 4 = 1 then cpy r (c.toNat / 4 % 8 + 4) (c.toNat / 32 * 256 + low (r.take 1)) 1
  else if c.toNat % 4 = 2 then cpy r (c.toNat / 4 + 1) (low (r.take 2)) 2
  else cpy r (c.toNat / 4 + 1) (low (r.take 4)) 4
theorem i64_and_nat (a b : Nat) (ha : a < 9223372036854775808) (hb : b < 9223372036854775808) : bits .and .i64 (a : Int) (b : Int) = ((a &&& b : Nat) : Int) := by
  have h := u64_and a b (by omega) (by omega) (by omega) (by omega)
  rw [Int.toNat_natCast, Int.toNat_natCast] at h
  have h1 : bits .and .u64 (a : Int) (b : Int) = IntKind.u64.wrap ((BitVec.ofInt 64 (a : Int) &&& BitVec.ofInt 64 (b : Int)).toNat : Int) := rfl
  have hlt := (BitVec.ofInt 64 (a : Int) &&& BitVec.ofInt 64 (b : Int)).isLt
  have hor : a &&& b < 2 ^ 63 := Nat.lt_of_le_of_lt Nat.and_le_left (by omega)
  rw [h1, IntKind.wrap_u64, Int.emod_eq_of_lt (by omega) (by omega)] at h
  show IntKind.i64.wrap ((BitVec.ofInt 64 (a : Int) &&& BitVec.ofInt 64 (b : Int)).toNat : Int) = _
  rw [h, Bt.wrap_i64]
  omega
theorem drop_succ {s : ByteArray} {a : Nat} {c : UInt8} {r : List UInt8} (hc : s.data.toList.drop a = c :: r) : s.data.toList.drop (a + 1) = r ∧ a + 1 + r.length = s.size := by
  have h1 := congrArg List.tail hc
  have h2 := congrArg List.length hc
  rw [List.tail_drop] at h1
  rw [List.length_drop, List.length_cons] at h2
  have : s.data.toList.length = s.size := by simp
  exact ⟨h1, by omega⟩
/-- A box of a part. -/
def Box (W : World) (B : Nat) (p : Pt) : Prop := W.heap[B]? = some (.cells #[.bool p.c, .string p.t, .int .i64 p.o, .int .i64 p.l] 35 (0, 0))
structure BoxC (W : World) (B : Nat) (p : Pt) : Prop where
  c0 : W.cell? ⟨B, 0, none⟩ = some (.bool p.c)
  c1 : W.cell? ⟨B, 1, none⟩ = some (.string p.t)
  c2 : W.cell? ⟨B, 2, none⟩ = some (.int .i64 p.o)
  c3 : W.cell? ⟨B, 3, none⟩ = some (.int .i64 p.l)
  f0 : W.frozen? ⟨B, 0, none⟩ = false
  f1 : W.frozen? ⟨B, 1, none⟩ = false
  f2 : W.frozen? ⟨B, 2, none⟩ = false
  f3 : W.frozen? ⟨B, 3, none⟩ = false
theorem Box.cells {W : World} {B : Nat} {p : Pt} (h : Box W B p) : BoxC W B p := by
  unfold Box at h
  constructor <;> simp only [World.cell?, World.frozen?, h] <;> rfl
theorem Box.new (W : World) (p : Pt) : Box (W.alloc (.cells #[.bool p.c, .string p.t, .int .i64 p.o, .int .i64 p.l] 35)) W.heap.size p := heap_alloc_new W _
theorem Box.lt {W : World} {B : Nat} {p : Pt} (h : Box W B p) : B < W.heap.size := (Array.getElem?_eq_some_iff.1 h).1
theorem Box.kept {W W' : World} {row : Option Nat} {B : Nat} {p : Pt} (h : Box W B p) (hg : W.grownBy W' row) (hne : some B ≠ row) : Box W' B p := (hg.block B h.lt hne).trans h
theorem Box.same {W W' : World} {B : Nat} {p : Pt} (h : Box W B p) (hs : W'.heap[B]? = W.heap[B]?) : Box W' B p := hs.trans h
/-- What a call on a reader leaves, where all its error is ErrShort. -/
def ElRet (w : World) (b : Nat) (s : ByteArray) (p : Pt) (a : Nat) (ok : Bool) (e : Ending) (w' : World) : Prop :=
  e = .returned (pv p) ∧ RdAt w' b s a (if ok then 0 else 8) ∧ w.grownBy w' (some b)
/-- A box written anew. -/
theorem Box.set {W : World} {B : Nat} {p : Pt} (h : Box W B p) (x : Pt) :
    Box ((((W.setCell ⟨B, 0, none⟩ (.bool x.c)).setCell ⟨B, 1, none⟩ (.string x.t)).setCell ⟨B, 2, none⟩ (.int .i64 x.o)).setCell ⟨B, 3, none⟩ (.int .i64 x.l)) B x := by
  unfold Box at h ⊢
  simp [World.setCell, Array.getElem?_modify, h]
theorem grown_set4 (W : World) (B : Nat) (x0 x1 x2 x3 : Value) :
    W.grownBy ((((W.setCell ⟨B, 0, none⟩ x0).setCell ⟨B, 1, none⟩ x1).setCell ⟨B, 2, none⟩ x2).setCell ⟨B, 3, none⟩ x3) (some B) := grownBy_setCells B 0 [x0, x1, x2, x3] W
/-- Where a part is told out of its box. -/
theorem ret_box {fn : Func} {R : Ending → World → Prop} {a : Act} {w : World} {p : Pt} (k B : Nat) (hf : fn.results = #[.cell k 35]) (hk : a.tmps.getD k undef = .pointer (some ⟨B, 0, none⟩)) (hd : a.defers = []) (hB : Box w B p) (hR : R (.returned (pv p)) w) : bodyPost Try.prog fn R .ret a w :=
  bodyPost_ret (results_cell_row hf _ _ B 35 _ (0, 0) _ hk hB Try.underlying35 rfl (by kernel_rfl)) hd hR
def pt0 : Pt := ⟨false, ⟨#[]⟩, 0, 0⟩
theorem gnew {A B C : World} {row : Option Nat} {k : Nat} (h : A.grownBy B row) (g : B.grownBy C (some k)) (hk : A.heap.size ≤ k) : A.grownBy C row :=
  ⟨g.os.trans h.os, g.tape.trans h.tape, g.output.trans h.output, Nat.le_trans h.size g.size, fun i hi hne => (g.block i (Nat.lt_of_lt_of_le hi h.size) (fun e => by cases e; omega)).trans (h.block i hi hne)⟩
theorem el_fin {w w1 w2 w3 : World} {b : Nat} {s : ByteArray} {o : Obj} {a' e' : Int} {a : Nat} {ok : Bool} {x : Pt}
    (h1 : (w.alloc o).grownBy w1 (some b)) (h2 : w1.grownBy w2 (some b)) (h3 : RdAt w2 b s a' e') (hb : b < w.heap.size) (ha : a' = (a : Int)) (he : e' = if ok then 0 else 8)
    (h4 : w3 = (((w2.setCell ⟨w.heap.size, 0, none⟩ (.bool x.c)).setCell ⟨w.heap.size, 1, none⟩ (.string x.t)).setCell ⟨w.heap.size, 2, none⟩ (.int .i64 x.o)).setCell ⟨w.heap.size, 3, none⟩ (.int .i64 x.l))
    {p : Pt} (hp : x = p) : ElRet w b s p a ok (.returned (pv x)) w3 := by
  subst h4 hp ha he
  have hg := grown_set4 w2 w.heap.size (.bool x.c) (.string x.t) (.int .i64 x.o) (.int .i64 x.l)
  have hlt := h3.lt
  refine ⟨rfl, h3.congr (hg.block b hlt (fun e => by cases e; omega)), gnew (gtrans (gtrans (World.grownBy_alloc w o (some b)) h1) h2) hg (Nat.le_refl _)⟩
theorem adv_eq {s : ByteArray} {a : Nat} {r : List UInt8} (hsz : a + 1 + r.length = s.size) (k : Nat) : adv s (a + 1) k = ((a + 1 + (if k ≤ r.length then (k, true) else (r.length, false)).1 : Nat) : Int) := by
  unfold adv
  by_cases h : k ≤ r.length
  · rw [if_pos h, if_pos (by omega)]
  · rw [if_neg h, if_neg (by omega), ← hsz]
theorem erd_eq {s : ByteArray} {a : Nat} {r : List UInt8} (hsz : a + 1 + r.length = s.size) (k : Nat) : erd s (a + 1) k = (if ((if k ≤ r.length then (k, true) else (r.length, false)) : Nat × Bool).2 then 0 else 8) := by
  unfold erd
  by_cases h : k ≤ r.length
  · rw [if_pos h, if_pos (by omega)]; rfl
  · rw [if_neg h, if_neg (by omega)]; rfl
set_option maxRecDepth 100000 in
set_option maxHeartbeats 1000000 in
theorem element_two (b : Nat) (s : ByteArray) (a : Nat) (c : UInt8) (r : List UInt8) (hc : s.data.toList.drop a = c :: r) (hm : c.toNat % 4 = 2) (w : World) (h : RdAt w b s a 0) (hs : s.size ≤ 140737488351232) :
    Calls Try.prog 56 #[.pointer (some ⟨b, 0, none⟩)] w (ElRet w b s (el c r).1 (a + 1 + (el c r).2.1) (el c r).2.2) := by
  have H := Lib.hid h
  clear h
  obtain ⟨hr, hsz⟩ := drop_succ hc
  have hcl := c.toNat_lt
  have hA : bits .and .i64 (c.toNat : Int) 3 = 2 := by
    rw [show (3 : Int) = ((3 : Nat) : Int) from rfl, i64_and_nat _ _ (by omega) (by omega), nat_mask2, hm]
    try rfl
  have hb := H.out.lt
  have HB := Lib.hid (byte_ok b s a _ (H.out.congr ((World.grownBy_alloc w (.cells #[.bool false, .string ⟨#[]⟩, .int .i64 0, .int .i64 0] 35) none).block b hb (by simp))) c r hc hs)
  have HX := Lib.hid (Box.new w pt0)
  have HL := Lib.hid (show lnum s (a + 1) 2 = low (r.take 2) by unfold lnum; rw [hr])
  have hN := lnum_lt s (a + 1) 2
  generalize hNe : lnum s (a + 1) 2 = N at *
  have HNe := Lib.hid hNe
  clear hNe
  have HC := Lib.hid hc
  clear hc
  go_enter Try.func56, Try.ntmps56
  go_wp2_with (first
    | (go_at_call 71; refine HB.out.mono ?_; rintro e w1 ⟨rfl, hw1, hw2⟩; have HW1 := Lib.hid hw1; have HW2 := Lib.hid hw2; have hnn := number_any b s (a + 1) 2 (by omega) w1 hw1 (by omega) hs; rw [HNe.out] at hnn; have HN := Lib.hid hnn; have HX1 := Lib.hid (HX.out.kept hw2 (by simp; omega)); clear hw1 hw2 hnn)
    | (go_at_call 74; refine HN.out.mono ?_; rintro e w2 ⟨rfl, hx1, hx2⟩; have HY1 := Lib.hid hx1; have HY2 := Lib.hid hx2; have HX2 := Lib.hid (HX1.out.kept hx2 (by simp; omega)); obtain ⟨c0, c1, c2, c3, f0, f1, f2, f3⟩ := HX2.out.cells; clear hx1 hx2))
  have HZ := Lib.hid (HX2.out.set ⟨true, ⟨#[]⟩, N, (c.toNat : Int) / 4 + 1⟩)
  refine ret_box 2 w.heap.size rfl rfl rfl HZ.out ?_
  have hel : el c r = cpy r (c.toNat / 4 + 1) (low (r.take 2)) 2 := by unfold el; rw [if_neg (by omega), if_neg (by omega), if_pos (by omega)]
  rw [hel]
  refine el_fin HW2.out HY2.out HY1.out hb (adv_eq hsz _) (erd_eq hsz _) rfl ?_
  rw [← HL.out]
  simp only [cpy, Pt.mk.injEq, true_and]
  first | exact ⟨rfl, by omega⟩ | exact ⟨rfl, by omega, by omega⟩
set_option maxRecDepth 100000 in
set_option maxHeartbeats 1000000 in
theorem element_three (b : Nat) (s : ByteArray) (a : Nat) (c : UInt8) (r : List UInt8) (hc : s.data.toList.drop a = c :: r) (hm : c.toNat % 4 = 3) (w : World) (h : RdAt w b s a 0) (hs : s.size ≤ 140737488351232) :
    Calls Try.prog 56 #[.pointer (some ⟨b, 0, none⟩)] w (ElRet w b s (el c r).1 (a + 1 + (el c r).2.1) (el c r).2.2) := by
  have H := Lib.hid h
  clear h
  obtain ⟨hr, hsz⟩ := drop_succ hc
  have hcl := c.toNat_lt
  have hA : bits .and .i64 (c.toNat : Int) 3 = 3 := by
    rw [show (3 : Int) = ((3 : Nat) : Int) from rfl, i64_and_nat _ _ (by omega) (by omega), nat_mask2, hm]
    try rfl
  have hb := H.out.lt
  have HB := Lib.hid (byte_ok b s a _ (H.out.congr ((World.grownBy_alloc w (.cells #[.bool false, .string ⟨#[]⟩, .int .i64 0, .int .i64 0] 35) none).block b hb (by simp))) c r hc hs)
  have HX := Lib.hid (Box.new w pt0)
  have HL := Lib.hid (show lnum s (a + 1) 4 = low (r.take 4) by unfold lnum; rw [hr])
  have hN := lnum_lt s (a + 1) 4
  generalize hNe : lnum s (a + 1) 4 = N at *
  have HNe := Lib.hid hNe
  clear hNe
  have HC := Lib.hid hc
  clear hc
  go_enter Try.func56, Try.ntmps56
  go_wp2_with (first
    | (go_at_call 71; refine HB.out.mono ?_; rintro e w1 ⟨rfl, hw1, hw2⟩; have HW1 := Lib.hid hw1; have HW2 := Lib.hid hw2; have hnn := number_any b s (a + 1) 4 (by omega) w1 hw1 (by omega) hs; rw [HNe.out] at hnn; have HN := Lib.hid hnn; have HX1 := Lib.hid (HX.out.kept hw2 (by simp; omega)); clear hw1 hw2 hnn)
    | (go_at_call 74; refine HN.out.mono ?_; rintro e w2 ⟨rfl, hx1, hx2⟩; have HY1 := Lib.hid hx1; have HY2 := Lib.hid hx2; have HX2 := Lib.hid (HX1.out.kept hx2 (by simp; omega)); obtain ⟨c0, c1, c2, c3, f0, f1, f2, f3⟩ := HX2.out.cells; clear hx1 hx2))
  have HZ := Lib.hid (HX2.out.set ⟨true, ⟨#[]⟩, N, (c.toNat : Int) / 4 + 1⟩)
  refine ret_box 2 w.heap.size rfl rfl rfl HZ.out ?_
  have hel : el c r = cpy r (c.toNat / 4 + 1) (low (r.take 4)) 4 := by unfold el; rw [if_neg (by omega), if_neg (by omega), if_neg (by omega)]
  rw [hel]
  refine el_fin HW2.out HY2.out HY1.out hb (adv_eq hsz _) (erd_eq hsz _) rfl ?_
  rw [← HL.out]
  simp only [cpy, Pt.mk.injEq, true_and]
  first | exact ⟨rfl, by omega⟩ | exact ⟨rfl, by omega, by omega⟩
set_option maxRecDepth 100000 in
set_option maxHeartbeats 1000000 in
theorem element_one (b : Nat) (s : ByteArray) (a : Nat) (c : UInt8) (r : List UInt8) (hc : s.data.toList.drop a = c :: r) (hm : c.toNat % 4 = 1) (w : World) (h : RdAt w b s a 0) (hs : s.size ≤ 140737488351232) :
    Calls Try.prog 56 #[.pointer (some ⟨b, 0, none⟩)] w (ElRet w b s (el c r).1 (a + 1 + (el c r).2.1) (el c r).2.2) := by
  have H := Lib.hid h
  clear h
  obtain ⟨hr, hsz⟩ := drop_succ hc
  have hcl := c.toNat_lt
  have hA : bits .and .i64 (c.toNat : Int) 3 = 1 := by
    rw [show (3 : Int) = ((3 : Nat) : Int) from rfl, i64_and_nat _ _ (by omega) (by omega), nat_mask2, hm]
    try rfl
  have hb := H.out.lt
  have HB := Lib.hid (byte_ok b s a _ (H.out.congr ((World.grownBy_alloc w (.cells #[.bool false, .string ⟨#[]⟩, .int .i64 0, .int .i64 0] 35) none).block b hb (by simp))) c r hc hs)
  have HX := Lib.hid (Box.new w pt0)
  have HL := Lib.hid (show lnum s (a + 1) 1 = low (r.take 1) by unfold lnum; rw [hr])
  have hN := lnum_lt s (a + 1) 1
  generalize hNe : lnum s (a + 1) 1 = N at *
  have HNe := Lib.hid hNe
  clear hNe
  have hA7 : bits .and .i64 ((c.toNat : Int) / 4) 7 = ((c.toNat / 4 % 8 : Nat) : Int) := by
    rw [show ((c.toNat : Int) / 4) = ((c.toNat / 4 : Nat) : Int) from by omega, show (7 : Int) = ((7 : Nat) : Int) from rfl, i64_and_nat _ _ (by omega) (by omega), nat_mask3]
  generalize hM : c.toNat / 4 % 8 = M at *
  have hO : bits .or .i64 ((c.toNat : Int) / 32 * 256) (N : Int) = ((c.toNat / 32 * 256 + N : Nat) : Int) := by
    rw [show ((c.toNat : Int) / 32 * 256) = ((c.toNat / 32 * 256 : Nat) : Int) from by omega, i64_or_nat _ _ (by omega) (by omega), nat_join 8 (c.toNat / 32 * 256) N (by omega) (by omega)]
  generalize hP : c.toNat / 32 * 256 + N = P at *
  have HC := Lib.hid hc
  clear hc
  go_enter Try.func56, Try.ntmps56
  go_wp2_with (first
    | (go_at_call 71; refine HB.out.mono ?_; rintro e w1 ⟨rfl, hw1, hw2⟩; have HW1 := Lib.hid hw1; have HW2 := Lib.hid hw2; have hnn := number_any b s (a + 1) 1 (by omega) w1 hw1 (by omega) hs; rw [HNe.out] at hnn; have HN := Lib.hid hnn; have HX1 := Lib.hid (HX.out.kept hw2 (by simp; omega)); clear hw1 hw2 hnn)
    | (go_at_call 74; refine HN.out.mono ?_; rintro e w2 ⟨rfl, hx1, hx2⟩; have HY1 := Lib.hid hx1; have HY2 := Lib.hid hx2; have HX2 := Lib.hid (HX1.out.kept hx2 (by simp; omega)); obtain ⟨c0, c1, c2, c3, f0, f1, f2, f3⟩ := HX2.out.cells; clear hx1 hx2))
  have HZ := Lib.hid (HX2.out.set ⟨true, ⟨#[]⟩, P, (M : Int) + 4⟩)
  refine ret_box 2 w.heap.size rfl rfl rfl HZ.out ?_
  have hel : el c r = cpy r (c.toNat / 4 % 8 + 4) (c.toNat / 32 * 256 + low (r.take 1)) 1 := by unfold el; rw [if_neg (by omega), if_pos (by omega)]
  rw [hel]
  refine el_fin HW2.out HY2.out HY1.out hb (adv_eq hsz _) (erd_eq hsz _) rfl ?_
  rw [← HL.out]
  simp only [cpy, Pt.mk.injEq, true_and]
  first | exact ⟨rfl, by omega⟩ | exact ⟨rfl, by omega, by omega⟩
end Go.Proofs.Ytnnogjojoeajnaa
