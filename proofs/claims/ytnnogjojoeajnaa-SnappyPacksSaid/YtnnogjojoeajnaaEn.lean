/- The contract of element, literals; and all of it. -/
import Derived.Test.YtnnogjojoeajnaaEm
namespace Go.Proofs.Ytnnogjojoeajnaa
open Go.RowKit
theorem extract_bs (s : ByteArray) (i j : Nat) : s.extract i j = bs ((s.data.toList.drop i).take (j - i)) := by
  rw [← extract_list]; rfl
/-- What Raw tells behind a good reader. -/
theorem raw_any (b : Nat) (s : ByteArray) (a n : Nat) (w : World) (h : RdAt w b s a 0) (ha : a ≤ s.size) (hs : s.size ≤ 140737488351232) :
    Calls Try.prog 72 #[.pointer (some ⟨b, 0, none⟩), .int .i64 n] w (RdRet w b s (.string (if a + n ≤ s.size then bs ((s.data.toList.drop a).take n) else bs [])) (if a + n ≤ s.size then ((a + n : Nat) : Int) else (a : Int)) (if a + n ≤ s.size then 0 else 8)) := by
  by_cases h1 : a + n ≤ s.size
  · rw [if_pos h1, if_pos h1, if_pos h1]
    have := mraw_ok b s a n _ _ w h (raw_ok s a n h1 hs)
    rw [extract_bs, Nat.add_sub_cancel_left] at this
    exact this
  · rw [if_neg h1, if_neg h1, if_neg h1]
    exact mraw_no b s a n 8 w h rfl (raw_short s a n (by omega) ha (by omega) hs)
theorem lit_fst {s : ByteArray} {a : Nat} {r : List UInt8} (hr : s.data.toList.drop (a + 1) = r) (hsz : a + 1 + r.length = s.size) (K n : Nat) :
    (lit r K n).1 = ⟨false, if a + 1 + K + n ≤ s.size then bs ((s.data.toList.drop (a + 1 + K)).take n) else bs [], 0, 0⟩ ∧
    ((a + 1 + (lit r K n).2.1 : Nat) : Int) = (if a + 1 + K + n ≤ s.size then ((a + 1 + K + n : Nat) : Int) else ((a + 1 + K : Nat) : Int)) ∧ (if (lit r K n).2.2 then (0 : Int) else 8) = (if a + 1 + K + n ≤ s.size then 0 else 8) := by
  have e : r.drop K = s.data.toList.drop (a + 1 + K) := by rw [← hr, List.drop_drop]
  unfold lit
  rw [e]
  by_cases h : K + n ≤ r.length
  · have h2 : a + 1 + K + n ≤ s.size := by omega
    simp only [if_pos h, if_pos h2]
    exact ⟨trivial, by omega, rfl⟩
  · have h2 : ¬ a + 1 + K + n ≤ s.size := by omega
    simp only [if_neg h, if_neg h2]
    exact ⟨trivial, trivial, rfl⟩
set_option maxRecDepth 100000 in
set_option maxHeartbeats 1000000 in
theorem element_small (b : Nat) (s : ByteArray) (a : Nat) (c : UInt8) (r : List UInt8) (hc : s.data.toList.drop a = c :: r) (hm : c.toNat % 4 = 0) (h60 : c.toNat / 4 < 60) (w : World) (h : RdAt w b s a 0) (hs : s.size ≤ 140737488351232) :
    Calls Try.prog 56 #[.pointer (some ⟨b, 0, none⟩)] w (ElRet w b s (el c r).1 (a + 1 + (el c r).2.1) (el c r).2.2) := by
  have H := Lib.hid h
  clear h
  obtain ⟨hr, hsz⟩ := drop_succ hc
  have hcl := c.toNat_lt
  have hA : bits .and .i64 (c.toNat : Int) 3 = 0 := by
    rw [show (3 : Int) = ((3 : Nat) : Int) from rfl, i64_and_nat _ _ (by omega) (by omega), nat_mask2, hm]
    try rfl
  have hb := H.out.lt
  have HB := Lib.hid (byte_ok b s a _ (H.out.congr ((World.grownBy_alloc w (.cells #[.bool false, .string ⟨#[]⟩, .int .i64 0, .int .i64 0] 35) none).block b hb (by simp))) c r hc hs)
  have HX := Lib.hid (Box.new w pt0)
  obtain ⟨hl1, hl2, hl3⟩ := lit_fst hr hsz 0 (c.toNat / 4 + 1)
  have HL1 := Lib.hid hl1; have HL2 := Lib.hid hl2; have HL3 := Lib.hid hl3
  have HLL := Lib.hid (fun W => llen_small b (c.toNat / 4) h60 W)
  have HRR := Lib.hid (fun W => raw_any b s (a + 1) (c.toNat / 4 + 1) W)
  have hel : el c r = lit r 0 (c.toNat / 4 + 1) := by unfold el; rw [if_pos hm, if_pos h60]
  have HE := Lib.hid hel
  have HC := Lib.hid hc
  clear hc hl1 hl2 hl3 hel
  have hq : (c.toNat : Int) / 4 = ((c.toNat / 4 : Nat) : Int) := by omega
  generalize hM : c.toNat / 4 = M at *
  generalize (if a + 1 + 0 + (M + 1) ≤ s.size then bs ((s.data.toList.drop (a + 1 + 0)).take (M + 1)) else bs []) = T at *
  generalize (if a + 1 + 0 + (M + 1) ≤ s.size then ((a + 1 + 0 + (M + 1) : Nat) : Int) else ((a + 1 + 0 : Nat) : Int)) = A at *
  generalize (if a + 1 + 0 + (M + 1) ≤ s.size then (0 : Int) else 8) = E at *
  go_enter Try.func56, Try.ntmps56
  go_wp2_with (first
    | (go_at_call 71; refine HB.out.mono ?_; rintro e w1 ⟨rfl, hw1, hw2⟩; have HW1 := Lib.hid hw1; have HW2 := Lib.hid hw2; have HX1 := Lib.hid (HX.out.kept hw2 (by simp; omega)); clear hw1 hw2)
    | (go_at_call 73; refine (HLL.out _).mono ?_; rintro e w1 ⟨rfl, rfl⟩)
    | (go_at_call 72; refine (HRR.out _ HW1.out (by omega) hs).mono ?_; rintro e w2 ⟨rfl, hx1, hx2⟩; have HY1 := Lib.hid hx1; have HY2 := Lib.hid hx2; have HX2 := Lib.hid (HX1.out.kept hx2 (by simp; omega)); obtain ⟨c0, c1, c2, c3, f0, f1, f2, f3⟩ := HX2.out.cells; clear hx1 hx2))
  have HZ := Lib.hid (HX2.out.set ⟨false, T, 0, 0⟩)
  refine ret_box 2 w.heap.size rfl rfl rfl HZ.out ?_
  rw [HE.out]
  exact el_fin HW2.out HY2.out HY1.out hb HL2.out.symm HL3.out.symm rfl HL1.out.symm
set_option maxRecDepth 100000 in
set_option maxHeartbeats 1000000 in
theorem element_big (b : Nat) (s : ByteArray) (a : Nat) (c : UInt8) (r : List UInt8) (hc : s.data.toList.drop a = c :: r) (hm : c.toNat % 4 = 0) (K : Nat) (hK : c.toNat / 4 = K + 59) (hK1 : 1 ≤ K) (hk : K ≤ r.length) (w : World) (h : RdAt w b s a 0) (hs : s.size ≤ 140737488351232) :
    Calls Try.prog 56 #[.pointer (some ⟨b, 0, none⟩)] w (ElRet w b s (el c r).1 (a + 1 + (el c r).2.1) (el c r).2.2) := by
  have H := Lib.hid h
  clear h
  obtain ⟨hr, hsz⟩ := drop_succ hc
  have hcl := c.toNat_lt
  have hA : bits .and .i64 (c.toNat : Int) 3 = 0 := by
    rw [show (3 : Int) = ((3 : Nat) : Int) from rfl, i64_and_nat _ _ (by omega) (by omega), nat_mask2, hm]
    try rfl
  have hb := H.out.lt
  have HB := Lib.hid (byte_ok b s a _ (H.out.congr ((World.grownBy_alloc w (.cells #[.bool false, .string ⟨#[]⟩, .int .i64 0, .int .i64 0] 35) none).block b hb (by simp))) c r hc hs)
  have HX := Lib.hid (Box.new w pt0)
  have hNl : lnum s (a + 1) K = low (r.take K) := by unfold lnum; rw [hr]
  obtain ⟨hl1, hl2, hl3⟩ := lit_fst hr hsz K (lnum s (a + 1) K + 1)
  have hel : el c r = lit r K (lnum s (a + 1) K + 1) := by unfold el; rw [if_pos hm, if_neg (by omega), if_pos (by omega), hNl, show c.toNat / 4 - 59 = K from by omega]
  have hN := lnum_lt s (a + 1) K
  have hp := pow256 (i := K) (by omega)
  have g1 : (60 : Int) ≤ ((c.toNat / 4 : Nat) : Int) := by omega
  have g2 : ((c.toNat / 4 : Nat) : Int) ≤ 63 := by omega
  have g3 : ((c.toNat / 4 : Nat) : Int) - 60 + 1 = (K : Int) := by omega
  have g4 : a + 1 ≤ s.size := by omega
  have HLL : Hid (∀ W, RdAt W b s ((a + 1 : Nat) : Int) 0 → Calls Try.prog 73 #[.pointer (some ⟨b, 0, none⟩), .int .i64 ((c.toNat / 4 : Nat) : Int)] W (RdRet W b s (.int .i64 ((lnum s (a + 1) K + 1 : Nat) : Int)) (adv s (a + 1) K) (erd s (a + 1) K))) := Lib.hid (fun W hW => llen_big b s (a + 1) K _ g1 g2 g3 W hW g4 hs)
  have HRR := Lib.hid (fun W => raw_any b s (a + 1 + K) (lnum s (a + 1) K + 1) W)
  have HE := Lib.hid hel
  have HL1 := Lib.hid hl1; have HL2 := Lib.hid hl2; have HL3 := Lib.hid hl3
  have HC := Lib.hid hc
  clear hc hl1 hl2 hl3 hel hNl
  generalize lnum s (a + 1) K = N at *
  have hNb : N < 4294967296 := by omega
  clear hN hp
  have HAV : Hid (adv s (a + 1) K = ((a + 1 + K : Nat) : Int) ∧ erd s (a + 1) K = 0) := Lib.hid ⟨by rw [adv, if_pos (by omega)], by rw [erd, if_pos (by omega)]⟩
  have hq : (c.toNat : Int) / 4 = ((c.toNat / 4 : Nat) : Int) := by omega
  generalize hM : c.toNat / 4 = M at *
  have HKK := Lib.hid hK
  have G3 := Lib.hid g3
  clear hK g3
  generalize (if a + 1 + K + (N + 1) ≤ s.size then bs ((s.data.toList.drop (a + 1 + K)).take (N + 1)) else bs []) = T at *
  generalize (if a + 1 + K + (N + 1) ≤ s.size then ((a + 1 + K + (N + 1) : Nat) : Int) else ((a + 1 + K : Nat) : Int)) = A at *
  generalize (if a + 1 + K + (N + 1) ≤ s.size then (0 : Int) else 8) = E at *
  go_enter Try.func56, Try.ntmps56
  go_wp2_with (first
    | (go_at_call 71; refine HB.out.mono ?_; rintro e w1 ⟨rfl, hw1, hw2⟩; have HW1 := Lib.hid hw1; have HW2 := Lib.hid hw2; have HX1 := Lib.hid (HX.out.kept hw2 (by simp; omega)); clear hw1 hw2)
    | (go_at_call 73; refine (HLL.out _ HW1.out).mono ?_; rintro e w2 ⟨rfl, hx1, hx2⟩; have HY1 := Lib.hid (hx1.cast HAV.out.1 HAV.out.2); have HY2 := Lib.hid (gtrans HW2.out hx2); have HX2 := Lib.hid (HX1.out.kept hx2 (by simp; omega)); clear hx1 hx2)
    | (go_at_call 72; refine (HRR.out _ HY1.out (by omega) hs).mono ?_; rintro e w3 ⟨rfl, hx1, hx2⟩; have HZ1 := Lib.hid hx1; have HZ2 := Lib.hid hx2; have HX3 := Lib.hid (HX2.out.kept hx2 (by simp; omega)); obtain ⟨c0, c1, c2, c3, f0, f1, f2, f3⟩ := HX3.out.cells; clear hx1 hx2))
  have HZ := Lib.hid (HX3.out.set ⟨false, T, 0, 0⟩)
  refine ret_box 2 w.heap.size rfl rfl rfl HZ.out ?_
  rw [HE.out]
  exact el_fin HY2.out HZ2.out HZ1.out hb HL2.out.symm HL3.out.symm rfl HL1.out.symm
set_option maxRecDepth 100000 in
set_option maxHeartbeats 1000000 in
theorem element_none (b : Nat) (s : ByteArray) (a : Nat) (c : UInt8) (r : List UInt8) (hc : s.data.toList.drop a = c :: r) (hm : c.toNat % 4 = 0) (K : Nat) (hK : c.toNat / 4 = K + 59) (hK1 : 1 ≤ K) (hk : r.length < K) (w : World) (h : RdAt w b s a 0) (hs : s.size ≤ 140737488351232) :
    Calls Try.prog 56 #[.pointer (some ⟨b, 0, none⟩)] w (ElRet w b s (el c r).1 (a + 1 + (el c r).2.1) (el c r).2.2) := by
  have H := Lib.hid h
  clear h
  obtain ⟨hr, hsz⟩ := drop_succ hc
  have hcl := c.toNat_lt
  have hA : bits .and .i64 (c.toNat : Int) 3 = 0 := by
    rw [show (3 : Int) = ((3 : Nat) : Int) from rfl, i64_and_nat _ _ (by omega) (by omega), nat_mask2, hm]
    try rfl
  have hb := H.out.lt
  have HB := Lib.hid (byte_ok b s a _ (H.out.congr ((World.grownBy_alloc w (.cells #[.bool false, .string ⟨#[]⟩, .int .i64 0, .int .i64 0] 35) none).block b hb (by simp))) c r hc hs)
  have HX := Lib.hid (Box.new w pt0)
  have hel : el c r = (⟨false, bs [], 0, 0⟩, r.length, false) := by unfold el; rw [if_pos hm, if_neg (by omega), if_neg (by omega)]
  have hN := lnum_lt s (a + 1) K
  have hp := pow256 (i := K) (by omega)
  have g1 : (60 : Int) ≤ ((c.toNat / 4 : Nat) : Int) := by omega
  have g2 : ((c.toNat / 4 : Nat) : Int) ≤ 63 := by omega
  have g3 : ((c.toNat / 4 : Nat) : Int) - 60 + 1 = (K : Int) := by omega
  have g4 : a + 1 ≤ s.size := by omega
  have HLL : Hid (∀ W, RdAt W b s ((a + 1 : Nat) : Int) 0 → Calls Try.prog 73 #[.pointer (some ⟨b, 0, none⟩), .int .i64 ((c.toNat / 4 : Nat) : Int)] W (RdRet W b s (.int .i64 ((lnum s (a + 1) K + 1 : Nat) : Int)) (adv s (a + 1) K) (erd s (a + 1) K))) := Lib.hid (fun W hW => llen_big b s (a + 1) K _ g1 g2 g3 W hW g4 hs)
  have HE := Lib.hid hel
  have HC := Lib.hid hc
  clear hc hel
  generalize lnum s (a + 1) K = N at *
  have hNb : N < 4294967296 := by omega
  clear hN hp
  have HAV : Hid (adv s (a + 1) K = ((s.size : Nat) : Int) ∧ erd s (a + 1) K = 8) := Lib.hid ⟨by rw [adv, if_neg (by omega)], by rw [erd, if_neg (by omega)]⟩
  have hq : (c.toNat : Int) / 4 = ((c.toNat / 4 : Nat) : Int) := by omega
  generalize hM : c.toNat / 4 = M at *
  have HKK := Lib.hid hK
  have G3 := Lib.hid g3
  clear hK g3
  have HRR := Lib.hid (fun W (hW : RdAt W b s s.size 8) => mraw_err b s s.size 8 ((N : Int) + 1) W hW rfl)
  go_enter Try.func56, Try.ntmps56
  go_wp2_with (first
    | (go_at_call 71; refine HB.out.mono ?_; rintro e w1 ⟨rfl, hw1, hw2⟩; have HW1 := Lib.hid hw1; have HW2 := Lib.hid hw2; have HX1 := Lib.hid (HX.out.kept hw2 (by simp; omega)); clear hw1 hw2)
    | (go_at_call 73; refine (HLL.out _ HW1.out).mono ?_; rintro e w2 ⟨rfl, hx1, hx2⟩; have HY1 := Lib.hid (hx1.cast HAV.out.1 HAV.out.2); have HY2 := Lib.hid (gtrans HW2.out hx2); have HX2 := Lib.hid (HX1.out.kept hx2 (by simp; omega)); clear hx1 hx2)
    | (go_at_call 72; refine (HRR.out _ HY1.out).mono ?_; rintro e w3 ⟨rfl, hx1, hx2⟩; have HZ1 := Lib.hid hx1; have HZ2 := Lib.hid hx2; have HX3 := Lib.hid (HX2.out.kept hx2 (by simp; omega)); obtain ⟨c0, c1, c2, c3, f0, f1, f2, f3⟩ := HX3.out.cells; clear hx1 hx2))
  have HZ := Lib.hid (HX3.out.set ⟨false, ⟨#[]⟩, 0, 0⟩)
  refine ret_box 2 w.heap.size rfl rfl rfl HZ.out ?_
  rw [HE.out]
  exact el_fin HY2.out HZ2.out HZ1.out hb (by rw [← hsz]) rfl rfl rfl
theorem element_any (b : Nat) (s : ByteArray) (a : Nat) (c : UInt8) (r : List UInt8) (hc : s.data.toList.drop a = c :: r) (w : World) (h : RdAt w b s a 0) (hs : s.size ≤ 140737488351232) :
    Calls Try.prog 56 #[.pointer (some ⟨b, 0, none⟩)] w (ElRet w b s (el c r).1 (a + 1 + (el c r).2.1) (el c r).2.2) := by
  have hcl := c.toNat_lt
  have : c.toNat % 4 = 0 ∨ c.toNat % 4 = 1 ∨ c.toNat % 4 = 2 ∨ c.toNat % 4 = 3 := by omega
  rcases this with hm | hm | hm | hm
  · by_cases h60 : c.toNat / 4 < 60
    · exact element_small b s a c r hc hm h60 w h hs
    · by_cases hk : c.toNat / 4 - 59 ≤ r.length
      · exact element_big b s a c r hc hm (c.toNat / 4 - 59) (by omega) (by omega) hk w h hs
      · exact element_none b s a c r hc hm (c.toNat / 4 - 59) (by omega) (by omega) (by omega) w h hs
  · exact element_one b s a c r hc hm w h hs
  · exact element_two b s a c r hc hm w h hs
  · exact element_three b s a c r hc hm w h hs
end Go.Proofs.Ytnnogjojoeajnaa
