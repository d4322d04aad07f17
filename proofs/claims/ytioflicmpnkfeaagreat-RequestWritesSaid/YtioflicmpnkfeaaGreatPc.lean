/- The iterators of labels, of samples. -/
import Derived.Test.YtioflicmpnkfeaaGreatPa
import Derived.RangeFuncBound
import Derived.RangeFuncLeaves
import Derived.RangeFuncBox
import Derived.Shelf.Abstract
import Derived.Shelf.RegionOpen
import Derived.OwnWalkIn
import Derived.TacticsInMore
import Derived.LoopNIn
import Derived.LoopIn
namespace Go.Proofs.YtioflicmpnkfeaaGreat
open Go Go.RowKit Go.Shelf
attribute [local go_sem] Oper.semAt_some
set_option maxRecDepth 100000
/-- Values of one cell, read wherever they begin. -/
def VAt (W : World) (v : Value) (cs : List Value) : Prop :=
  (cs = [] ∧ ∃ a c, v = .slice a 0 c) ∨ ∃ g o c, v = .slice (some ⟨g, o, none⟩) cs.length c ∧ ∀ j (h : j < cs.length), W.cell? ⟨g, o + j, none⟩ = some cs[j]
theorem VAt.same {W W' : World} {v : Value} {l : List Value} (h : VAt W v l) (hb : ∀ g, g < W.heap.size → v.ownBlock = some g → W'.heap[g]? = W.heap[g]?) : VAt W' v l := by
  rcases h with h | ⟨g, o, c, rfl, h⟩
  · exact .inl h
  · refine .inr ⟨g, o, c, rfl, fun j hj => ?_⟩
    have hlt : g < W.heap.size := World.block_lt_of_cell? W ⟨g, _, none⟩ (h j hj)
    rw [World.cell?_of_block (a := ⟨g, o + j, none⟩) (hb g hlt rfl)]
    exact h j hj
theorem VAt.below {W W' : World} {v : Value} {l : List Value} (h : VAt W v l) {n : Nat} (hb : Below n W W') (hn : W.heap.size ≤ n) : VAt W' v l := h.same fun g hg _ => hb.block g (by omega)
theorem VAt.slice {W : World} {v : Value} {l : List Value} (h : VAt W v l) : ∃ a c, v = .slice a l.length c := by
  rcases h with ⟨rfl, a, c, rfl⟩ | ⟨g, o, c, rfl, _⟩
  · exact ⟨_, _, rfl⟩
  · exact ⟨_, _, rfl⟩
theorem vat_of {w : World} {base E n : Nat} {v : Value} {cs : List Value} (h : w.ownsRow base E 1 v n cs) : VAt w v cs := by
  have hl := h.1
  have hn : n = cs.length := by omega
  subst hn
  rcases h.2 with ⟨rfl, hn⟩ | ⟨g, cap, cur, rfl, _⟩
  · exact .inl ⟨List.eq_nil_of_length_eq_zero hn, _, _, rfl⟩
  · refine .inr ⟨g, 0, cap, rfl, fun j hj => ?_⟩
    rw [Nat.zero_add, h.cellAt j (by omega), List.getElem?_eq_getElem hj]
/-- The cells of texts. -/
def tcs (ts : List (List UInt8)) : List Value := ts.map fun t => .string (bs t)
def EnL (x : Lb × Nat) (us : Array Value) (_ : World) : Prop := us = #[.agg #[.string x.1.n, .string x.1.v], .int .i64 (x.2 : Int)]
def EnM (x : Sm × Nat) (us : Array Value) (_ : World) : Prop := us = #[.agg #[.int .i64 x.1.t, .int .u64 (x.1.b : Int)], .int .i64 (x.2 : Int)]
theorem partsL_any (v : Value) (hv : ∃ a n c, v = .slice a n c) (b0 : Nat) (w : World) :
    Calls Tryz.prog 63 #[v, .func (.func 77) #[] #[.pointer (some ⟨b0, 0, none⟩)]] w fun e w' => e = .returned (.func (.func 75) #[] #[.pointer (some ⟨w.heap.size, 0, none⟩), .pointer (some ⟨w.heap.size + 1, 0, none⟩)]) ∧ w' = (w.alloc (.cells #[v] 90)).alloc (.cells #[.func (.func 77) #[] #[.pointer (some ⟨b0, 0, none⟩)]] 118) := by
  obtain ⟨a, n, c, rfl⟩ := hv
  go_enter Tryz.func63, Tryz.ntmps63
  go_wp2
  go_ret
  exact ⟨rfl, rfl⟩
theorem partsM_any (v : Value) (hv : ∃ a n c, v = .slice a n c) (b0 : Nat) (w : World) :
    Calls Tryz.prog 67 #[v, .func (.func 81) #[] #[.pointer (some ⟨b0, 0, none⟩)]] w fun e w' => e = .returned (.func (.func 79) #[] #[.pointer (some ⟨w.heap.size, 0, none⟩), .pointer (some ⟨w.heap.size + 1, 0, none⟩)]) ∧ w' = (w.alloc (.cells #[v] 90)).alloc (.cells #[.func (.func 81) #[] #[.pointer (some ⟨b0, 0, none⟩)]] 126) := by
  obtain ⟨a, n, c, rfl⟩ := hv
  go_enter Tryz.func67, Tryz.ntmps67
  go_wp2
  go_ret
  exact ⟨rfl, rfl⟩
set_option maxHeartbeats 1000000 in
theorem partsL_gives (n : Nat) (hn : 1 ≤ n) (ts : List (List UInt8)) (hts : ∀ t ∈ ts, t.length ≤ 1000000) (hlen : ts.length ≤ 1000000) (b1 b2 b0 : Nat) (v : Value) (F0 : Bks) (W : World)
    (hx1 : Boxed W b1 90 v) (hx2 : Boxed W b2 118 (.func (.func 77) #[] #[.pointer (some ⟨b0, 0, none⟩)])) (hx0 : Boxed W b0 120 (.func (.func 65) #[] #[])) (hv : VAt W v (tcs ts))
    (hF : F0 b1 ∧ F0 b2 ∧ F0 b0 ∧ (ts ≠ [] → ∀ g, v.ownBlock = some g → F0 g)) :
    Gives n Tryz.prog 75 #[.pointer (some ⟨b1, 0, none⟩), .pointer (some ⟨b2, 0, none⟩)] EnL (tel rLb ts) F0 W := by
  intro l J Jx hJ hJx hY h0
  have HJ := Lib.hid hJ
  have HJx := Lib.hid hJx
  have HY := Lib.hid hY
  have H0 := Lib.hid h0
  have HV := Lib.hid hv
  have HTS := Lib.hid hts
  have HF := Lib.hid hF
  have HX1 := Lib.hid hx1
  have HX2 := Lib.hid hx2
  have HX0 := Lib.hid hx0
  have c1 := hx1.cell
  have c2 := hx2.cell
  obtain ⟨va, vc, hv2⟩ := hv.slice
  rw [show (tcs ts).length = ts.length by simp [tcs]] at hv2
  generalize hL : ts.length = L at *
  have HL := Lib.hid hL
  subst hv2
  clear hJ hJx hY h0 hv hts hF hx1 hx2 hx0 hL
  refine callsIn_of_wp Tryz.func75 rfl trivial ?_ rfl
  simp only [Tryz.ntmps75, List.size_toArray, List.length_cons, List.length_nil, Nat.reduceAdd, Nat.reduceSub, Array.replicate_succ, Array.replicate_zero, List.push_toArray, List.append_toArray, List.nil_append, List.cons_append]
  gi_wp2
  gi_loopw [10] (fun p wr => ∃ (k : Nat), p = .int .i64 (k : Int) ∧ k ≤ L ∧ Hid (W.heap.size ≤ wr.heap.size) ∧ Hid (Kept F0 W wr) ∧ Hid (J (tel rLb (ts.drop k)) F0 wr)) (fun p _ => L - (intOf p).toNat)
  case atStart => exact ⟨0, rfl, by omega, Lib.hid (Nat.le_refl _), Lib.hid (Kept.refl _ _), H0⟩
  case round =>
    obtain ⟨k, rfl, hk, HZ, HK, HI⟩ := hrel
    by_cases hlt : k < L
    · have hkl : k < ts.length := by have := HL.out; omega
      have X1 : Boxed wr b1 90 (.slice va L vc) := (HK.out.same _ HF.out.1 HX1.out.lt).trans HX1.out
      have X2 : Boxed wr b2 118 (.func (.func 77) #[] #[.pointer (some ⟨b0, 0, none⟩)]) := (HK.out.same _ HF.out.2.1 HX2.out.lt).trans HX2.out
      have X0 : Boxed wr b0 120 (.func (.func 65) #[] #[]) := (HK.out.same _ HF.out.2.2.1 HX0.out.lt).trans HX0.out
      rcases HV.out.same (fun g hg e => HK.out.same g (HF.out.2.2.2 (fun h0 => by rw [h0] at hkl; simp at hkl) g e) hg) with ⟨h0, _⟩ | ⟨g, o, c, hg, hcs⟩
      · have := HL.out
        unfold tcs at h0
        rw [List.map_eq_nil_iff] at h0
        rw [h0] at this; simp at this; omega
      have q0 := hcs k (by simpa [tcs] using hkl)
      rw [show (tcs ts)[k]'(by simpa [tcs] using hkl) = .string (bs ts[k]) by simp [tcs]] at q0
      clear hcs
      have hi := HI.out
      rw [List.drop_eq_getElem_cons hkl, tel] at hi
      have hT := HTS.out ts[k] (List.getElem_mem hkl)
      generalize ts[k] = T at *
      have P := partL_any (bs T) (by rw [bs_size]; exact hT) b0 wr X0
      rw [bs_data] at P
      have hc2 := X2.cell
      generalize rLb T = X at *
      obtain ⟨⟨x, y⟩, E⟩ := X
      dsimp only at P hi
      rw [show (tcs ts).length = L by simp [tcs]; exact HL.out] at hg
      cases hg
      have HP := Lib.hid P
      have HI2 := Lib.hid hi
      clear P hi hT X1 X2 X0 c1 c2
      gi_wp2_with fail
      refine ⟨trivial, (callsIn_wide.2 HP.out).mono ?_⟩
      rintro e w3 ⟨rfl, hb3⟩
      have HB3 := Lib.hid (hb3.alloc hb3.size (.cells #[.string x, .string y] 35))
      clear hb3
      by_cases hE : E = 0
      · subst hE
        have hi := HI2.out
        rw [if_neg (by simp)] at hi
        obtain ⟨fn, tmps, assign, body, hy, hR⟩ := HY.out (⟨x, y⟩, 0) _ #[.agg #[.string x, .string y], .int .i64 0] F0 _ (HJ.out _ _ F0 _ _ hi HB3.out (fun j h => .inl h)) rfl (Nat.le_trans HZ.out HB3.out.size)
        have HYR := Lib.hid hR
        clear hR hi
        gi_wp2
        refine HYR.out.mono ?_
        rintro e W3 (⟨rfl, hJ3, hk3⟩ | ⟨rfl, hJx3, hsz⟩)
        · have HJ3 := Lib.hid hJ3
          have HK3 := Lib.hid hk3
          clear hJ3 hk3
          gi_wp2
          go_roundw
          case rel => exact ⟨k + 1, by go_num, by omega, Lib.hid (Nat.le_trans (Nat.le_trans HZ.out HB3.out.size) HK3.out.size), Lib.hid ((HK.out.trans (Kept.below HB3.out)).trans HK3.out), HJ3⟩
          case measure => simp [intOf]; omega
        · have HJ3 := Lib.hid hJx3
          clear hJx3
          gi_wp2
          refine bodyPost_ret (results_none rfl _ _ _) rfl ?_
          exact ⟨⟨_, rfl⟩, .inr HJ3.out⟩
      · have hi := HI2.out
        rw [if_pos hE] at hi
        have hE2 : ((E : Int) != 0) = true := by rw [bne_iff_ne]; omega
        obtain ⟨fn, tmps, assign, body, hy, hR⟩ := HY.out (⟨x, y⟩, E) _ #[.agg #[.string x, .string y], .int .i64 (E : Int)] F0 _ (HJ.out _ _ F0 _ _ hi HB3.out (fun j h => .inl h)) rfl (Nat.le_trans HZ.out HB3.out.size)
        have HYR := Lib.hid hR
        clear hR hi hE
        gi_wp2
        refine HYR.out.mono ?_
        rintro e W3 (⟨rfl, hJ3, hk3⟩ | ⟨rfl, hJx3, hsz⟩)
        · have HJ3 := Lib.hid hJ3
          clear hJ3 hk3
          gi_wp2
          refine bodyPost_ret (results_none rfl _ _ _) rfl ?_
          exact ⟨⟨_, rfl⟩, .inl ⟨F0, HJ3.out⟩⟩
        · have HJ3 := Lib.hid hJx3
          clear hJx3
          gi_wp2
          refine bodyPost_ret (results_none rfl _ _ _) rfl ?_
          exact ⟨⟨_, rfl⟩, .inr HJ3.out⟩
    · obtain rfl : k = L := by omega
      gi_wp2
      go_end0
      refine ⟨⟨_, rfl⟩, .inl ⟨F0, ?_⟩⟩
      have := HI.out
      rw [List.drop_eq_nil_of_le (by have := HL.out; omega), tel] at this
      exact this
set_option maxHeartbeats 1000000 in
theorem partsM_gives (n : Nat) (hn : 1 ≤ n) (ts : List (List UInt8)) (hts : ∀ t ∈ ts, t.length ≤ 1000000) (hlen : ts.length ≤ 1000000) (b1 b2 b0 : Nat) (v : Value) (F0 : Bks) (W : World)
    (hx1 : Boxed W b1 90 v) (hx2 : Boxed W b2 126 (.func (.func 81) #[] #[.pointer (some ⟨b0, 0, none⟩)])) (hx0 : Boxed W b0 128 (.func (.func 69) #[] #[])) (hv : VAt W v (tcs ts))
    (hF : F0 b1 ∧ F0 b2 ∧ F0 b0 ∧ (ts ≠ [] → ∀ g, v.ownBlock = some g → F0 g)) :
    Gives n Tryz.prog 79 #[.pointer (some ⟨b1, 0, none⟩), .pointer (some ⟨b2, 0, none⟩)] EnM (tel rSm ts) F0 W := by
  intro l J Jx hJ hJx hY h0
  have HJ := Lib.hid hJ
  have HJx := Lib.hid hJx
  have HY := Lib.hid hY
  have H0 := Lib.hid h0
  have HV := Lib.hid hv
  have HTS := Lib.hid hts
  have HF := Lib.hid hF
  have HX1 := Lib.hid hx1
  have HX2 := Lib.hid hx2
  have HX0 := Lib.hid hx0
  have c1 := hx1.cell
  have c2 := hx2.cell
  obtain ⟨va, vc, hv2⟩ := hv.slice
  rw [show (tcs ts).length = ts.length by simp [tcs]] at hv2
  generalize hL : ts.length = L at *
  have HL := Lib.hid hL
  subst hv2
  clear hJ hJx hY h0 hv hts hF hx1 hx2 hx0 hL
  refine callsIn_of_wp Tryz.func79 rfl trivial ?_ rfl
  simp only [Tryz.ntmps79, List.size_toArray, List.length_cons, List.length_nil, Nat.reduceAdd, Nat.reduceSub, Array.replicate_succ, Array.replicate_zero, List.push_toArray, List.append_toArray, List.nil_append, List.cons_append]
  gi_wp2
  gi_loopw [10] (fun p wr => ∃ (k : Nat), p = .int .i64 (k : Int) ∧ k ≤ L ∧ Hid (W.heap.size ≤ wr.heap.size) ∧ Hid (Kept F0 W wr) ∧ Hid (J (tel rSm (ts.drop k)) F0 wr)) (fun p _ => L - (intOf p).toNat)
  case atStart => exact ⟨0, rfl, by omega, Lib.hid (Nat.le_refl _), Lib.hid (Kept.refl _ _), H0⟩
  case round =>
    obtain ⟨k, rfl, hk, HZ, HK, HI⟩ := hrel
    by_cases hlt : k < L
    · have hkl : k < ts.length := by have := HL.out; omega
      have X1 : Boxed wr b1 90 (.slice va L vc) := (HK.out.same _ HF.out.1 HX1.out.lt).trans HX1.out
      have X2 : Boxed wr b2 126 (.func (.func 81) #[] #[.pointer (some ⟨b0, 0, none⟩)]) := (HK.out.same _ HF.out.2.1 HX2.out.lt).trans HX2.out
      have X0 : Boxed wr b0 128 (.func (.func 69) #[] #[]) := (HK.out.same _ HF.out.2.2.1 HX0.out.lt).trans HX0.out
      rcases HV.out.same (fun g hg e => HK.out.same g (HF.out.2.2.2 (fun h0 => by rw [h0] at hkl; simp at hkl) g e) hg) with ⟨h0, _⟩ | ⟨g, o, c, hg, hcs⟩
      · have := HL.out
        unfold tcs at h0
        rw [List.map_eq_nil_iff] at h0
        rw [h0] at this; simp at this; omega
      have q0 := hcs k (by simpa [tcs] using hkl)
      rw [show (tcs ts)[k]'(by simpa [tcs] using hkl) = .string (bs ts[k]) by simp [tcs]] at q0
      clear hcs
      have hi := HI.out
      rw [List.drop_eq_getElem_cons hkl, tel] at hi
      have hT := HTS.out ts[k] (List.getElem_mem hkl)
      generalize ts[k] = T at *
      have P := partM_any (bs T) (by rw [bs_size]; exact hT) b0 wr X0
      rw [bs_data] at P
      have hc2 := X2.cell
      generalize rSm T = X at *
      obtain ⟨⟨x, y⟩, E⟩ := X
      dsimp only at P hi
      rw [show (tcs ts).length = L by simp [tcs]; exact HL.out] at hg
      cases hg
      have HP := Lib.hid P
      have HI2 := Lib.hid hi
      clear P hi hT X1 X2 X0 c1 c2
      gi_wp2_with fail
      refine ⟨trivial, (callsIn_wide.2 HP.out).mono ?_⟩
      rintro e w3 ⟨rfl, hb3⟩
      have HB3 := Lib.hid (hb3.alloc hb3.size (.cells #[.int .i64 x, .int .u64 (y : Int)] 54))
      clear hb3
      by_cases hE : E = 0
      · subst hE
        have hi := HI2.out
        rw [if_neg (by simp)] at hi
        obtain ⟨fn, tmps, assign, body, hy, hR⟩ := HY.out (⟨x, y⟩, 0) _ #[.agg #[.int .i64 x, .int .u64 (y : Int)], .int .i64 0] F0 _ (HJ.out _ _ F0 _ _ hi HB3.out (fun j h => .inl h)) rfl (Nat.le_trans HZ.out HB3.out.size)
        have HYR := Lib.hid hR
        clear hR hi
        gi_wp2
        refine HYR.out.mono ?_
        rintro e W3 (⟨rfl, hJ3, hk3⟩ | ⟨rfl, hJx3, hsz⟩)
        · have HJ3 := Lib.hid hJ3
          have HK3 := Lib.hid hk3
          clear hJ3 hk3
          gi_wp2
          go_roundw
          case rel => exact ⟨k + 1, by go_num, by omega, Lib.hid (Nat.le_trans (Nat.le_trans HZ.out HB3.out.size) HK3.out.size), Lib.hid ((HK.out.trans (Kept.below HB3.out)).trans HK3.out), HJ3⟩
          case measure => simp [intOf]; omega
        · have HJ3 := Lib.hid hJx3
          clear hJx3
          gi_wp2
          refine bodyPost_ret (results_none rfl _ _ _) rfl ?_
          exact ⟨⟨_, rfl⟩, .inr HJ3.out⟩
      · have hi := HI2.out
        rw [if_pos hE] at hi
        have hE2 : ((E : Int) != 0) = true := by rw [bne_iff_ne]; omega
        obtain ⟨fn, tmps, assign, body, hy, hR⟩ := HY.out (⟨x, y⟩, E) _ #[.agg #[.int .i64 x, .int .u64 (y : Int)], .int .i64 (E : Int)] F0 _ (HJ.out _ _ F0 _ _ hi HB3.out (fun j h => .inl h)) rfl (Nat.le_trans HZ.out HB3.out.size)
        have HYR := Lib.hid hR
        clear hR hi hE
        gi_wp2
        refine HYR.out.mono ?_
        rintro e W3 (⟨rfl, hJ3, hk3⟩ | ⟨rfl, hJx3, hsz⟩)
        · have HJ3 := Lib.hid hJ3
          clear hJ3 hk3
          gi_wp2
          refine bodyPost_ret (results_none rfl _ _ _) rfl ?_
          exact ⟨⟨_, rfl⟩, .inl ⟨F0, HJ3.out⟩⟩
        · have HJ3 := Lib.hid hJx3
          clear hJx3
          gi_wp2
          refine bodyPost_ret (results_none rfl _ _ _) rfl ?_
          exact ⟨⟨_, rfl⟩, .inr HJ3.out⟩
    · obtain rfl : k = L := by omega
      gi_wp2
      go_end0
      refine ⟨⟨_, rfl⟩, .inl ⟨F0, ?_⟩⟩
      have := HI.out
      rw [List.drop_eq_nil_of_le (by have := HL.out; omega), tel] at this
      exact this
end Go.Proofs.YtioflicmpnkfeaaGreat
