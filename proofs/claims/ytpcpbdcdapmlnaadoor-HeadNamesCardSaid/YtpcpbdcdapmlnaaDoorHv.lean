/- awake. -/
import Derived.Test.YtpcpbdcdapmlnaaDoorHt
namespace Go.Proofs.YtpcpbdcdapmlnaaDoor
open Go Go.RowKit
set_option maxRecDepth 100000
/-- How it lies in the example: the log, the head, of generation n. -/
structure Ax (w W : World) (n : Int) : Prop where
  S : W.heap[w.heap.size]? = some (.cells #[.int .i64 2] 3 (0, 0))
  X : Box4 W (w.heap.size + 1) (.int .i64 n) (.int .i64 0) (.int .i64 0) (.slice (some ⟨w.heap.size, 0, none⟩) 1 1)
  B : Below w.heap.size w W
theorem Ax.kat {w W : World} {n : Int} (h : Ax w W n) : KAt W (.slice (some ⟨w.heap.size, 0, none⟩) 1 1) [2] :=
  .inr ⟨w.heap.size, 0, 1, rfl, Nat.le_refl _, fun j hj => by
    obtain rfl : j = 0 := by simpa using hj
    simp [World.cell?, h.S]⟩
theorem Ax.grown {w W W' : World} {n : Int} (h : Ax w W n) {r : Option Nat} (hg : W.grownBy W' r) (hr : ∀ k, r = some k → w.heap.size + 2 ≤ k) : Ax w W' n :=
  ⟨(hg.block _ (Array.getElem?_eq_some_iff.1 h.S).1 (fun e => by have := hr _ e.symm; omega)).trans h.S, h.X.kept hg (fun e => by have := hr _ e.symm; omega), h.B.grown hg h.B.size (fun k hk => by have := hr k hk; omega)⟩
theorem Ax.belowAll {w W W' : World} {n : Int} (h : Ax w W n) (hb : Below W.heap.size W W') : Ax w W' n := h.grown (r := none) (grown_below hb none) (fun k hk => by cases hk)
theorem Ax.gen {w W : World} {n m : Int} (h : Ax w W n) : Ax w (W.setCell ⟨w.heap.size + 1, 0, none⟩ (.int .i64 m)) m :=
  ⟨(Below.heap_setCell _ _ _ _ (by simp)).trans h.S, h.X.set0 _, below_setD h.B (by omega) _ _⟩
theorem enc_1 : encR (hA 1) = (⟨#[1, 0, 0, 1, 2]⟩, 0) := by unfold encR; rw [may_A 1 (by omega) (by omega), if_pos rfl, show hA 1 = hA ((1 : Nat) : Int) from rfl, enc_A 1 (by omega)]; rfl
theorem siz_1 : sizR (hA 1) = 14 := by unfold sizR; rw [may_A 1 (by omega) (by omega), if_pos rfl, show hA 1 = hA ((1 : Nat) : Int) from rfl, enc_A 1 (by omega)]; rfl
def lg1 (w : World) : Value := .slice (some ⟨w.heap.size, 0, none⟩) 1 1
theorem hval_A (n : Int) (v : Value) : hval (hA n) v = .agg #[.int .i64 n, .int .i64 0, .int .i64 0, v] := rfl
theorem ok_1 (h : D0.ok) : D1.ok := by have := putR_ok h (hA 1); rw [st_1.1] at this; exact this
theorem ok_2 (h : D0.ok) : D2.ok := by have := putR_ok (ok_1 h) (hA 2); rw [st_2.1] at this; exact this
theorem ok_3 (h : D0.ok) : D3.ok := by have := putR_ok (ok_2 h) (hA 3); rw [st_3.1] at this; exact this
theorem ok_4 (h : D0.ok) : D4.ok := failD_ok (ok_3 h) 2 (by omega)
theorem ok_5 (h : D0.ok) : D5.ok := putR_ok (ok_4 h) _
theorem put_A (w : World) (hT : Hid (Tab w)) (n : Int) (d d' : Dk) (r : Nat) (hd : d.ok) (hp : putR d (hA n) = (d', r)) (W : World) (h : Ax w W n) (B : Nat) (hB : DAt W B d) : Calls Tryd.prog 14 #[.pointer (some ⟨B, 0, none⟩), .agg #[.int .i64 n, .int .i64 0, .int .i64 0, .slice (some ⟨w.heap.size, 0, none⟩) 1 1]] W (DRet W B (.int .i64 (r : Int)) d') := by
  have := put_any B d (hA n) (.slice (some ⟨w.heap.size, 0, none⟩) 1 1) W hB hd h.kat (by show (1 : Nat) ≤ _; omega) (Lib.hid (hT.out.below h.B))
  rw [hp] at this
  exact this
theorem on_A (w : World) (hT : Hid (Tab w)) (n : Int) (t : Nat) (d : Dk) (hd : d.ok) (hl : ldR d = (hA n, t, true, 0)) (W : World) (hb : Below w.heap.size w W) (B : Nat) (hB : DAt W B d) : Calls Tryd.prog 37 #[.pointer (some ⟨B, 0, none⟩), .int .i64 n, .int .i64 (t : Int)] W (Ret W (.bool true)) := by
  have := load_any' B d W hB hd (Lib.hid (hT.out.below hb))
  rw [hl] at this
  exact on_yes _ (hA n) t W this
theorem Ax.disk {w W W' : World} {n : Int} (h : Ax w W n) {B : Nat} (hg : W.grownBy W' (some B)) (hB : w.heap.size + 2 ≤ B) : Ax w W' n := h.grown hg (fun k hk => by cases hk; exact hB)
set_option maxHeartbeats 4000000 in
theorem awake_any (w : World) (hT : Hid (Tab w)) : Calls Tryd.prog 9 #[] w (Ret w (.bool true)) := by
  have C1 := Lib.hid (fun W (h : Ax w W 1) => encode_any (hA 1) (.slice (some ⟨w.heap.size, 0, none⟩) 1 1) W h.kat (by decide))
  rw [enc_1, hval_A] at C1
  have C2 := Lib.hid (fun W => dnew_any 100 (by omega) W)
  have C3 := Lib.hid (fun W (h : Ax w W 1) => hsize_any (hA 1) (.slice (some ⟨w.heap.size, 0, none⟩) 1 1) W h.kat (by decide) (Lib.hid (hT.out.below h.B)))
  rw [siz_1, hval_A] at C3
  have A0 : Hid (Ax w ((w.alloc (.cells #[.int .i64 2] 3)).alloc (.cells #[.int .i64 1, .int .i64 0, .int .i64 0, .slice (some ⟨w.heap.size, 0, none⟩) 1 1] 26)) 1) := by
    refine Lib.hid ⟨(Below.heap_alloc _ _ _ (by simp)).trans (heap_alloc_new _ _), ?_, below_two _ _ _⟩
    have := Box4.new (w.alloc (.cells #[.int .i64 2] 3)) (.int .i64 1) (.int .i64 0) (.int .i64 0) (.slice (some ⟨w.heap.size, 0, none⟩) 1 1)
    rw [World.size_alloc] at this; exact this
  go_enter Tryd.func9, Tryd.ntmps9
  go_wp2_with fail
  refine (C1.out _ A0.out).mono ?_
  rintro e w1 ⟨rfl, hb⟩
  have A1 := Lib.hid (A0.out.belowAll hb)
  have hz1 : Hid (w.heap.size + 2 ≤ w1.heap.size) := Lib.hid (by have := hb.size; simp at this; omega)
  clear hb A0
  go_wp2_with fail
  refine (C2.out _).mono ?_
  rintro e w2 ⟨B, hB, rfl, hd, hok, hb⟩
  have A2 := Lib.hid (A1.out.belowAll hb)
  have D := Lib.hid hd
  have OK : Hid D0.ok := Lib.hid hok
  have hBz : w.heap.size + 2 ≤ B := Nat.le_trans hz1.out hB
  clear hb hd hok hB A1
  have x0 := A2.out.X.c0; have x1 := A2.out.X.c1; have x2 := A2.out.X.c2; have x3 := A2.out.X.c3
  go_wp2_with fail
  refine (C3.out _ A2.out).mono ?_
  rintro e w3 ⟨rfl, hb⟩
  have A3 := Lib.hid (A2.out.belowAll hb)
  have D3' : Hid (DAt w3 B D0) := Lib.hid (D.out.below hb D.out.lt)
  clear hb x0 x1 x2 x3 A2 D
  have C4 : Hid (∀ W, Below w.heap.size w W → ∀ B, DAt W B D0 → Calls Tryd.prog 17 #[.pointer (some ⟨B, 0, none⟩)] W (LdRet W he0 0 false 0)) := Lib.hid (fun W hb B hB => load_any' B D0 W hB OK.out (Lib.hid (hT.out.below hb)))
  have P1 := Lib.hid (put_A w hT 1 D0 D1 0 OK.out st_1.1)
  have P2 := Lib.hid (put_A w hT 2 D1 D2 0 (ok_1 OK.out) st_2.1)
  have P3 := Lib.hid (put_A w hT 3 D2 D3 0 (ok_2 OK.out) st_3.1)
  have P4 := Lib.hid (put_A w hT 4 D4 D5 45 (ok_4 OK.out) (by unfold D5; rw [← st_5.1]))
  have O1 := Lib.hid (on_A w hT 1 0 D1 (ok_1 OK.out) st_1.2.ld)
  have O2 := Lib.hid (on_A w hT 2 1 D2 (ok_2 OK.out) st_2.2.ld)
  have O3 := Lib.hid (on_A w hT 3 0 D3 (ok_3 OK.out) st_3.2.ld)
  have O4 := Lib.hid (on_A w hT 3 0 D6 (backD_ok (ok_5 OK.out) [13]) st_5.2)
  go_wp2_with fail
  refine (C4.out _ A3.out.B B D3'.out).mono ?_
  rintro e w4 ⟨v, rfl, ho, hb⟩
  obtain ⟨va, vc, hv⟩ := ho.shape
  rw [List.length_map] at hv
  subst hv
  have A4 := Lib.hid ((A3.out.belowAll hb).belowAll (below_one w4 (.cells #[.int .i64 0, .int .i64 0, .int .i64 0, .slice va 0 vc] 26)))
  have D4' := Lib.hid ((D3'.out.below hb D3'.out.lt).alloc (.cells #[.int .i64 0, .int .i64 0, .int .i64 0, .slice va 0 vc] 26))
  have HV : Hid (hval he0 (.slice va he0.log.length vc) = .agg #[.int .i64 0, .int .i64 0, .int .i64 0, .slice va 0 vc]) := Lib.hid rfl
  rw [HV.out]
  clear ho hb A3 D3'
  have x0 := A4.out.X.c0; have x1 := A4.out.X.c1; have x2 := A4.out.X.c2; have x3 := A4.out.X.c3
  go_wp2_with fail
  refine (P1.out _ A4.out B D4'.out).mono ?_
  rintro e w5 ⟨rfl, hd, hg⟩
  have A5 := Lib.hid (A4.out.disk hg hBz)
  have D5' := Lib.hid hd
  clear hd hg A4 D4' x0 x1 x2 x3
  go_wp2_with fail
  refine (O1.out _ A5.out.B B D5'.out).mono ?_
  rintro e w6 ⟨rfl, hb⟩
  have A6 := Lib.hid (A5.out.belowAll hb)
  have D6' := Lib.hid (D5'.out.below hb D5'.out.lt)
  clear hb A5 D5'
  have A7 := Lib.hid (A6.out.gen (m := 2))
  have D7' := Lib.hid (D6'.out.apart (a := ⟨w.heap.size + 1, 0, none⟩) (by simp; omega) (.int .i64 2))
  have x0 := A6.out.X.c0; have x1 := A6.out.X.c1; have x2 := A6.out.X.c2; have x3 := A6.out.X.c3
  have y0 := A6.out.X.free 0
  go_wp2_with fail
  generalize w6.setCell ⟨w.heap.size + 1, 0, none⟩ (.int .i64 2) = v7 at *
  clear x0 x1 x2 x3 y0 A6 D6'
  have x0 := A7.out.X.c0; have x1 := A7.out.X.c1; have x2 := A7.out.X.c2; have x3 := A7.out.X.c3
  go_wp2_with fail
  refine (P2.out _ A7.out B D7'.out).mono ?_
  rintro e w8 ⟨rfl, hd, hg⟩
  have A8 := Lib.hid (A7.out.disk hg hBz)
  have D8' := Lib.hid hd
  clear hd hg A7 D7' x0 x1 x2 x3
  go_wp2_with fail
  refine (O2.out _ A8.out.B B D8'.out).mono ?_
  rintro e w9 ⟨rfl, hb⟩
  have A9 := Lib.hid (A8.out.belowAll hb)
  have D9' := Lib.hid (D8'.out.below hb D8'.out.lt)
  clear hb A8 D8'
  have A10 := Lib.hid (A9.out.gen (m := 3))
  have D10' := Lib.hid (D9'.out.apart (a := ⟨w.heap.size + 1, 0, none⟩) (by simp; omega) (.int .i64 3))
  have x0 := A9.out.X.c0; have x1 := A9.out.X.c1; have x2 := A9.out.X.c2; have x3 := A9.out.X.c3
  have y0 := A9.out.X.free 0
  go_wp2_with fail
  generalize w9.setCell ⟨w.heap.size + 1, 0, none⟩ (.int .i64 3) = v10 at *
  clear x0 x1 x2 x3 y0 A9 D9'
  have x0 := A10.out.X.c0; have x1 := A10.out.X.c1; have x2 := A10.out.X.c2; have x3 := A10.out.X.c3
  go_wp2_with fail
  refine (P3.out _ A10.out B D10'.out).mono ?_
  rintro e w11 ⟨rfl, hd, hg⟩
  have A11 := Lib.hid (A10.out.disk hg hBz)
  have D11' := Lib.hid hd
  clear hd hg A10 D10' x0 x1 x2 x3
  go_wp2_with fail
  refine (O3.out _ A11.out.B B D11'.out).mono ?_
  rintro e w12 ⟨rfl, hb⟩
  have A12 := Lib.hid (A11.out.belowAll hb)
  have D12' := Lib.hid (D11'.out.below hb D11'.out.lt)
  clear hb A11 D11'
  have A13 := Lib.hid (A12.out.gen (m := 4))
  have D13' := Lib.hid (D12'.out.apart (a := ⟨w.heap.size + 1, 0, none⟩) (by simp; omega) (.int .i64 4))
  have x0 := A12.out.X.c0; have x1 := A12.out.X.c1; have x2 := A12.out.X.c2; have x3 := A12.out.X.c3
  have y0 := A12.out.X.free 0
  go_wp2_with fail
  generalize w12.setCell ⟨w.heap.size + 1, 0, none⟩ (.int .i64 4) = v13 at *
  clear x0 x1 x2 x3 y0 A12 D12'
  have x0 := A13.out.X.c0; have x1 := A13.out.X.c1; have x2 := A13.out.X.c2; have x3 := A13.out.X.c3
  have F1 : Hid (∀ W, DAt W B D3 → Calls Tryd.prog 34 #[.pointer (some ⟨B, 0, none⟩), .int .i64 2] W (DRet W B (.int .i64 0) D4)) := Lib.hid (fun W hB => by
    have := fail_any B D3 2 W hB
    rw [st_4.1] at this
    exact this)
  have B1 : Hid (∀ W g, DAt W B D5 → KAt W (.slice (some ⟨g, 0, none⟩) 1 1) [13] → g ≠ B → Calls Tryd.prog 36 #[.pointer (some ⟨B, 0, none⟩), .slice (some ⟨g, 0, none⟩) 1 1] W (DRet W B (.int .i64 0) D6)) := Lib.hid (fun W g hB hk hn => back_disk B D5 [13] _ W hB (ok_5 OK.out).t hk (fun _ e => hn (by simpa [Value.ownBlock] using e)) (by decide))
  refine (F1.out _ D13'.out).mono ?_
  rintro e w14 ⟨rfl, hd, hg⟩
  have A14 := Lib.hid (A13.out.disk hg hBz)
  have D14' := Lib.hid hd
  clear hd hg A13 D13' x0 x1 x2 x3
  have x0 := A14.out.X.c0; have x1 := A14.out.X.c1; have x2 := A14.out.X.c2; have x3 := A14.out.X.c3
  go_wp2_with fail
  refine (P4.out _ A14.out B D14'.out).mono ?_
  rintro e w15 ⟨rfl, hd, hg⟩
  have A15 := Lib.hid (A14.out.disk hg hBz)
  have D15' := Lib.hid hd
  clear hd hg A14 D14' x0 x1 x2 x3
  have hlt := D15'.out.lt
  have K16 : Hid (KAt (w15.alloc (.cells #[.int .i64 13] 3)) (.slice (some ⟨w15.heap.size, 0, none⟩) 1 1) [13]) := Lib.hid (.inr ⟨w15.heap.size, 0, 1, rfl, Nat.le_refl _, fun j hj => by
    obtain rfl : j = 0 := by simpa using hj
    exact one_cell (t := 3) (heap_alloc_new _ _)⟩)
  have A16 := Lib.hid (A15.out.belowAll (below_one w15 (.cells #[.int .i64 13] 3)))
  have D16' := Lib.hid (D15'.out.alloc (.cells #[.int .i64 13] 3))
  go_wp2_with fail
  refine (B1.out _ _ D16'.out K16.out (by omega)).mono ?_
  rintro e w17 ⟨rfl, hd, hg⟩
  have A17 := Lib.hid (A16.out.disk hg hBz)
  have D17' := Lib.hid hd
  clear hd hg A15 D15' A16 D16' K16
  go_wp2_with fail
  refine (O4.out _ A17.out.B B D17'.out).mono ?_
  rintro e w18 ⟨rfl, hb⟩
  have A18 := Lib.hid (A17.out.belowAll hb)
  clear hb
  go_wp2
  go_ret
  exact ⟨rfl, A18.out.B⟩
end Go.Proofs.YtpcpbdcdapmlnaaDoor
