/- Of. -/
import Derived.Test.YtpcpbdcdapmlnaaDoorHg
namespace Go.Proofs.YtpcpbdcdapmlnaaDoor
open Go Go.RowKit
set_option maxRecDepth 100000
/-- The head of a tape's bytes. -/
def ofB (s : ByteArray) : He × Bool :=
  if Fr.er s.data.toList ≠ 0 then (he0, false) else if (Fr.kd s.data.toList).toNat ≠ 3 then (he0, false)
  else ((dcR (bs (Fr.pl s.data.toList))).1, decide ((dcR (bs (Fr.pl s.data.toList))).2 = 0))
theorem bh0 (s : ByteArray) : bh s 0 = s.data.toList := rfl
theorem er1_0 (s : ByteArray) : er1 s 0 = Fr.er s.data.toList := er1_at s 0 (Nat.zero_le _)
set_option maxHeartbeats 1000000 in
theorem of_any' (s : ByteArray) (hs : s.size ≤ 140737488351232) (w : World) (hT : Hid (Tab w)) : Calls Tryd.prog 18 #[.string s] w (DcRet w (ofB s).1 (.bool (ofB s).2)) := by
  have HT1 : Hid (Tab (w.alloc (.cells #[.int .i64 0, .int .i64 0, .int .i64 0, .slice none 0 0] 26))) := Lib.hid (hT.out.below (below_one w _))
  have X0 := Lib.hid (Box4.new w (.int .i64 0) (.int .i64 0) (.int .i64 0) (.slice none 0 0))
  by_cases he : Fr.er s.data.toList ≠ 0
  · have HD : Hid (ofB s = (he0, false)) := Lib.hid (by unfold ofB; rw [if_pos he])
    have HR := Lib.hid (read_bad s 0 _ (er1_0 s) he _ hs HT1)
    have he2 := ne0 he
    generalize Fr.er s.data.toList = E at *
    generalize ofB s = D at *
    go_enter Tryd.func18, Tryd.ntmps18
    go_wp2_with fail
    refine HR.out.mono ?_
    rintro e w1 ⟨rfl, hb⟩
    have HB := Lib.hid (below_trans' (below_one w _) hb)
    have X1 := Lib.hid (X0.out.below hb X0.out.lt)
    clear hb
    have hlt := X1.out.lt
    have hne : w.heap.size ≠ w1.heap.size := by omega
    have q0 := X1.out.c0; have q1 := X1.out.c1; have q2 := X1.out.c2; have q3 := X1.out.c3
    have z0 := X1.out.free 0; have z1 := X1.out.free 1; have z2 := X1.out.free 2; have z3 := X1.out.free 3
    go_wp2
    exact ret4 Tryd.results18 w.heap.size rfl rfl rfl ((X1.out.setAll _ _ _ _).alloc _) (by rw [HD.out]; exact ⟨.slice none 0 0, rfl, Own.nil _ _, (below_set4 HB.out (Nat.le_refl _) _ _ _ _).alloc (below_set4 HB.out (Nat.le_refl _) _ _ _ _).size _⟩)
  · have he0 : Fr.er s.data.toList = 0 := by omega
    have HR := Lib.hid (read_ok s 0 (Fr.er_good.1 he0) _ hs HT1)
    have hpl : (Fr.pl s.data.toList).length ≤ 262144 := (Fr.good_ok (Fr.er_good.1 he0)).2
    have HR : Hid (Calls Tryd.prog 55 #[.string s, .int .i64 0] (w.alloc (.cells #[.int .i64 0, .int .i64 0, .int .i64 0, .slice none 0 0] 26)) (Ret _ (.tuple #[fv ((Fr.kd s.data.toList).toNat : Nat) (bs (Fr.pl s.data.toList)) 0, .int .i64 ((0 + 9 + Fr.ln s.data.toList : Nat) : Int), .int .i64 0]))) := HR
    unfold fv at HR
    generalize ((0 + 9 + Fr.ln s.data.toList : Nat) : Int) = NX at *
    by_cases hk : (Fr.kd s.data.toList).toNat ≠ 3
    · have HD : Hid (ofB s = (_root_.Go.Proofs.YtpcpbdcdapmlnaaDoor.he0, false)) := Lib.hid (by unfold ofB; rw [if_neg he, if_pos hk])
      have hk2 : (((Fr.kd s.data.toList).toNat : Int) != 3) = true := by rw [bne_iff_ne]; omega
      generalize bs (Fr.pl s.data.toList) = PL at *
      generalize (Fr.kd s.data.toList).toNat = KD at *
      generalize ofB s = D at *
      clear he he0
      go_enter Tryd.func18, Tryd.ntmps18
      go_wp2_with fail
      refine HR.out.mono ?_
      rintro e w1 ⟨rfl, hb⟩
      have HB := Lib.hid (below_trans' (below_one w _) hb)
      have X1 := Lib.hid (X0.out.below hb X0.out.lt)
      clear hb
      have hlt := X1.out.lt
      have hne : w.heap.size ≠ w1.heap.size := by omega
      have q0 := X1.out.c0; have q1 := X1.out.c1; have q2 := X1.out.c2; have q3 := X1.out.c3
      have z0 := X1.out.free 0; have z1 := X1.out.free 1; have z2 := X1.out.free 2; have z3 := X1.out.free 3
      go_wp2
      exact ret4 Tryd.results18 w.heap.size rfl rfl rfl ((X1.out.setAll _ _ _ _).alloc _) (by rw [HD.out]; exact ⟨.slice none 0 0, rfl, Own.nil _ _, (below_set4 HB.out (Nat.le_refl _) _ _ _ _).alloc (below_set4 HB.out (Nat.le_refl _) _ _ _ _).size _⟩)
    · have HD : Hid (ofB s = ((dcR (bs (Fr.pl s.data.toList))).1, decide ((dcR (bs (Fr.pl s.data.toList))).2 = 0))) := Lib.hid (by unfold ofB; rw [if_neg he, if_neg hk])
      have hk2 : (((Fr.kd s.data.toList).toNat : Int) != 3) = false := by rw [bne_eq_false_iff_eq]; omega
      have HDC := Lib.hid (decode_any (bs (Fr.pl s.data.toList)) (by rw [bs_size]; omega))
      have hd2 : decide ((dcR (bs (Fr.pl s.data.toList))).2 = 0) = (((dcR (bs (Fr.pl s.data.toList))).2 : Int) == 0) := by
        by_cases h : (dcR (bs (Fr.pl s.data.toList))).2 = 0
        · rw [h]; rfl
        · rw [decide_eq_false h, eq0 h]
      rw [hd2] at HD
      clear hd2 hpl
      generalize bs (Fr.pl s.data.toList) = PL at *
      generalize (Fr.kd s.data.toList).toNat = KD at *
      generalize ofB s = D at *
      generalize dcR PL = DR at *
      obtain ⟨DH, DE⟩ := DR
      dsimp only at HD HDC
      clear he he0
      go_enter Tryd.func18, Tryd.ntmps18
      go_wp2_with fail
      refine HR.out.mono ?_
      rintro e w1 ⟨rfl, hb⟩
      have HB := Lib.hid (below_trans' (below_one w _) hb)
      have X1 := Lib.hid (X0.out.below hb X0.out.lt)
      clear hb
      have hlt := X1.out.lt
      have hne : w.heap.size ≠ w1.heap.size := by omega
      go_wp2_with fail
      refine (HDC.out _).mono ?_
      rintro e w2 ⟨v, rfl, ho, hb⟩
      have HB2 := Lib.hid (below_trans' (HB.out.alloc HB.out.size (.cells #[.int .u8 (KD : Int), .string PL, .int .i64 0] 90)) hb)
      have X2 := Lib.hid ((X1.out.alloc (.cells #[.int .u8 (KD : Int), .string PL, .int .i64 0] 90)).below hb (by simp; omega))
      have HO := Lib.hid (ho.mono (show w.heap.size + 1 ≤ (w1.alloc (.cells #[.int .u8 (KD : Int), .string PL, .int .i64 0] 90)).heap.size by simp; omega))
      obtain ⟨va, vc, rfl⟩ := ho.shape
      rw [List.length_map] at HO ho ⊢
      have HV : Hid (hval DH (.slice va DH.log.length vc) = .agg #[.int .i64 DH.gen, .int .i64 DH.base, .int .i64 DH.snap, .slice va DH.log.length vc]) := Lib.hid rfl
      rw [HV.out]
      clear hb ho
      have hlt2 := X2.out.lt
      have hne2 : w.heap.size ≠ w2.heap.size := by omega
      have q0 := X2.out.c0; have q1 := X2.out.c1; have q2 := X2.out.c2; have q3 := X2.out.c3
      have z0 := X2.out.free 0; have z1 := X2.out.free 1; have z2 := X2.out.free 2; have z3 := X2.out.free 3
      generalize DH.log.length = NL at *
      go_wp2
      have HO2 : Hid (Own w2 (w.heap.size + 1) (.slice va NL vc) (DH.log.map iv)) := HO
      exact ret4 Tryd.results18 w.heap.size rfl rfl rfl ((X2.out.setAll _ _ _ _).alloc _) (by rw [HD.out]; exact ⟨.slice va NL vc, rfl, ((HO2.out.set4 (by omega) _ _ _ _).alloc _).mono (by omega), (below_set4 HB2.out (Nat.le_refl _) _ _ _ _).alloc (below_set4 HB2.out (Nat.le_refl _) _ _ _ _).size _⟩)
end Go.Proofs.YtpcpbdcdapmlnaaDoor
namespace Go.Proofs.YtpcpbdcdapmlnaaDoor
open Go Go.RowKit
set_option maxRecDepth 100000
theorem index84_0 (a0 a1 a2 a3 b0 b1 b2 b3 : Value) (W : World) : (Instr.index 84 (.agg #[a0, a1, a2, a3, b0, b1, b2, b3]) (.int .i64 0)).run Tryd.prog W = .ok (.agg #[a0, a1, a2, a3]) W := by kernel_rfl
theorem index84_1 (a0 a1 a2 a3 b0 b1 b2 b3 : Value) (W : World) : (Instr.index 84 (.agg #[a0, a1, a2, a3, b0, b1, b2, b3]) (.int .i64 1)).run Tryd.prog W = .ok (.agg #[b0, b1, b2, b3]) W := by kernel_rfl
/-- A block of two heads' cells. -/
def Box8 (W : World) (B : Nat) (a0 a1 a2 a3 b0 b1 b2 b3 : Value) : Prop := W.heap[B]? = some (.cells #[a0, a1, a2, a3, b0, b1, b2, b3] 84 (0, 0))
section
variable {W W' : World} {B m : Nat} {a0 a1 a2 a3 b0 b1 b2 b3 : Value}
theorem Box8.lt (h : Box8 W B a0 a1 a2 a3 b0 b1 b2 b3) : B < W.heap.size := (Array.getElem?_eq_some_iff.1 h).1
theorem Box8.c0 (h : Box8 W B a0 a1 a2 a3 b0 b1 b2 b3) : W.cell? ⟨B, 0, none⟩ = some a0 := by simp [World.cell?, show W.heap[B]? = _ from h]
theorem Box8.c1 (h : Box8 W B a0 a1 a2 a3 b0 b1 b2 b3) : W.cell? ⟨B, 1, none⟩ = some a1 := by simp [World.cell?, show W.heap[B]? = _ from h]
theorem Box8.c2 (h : Box8 W B a0 a1 a2 a3 b0 b1 b2 b3) : W.cell? ⟨B, 2, none⟩ = some a2 := by simp [World.cell?, show W.heap[B]? = _ from h]
theorem Box8.c3 (h : Box8 W B a0 a1 a2 a3 b0 b1 b2 b3) : W.cell? ⟨B, 3, none⟩ = some a3 := by simp [World.cell?, show W.heap[B]? = _ from h]
theorem Box8.c4 (h : Box8 W B a0 a1 a2 a3 b0 b1 b2 b3) : W.cell? ⟨B, 4, none⟩ = some b0 := by simp [World.cell?, show W.heap[B]? = _ from h]
theorem Box8.c5 (h : Box8 W B a0 a1 a2 a3 b0 b1 b2 b3) : W.cell? ⟨B, 5, none⟩ = some b1 := by simp [World.cell?, show W.heap[B]? = _ from h]
theorem Box8.c6 (h : Box8 W B a0 a1 a2 a3 b0 b1 b2 b3) : W.cell? ⟨B, 6, none⟩ = some b2 := by simp [World.cell?, show W.heap[B]? = _ from h]
theorem Box8.c7 (h : Box8 W B a0 a1 a2 a3 b0 b1 b2 b3) : W.cell? ⟨B, 7, none⟩ = some b3 := by simp [World.cell?, show W.heap[B]? = _ from h]
theorem Box8.free (h : Box8 W B a0 a1 a2 a3 b0 b1 b2 b3) (j : Nat) : W.frozen? ⟨B, j, none⟩ = false := by simp [World.frozen?, show W.heap[B]? = _ from h]
theorem Box8.below (h : Box8 W B a0 a1 a2 a3 b0 b1 b2 b3) (hb : Below m W W') (hm : B < m) : Box8 W' B a0 a1 a2 a3 b0 b1 b2 b3 := (hb.block B hm).trans h
theorem Box8.kept {row : Option Nat} (h : Box8 W B a0 a1 a2 a3 b0 b1 b2 b3) (hg : W.grownBy W' row) (hne : some B ≠ row) : Box8 W' B a0 a1 a2 a3 b0 b1 b2 b3 := (hg.block B h.lt hne).trans h
theorem Box8.alloc (h : Box8 W B a0 a1 a2 a3 b0 b1 b2 b3) (o : Obj) : Box8 (W.alloc o) B a0 a1 a2 a3 b0 b1 b2 b3 := (Below.heap_alloc W o B h.lt).trans h
theorem Box8.new (W : World) (a0 a1 a2 a3 b0 b1 b2 b3 : Value) : Box8 (W.alloc (.cells #[a0, a1, a2, a3, b0, b1, b2, b3] 84)) W.heap.size a0 a1 a2 a3 b0 b1 b2 b3 := heap_alloc_new W _
theorem Box8.apart {a : Addr} (h : Box8 W B a0 a1 a2 a3 b0 b1 b2 b3) (ha : B ≠ a.block) (v : Value) : Box8 (W.setCell a v) B a0 a1 a2 a3 b0 b1 b2 b3 := (Below.heap_setCell W a v B ha).trans h
theorem Box8.lo (h : Box8 W B a0 a1 a2 a3 b0 b1 b2 b3) (x y z u : Value) : Box8 ((((W.setCell ⟨B, 0, none⟩ x).setCell ⟨B, 1, none⟩ y).setCell ⟨B, 2, none⟩ z).setCell ⟨B, 3, none⟩ u) B x y z u b0 b1 b2 b3 := by unfold Box8 at *; simp [World.setCell, Array.getElem?_modify, h]
theorem Box8.hi (h : Box8 W B a0 a1 a2 a3 b0 b1 b2 b3) (x y z u : Value) : Box8 ((((W.setCell ⟨B, 4, none⟩ x).setCell ⟨B, 5, none⟩ y).setCell ⟨B, 6, none⟩ z).setCell ⟨B, 7, none⟩ u) B a0 a1 a2 a3 x y z u := by unfold Box8 at *; simp [World.setCell, Array.getElem?_modify, h]
theorem Box8.all (h : Box8 W B a0 a1 a2 a3 b0 b1 b2 b3) (x0 x1 x2 x3 x4 x5 x6 x7 : Value) : Box8 ((((((((W.setCell ⟨B, 0, none⟩ x0).setCell ⟨B, 1, none⟩ x1).setCell ⟨B, 2, none⟩ x2).setCell ⟨B, 3, none⟩ x3).setCell ⟨B, 4, none⟩ x4).setCell ⟨B, 5, none⟩ x5).setCell ⟨B, 6, none⟩ x6).setCell ⟨B, 7, none⟩ x7) B x0 x1 x2 x3 x4 x5 x6 x7 := (h.lo x0 x1 x2 x3).hi x4 x5 x6 x7
end
/-- The tape of the head that counts, of two generations; is there one? -/
def cTape (g0 g1 : Int) : Nat := if g0 < g1 then 1 else 0
def cIs (g0 g1 : Int) : Bool := decide (0 < (if g0 < g1 then g1 else g0))
set_option maxHeartbeats 1000000 in
theorem counting_any (g0 b0 p0 g1 b1 p1 : Int) (a0 : Option Addr) (n0 c0 : Nat) (a1 : Option Addr) (n1 c1 : Nat) (w : World) : Calls Tryd.prog 54 #[.agg #[.int .i64 g0, .int .i64 b0, .int .i64 p0, .slice a0 n0 c0, .int .i64 g1, .int .i64 b1, .int .i64 p1, .slice a1 n1 c1]] w (Ret w (.tuple #[.int .i64 (cTape g0 g1 : Int), .bool (cIs g0 g1)])) := by
  have hx0 := index84_0 (.int .i64 g0) (.int .i64 b0) (.int .i64 p0) (.slice a0 n0 c0) (.int .i64 g1) (.int .i64 b1) (.int .i64 p1) (.slice a1 n1 c1)
  have hx1 := index84_1 (.int .i64 g0) (.int .i64 b0) (.int .i64 p0) (.slice a0 n0 c0) (.int .i64 g1) (.int .i64 b1) (.int .i64 p1) (.slice a1 n1 c1)
  have X0 := Lib.hid (Box8.new w (.int .i64 g0) (.int .i64 b0) (.int .i64 p0) (.slice a0 n0 c0) (.int .i64 g1) (.int .i64 b1) (.int .i64 p1) (.slice a1 n1 c1))
  have hlt0 : ¬ (g0 < g0) := by omega
  go_enter Tryd.func54, Tryd.ntmps54
  go_wp2
  go_loopw [2, 7] (fun t i wl => ∃ k T : Nat, i = .int .i64 (k : Int) ∧ t = .int .i64 (T : Int) ∧ k ≤ 2 ∧ (k < 2 → T = 0) ∧ (k = 2 → T = cTape g0 g1) ∧ Hid (Box8 wl w.heap.size (.int .i64 g0) (.int .i64 b0) (.int .i64 p0) (.slice a0 n0 c0) (.int .i64 g1) (.int .i64 b1) (.int .i64 p1) (.slice a1 n1 c1)) ∧ Hid (Below w.heap.size w wl)) (fun _ i _ => 2 - (intOf i).toNat)
  case atStart => exact ⟨0, 0, rfl, rfl, by omega, fun _ => rfl, fun h => (by omega), X0, Lib.hid (below_one w _)⟩
  case round =>
    obtain ⟨k, T, rfl, rfl, hk, h1, h2, HX, HB⟩ := hrel
    have q0 := HX.out.c0
    have q4 := HX.out.c4
    have hl := HX.out.lt
    have hne : w.heap.size ≠ wr.heap.size := by omega
    by_cases hlt : k < 2
    · obtain rfl := h1 hlt
      by_cases h0 : k = 0
      · subst h0
        go_wp2
        go_quiet (fail)
        have Y1 := Lib.hid (HX.out.alloc (.cells #[.int .i64 g0, .int .i64 b0, .int .i64 p0, .slice a0 n0 c0] 26))
        have B1 := Lib.hid (HB.out.alloc HB.out.size (.cells #[.int .i64 g0, .int .i64 b0, .int .i64 p0, .slice a0 n0 c0] 26))
        go_wp2
        go_roundw
        case rel => exact ⟨1, 0, rfl, rfl, by omega, fun _ => rfl, fun h => (by omega), Lib.hid Y1.out, Lib.hid (below_drewN B1.out _)⟩
        case measure => simp [intOf]
      · obtain rfl : k = 1 := by omega
        have Y1 := Lib.hid (HX.out.alloc (.cells #[.int .i64 g1, .int .i64 b1, .int .i64 p1, .slice a1 n1 c1] 26))
        have B1 := Lib.hid (HB.out.alloc HB.out.size (.cells #[.int .i64 g1, .int .i64 b1, .int .i64 p1, .slice a1 n1 c1] 26))
        by_cases hg : g0 < g1
        · have hc : cTape g0 g1 = 1 := if_pos hg
          go_wp2
          go_quiet (fail)
          go_wp2
          go_roundw
          case rel => exact ⟨2, 1, rfl, rfl, by omega, fun h => (by omega), fun _ => hc.symm, Lib.hid Y1.out, Lib.hid (below_drewN B1.out _)⟩
          case measure => simp [intOf]
        · have hc : cTape g0 g1 = 0 := if_neg hg
          go_wp2
          go_quiet (fail)
          go_wp2
          go_roundw
          case rel => exact ⟨2, 0, rfl, rfl, by omega, fun h => (by omega), fun _ => hc.symm, Lib.hid Y1.out, Lib.hid (below_drewN B1.out _)⟩
          case measure => simp [intOf]
    · obtain rfl : k = 2 := by omega
      have hT := h2 rfl
      clear h1 h2
      by_cases hg : g0 < g1
      · have hc : cTape g0 g1 = 1 := if_pos hg
        have hi : cIs g0 g1 = decide (0 < g1) := by unfold cIs; rw [if_pos hg]
        rw [hc] at hT
        subst hT
        go_wp2
        go_quiet (fail)
        go_wp2
        go_ret2
        exact ⟨by rw [hc, hi]; rfl, below_drewN HB.out _⟩
      · have hc : cTape g0 g1 = 0 := if_neg hg
        have hi : cIs g0 g1 = decide (0 < g0) := by unfold cIs; rw [if_neg hg]
        rw [hc] at hT
        subst hT
        go_wp2
        go_quiet (fail)
        go_wp2
        go_ret2
        exact ⟨by rw [hc, hi]; rfl, below_drewN HB.out _⟩
end Go.Proofs.YtpcpbdcdapmlnaaDoor
