/- The contracts of picked, last, texts. -/
import Derived.Test.YtbckkfoenembmaaRl
import Derived.Test.YtbckkfoenembmaaAl
namespace Go.Proofs.Ytbckkfoenembmaa
open Go.RowKit
/-- Values of one cell, read wherever they begin. -/
def VAt (W : World) (v : Value) (cs : List Value) : Prop :=
  (cs = [] ∧ ∃ a c, v = .slice a 0 c) ∨ ∃ g o c, v = .slice (some ⟨g, o, none⟩) cs.length c ∧ ∀ j (h : j < cs.length), W.cell? ⟨g, o + j, none⟩ = some cs[j]
theorem VAt.below {W W' : World} {v : Value} {l : List Value} (h : VAt W v l) {n : Nat} (hb : Below n W W') (hn : W.heap.size ≤ n) : VAt W' v l := by
  rcases h with h | ⟨g, o, c, rfl, h⟩
  · exact .inl h
  · refine .inr ⟨g, o, c, rfl, fun j hj => ?_⟩
    have hlt : g < W.heap.size := World.block_lt_of_cell? W ⟨g, _, none⟩ (h j hj)
    rw [World.cell?_of_block (a := ⟨g, o + j, none⟩) (hb.block g (by omega))]
    exact h j hj
theorem VAt.slice {W : World} {v : Value} {l : List Value} (h : VAt W v l) : ∃ a c, v = .slice a l.length c := by
  rcases h with ⟨rfl, a, c, rfl⟩ | ⟨g, o, c, rfl, _⟩
  · exact ⟨_, _, rfl⟩
  · exact ⟨_, _, rfl⟩
theorem vat_of {w : World} {base E n : Nat} {v : Value} {cs : List Value} (h : w.ownsRow base E 1 v n cs) : VAt w v cs := by
  have hl := h.1
  have hn : n = cs.length := by omega
  subst hn
  rcases h.2 with ⟨rfl, hn⟩ | ⟨g, cap, cur, rfl, _⟩
  · exact .inl ⟨List.eq_nil_of_length_eq_zero hn, _, _, rfl⟩
  · refine .inr ⟨g, 0, cap, rfl, fun j hj => ?_⟩
    rw [Nat.zero_add, h.cellAt j (by omega), List.getElem?_eq_getElem hj]
set_option maxRecDepth 100000 in
set_option maxHeartbeats 1000000 in
theorem picked_any (fs : List Ff) (hl : fs.length ≤ 1000000) (v u : Value) (w : World) (hv : VAt w v (fs.map fun f => .int .u64 (f.v : Int))) (hu : FAt w u fs) :
    Calls Try.prog 30 #[v, u] w (Ret w (.bool true)) := by
  have HV := Lib.hid hv
  have HU := Lib.hid hu
  obtain ⟨va, vc, hv2⟩ := hv.slice
  obtain ⟨ua, uc, hu2⟩ := hu.slice
  rw [List.length_map] at hv2
  clear hv hu
  generalize hL : fs.length = L at *
  have HL := Lib.hid hL
  clear hL
  subst hv2
  subst hu2
  have hLL : (L != L) = false := by simp
  go_enter Try.func30, Try.ntmps30
  go_wp2
  go_loopw [5] (fun i wr => ∃ k : Nat, i = .int .i64 (k : Int) ∧ k ≤ L ∧ Hid (Below w.heap.size w wr)) (fun i _ => L - (intOf i).toNat)
  case atStart => exact ⟨0, rfl, by omega, Lib.hid (Below.refl _ _)⟩
  case round =>
    obtain ⟨k, rfl, hk, HB⟩ := hrel
    by_cases hlt : k < L
    · have hkl : k < fs.length := by have := HL.out; omega
      rcases (HV.out.below HB.out (Nat.le_refl _)) with ⟨h0, _⟩ | ⟨g, o, c, hg, hcs⟩
      · have := congrArg List.length h0; rw [List.length_map, List.length_nil] at this; omega
      rcases (HU.out.below HB.out (Nat.le_refl _)) with ⟨h0, _⟩ | ⟨g2, o2, c2, hg2, hcs2⟩
      · have := HL.out; rw [h0] at this; simp at this; omega
      have q0 := hcs k (by rw [List.length_map]; exact hkl)
      obtain ⟨-, -, r2, -⟩ := hcs2 k hkl
      rw [List.getElem_map] at q0
      clear hcs hcs2
      generalize (fs[k].v : Int) = x at *
      rw [List.length_map, HL.out] at hg
      cases hg
      cases hg2
      have hxx : (x != x) = false := by simp
      go_wp2
      go_big_quiet (fail)
      go_wp2
      go_roundw
      case rel => exact ⟨k + 1, by go_num, by omega, Lib.hid (below_drewN HB.out _)⟩
      case measure => simp [intOf]; omega
    · obtain rfl : k = L := by omega
      go_wp2
      go_ret
      exact ⟨rfl, HB.out⟩
set_option maxRecDepth 100000 in
set_option maxHeartbeats 1000000 in
theorem lastA (a : Option Addr) (c : Nat) (w : World) : Calls Try.prog 34 #[.int .u64 0, .bool false, .int .i64 0, .slice a 0 c, .int .i64 0] w (Ret w (.bool true)) := by
  go_enter Try.func34, Try.ntmps34
  go_wp2
  go_ret
  exact ⟨rfl, Below.refl _ _⟩
set_option maxRecDepth 100000 in
set_option maxHeartbeats 1000000 in
theorem lastB (g o c J Z : Nat) (hJ : ((Z : Nat) : Int) - 1 = (J : Int)) (hZ : Z ≤ 1000000) (hJ1 : J < Z) (x : Int) (w : World) (r2 : w.cell? ⟨g, o + J * 4 + 2, none⟩ = some (.int .u64 x)) : Calls Try.prog 34 #[.int .u64 x, .bool true, .int .i64 0, .slice (some ⟨g, o, none⟩) Z c, .int .i64 0] w (Ret w (.bool true)) := by
  have hJ0 : (((Z : Nat) : Int) == 0) = false := by rw [beq_eq_false_iff_ne]; omega
  have hxx : (x == x) = true := by simp
  go_enter Try.func34, Try.ntmps34
  go_wp2
  go_ret
  exact ⟨rfl, Below.refl _ _⟩
set_option maxRecDepth 100000 in
set_option maxHeartbeats 1000000 in
theorem lastC (k : Int) (hk : (k != 0) = true) (u : Value) (w : World) : Calls Try.prog 34 #[.int .u64 0, .bool false, .int .i64 k, u, .int .i64 k] w (Ret w (.bool true)) := by
  have hk2 : (k == k) = true := by simp
  go_enter Try.func34, Try.ntmps34
  go_wp2
  go_ret
  exact ⟨rfl, Below.refl _ _⟩
theorem lastok_any (fs : List Ff) (hl : fs.length ≤ 1000000) (K : Nat) (u : Value) (w : World) (hu : FAt w u fs) :
    Calls Try.prog 34 #[.int .u64 ((lst (0 : Nat) (fs.map (fun f : Ff => f.v), K)).1 : Int), .bool (lst (0 : Nat) (fs.map (fun f : Ff => f.v), K)).2.1, .int .i64 ((lst (0 : Nat) (fs.map (fun f : Ff => f.v), K)).2.2 : Int), u, .int .i64 (K : Int)] w (Ret w (.bool true)) := by
  by_cases hK : K = 0
  · subst hK
    rcases List.eq_nil_or_concat fs with rfl | ⟨fs0, f, rfl⟩
    · obtain ⟨a, c, rfl⟩ := hu.slice
      exact lastA a c w
    · rw [List.concat_eq_append] at *
      have hlst : lst (0 : Nat) ((fs0 ++ [f]).map (fun f : Ff => f.v), 0) = ((f.v, true, 0) : Nat × Bool × Nat) := by
        unfold lst
        rw [if_pos rfl]
        dsimp only
        rw [List.map_append, List.getLast?_append]
        rfl
      rw [hlst]
      rcases hu with ⟨h0, _⟩ | ⟨g, o, c, rfl, hcs⟩
      · simp at h0
      · obtain ⟨-, -, r2, -⟩ := hcs fs0.length (by simp)
        rw [List.getElem_append_right (Nat.le_refl _)] at r2
        simp only [Nat.sub_self, List.getElem_cons_zero] at r2
        rw [List.length_append, List.length_singleton] at hl ⊢
        exact lastB g o c fs0.length (fs0.length + 1) (by omega) hl (by omega) _ w r2
  · have hlst : lst (0 : Nat) (fs.map (fun f : Ff => f.v), K) = ((0, false, K) : Nat × Bool × Nat) := by
      unfold lst
      rw [if_neg hK]
    rw [hlst]
    exact lastC K (by rw [bne_iff_ne]; omega) u w
theorem plain1_n (g : Gf) : (plain1 g).n = g.n := by
  obtain ⟨n, x⟩ := g
  cases x <;> rfl
/-- What is picked of the program's fields, and of the plain ones. -/
theorem alk_rall {α : Type} (pk : Vl → α × Bool) (num wi : Int) (proj : Ff → α) (h : ∀ n x, ((pk x).2 = true ↔ ((plain1 ⟨n, x⟩).w : Int) = wi) ∧ ((pk x).2 = true → proj (plain1 ⟨n, x⟩) = (pk x).1)) :
    ∀ (l : List Gf) (acc : List Ff), alk pk num l (acc.map proj) = ((rall num wi (l.map plain1) acc).1.map proj, (rall num wi (l.map plain1) acc).2)
  | [], acc => rfl
  | g :: r, acc => by
    obtain ⟨n, x⟩ := g
    obtain ⟨h1, h2⟩ := h n x
    rw [List.map_cons, alk, rall, plain1_n]
    by_cases hn : n = num
    · rw [if_pos hn, if_pos hn]
      by_cases hb : (pk x).2 = true
      · rw [if_pos hb, if_pos (h1.1 hb)]
        have := alk_rall pk num wi proj h r (acc ++ [plain1 ⟨n, x⟩])
        rw [List.map_append, List.map_cons, List.map_nil, h2 hb] at this
        exact this
      · rw [if_neg hb, if_neg (fun e => hb (h1.2 e))]
        rfl
    · rw [if_neg hn, if_neg hn]
      exact alk_rall pk num wi proj h r acc
theorem rel_V (num : Int) (l : List Gf) : alk asV num l [] = ((rall num 0 (l.map plain1) []).1.map (fun f => f.v), (rall num 0 (l.map plain1) []).2) :=
  alk_rall asV num 0 (fun f => f.v) (fun n x => by cases x <;> simp [asV, plain1]) l []
theorem rel_E (num : Int) (l : List Gf) : alk asE num l [] = ((rall num 1 (l.map plain1) []).1.map (fun f => f.v), (rall num 1 (l.map plain1) []).2) :=
  alk_rall asE num 1 (fun f => f.v) (fun n x => by cases x <;> simp [asE, plain1]) l []
theorem rel_F (num : Int) (l : List Gf) : alk asF num l [] = ((rall num 5 (l.map plain1) []).1.map (fun f => f.v), (rall num 5 (l.map plain1) []).2) :=
  alk_rall asF num 5 (fun f => f.v) (fun n x => by cases x <;> simp [asF, plain1]) l []
theorem rel_T (num : Int) (l : List Gf) : alk asT num l [] = ((rall num 2 (l.map plain1) []).1.map (fun f => f.t), (rall num 2 (l.map plain1) []).2) :=
  alk_rall asT num 2 (fun f => f.t) (fun n x => by cases x <;> simp [asT, plain1]) l []
theorem oth_roth (kn : List Int) : ∀ (l : List Gf), (oth kn l).map plain1 = roth kn (l.map plain1)
  | [] => rfl
  | g :: r => by
    have ih := oth_roth kn r
    unfold oth roth at *
    rw [List.map_cons]
    by_cases h : kn.contains g.n = true
    · rw [List.filter_cons_of_neg (by simp only [h]; decide), List.filter_cons_of_neg (by simp only [plain1_n, h]; decide), ih]
    · rw [List.filter_cons_of_pos (by simpa using h), List.filter_cons_of_pos (by rw [plain1_n]; simpa using h), List.map_cons, ih]
end Go.Proofs.Ytbckkfoenembmaa
