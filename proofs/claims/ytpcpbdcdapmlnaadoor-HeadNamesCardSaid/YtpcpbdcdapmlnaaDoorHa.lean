/- Heads plainly; how the tapes that a head names are marked; whether a head may be. -/
import Derived.Test.YtpcpbdcdapmlnaaDoorDr
import Derived.Test.YtpcpbdcdapmlnaaDoorSf
import Derived.Test.YtpcpbdcdapmlnaaDoorRr
namespace Go.Proofs.YtpcpbdcdapmlnaaDoor
open Go Go.RowKit
set_option maxRecDepth 100000
/-- A head. -/
structure He where
  gen : Int
  base : Int
  snap : Int
  log : List Int
/-- A head's value, its log in v. -/
def hval (h : He) (v : Value) : Value := .agg #[.int .i64 h.gen, .int .i64 h.base, .int .i64 h.snap, v]
/-- May a tape be named that is not yet among those of S? -/
def ad (S : Nat → Bool) (t : Int) : Bool := decide (2 ≤ t ∧ t < 32) && !S t.toNat
def mark (S : Nat → Bool) (t : Nat) : Nat → Bool := fun j => if j = t then true else S j
def dis (S : Nat → Bool) : List Int → Bool
  | [] => true
  | t :: r => if ad S t = true then dis (mark S t.toNat) r else false
def no32 : Nat → Bool := fun _ => false
/-- Up to which generation a head may be. -/
def gtop : Int := 1099511627776
def mayB (h : He) : Bool :=
  if h.gen < 1 then false else if gtop < h.gen then false else if h.base < 0 then false else if 1099511627776 < h.base then false else if h.log = [] then false
  else if h.snap = 0 then (if h.base ≠ 0 then false else dis no32 h.log)
  else if ad no32 h.snap = true then dis (mark no32 h.snap.toNat) h.log else false
/-- The marks lie in block B. -/
structure NAt (w : World) (B : Nat) (S : Nat → Bool) : Prop where
  c : ∀ j < 32, w.cell? ⟨B, j, none⟩ = some (.bool (S j))
  fz : ∀ j, w.frozen? ⟨B, j, none⟩ = false
theorem NAt.congr {w w' : World} {B : Nat} {S : Nat → Bool} (h : NAt w B S) (hb : w'.heap[B]? = w.heap[B]?) : NAt w' B S :=
  ⟨fun j hj => (World.cell?_of_block (a := ⟨B, j, none⟩) hb).trans (h.c j hj), fun j => (World.frozen?_of_block (a := ⟨B, j, none⟩) hb).trans (h.fz j)⟩
theorem NAt.lt {w : World} {B : Nat} {S : Nat → Bool} (h : NAt w B S) : B < w.heap.size := World.block_lt_of_cell? w ⟨B, 0, none⟩ (h.c 0 (by decide))
theorem NAt.set {w : World} {B : Nat} {S : Nat → Bool} (h : NAt w B S) {t : Nat} (ht : t < 32) : NAt (w.setCell ⟨B, t, none⟩ (.bool true)) B (mark S t) := by
  refine ⟨fun j hj => ?_, fun j => by rw [World.frozen?_setCell]; exact h.fz j⟩
  by_cases e : j = t
  · subst e
    rw [World.cell?_setCell_same _ _ _ (h.c j hj)]
    unfold mark; rw [if_pos rfl]
  · rw [World.cell?_setCell_other _ _ _ _ (by intro hh; cases hh; exact e rfl), h.c j hj]
    unfold mark; rw [if_neg e]
theorem zero63 : ∃ Z : Array Value, (∀ w, (zeroValue 63).run Tryd.prog w = .ok (.agg Z) w) ∧ Z = #[.bool false, .bool false, .bool false, .bool false, .bool false, .bool false, .bool false, .bool false, .bool false, .bool false, .bool false, .bool false, .bool false, .bool false, .bool false, .bool false, .bool false, .bool false, .bool false, .bool false, .bool false, .bool false, .bool false, .bool false, .bool false, .bool false, .bool false, .bool false, .bool false, .bool false, .bool false, .bool false] :=
  ⟨_, fun w => (zero_of_info (P := Tryd.prog) (t := 63) (n := 32) (by kernel_rfl)).1 w, rfl⟩
theorem NAt.new {w : World} {Z : Array Value} (hz : Z = #[.bool false, .bool false, .bool false, .bool false, .bool false, .bool false, .bool false, .bool false, .bool false, .bool false, .bool false, .bool false, .bool false, .bool false, .bool false, .bool false, .bool false, .bool false, .bool false, .bool false, .bool false, .bool false, .bool false, .bool false, .bool false, .bool false, .bool false, .bool false, .bool false, .bool false, .bool false, .bool false]) : NAt (w.alloc (.cells Z 63)) w.heap.size no32 := by
  have hb : (w.alloc (.cells Z 63)).heap[w.heap.size]? = some (.cells Z 63 (0, 0)) := heap_alloc_new w (.cells Z 63)
  generalize w.alloc (.cells Z 63) = W at *
  generalize w.heap.size = B at *
  refine ⟨fun j hj => ?_, fun j => by simp [World.frozen?, hb]⟩
  rw [cell_of_row _ _ j Z 63 (0, 0) hb, hz]
  match j, hj with
  | 0, _ | 1, _ | 2, _ | 3, _ | 4, _ | 5, _ | 6, _ | 7, _ | 8, _ | 9, _ | 10, _ | 11, _ | 12, _ | 13, _ | 14, _ | 15, _ | 16, _ | 17, _ | 18, _ | 19, _ | 20, _ | 21, _ | 22, _ | 23, _ | 24, _ | 25, _ | 26, _ | 27, _ | 28, _ | 29, _ | 30, _ | 31, _ => rfl
  | j + 32, hj => omega
set_option maxHeartbeats 400000 in
theorem add_out (B : Nat) (S : Nat → Bool) (t : Int) (w : World) (ht : ¬ (2 ≤ t ∧ t < 32)) : Calls Tryd.prog 38 #[.pointer (some ⟨B, 0, none⟩), .int .i64 t] w fun e w' => e = .returned (.bool false) ∧ w = w' := by
  by_cases h : t < 2
  · go_enter Tryd.func38, Tryd.ntmps38
    go_wp2
    go_ret
    exact ⟨rfl, rfl⟩
  · have h2 : 32 ≤ t := by omega
    go_enter Tryd.func38, Tryd.ntmps38
    go_wp2
    go_ret
    exact ⟨rfl, rfl⟩
set_option maxHeartbeats 400000 in
theorem add_twice (B : Nat) (S : Nat → Bool) (t : Nat) (w : World) (h2 : 2 ≤ t) (h3 : t < 32) (hn : NAt w B S) (hS : S t = true) : Calls Tryd.prog 38 #[.pointer (some ⟨B, 0, none⟩), .int .i64 (t : Int)] w fun e w' => e = .returned (.bool false) ∧ w = w' := by
  have c := hn.c t h3
  rw [hS] at c
  go_enter Tryd.func38, Tryd.ntmps38
  go_wp2
  go_ret
  exact ⟨rfl, rfl⟩
set_option maxHeartbeats 400000 in
theorem add_new (B : Nat) (S : Nat → Bool) (t : Nat) (w : World) (h2 : 2 ≤ t) (h3 : t < 32) (hn : NAt w B S) (hS : S t = false) : Calls Tryd.prog 38 #[.pointer (some ⟨B, 0, none⟩), .int .i64 (t : Int)] w fun e w' => e = .returned (.bool true) ∧ w.setCell ⟨B, t, none⟩ (.bool true) = w' := by
  have c := hn.c t h3
  have f := hn.fz t
  rw [hS] at c
  go_enter Tryd.func38, Tryd.ntmps38
  go_wp2
  go_ret
  exact ⟨rfl, rfl⟩
theorem nadd_any (B : Nat) (S : Nat → Bool) (t : Int) (w : World) (hn : NAt w B S) : Calls Tryd.prog 38 #[.pointer (some ⟨B, 0, none⟩), .int .i64 t] w fun e w' => e = .returned (.bool (ad S t)) ∧ NAt w' B (if ad S t = true then mark S t.toNat else S) ∧ w.grownBy w' (some B) := by
  by_cases ht : 2 ≤ t ∧ t < 32
  · obtain ⟨n, rfl⟩ := Int.eq_ofNat_of_zero_le (show 0 ≤ t by omega)
    have e1 : ad S (n : Int) = !S n := by unfold ad; rw [decide_eq_true ht, Int.toNat_natCast]; rfl
    rw [e1, Int.toNat_natCast]
    cases hS : S n
    · refine (add_new B S n w (by omega) (by omega) hn hS).mono ?_
      rintro e w' ⟨rfl, rfl⟩
      exact ⟨rfl, hn.set (by omega), grown_setCell w B n _⟩
    · refine (add_twice B S n w (by omega) (by omega) hn hS).mono ?_
      rintro e w' ⟨rfl, rfl⟩
      exact ⟨rfl, hn, World.grownBy.refl _ _⟩
  · have e1 : ad S t = false := by unfold ad; rw [decide_eq_false ht]; rfl
    rw [e1]
    refine (add_out B S t w ht).mono ?_
    rintro e w' ⟨rfl, rfl⟩
    exact ⟨rfl, hn, World.grownBy.refl _ _⟩
end Go.Proofs.YtpcpbdcdapmlnaaDoor
namespace Go.Proofs.YtpcpbdcdapmlnaaDoor
open Go Go.RowKit
set_option maxRecDepth 100000
theorem KAt.at {w : World} {g o c n : Nat} {l : List Int} (h : KAt w (.slice (some ⟨g, o, none⟩) n c) l) (j : Nat) (hj : j < l.length) : w.cell? ⟨g, o + j, none⟩ = some (.int .i64 l[j]) := by
  rcases h with ⟨rfl, _⟩ | ⟨g', o', c', e, _, h⟩
  · simp at hj
  · cases e
    exact h j hj
theorem KAt.below {w w' : World} {v : Value} {l : List Int} {m : Nat} (h : KAt w v l) (hb : Below m w w') (hm : w.heap.size ≤ m) : KAt w' v l := h.same fun g hg _ => hb.block g (by omega)
theorem KAt.pos {w : World} {v : Value} {l : List Int} (h : KAt w v l) (hl : l ≠ []) : ∃ g o c, v = .slice (some ⟨g, o, none⟩) l.length c ∧ l.length ≤ c := by
  rcases h with ⟨rfl, _⟩ | ⟨g', o', c', e, hc, h⟩
  · exact absurd rfl hl
  · exact ⟨g', o', c', e, hc⟩
theorem dis_drop (S : Nat → Bool) {l : List Int} {k : Nat} (hk : k < l.length) : dis S (l.drop k) = if ad S l[k] = true then dis (mark S l[k].toNat) (l.drop (k + 1)) else false := by
  rw [List.drop_eq_getElem_cons hk]; rfl
theorem not_ad {S : Nat → Bool} {t : Int} (h : ad S t = false) : ¬ (ad S t = true) := by simp [h]
set_option maxHeartbeats 1000000 in
theorem may_in (g b s : Int) (l : List Int) (v : Value) (w : World) (hk : KAt w v l) (hl : l.length ≤ 9223372036854775807) (h1 : 1 ≤ g) (h2 : g ≤ 1099511627776) (h3 : 0 ≤ b) (h4 : b ≤ 1099511627776) (h5 : l ≠ []) (S : Nat → Bool)
    (hs : (s = 0 ∧ b = 0 ∧ S = no32) ∨ (s ≠ 0 ∧ ad no32 s = true ∧ S = mark no32 s.toNat)) :
    Calls Tryd.prog 10 #[hval ⟨g, b, s, l⟩ v] w (Ret w (.bool (dis S l))) := by
  obtain ⟨G, o, c, rfl, hc⟩ := hk.pos h5
  have hp : 0 < l.length := List.length_pos_iff.2 h5
  have hl0 : ((l.length : Int) == 0) = false := by rw [beq_eq_false_iff_ne]; omega
  have HK := Lib.hid hk
  obtain ⟨Z, hz, hZ⟩ := zero63
  unfold hval
  dsimp only
  have W0 := Lib.hid (NAt.new (w := w.alloc (.cells #[.int .i64 g, .int .i64 b, .int .i64 s, .slice (some ⟨G, o, none⟩) l.length c] 26)) hZ)
  have HB0 : Hid (Below w.heap.size w ((w.alloc (.cells #[.int .i64 g, .int .i64 b, .int .i64 s, .slice (some ⟨G, o, none⟩) l.length c] 26)).alloc (.cells Z 63))) := Lib.hid (below_two _ _ _)
  clear hk h5 hZ
  rcases hs with ⟨hs0, hb0, hS⟩ | ⟨hs0, hs1, hS⟩
  · subst hs0 hb0
    go_enter Tryd.func10, Tryd.ntmps10
    go_wp2
    have HN : Hid (NAt ((w.alloc (.cells #[.int .i64 g, .int .i64 0, .int .i64 0, .slice (some ⟨G, o, none⟩) l.length c] 26)).alloc (.cells Z 63)) (w.heap.size + 1) S) := Lib.hid (by rw [hS]; have := W0.out; rw [World.size_alloc] at this; exact this)
    have HBN := HB0
    clear W0 HB0 hS
    go_loopw [52] (fun i wr => ∃ (k : Nat) (T : Nat → Bool), i = .int .i64 (k : Int) ∧ k ≤ l.length ∧ Hid (NAt wr (w.heap.size + 1) T) ∧ Hid (dis T (l.drop k) = dis S l) ∧ Hid (Below w.heap.size w wr)) (fun i _ => l.length - (intOf i).toNat)
    case atStart => exact ⟨0, S, rfl, by omega, HN, Lib.hid rfl, HBN⟩
    case round =>
      obtain ⟨k, T, rfl, hk, HW, HD, HB⟩ := hrel
      by_cases hlt : k < l.length
      · have hcell := ((HK.out.below HB.out (Nat.le_refl _)).at k hlt)
        have hkc : k < c := by omega
        have hdr := dis_drop T hlt
        have HC := Lib.hid (nadd_any (w.heap.size + 1) T l[k] wr HW.out)
        cases had : ad T l[k]
        · rw [had] at HC hdr
          have HX : Hid (dis S l = false) := Lib.hid (by rw [← HD.out, hdr]; rfl)
          clear hdr had
          generalize l[k] = t at *
          go_wp2_with fail
          refine HC.out.mono ?_
          rintro e w2 ⟨rfl, hn, hg⟩
          have HB2 := Lib.hid (below_grown HB.out hg HB.out.size (by omega))
          clear hn hg
          go_wp2
          go_ret
          exact ⟨by rw [HX.out]; rfl, HB2.out⟩
        · rw [had] at HC hdr
          have HX : Hid (dis (mark T l[k].toNat) (l.drop (k + 1)) = dis S l) := Lib.hid (by rw [← HD.out, hdr]; rfl)
          clear hdr had
          generalize l[k] = t at *
          go_wp2_with fail
          refine HC.out.mono ?_
          rintro e w2 ⟨rfl, hn, hg⟩
          have HB2 := Lib.hid (below_grown HB.out hg HB.out.size (by omega))
          have HN2 := Lib.hid hn
          clear hn hg
          go_wp2
          go_roundw
          case rel => exact ⟨k + 1, mark T t.toNat, by go_num, by omega, HN2, HX, HB2⟩
          case measure => simp [intOf]; omega
      · have HX : Hid (dis S l = true) := Lib.hid (by rw [← HD.out, List.drop_of_length_le (by omega)]; rfl)
        have hlt2 : ¬ ((k : Int) < (l.length : Int)) := by omega
        go_wp2
        go_ret
        exact ⟨by rw [HX.out]; rfl, HB.out⟩
  · have hsn : (s == 0) = false := by rw [beq_eq_false_iff_ne]; exact hs0
    have HC := Lib.hid (nadd_any (w.heap.size + 1) no32 s _ (by have := W0.out; rw [World.size_alloc] at this; exact this))
    rw [hs1, if_pos rfl] at HC
    go_enter Tryd.func10, Tryd.ntmps10
    go_wp2_with fail
    refine HC.out.mono ?_
    rintro e w1 ⟨rfl, hn, hg⟩
    have HN : Hid (NAt w1 (w.heap.size + 1) S) := Lib.hid (by rw [hS]; exact hn)
    have HBN : Hid (Below w.heap.size w w1) := Lib.hid (below_grown HB0.out hg HB0.out.size (by omega))
    have b3 : w1.cell? ⟨w.heap.size, 3, none⟩ = some (.slice (some ⟨G, o, none⟩) l.length c) := (World.cell?_of_block (a := ⟨w.heap.size, 3, none⟩) (hg.block _ (by simp; omega) (by simp))).trans (by simp)
    clear W0 HB0 hS HC hn hg
    go_wp2
    go_loopw [52] (fun i wr => ∃ (k : Nat) (T : Nat → Bool), i = .int .i64 (k : Int) ∧ k ≤ l.length ∧ Hid (NAt wr (w.heap.size + 1) T) ∧ Hid (dis T (l.drop k) = dis S l) ∧ Hid (Below w.heap.size w wr)) (fun i _ => l.length - (intOf i).toNat)
    case atStart => exact ⟨0, S, rfl, by omega, HN, Lib.hid rfl, HBN⟩
    case round =>
      obtain ⟨k, T, rfl, hk, HW, HD, HB⟩ := hrel
      by_cases hlt : k < l.length
      · have hcell := ((HK.out.below HB.out (Nat.le_refl _)).at k hlt)
        have hkc : k < c := by omega
        have hdr := dis_drop T hlt
        have HC := Lib.hid (nadd_any (w.heap.size + 1) T l[k] wr HW.out)
        cases had : ad T l[k]
        · rw [had] at HC hdr
          have HX : Hid (dis S l = false) := Lib.hid (by rw [← HD.out, hdr]; rfl)
          clear hdr had
          generalize l[k] = t at *
          go_wp2_with fail
          refine HC.out.mono ?_
          rintro e w2 ⟨rfl, hn, hg⟩
          have HB2 := Lib.hid (below_grown HB.out hg HB.out.size (by omega))
          clear hn hg
          go_wp2
          go_ret
          exact ⟨by rw [HX.out]; rfl, HB2.out⟩
        · rw [had] at HC hdr
          have HX : Hid (dis (mark T l[k].toNat) (l.drop (k + 1)) = dis S l) := Lib.hid (by rw [← HD.out, hdr]; rfl)
          clear hdr had
          generalize l[k] = t at *
          go_wp2_with fail
          refine HC.out.mono ?_
          rintro e w2 ⟨rfl, hn, hg⟩
          have HB2 := Lib.hid (below_grown HB.out hg HB.out.size (by omega))
          have HN2 := Lib.hid hn
          clear hn hg
          go_wp2
          go_roundw
          case rel => exact ⟨k + 1, mark T t.toNat, by go_num, by omega, HN2, HX, HB2⟩
          case measure => simp [intOf]; omega
      · have HX : Hid (dis S l = true) := Lib.hid (by rw [← HD.out, List.drop_of_length_le (by omega)]; rfl)
        have hlt2 : ¬ ((k : Int) < (l.length : Int)) := by omega
        go_wp2
        go_ret
        exact ⟨by rw [HX.out]; rfl, HB.out⟩
set_option maxHeartbeats 400000 in
theorem may_1 (g b s : Int) (l : List Int) (a : Option Addr) (c : Nat) (w : World) (hl : l.length ≤ 9223372036854775807) (h1 : g < 1) : Calls Tryd.prog 10 #[hval ⟨g, b, s, l⟩ (.slice a l.length c)] w (Ret w (.bool false)) := by
  unfold hval
  dsimp only
  go_enter Tryd.func10, Tryd.ntmps10
  go_wp2
  go_ret
  exact ⟨rfl, below_one _ _⟩
set_option maxHeartbeats 400000 in
theorem may_2 (g b s : Int) (l : List Int) (a : Option Addr) (c : Nat) (w : World) (hl : l.length ≤ 9223372036854775807) (h1 : 1 ≤ g) (h2 : 1099511627776 < g) : Calls Tryd.prog 10 #[hval ⟨g, b, s, l⟩ (.slice a l.length c)] w (Ret w (.bool false)) := by
  unfold hval
  dsimp only
  go_enter Tryd.func10, Tryd.ntmps10
  go_wp2
  go_ret
  exact ⟨rfl, below_one _ _⟩
set_option maxHeartbeats 400000 in
theorem may_3 (g b s : Int) (l : List Int) (a : Option Addr) (c : Nat) (w : World) (hl : l.length ≤ 9223372036854775807) (h1 : 1 ≤ g) (h2 : g ≤ 1099511627776) (h3 : b < 0) : Calls Tryd.prog 10 #[hval ⟨g, b, s, l⟩ (.slice a l.length c)] w (Ret w (.bool false)) := by
  unfold hval
  dsimp only
  go_enter Tryd.func10, Tryd.ntmps10
  go_wp2
  go_ret
  exact ⟨rfl, below_one _ _⟩
set_option maxHeartbeats 400000 in
theorem may_4 (g b s : Int) (l : List Int) (a : Option Addr) (c : Nat) (w : World) (hl : l.length ≤ 9223372036854775807) (h1 : 1 ≤ g) (h2 : g ≤ 1099511627776) (h3 : 0 ≤ b) (h4 : 1099511627776 < b) : Calls Tryd.prog 10 #[hval ⟨g, b, s, l⟩ (.slice a l.length c)] w (Ret w (.bool false)) := by
  unfold hval
  dsimp only
  go_enter Tryd.func10, Tryd.ntmps10
  go_wp2
  go_ret
  exact ⟨rfl, below_one _ _⟩
set_option maxHeartbeats 400000 in
theorem may_5 (g b s : Int) (l : List Int) (a : Option Addr) (c : Nat) (w : World) (hl : l.length ≤ 9223372036854775807) (h1 : 1 ≤ g) (h2 : g ≤ 1099511627776) (h3 : 0 ≤ b) (h4 : b ≤ 1099511627776) (h5 : l.length = 0) : Calls Tryd.prog 10 #[hval ⟨g, b, s, l⟩ (.slice a l.length c)] w (Ret w (.bool false)) := by
  unfold hval
  dsimp only
  have hl0 : ((l.length : Int) == 0) = true := by rw [beq_iff_eq]; omega
  go_enter Tryd.func10, Tryd.ntmps10
  go_wp2
  go_ret
  exact ⟨rfl, below_one _ _⟩
theorem below_twoN (w : World) (o p : Obj) : Below w.heap.size w ((w.alloc o).alloc p) := below_two _ _ _
set_option maxHeartbeats 400000 in
theorem may_6 (g b s : Int) (l : List Int) (a : Option Addr) (c : Nat) (w : World) (hl : l.length ≤ 9223372036854775807) (h1 : 1 ≤ g) (h2 : g ≤ 1099511627776) (h3 : 0 ≤ b) (h4 : b ≤ 1099511627776) (h5 : l.length ≠ 0) (h6 : s = 0) (h7 : b ≠ 0) : Calls Tryd.prog 10 #[hval ⟨g, b, s, l⟩ (.slice a l.length c)] w (Ret w (.bool false)) := by
  subst h6
  have hl0 : ((l.length : Int) == 0) = false := by rw [beq_eq_false_iff_ne]; omega
  have hb0 : (b != 0) = true := by rw [bne_iff_ne]; exact h7
  obtain ⟨Z, hz, hZ⟩ := zero63
  clear hZ
  unfold hval
  dsimp only
  go_enter Tryd.func10, Tryd.ntmps10
  go_wp2
  go_ret
  exact ⟨rfl, below_two _ _ _⟩
set_option maxHeartbeats 400000 in
theorem may_7 (g b s : Int) (l : List Int) (a : Option Addr) (c : Nat) (w : World) (hl : l.length ≤ 9223372036854775807) (h1 : 1 ≤ g) (h2 : g ≤ 1099511627776) (h3 : 0 ≤ b) (h4 : b ≤ 1099511627776) (h5 : l.length ≠ 0) (h6 : s ≠ 0) (h7 : ad no32 s = false) : Calls Tryd.prog 10 #[hval ⟨g, b, s, l⟩ (.slice a l.length c)] w (Ret w (.bool false)) := by
  have hl0 : ((l.length : Int) == 0) = false := by rw [beq_eq_false_iff_ne]; omega
  have hsn : (s == 0) = false := by rw [beq_eq_false_iff_ne]; exact h6
  obtain ⟨Z, hz, hZ⟩ := zero63
  have HC := Lib.hid (nadd_any (w.heap.size + 1) no32 s ((w.alloc (.cells #[.int .i64 g, .int .i64 b, .int .i64 s, .slice a l.length c] 26)).alloc (.cells Z 63)) (by have := NAt.new (w := w.alloc (.cells #[.int .i64 g, .int .i64 b, .int .i64 s, .slice a l.length c] 26)) hZ; rw [World.size_alloc] at this; exact this))
  have HB0 : Hid (Below w.heap.size w ((w.alloc (.cells #[.int .i64 g, .int .i64 b, .int .i64 s, .slice a l.length c] 26)).alloc (.cells Z 63))) := Lib.hid (below_two _ _ _)
  rw [h7, if_neg (by simp)] at HC
  clear hZ
  unfold hval
  dsimp only
  go_enter Tryd.func10, Tryd.ntmps10
  go_wp2_with fail
  refine HC.out.mono ?_
  rintro e w1 ⟨rfl, hn, hg⟩
  have HBN : Hid (Below w.heap.size w w1) := Lib.hid (below_grown HB0.out hg HB0.out.size (by omega))
  clear hn hg
  go_wp2
  go_ret
  exact ⟨rfl, HBN.out⟩
theorem may_any (h : He) (v : Value) (w : World) (hk : KAt w v h.log) (hl : h.log.length ≤ 9223372036854775807) : Calls Tryd.prog 10 #[hval h v] w (Ret w (.bool (mayB h))) := by
  obtain ⟨g, b, s, l⟩ := h
  obtain ⟨a, c, rfl⟩ := hk.slice
  unfold mayB gtop
  dsimp only at *
  by_cases h1 : g < 1
  · rw [if_pos h1]; exact may_1 g b s l a c w hl h1
  rw [if_neg h1]
  by_cases h2 : 1099511627776 < g
  · rw [if_pos h2]; exact may_2 g b s l a c w hl (by omega) h2
  rw [if_neg h2]
  by_cases h3 : b < 0
  · rw [if_pos h3]; exact may_3 g b s l a c w hl (by omega) (by omega) h3
  rw [if_neg h3]
  by_cases h4 : 1099511627776 < b
  · rw [if_pos h4]; exact may_4 g b s l a c w hl (by omega) (by omega) (by omega) h4
  rw [if_neg h4]
  by_cases h5 : l = []
  · rw [if_pos h5]; exact may_5 g b s l a c w hl (by omega) (by omega) (by omega) (by omega) (by rw [h5]; rfl)
  rw [if_neg h5]
  have h5' : l.length ≠ 0 := fun e => h5 (List.eq_nil_of_length_eq_zero e)
  by_cases h6 : s = 0
  · rw [if_pos h6]
    by_cases h7 : b = 0
    · rw [if_neg (fun hh => hh h7)]
      exact may_in g b s l _ w hk hl (by omega) (by omega) (by omega) (by omega) h5 _ (.inl ⟨h6, h7, rfl⟩)
    · rw [if_pos h7]
      exact may_6 g b s l a c w hl (by omega) (by omega) (by omega) (by omega) h5' h6 h7
  · rw [if_neg h6]
    cases h7 : ad no32 s
    · rw [if_neg (by simp)]
      exact may_7 g b s l a c w hl (by omega) (by omega) (by omega) (by omega) h5' h6 h7
    · rw [if_pos rfl]
      exact may_in g b s l _ w hk hl (by omega) (by omega) (by omega) (by omega) h5 _ (.inr ⟨h6, h7, rfl⟩)
end Go.Proofs.YtpcpbdcdapmlnaaDoor
