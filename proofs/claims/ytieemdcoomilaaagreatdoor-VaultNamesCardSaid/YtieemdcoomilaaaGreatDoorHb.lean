/- May. -/
import Derived.Test.YtieemdcoomilaaaGreatDoorDt
set_option linter.unusedVariables false
set_option linter.unusedSimpArgs false
namespace Go.Proofs.YtieemdcoomilaaaGreatDoor
open Go Go.RowKit
set_option maxRecDepth 100000
theorem KAt.at {w : World} {g o c n : Nat} {l : List Int} (h : KAt w (.slice (some ⟨g, o, none⟩) n c) l) (j : Nat) (hj : j < l.length) : w.cell? ⟨g, o + j, none⟩ = some (.int .i64 l[j]) := by
  rcases h with ⟨rfl, _⟩ | ⟨g', o', c', e, _, h⟩
  · simp at hj
  · cases e
    exact h j hj
theorem KAt.below {w w' : World} {v : Value} {l : List Int} {m : Nat} (h : KAt w v l) (hb : Below m w w') (hm : w.heap.size ≤ m) : KAt w' v l := h.same fun g hg _ => hb.block g (by omega)
theorem KAt.pos {w : World} {v : Value} {l : List Int} (h : KAt w v l) (hl : l ≠ []) : ∃ g o c, v = .slice (some ⟨g, o, none⟩) l.length c ∧ l.length ≤ c := by
  rcases h with ⟨rfl, _⟩ | ⟨g', o', c', e, hc, h⟩
  · exact absurd rfl hl
  · exact ⟨g', o', c', e, hc⟩
theorem dis_drop (S : Nat → Bool) {l : List Int} {k : Nat} (hk : k < l.length) : dis S (l.drop k) = if ad S l[k] = true then dis (mark S l[k].toNat) (l.drop (k + 1)) else false := by
  rw [List.drop_eq_getElem_cons hk]; rfl
theorem not_ad {S : Nat → Bool} {t : Int} (h : ad S t = false) : ¬ (ad S t = true) := by simp [h]
set_option maxHeartbeats 1000000 in
theorem may_in (g b s : Int) (l : List Int) (v : Value) (w : World) (hk : KAt w v l) (hl : l.length ≤ 9223372036854775807) (h1 : 1 ≤ g) (h2 : g ≤ 1099511627776) (h3 : 0 ≤ b) (h4 : b ≤ 1099511627776) (h5 : l ≠ []) (S : Nat → Bool)
    (hs : (s = 0 ∧ b = 0 ∧ S = no32) ∨ (s ≠ 0 ∧ ad no32 s = true ∧ S = mark no32 s.toNat)) :
    Calls Tryz.prog 148 #[hval ⟨g, b, s, l⟩ v] w (Ret w (.bool (dis S l))) := by
  obtain ⟨G, o, c, rfl, hc⟩ := hk.pos h5
  have hp : 0 < l.length := List.length_pos_iff.2 h5
  have hl0 : ((l.length : Int) == 0) = false := by rw [beq_eq_false_iff_ne]; omega
  have HK := Lib.hid hk
  obtain ⟨Z, hz, hZ⟩ := zero63
  unfold hval
  dsimp only
  have W0 := Lib.hid (NAt.new (w := w.alloc (.cells #[.int .i64 g, .int .i64 b, .int .i64 s, .slice (some ⟨G, o, none⟩) l.length c] 40)) hZ)
  have HB0 : Hid (Below w.heap.size w ((w.alloc (.cells #[.int .i64 g, .int .i64 b, .int .i64 s, .slice (some ⟨G, o, none⟩) l.length c] 40)).alloc (.cells Z 195))) := Lib.hid (below_two _ _ _)
  clear hk h5 hZ
  rcases hs with ⟨hs0, hb0, hS⟩ | ⟨hs0, hs1, hS⟩
  · subst hs0 hb0
    go_enter Tryz.func148, Tryz.ntmps148
    go_wp2
    have HN : Hid (NAt ((w.alloc (.cells #[.int .i64 g, .int .i64 0, .int .i64 0, .slice (some ⟨G, o, none⟩) l.length c] 40)).alloc (.cells Z 195)) (w.heap.size + 1) S) := Lib.hid (by rw [hS]; have := W0.out; rw [World.size_alloc] at this; exact this)
    have HBN := HB0
    clear W0 HB0 hS
    go_loopw [52] (fun i wr => ∃ (k : Nat) (T : Nat → Bool), i = .int .i64 (k : Int) ∧ k ≤ l.length ∧ Hid (NAt wr (w.heap.size + 1) T) ∧ Hid (dis T (l.drop k) = dis S l) ∧ Hid (Below w.heap.size w wr)) (fun i _ => l.length - (intOf i).toNat)
    case atStart => exact ⟨0, S, rfl, by omega, HN, Lib.hid rfl, HBN⟩
    case round =>
      obtain ⟨k, T, rfl, hk, HW, HD, HB⟩ := hrel
      by_cases hlt : k < l.length
      · have hcell := ((HK.out.below HB.out (Nat.le_refl _)).at k hlt)
        have hkc : k < c := by omega
        have hdr := dis_drop T hlt
        have HC := Lib.hid (nadd_any (w.heap.size + 1) T l[k] wr HW.out)
        cases had : ad T l[k]
        · rw [had] at HC hdr
          have HX : Hid (dis S l = false) := Lib.hid (by rw [← HD.out, hdr]; rfl)
          clear hdr had
          generalize l[k] = t at *
          go_wp2_with fail
          refine HC.out.mono ?_
          rintro e w2 ⟨rfl, hn, hg⟩
          have HB2 := Lib.hid (below_grown HB.out hg HB.out.size (by omega))
          clear hn hg
          go_wp2
          go_ret
          exact ⟨by rw [HX.out]; rfl, HB2.out⟩
        · rw [had] at HC hdr
          have HX : Hid (dis (mark T l[k].toNat) (l.drop (k + 1)) = dis S l) := Lib.hid (by rw [← HD.out, hdr]; rfl)
          clear hdr had
          generalize l[k] = t at *
          go_wp2_with fail
          refine HC.out.mono ?_
          rintro e w2 ⟨rfl, hn, hg⟩
          have HB2 := Lib.hid (below_grown HB.out hg HB.out.size (by omega))
          have HN2 := Lib.hid hn
          clear hn hg
          go_wp2
          go_roundw
          case rel => exact ⟨k + 1, mark T t.toNat, by go_num, by omega, HN2, HX, HB2⟩
          case measure => simp [intOf]; omega
      · have HX : Hid (dis S l = true) := Lib.hid (by rw [← HD.out, List.drop_of_length_le (by omega)]; rfl)
        have hlt2 : ¬ ((k : Int) < (l.length : Int)) := by omega
        go_wp2
        go_ret
        exact ⟨by rw [HX.out]; rfl, HB.out⟩
  · have hsn : (s == 0) = false := by rw [beq_eq_false_iff_ne]; exact hs0
    have HC := Lib.hid (nadd_any (w.heap.size + 1) no32 s _ (by have := W0.out; rw [World.size_alloc] at this; exact this))
    rw [hs1, if_pos rfl] at HC
    go_enter Tryz.func148, Tryz.ntmps148
    go_wp2_with fail
    refine HC.out.mono ?_
    rintro e w1 ⟨rfl, hn, hg⟩
    have HN : Hid (NAt w1 (w.heap.size + 1) S) := Lib.hid (by rw [hS]; exact hn)
    have HBN : Hid (Below w.heap.size w w1) := Lib.hid (below_grown HB0.out hg HB0.out.size (by omega))
    have b3 : w1.cell? ⟨w.heap.size, 3, none⟩ = some (.slice (some ⟨G, o, none⟩) l.length c) := (World.cell?_of_block (a := ⟨w.heap.size, 3, none⟩) (hg.block _ (by simp; omega) (by simp))).trans (by simp)
    clear W0 HB0 hS HC hn hg
    go_wp2
    go_loopw [52] (fun i wr => ∃ (k : Nat) (T : Nat → Bool), i = .int .i64 (k : Int) ∧ k ≤ l.length ∧ Hid (NAt wr (w.heap.size + 1) T) ∧ Hid (dis T (l.drop k) = dis S l) ∧ Hid (Below w.heap.size w wr)) (fun i _ => l.length - (intOf i).toNat)
    case atStart => exact ⟨0, S, rfl, by omega, HN, Lib.hid rfl, HBN⟩
    case round =>
      obtain ⟨k, T, rfl, hk, HW, HD, HB⟩ := hrel
      by_cases hlt : k < l.length
      · have hcell := ((HK.out.below HB.out (Nat.le_refl _)).at k hlt)
        have hkc : k < c := by omega
        have hdr := dis_drop T hlt
        have HC := Lib.hid (nadd_any (w.heap.size + 1) T l[k] wr HW.out)
        cases had : ad T l[k]
        · rw [had] at HC hdr
          have HX : Hid (dis S l = false) := Lib.hid (by rw [← HD.out, hdr]; rfl)
          clear hdr had
          generalize l[k] = t at *
          go_wp2_with fail
          refine HC.out.mono ?_
          rintro e w2 ⟨rfl, hn, hg⟩
          have HB2 := Lib.hid (below_grown HB.out hg HB.out.size (by omega))
          clear hn hg
          go_wp2
          go_ret
          exact ⟨by rw [HX.out]; rfl, HB2.out⟩
        · rw [had] at HC hdr
          have HX : Hid (dis (mark T l[k].toNat) (l.drop (k + 1)) = dis S l) := Lib.hid (by rw [← HD.out, hdr]; rfl)
          clear hdr had
          generalize l[k] = t at *
          go_wp2_with fail
          refine HC.out.mono ?_
          rintro e w2 ⟨rfl, hn, hg⟩
          have HB2 := Lib.hid (below_grown HB.out hg HB.out.size (by omega))
          have HN2 := Lib.hid hn
          clear hn hg
          go_wp2
          go_roundw
          case rel => exact ⟨k + 1, mark T t.toNat, by go_num, by omega, HN2, HX, HB2⟩
          case measure => simp [intOf]; omega
      · have HX : Hid (dis S l = true) := Lib.hid (by rw [← HD.out, List.drop_of_length_le (by omega)]; rfl)
        have hlt2 : ¬ ((k : Int) < (l.length : Int)) := by omega
        go_wp2
        go_ret
        exact ⟨by rw [HX.out]; rfl, HB.out⟩
set_option maxHeartbeats 400000 in
theorem may_1 (g b s : Int) (l : List Int) (a : Option Addr) (c : Nat) (w : World) (hl : l.length ≤ 9223372036854775807) (h1 : g < 1) : Calls Tryz.prog 148 #[hval ⟨g, b, s, l⟩ (.slice a l.length c)] w (Ret w (.bool false)) := by
  unfold hval
  dsimp only
  go_enter Tryz.func148, Tryz.ntmps148
  go_wp2
  go_ret
  exact ⟨rfl, below_one _ _⟩
set_option maxHeartbeats 400000 in
theorem may_2 (g b s : Int) (l : List Int) (a : Option Addr) (c : Nat) (w : World) (hl : l.length ≤ 9223372036854775807) (h1 : 1 ≤ g) (h2 : 1099511627776 < g) : Calls Tryz.prog 148 #[hval ⟨g, b, s, l⟩ (.slice a l.length c)] w (Ret w (.bool false)) := by
  unfold hval
  dsimp only
  go_enter Tryz.func148, Tryz.ntmps148
  go_wp2
  go_ret
  exact ⟨rfl, below_one _ _⟩
set_option maxHeartbeats 400000 in
theorem may_3 (g b s : Int) (l : List Int) (a : Option Addr) (c : Nat) (w : World) (hl : l.length ≤ 9223372036854775807) (h1 : 1 ≤ g) (h2 : g ≤ 1099511627776) (h3 : b < 0) : Calls Tryz.prog 148 #[hval ⟨g, b, s, l⟩ (.slice a l.length c)] w (Ret w (.bool false)) := by
  unfold hval
  dsimp only
  go_enter Tryz.func148, Tryz.ntmps148
  go_wp2
  go_ret
  exact ⟨rfl, below_one _ _⟩
set_option maxHeartbeats 400000 in
theorem may_4 (g b s : Int) (l : List Int) (a : Option Addr) (c : Nat) (w : World) (hl : l.length ≤ 9223372036854775807) (h1 : 1 ≤ g) (h2 : g ≤ 1099511627776) (h3 : 0 ≤ b) (h4 : 1099511627776 < b) : Calls Tryz.prog 148 #[hval ⟨g, b, s, l⟩ (.slice a l.length c)] w (Ret w (.bool false)) := by
  unfold hval
  dsimp only
  go_enter Tryz.func148, Tryz.ntmps148
  go_wp2
  go_ret
  exact ⟨rfl, below_one _ _⟩
set_option maxHeartbeats 400000 in
theorem may_5 (g b s : Int) (l : List Int) (a : Option Addr) (c : Nat) (w : World) (hl : l.length ≤ 9223372036854775807) (h1 : 1 ≤ g) (h2 : g ≤ 1099511627776) (h3 : 0 ≤ b) (h4 : b ≤ 1099511627776) (h5 : l.length = 0) : Calls Tryz.prog 148 #[hval ⟨g, b, s, l⟩ (.slice a l.length c)] w (Ret w (.bool false)) := by
  unfold hval
  dsimp only
  have hl0 : ((l.length : Int) == 0) = true := by rw [beq_iff_eq]; omega
  go_enter Tryz.func148, Tryz.ntmps148
  go_wp2
  go_ret
  exact ⟨rfl, below_one _ _⟩
theorem below_twoN (w : World) (o p : Obj) : Below w.heap.size w ((w.alloc o).alloc p) := below_two _ _ _
set_option maxHeartbeats 400000 in
theorem may_6 (g b s : Int) (l : List Int) (a : Option Addr) (c : Nat) (w : World) (hl : l.length ≤ 9223372036854775807) (h1 : 1 ≤ g) (h2 : g ≤ 1099511627776) (h3 : 0 ≤ b) (h4 : b ≤ 1099511627776) (h5 : l.length ≠ 0) (h6 : s = 0) (h7 : b ≠ 0) : Calls Tryz.prog 148 #[hval ⟨g, b, s, l⟩ (.slice a l.length c)] w (Ret w (.bool false)) := by
  subst h6
  have hl0 : ((l.length : Int) == 0) = false := by rw [beq_eq_false_iff_ne]; omega
  have hb0 : (b != 0) = true := by rw [bne_iff_ne]; exact h7
  obtain ⟨Z, hz, hZ⟩ := zero63
  clear hZ
  unfold hval
  dsimp only
  go_enter Tryz.func148, Tryz.ntmps148
  go_wp2
  go_ret
  exact ⟨rfl, below_two _ _ _⟩
set_option maxHeartbeats 400000 in
theorem may_7 (g b s : Int) (l : List Int) (a : Option Addr) (c : Nat) (w : World) (hl : l.length ≤ 9223372036854775807) (h1 : 1 ≤ g) (h2 : g ≤ 1099511627776) (h3 : 0 ≤ b) (h4 : b ≤ 1099511627776) (h5 : l.length ≠ 0) (h6 : s ≠ 0) (h7 : ad no32 s = false) : Calls Tryz.prog 148 #[hval ⟨g, b, s, l⟩ (.slice a l.length c)] w (Ret w (.bool false)) := by
  have hl0 : ((l.length : Int) == 0) = false := by rw [beq_eq_false_iff_ne]; omega
  have hsn : (s == 0) = false := by rw [beq_eq_false_iff_ne]; exact h6
  obtain ⟨Z, hz, hZ⟩ := zero63
  have HC := Lib.hid (nadd_any (w.heap.size + 1) no32 s ((w.alloc (.cells #[.int .i64 g, .int .i64 b, .int .i64 s, .slice a l.length c] 40)).alloc (.cells Z 195)) (by have := NAt.new (w := w.alloc (.cells #[.int .i64 g, .int .i64 b, .int .i64 s, .slice a l.length c] 40)) hZ; rw [World.size_alloc] at this; exact this))
  have HB0 : Hid (Below w.heap.size w ((w.alloc (.cells #[.int .i64 g, .int .i64 b, .int .i64 s, .slice a l.length c] 40)).alloc (.cells Z 195))) := Lib.hid (below_two _ _ _)
  rw [h7, if_neg (by simp)] at HC
  clear hZ
  unfold hval
  dsimp only
  go_enter Tryz.func148, Tryz.ntmps148
  go_wp2_with fail
  refine HC.out.mono ?_
  rintro e w1 ⟨rfl, hn, hg⟩
  have HBN : Hid (Below w.heap.size w w1) := Lib.hid (below_grown HB0.out hg HB0.out.size (by omega))
  clear hn hg
  go_wp2
  go_ret
  exact ⟨rfl, HBN.out⟩
theorem may_any (h : He) (v : Value) (w : World) (hk : KAt w v h.log) (hl : h.log.length ≤ 9223372036854775807) : Calls Tryz.prog 148 #[hval h v] w (Ret w (.bool (mayB h))) := by
  obtain ⟨g, b, s, l⟩ := h
  obtain ⟨a, c, rfl⟩ := hk.slice
  unfold mayB gtop
  dsimp only at *
  by_cases h1 : g < 1
  · rw [if_pos h1]; exact may_1 g b s l a c w hl h1
  rw [if_neg h1]
  by_cases h2 : 1099511627776 < g
  · rw [if_pos h2]; exact may_2 g b s l a c w hl (by omega) h2
  rw [if_neg h2]
  by_cases h3 : b < 0
  · rw [if_pos h3]; exact may_3 g b s l a c w hl (by omega) (by omega) h3
  rw [if_neg h3]
  by_cases h4 : 1099511627776 < b
  · rw [if_pos h4]; exact may_4 g b s l a c w hl (by omega) (by omega) (by omega) h4
  rw [if_neg h4]
  by_cases h5 : l = []
  · rw [if_pos h5]; exact may_5 g b s l a c w hl (by omega) (by omega) (by omega) (by omega) (by rw [h5]; rfl)
  rw [if_neg h5]
  have h5' : l.length ≠ 0 := fun e => h5 (List.eq_nil_of_length_eq_zero e)
  by_cases h6 : s = 0
  · rw [if_pos h6]
    by_cases h7 : b = 0
    · rw [if_neg (fun hh => hh h7)]
      exact may_in g b s l _ w hk hl (by omega) (by omega) (by omega) (by omega) h5 _ (.inl ⟨h6, h7, rfl⟩)
    · rw [if_pos h7]
      exact may_6 g b s l a c w hl (by omega) (by omega) (by omega) (by omega) h5' h6 h7
  · rw [if_neg h6]
    cases h7 : ad no32 s
    · rw [if_neg (by simp)]
      exact may_7 g b s l a c w hl (by omega) (by omega) (by omega) (by omega) h5' h6 h7
    · rw [if_pos rfl]
      exact may_in g b s l _ w hk hl (by omega) (by omega) (by omega) (by omega) h5 _ (.inr ⟨h6, h7, rfl⟩)
end Go.Proofs.YtieemdcoomilaaaGreatDoor
namespace Go.Proofs.YtieemdcoomilaaaGreatDoor
open Go Go.RowKit
set_option maxRecDepth 100000
/-- How many tapes below n may still be named. -/
def fr (S : Nat → Bool) : Nat → Nat
  | 0 => 0
  | n + 1 => fr S n + (if 2 ≤ n ∧ S n = false then 1 else 0)
theorem fr_mark (S : Nat → Bool) (t : Nat) (ht : 2 ≤ t) (hS : S t = false) : ∀ n, fr (mark S t) n + (if t < n then 1 else 0) = fr S n
  | 0 => rfl
  | n + 1 => by
    have ih := fr_mark S t ht hS n
    unfold fr
    by_cases e : n = t
    · subst e
      rw [if_neg (by omega)] at ih
      have h1 : mark S n n = true := by unfold mark; rw [if_pos rfl]
      rw [if_pos (show n < n + 1 by omega), if_neg (show ¬ (2 ≤ n ∧ mark S n n = false) by rw [h1]; simp), if_pos (show 2 ≤ n ∧ S n = false from ⟨ht, hS⟩)]
      omega
    · have h1 : mark S t n = S n := by unfold mark; rw [if_neg e]
      rw [h1]
      by_cases h2 : t < n
      · rw [if_pos h2] at ih; rw [if_pos (show t < n + 1 by omega)]; omega
      · rw [if_neg h2] at ih; rw [if_neg (show ¬ t < n + 1 by omega)]; omega
theorem ad_iff {S : Nat → Bool} {t : Int} : ad S t = true ↔ (2 ≤ t ∧ t < 32) ∧ S t.toNat = false := by
  unfold ad; simp
theorem dis_cons {S : Nat → Bool} {t : Int} {r : List Int} (h : dis S (t :: r) = true) : ad S t = true ∧ dis (mark S t.toNat) r = true := by
  unfold dis at h
  cases ha : ad S t
  · rw [ha] at h; simp at h
  · rw [ha, if_pos rfl] at h; exact ⟨rfl, h⟩
theorem dis_len : ∀ (l : List Int) (S : Nat → Bool), dis S l = true → l.length ≤ fr S 32
  | [], _, _ => Nat.zero_le _
  | t :: r, S, h => by
    obtain ⟨h1, h2⟩ := dis_cons h
    have ih := dis_len r _ h2
    obtain ⟨h3, h4⟩ := ad_iff.1 h1
    have := fr_mark S t.toNat (by omega) h4 32
    rw [if_pos (by omega)] at this
    simp only [List.length_cons]
    omega
theorem dis_mem : ∀ (l : List Int) (S : Nat → Bool), dis S l = true → ∀ t ∈ l, (2 ≤ t ∧ t < 32) ∧ S t.toNat = false
  | [], _, _, t, ht => by cases ht
  | u :: r, S, h, t, ht => by
    obtain ⟨h1, h2⟩ := dis_cons h
    obtain ⟨h3, h4⟩ := ad_iff.1 h1
    rcases List.mem_cons.1 ht with rfl | ht
    · exact ⟨h3, h4⟩
    · have := dis_mem r _ h2 t ht
      refine ⟨this.1, ?_⟩
      have h5 := this.2
      unfold mark at h5
      by_cases e : t.toNat = u.toNat
      · rw [if_pos e] at h5; cases h5
      · rw [if_neg e] at h5; exact h5
theorem fr_no32 : fr no32 32 = 30 := by decide
/-- What may be said of a head that may be. -/
structure He.ok (h : He) : Prop where
  g1 : 1 ≤ h.gen
  g2 : h.gen ≤ 1099511627776
  b1 : 0 ≤ h.base
  b2 : h.base ≤ 1099511627776
  s1 : 0 ≤ h.snap
  s2 : h.snap < 32
  ne : h.log ≠ []
  len : h.log.length ≤ 30
  mem : ∀ t ∈ h.log, 2 ≤ t ∧ t < 32
theorem mayB_ok {h : He} (hm : mayB h = true) : h.ok := by
  unfold mayB gtop at hm
  by_cases h1 : h.gen < 1
  · rw [if_pos h1] at hm; cases hm
  rw [if_neg h1] at hm
  by_cases h2 : 1099511627776 < h.gen
  · rw [if_pos h2] at hm; cases hm
  rw [if_neg h2] at hm
  by_cases h3 : h.base < 0
  · rw [if_pos h3] at hm; cases hm
  rw [if_neg h3] at hm
  by_cases h4 : 1099511627776 < h.base
  · rw [if_pos h4] at hm; cases hm
  rw [if_neg h4] at hm
  by_cases h5 : h.log = []
  · rw [if_pos h5] at hm; cases hm
  rw [if_neg h5] at hm
  by_cases h6 : h.snap = 0
  · rw [if_pos h6] at hm
    by_cases h7 : h.base ≠ 0
    · rw [if_pos h7] at hm; cases hm
    rw [if_neg h7] at hm
    have hl := dis_len _ _ hm
    rw [fr_no32] at hl
    exact ⟨by omega, by omega, by omega, by omega, by omega, by omega, h5, hl, fun t ht => (dis_mem _ _ hm t ht).1⟩
  · rw [if_neg h6] at hm
    cases h7 : ad no32 h.snap
    · rw [h7] at hm; simp at hm
    · rw [h7, if_pos rfl] at hm
      obtain ⟨h8, h9⟩ := ad_iff.1 h7
      have hl := dis_len _ _ hm
      have := fr_mark no32 h.snap.toNat (by omega) h9 32
      rw [fr_no32, if_pos (by omega)] at this
      exact ⟨by omega, by omega, by omega, by omega, by omega, by omega, h5, by omega, fun t ht => (dis_mem _ _ hm t ht).1⟩
/-- A head's payload. -/
def encL : List Int → List UInt8
  | [] => []
  | t :: r => Bt.vint t.toNat ++ encL r
def enc (h : He) : List UInt8 := Bt.vint h.gen.toNat ++ (Bt.vint h.base.toNat ++ (Bt.vint h.snap.toNat ++ (Bt.vint h.log.length ++ encL h.log)))
theorem encL_snoc : ∀ (l : List Int) (t : Int), encL (l ++ [t]) = encL l ++ Bt.vint t.toNat
  | [], t => by show Bt.vint t.toNat ++ [] = [] ++ _; simp
  | u :: r, t => by
    show Bt.vint u.toNat ++ encL (r ++ [t]) = (Bt.vint u.toNat ++ encL r) ++ _
    rw [encL_snoc r t, List.append_assoc]
theorem vint_len_le {n k : Nat} (h : n < 128 ^ (k + 1)) : (Bt.vint n).length ≤ k + 1 := by rw [Bt.vint_length]; exact Bt.vlen_le k n h
theorem encL_len : ∀ (l : List Int), (∀ t ∈ l, 2 ≤ t ∧ t < 32) → (encL l).length = l.length
  | [], _ => rfl
  | t :: r, h => by
    have h1 := h t (by simp)
    show (Bt.vint t.toNat ++ encL r).length = r.length + 1
    rw [List.length_append, encL_len r (fun u hu => h u (by simp [hu])), Bt.vint_length, Bt.vlen_small (by omega)]
    omega
theorem enc_len {h : He} (hm : h.ok) : (enc h).length ≤ 44 := by
  have h1 := hm.g1; have h2 := hm.g2; have h3 := hm.b1; have h4 := hm.b2; have h5 := hm.s1; have h6 := hm.s2; have h7 := hm.len
  have a := vint_len_le (n := h.gen.toNat) (k := 5) (by omega)
  have b := vint_len_le (n := h.base.toNat) (k := 5) (by omega)
  have c := vint_len_le (n := h.snap.toNat) (k := 0) (by omega)
  have d := vint_len_le (n := h.log.length) (k := 0) (by omega)
  have e := encL_len h.log hm.mem
  unfold enc
  simp only [List.length_append]
  omega
/-- A block of a head's four cells. -/
def Box4 (W : World) (B : Nat) (x y z u : Value) : Prop := W.heap[B]? = some (.cells #[x, y, z, u] 40 (0, 0))
section
variable {W W' : World} {B m : Nat} {x y z u : Value}
theorem Box4.lt (h : Box4 W B x y z u) : B < W.heap.size := (Array.getElem?_eq_some_iff.1 h).1
theorem Box4.c0 (h : Box4 W B x y z u) : W.cell? ⟨B, 0, none⟩ = some x := by simp [World.cell?, show W.heap[B]? = _ from h]
theorem Box4.c1 (h : Box4 W B x y z u) : W.cell? ⟨B, 1, none⟩ = some y := by simp [World.cell?, show W.heap[B]? = _ from h]
theorem Box4.c2 (h : Box4 W B x y z u) : W.cell? ⟨B, 2, none⟩ = some z := by simp [World.cell?, show W.heap[B]? = _ from h]
theorem Box4.c3 (h : Box4 W B x y z u) : W.cell? ⟨B, 3, none⟩ = some u := by simp [World.cell?, show W.heap[B]? = _ from h]
theorem Box4.free (h : Box4 W B x y z u) (j : Nat) : W.frozen? ⟨B, j, none⟩ = false := by simp [World.frozen?, show W.heap[B]? = _ from h]
theorem Box4.below (h : Box4 W B x y z u) (hb : Below m W W') (hm : B < m) : Box4 W' B x y z u := (hb.block B hm).trans h
theorem Box4.kept {row : Option Nat} (h : Box4 W B x y z u) (hg : W.grownBy W' row) (hne : some B ≠ row) : Box4 W' B x y z u := (hg.block B h.lt hne).trans h
theorem Box4.alloc (h : Box4 W B x y z u) (o : Obj) : Box4 (W.alloc o) B x y z u := (Below.heap_alloc W o B h.lt).trans h
theorem Box4.new (W : World) (x y z u : Value) : Box4 (W.alloc (.cells #[x, y, z, u] 40)) W.heap.size x y z u := heap_alloc_new W _
theorem Box4.apart {a : Addr} (h : Box4 W B x y z u) (ha : B ≠ a.block) (v : Value) : Box4 (W.setCell a v) B x y z u := (Below.heap_setCell W a v B ha).trans h
end
set_option maxHeartbeats 400000 in
theorem encode_no (h : He) (v : Value) (w : World) (hk : KAt w v h.log) (hl : h.log.length ≤ 9223372036854775807) (hm : mayB h = false) : Calls Tryz.prog 119 #[hval h v] w (Ret w (.tuple #[.string ⟨#[]⟩, .int .i64 4])) := by
  have H := may_any h v (w.alloc (.cells #[.int .i64 h.gen, .int .i64 h.base, .int .i64 h.snap, v] 40)) (hk.below (below_one w _) (Nat.le_refl _)) hl
  rw [hm] at H
  have H := Lib.hid H
  unfold hval at *
  obtain ⟨g, b, s, l⟩ := h
  dsimp only at *
  clear hk
  go_enter Tryz.func119, Tryz.ntmps119
  go_wp2_with fail
  refine H.out.mono ?_
  rintro e w1 ⟨rfl, hb⟩
  have HB := Lib.hid (below_trans' (below_one w _) hb)
  clear hb
  go_wp2
  go_ret2
  exact ⟨rfl, HB.out⟩
end Go.Proofs.YtieemdcoomilaaaGreatDoor
