/- The document's May, whole; Same, Uses. -/
import Derived.Test.YtpcpbdcdapmlnaaDoorJb
namespace Go.Proofs.YtpcpbdcdapmlnaaDoor
open Go Go.RowKit BigFrame
set_option maxRecDepth 100000
theorem rmay_any (h : He) (v : Value) (w : World) (hk : KAt w v h.log) (hl : h.log.length ≤ 9223372036854775807) : Calls Tryd.prog 23 #[hval h v] w (Ret w (.bool (mayB h))) := by
  obtain ⟨g, b, s, l⟩ := h
  obtain ⟨a, c, rfl⟩ := hk.slice
  dsimp only at *
  have HM := @Rf9.mayB_sn g b s l
  unfold mayB gtop at *
  dsimp only at *
  by_cases h1 : g < 1
  · rw [if_pos h1]; exact rmay_1 g b s l a c w hl h1
  by_cases h2 : 1099511627776 < g
  · rw [if_neg h1, if_pos h2]; exact rmay_2 g b s l a c w hl (by omega) h2
  by_cases h3 : b < 0
  · rw [if_neg h1, if_neg h2, if_pos h3]; exact rmay_3 g b s l a c w hl (by omega) (by omega) h3
  by_cases h4 : 1099511627776 < b
  · rw [if_neg h1, if_neg h2, if_neg h3, if_pos h4]; exact rmay_4 g b s l a c w hl (by omega) (by omega) (by omega) h4
  by_cases h5 : l = []
  · rw [if_neg h1, if_neg h2, if_neg h3, if_neg h4, if_pos h5]
    have h5' : l.length = 0 := by rw [h5]; rfl
    by_cases h6 : s = 0
    · by_cases h7 : b = 0
      · exact rmay_8 g b s l a c w hl (by omega) (by omega) (by omega) (by omega) h6 h7 h5'
      · exact rmay_7 g b s l a c w hl (by omega) (by omega) (by omega) (by omega) h6 h7
    · by_cases h7 : s < 2
      · exact rmay_5 g b s l a c w hl (by omega) (by omega) (by omega) (by omega) h7 h6
      · by_cases h8 : 31 < s
        · exact rmay_6 g b s l a c w hl (by omega) (by omega) (by omega) (by omega) h8
        · exact rmay_9 g b s l a c w hl (by omega) (by omega) (by omega) (by omega) (by omega) (by omega) h5'
  by_cases h6 : s = 0
  · by_cases h7 : b = 0
    · rw [HM (by omega) (by omega) (by omega) (by omega) (fun _ => h7) (fun e => absurd h6 e) h5]
      exact rmay_in g b s l _ w hk hl (by omega) (by omega) (by omega) (by omega) h5 (.inl ⟨h6, h7⟩)
    · rw [if_neg h1, if_neg h2, if_neg h3, if_neg h4, if_neg h5, if_pos h6, if_pos h7]
      exact rmay_7 g b s l a c w hl (by omega) (by omega) (by omega) (by omega) h6 h7
  · by_cases h7 : 2 ≤ s ∧ s < 32
    · rw [HM (by omega) (by omega) (by omega) (by omega) (fun e => absurd e h6) (fun _ => h7) h5]
      exact rmay_in g b s l _ w hk hl (by omega) (by omega) (by omega) (by omega) h5 (.inr ⟨h7.1, by omega⟩)
    · have e : ¬ (ad no32 s = true) := fun e => h7 (ad_iff.1 e).1
      rw [if_neg h1, if_neg h2, if_neg h3, if_neg h4, if_neg h5, if_neg h6, if_neg e]
      by_cases h8 : s < 2
      · exact rmay_5 g b s l a c w hl (by omega) (by omega) (by omega) (by omega) h8 h6
      · exact rmay_6 g b s l a c w hl (by omega) (by omega) (by omega) (by omega) (by omega)
/-- What the document's Uses tells. -/
def rusB (h : He) (t : Int) : Bool := (decide (t ≠ 0) && decide (h.snap = t)) || decide (t ∈ h.log)
theorem rusB_eq (h : He) (t : Int) : rusB h t = usB h t := by
  unfold rusB usB
  by_cases h1 : h.snap = t
  · rw [h1]
  · rw [decide_eq_false h1, Bool.and_false, Bool.and_false]
set_option maxHeartbeats 1000000 in
theorem ruses_in (g b s : Int) (l : List Int) (t : Int) (v : Value) (w : World) (hk : KAt w v l) (hl : l.length ≤ 9223372036854775807) (hs : t = 0 ∨ s ≠ t) : Calls Tryd.prog 27 #[hval ⟨g, b, s, l⟩ v, .int .i64 t] w (Ret w (.bool (decide (t ∈ l)))) := by
  have HX0 := Lib.hid (fun (G o : Nat) (c : Nat) => Box4.new w (.int .i64 g) (.int .i64 b) (.int .i64 s) (.slice (some ⟨G, o, none⟩) l.length c))
  have HK := Lib.hid hk
  have HMM := Lib.hid (fun (k : Nat) (hk : k < l.length) => show t ∈ l.take (k + 1) ↔ (t ∈ l.take k ∨ t = l[k]) from by rw [List.take_succ_eq_append_getElem hk, List.mem_append, List.mem_singleton])
  have HTL := Lib.hid (fun (k : Nat) (hk : l.length ≤ k) => show l.take k = l from List.take_of_length_le hk)
  have HIN := Lib.hid (fun (k : Nat) (hk : k < l.length) => List.getElem_mem hk)
  obtain ⟨a, c, rfl⟩ := hk.slice
  unfold hval
  dsimp only
  have X0 := Lib.hid (Box4.new w (.int .i64 g) (.int .i64 b) (.int .i64 s) (.slice a l.length c))
  have HB0 := Lib.hid (below_one w (.cells #[.int .i64 g, .int .i64 b, .int .i64 s, .slice a l.length c] 26))
  generalize hD : decide (t ∈ l) = D
  have HD := Lib.hid hD
  clear hD hk
  have key : ∀ (e0 : (t != 0) = false ∨ (t != 0) = true ∧ (s == t) = false), Calls Tryd.prog 27 #[.agg #[.int .i64 g, .int .i64 b, .int .i64 s, .slice a l.length c], .int .i64 t] w (Ret w (.bool D)) := by
    intro e0
    clear hs
    rcases e0 with e0 | ⟨e0, e1⟩
    all_goals
      go_enter Tryd.func27, Tryd.ntmps27
      go_wp2
      go_loopw [5] (fun i wl => ∃ k : Nat, i = .int .i64 (k : Int) ∧ k ≤ l.length ∧ Hid (¬ t ∈ l.take k) ∧ Hid (Box4 wl w.heap.size (.int .i64 g) (.int .i64 b) (.int .i64 s) (.slice a l.length c)) ∧ Hid (Below w.heap.size w wl)) (fun i _ => l.length - (intOf i).toNat)
      case atStart => exact ⟨0, rfl, by omega, Lib.hid (by simp), X0, HB0⟩
      case round =>
        obtain ⟨k, rfl, hk, HN, HX, HB⟩ := hrel
        have q3 := HX.out.c3
        by_cases hlt : k < l.length
        · obtain ⟨G, o, c', ee, hc⟩ := HK.out.pos (fun e => by rw [e] at hlt; exact absurd hlt (by simp))
          injection ee with ea en ec
          subst ea ec
          have hcell := (HK.out.below HB.out (Nat.le_refl _)).at k hlt
          have HM1 := Lib.hid (HMM.out k hlt)
          have HI1 := Lib.hid (HIN.out k hlt)
          generalize l[k] = x at *
          by_cases hx : x = t
          · have e4 : (x == t) = true := by rw [beq_iff_eq]; exact hx
            have HT : Hid (D = true) := Lib.hid (by rw [← HD.out]; exact decide_eq_true (hx ▸ HI1.out))
            clear hx
            go_wp2
            go_ret
            exact ⟨by rw [HT.out]; rfl, HB.out⟩
          · have e4 : (x == t) = false := by rw [beq_eq_false_iff_ne]; exact hx
            have HN2 : Hid (¬ t ∈ l.take (k + 1)) := Lib.hid (fun e => by
              rcases HM1.out.1 e with h | h
              · exact HN.out h
              · exact hx h.symm)
            clear hx
            go_wp2
            go_roundw
            case rel => exact ⟨k + 1, by go_num, by omega, HN2, HX, HB⟩
            case measure => simp [intOf]; omega
        · have HT : Hid (D = false) := Lib.hid (by
            have e := HN.out
            rw [HTL.out k (by omega)] at e
            rw [← HD.out]; exact decide_eq_false e)
          go_wp2
          go_ret
          exact ⟨by rw [HT.out]; rfl, HB.out⟩
  refine key ?_
  by_cases h0 : t = 0
  · exact .inl (by rw [bne_eq_false_iff_eq]; exact h0)
  · exact .inr ⟨by rw [bne_iff_ne]; exact h0, by rw [beq_eq_false_iff_ne]; exact fun e => hs.elim h0 (fun h => h e)⟩
set_option maxHeartbeats 400000 in
theorem ruses_yes (g b s : Int) (l : List Int) (t : Int) (a : Option Addr) (c : Nat) (w : World) (h0 : t ≠ 0) (h1 : s = t) : Calls Tryd.prog 27 #[hval ⟨g, b, s, l⟩ (.slice a l.length c), .int .i64 t] w (Ret w (.bool true)) := by
  unfold hval
  dsimp only
  have e0 : (t != 0) = true := by rw [bne_iff_ne]; exact h0
  subst h1
  clear h0
  go_enter Tryd.func27, Tryd.ntmps27
  go_wp2
  go_ret
  exact ⟨rfl, below_one _ _⟩
theorem ruses_any (h : He) (t : Int) (v : Value) (w : World) (hk : KAt w v h.log) (hl : h.log.length ≤ 9223372036854775807) : Calls Tryd.prog 27 #[hval h v, .int .i64 t] w (Ret w (.bool (usB h t))) := by
  rw [← rusB_eq]
  obtain ⟨g, b, s, l⟩ := h
  unfold rusB
  dsimp only at *
  by_cases h0 : t = 0
  · have := ruses_in g b s l t v w hk hl (.inl h0)
    rw [decide_eq_false (show ¬ t ≠ 0 from fun e => e h0), Bool.false_and, Bool.false_or]; exact this
  · by_cases h1 : s = t
    · rw [decide_eq_true (show t ≠ 0 from h0), decide_eq_true h1]
      obtain ⟨a, c, rfl⟩ := hk.slice
      exact ruses_yes g b s l t a c w h0 h1
    · have := ruses_in g b s l t v w hk hl (.inr h1)
      rw [decide_eq_false h1, Bool.and_false, Bool.false_or]; exact this
end Go.Proofs.YtpcpbdcdapmlnaaDoor
