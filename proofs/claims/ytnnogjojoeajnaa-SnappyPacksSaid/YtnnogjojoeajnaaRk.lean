/- The contracts of the document's Pack and Encode. -/
import Derived.Test.YtnnogjojoeajnaaRj
import Derived.Test.YtnnogjojoeajnaaRi
import Derived.Test.YtnnogjojoeajnaaWq
namespace Go.Proofs.Ytnnogjojoeajnaa
open Go.RowKit
set_option maxRecDepth 100000 in
set_option maxHeartbeats 1000000 in
theorem rmatch_out (s : ByteArray) (a : Int) (ha : a < 0 ∨ (s.size : Int) ≤ a) (w : World) :
    Calls Try.prog 29 #[.string s, .int .i64 a] w (Two w (0, 0)) := by
  by_cases h : a < 0
  · clear ha
    go_enter Try.func29, Try.ntmps29
    go_wp2
    go_ret2
    exact ⟨rfl, Below.refl _ _⟩
  · have h2 : (s.size : Int) ≤ a := by omega
    clear ha
    go_enter Try.func29, Try.ntmps29
    go_wp2
    go_ret2
    exact ⟨rfl, Below.refl _ _⟩
set_option maxRecDepth 100000 in
set_option maxHeartbeats 4000000 in
theorem rpack_any (s : ByteArray) (hs : s.size ≤ 65536) (w : World) :
    Calls Try.prog 30 #[.string s] w fun e w' => ∃ v, e = .returned (.tuple #[v, .int .i64 0]) ∧ Om w' w.heap.size v (pk s.data.toList 0 0 []) ∧ Below w.heap.size w w' := by
  have hl0 : s.data.toList.length = s.size := by simp
  have hsi : (s.size : Int) ≤ 65536 := by omega
  have HM := Lib.hid (fun a (ha : a < s.size) W => rmatch_in s (by omega) a ha W)
  obtain ⟨i0, hi, hz0, hz1, hz2⟩ := info_parts Try.info76
  have HL0 := Lib.hid hl0
  clear hl0
  go_enter Try.func30, Try.ntmps30
  go_wp2
  go_loopw [4, 5, 6] (fun u f x wr => ∃ (a p : Nat) (ps : List Pt), x = .int .i64 (a : Int) ∧ f = .int .i64 (p : Int) ∧ a ≤ s.size ∧ p ≤ a ∧ ps.length ≤ 2 * a ∧ Hid (Om wr w.heap.size u ps) ∧ Hid (pk s.data.toList a p ps = pk s.data.toList 0 0 []) ∧ Hid (Below w.heap.size w wr)) (fun _ _ x _ => s.size - (intOf x).toNat)
  case atStart => exact ⟨0, 0, [], rfl, rfl, by omega, by omega, by simp, Lib.hid (World.ownsRow_nil _ _ _ _), Lib.hid rfl, Lib.hid (Below.refl _ _)⟩
  case round =>
    obtain ⟨a, p, ps, rfl, rfl, ha, hpa, hpl, HO, HP, HB⟩ := hrel
    obtain ⟨ua, uc, hu⟩ := HO.out.shape
    subst hu
    by_cases hlt : a < s.size
    · have hMM := fun W => HM.out a hlt W
      rcases mat_says s.data.toList a (by rw [HL0.out]; exact hlt) with h0 | h0
      · have h4 : ¬ 4 ≤ (mat s.data.toList a).2 := by rw [h0]; decide
        have HEQ := Lib.hid (pk_lit s.data.toList a p ps (by rw [HL0.out]; exact hlt) h4)
        rw [h0] at hMM
        have HMM := Lib.hid hMM
        clear hMM h4 h0
        go_wp2_with (go_at_call 29; refine (HMM.out _).mono ?_; rintro e w3 ⟨rfl, hb3⟩; have HB3 := Lib.hid (HB.out.trans (hb3.mono HB.out.size)); have HO3 := Lib.hid (HO.out.below hb3 (Nat.le_refl _)); clear hb3)
        go_roundw
        case rel => exact ⟨a + 1, p, ps, by go_num, rfl, by omega, by omega, by omega, HO3, Lib.hid (HEQ.out.symm.trans HP.out), HB3⟩
        case measure => simp [intOf]; omega
      · by_cases h4 : 4 ≤ (mat s.data.toList a).2
        · have HEQ := Lib.hid (pk_copy s.data.toList a p ps (by rw [HL0.out]; exact hlt) h4)
          have hfit := h0.fits
          have h64 := h0.n64
          rw [HL0.out] at hfit
          clear h0
          generalize mat s.data.toList a = X at *
          obtain ⟨o, m⟩ := X
          dsimp only at h4 hfit h64 HEQ
          have HMM := Lib.hid hMM
          have hm4 : ¬ ((m : Int) < 4) := by omega
          clear hMM h4
          by_cases hp : p < a
          · have hpi : (p : Int) < (a : Int) := by omega
            have hai : (a : Int) ≤ (s.size : Int) := by omega
            have HLP : Hid (litp s.data.toList p a = [⟨false, s.extract p a, 0, 0⟩]) := Lib.hid (by unfold litp; rw [if_pos hp, extract_bs])
            go_wp2_with (first
              | (go_at_call 29; refine (HMM.out _).mono ?_; rintro e w3 ⟨rfl, hb3⟩; have HB3 := Lib.hid (HB.out.trans (hb3.mono HB.out.size)); have HO3 := Lib.hid (HO.out.below hb3 (Nat.le_refl _)); clear hb3)
              | (at_builtin; refine wpList_append_own_at _ rfl (.tmp 29) (.tmp 35) 42 rfl w.heap.size 76 i0 _ 4 40 Try.underlying42 hi hz0 hz1 hz2 (by rfl) (by decide) (.slice ua ps.length uc) (ps).length (cells4 (ps)) rfl (World.ownsRow.alloc HO3.out _) ⟨w3.heap.size, 0, none⟩ 1 1 [.bool false, .string (s.extract p a), .int .i64 0, .int .i64 0] rfl rfl (cells_new4 _ _ _ _ _ _) (by simp [Value.oneCell']) (by unfold maxLen; first | omega | (simp only [List.length_append, List.length_singleton]; omega)) (by first | omega | (simp only [List.length_append, List.length_singleton]; omega)) (Nat.le_trans HB3.out.size (by simp)) ?_; intro v4 w4 hown4 hgrow4 hnil4 hloc4; have HO4 := Lib.hid (om_snoc (P := ⟨false, s.extract p a, 0, 0⟩) hown4); have HB4 := Lib.hid ((HB3.out.alloc HB3.out.size (.cells #[.bool false, .string (s.extract p a), .int .i64 0, .int .i64 0] 76)).grown hgrow4 (Nat.le_trans HB3.out.size (by simp)) (fun g hg => (own_lt HO3.out g hg).1)); obtain ⟨g', cap', hv'⟩ := ownsRow_succ hown4; subst hv'; clear hown4 hgrow4 hnil4 hloc4)
              | (at_builtin; refine wpList_append_own_at _ rfl (.tmp 37) (.tmp 41) 42 rfl w.heap.size 76 i0 _ 4 40 Try.underlying42 hi hz0 hz1 hz2 (by rfl) (by decide) (.slice (some ⟨g', 0, none⟩) (ps.length + 1) cap') (ps ++ [(⟨false, s.extract p a, 0, 0⟩ : Pt)]).length (cells4 (ps ++ [(⟨false, s.extract p a, 0, 0⟩ : Pt)])) rfl (World.ownsRow.alloc HO4.out _) ⟨w4.heap.size, 0, none⟩ 1 1 [.bool true, .string ⟨#[]⟩, .int .i64 (o : Int), .int .i64 (m : Int)] rfl rfl (cells_new4 _ _ _ _ _ _) (by simp [Value.oneCell']) (by unfold maxLen; first | omega | (simp only [List.length_append, List.length_singleton]; omega)) (by first | omega | (simp only [List.length_append, List.length_singleton]; omega)) (Nat.le_trans HB4.out.size (by simp)) ?_; intro v5 w5 hown5 hgrow5 hnil5 hloc5; have HO5 := Lib.hid (om_snoc (P := ⟨true, ⟨#[]⟩, o, m⟩) hown5); have HB5 := Lib.hid ((HB4.out.alloc HB4.out.size (.cells #[.bool true, .string ⟨#[]⟩, .int .i64 (o : Int), .int .i64 (m : Int)] 76)).grown hgrow5 (Nat.le_trans HB4.out.size (by simp)) (fun g hg => (own_lt HO4.out g hg).1));  clear hown5 hgrow5 hnil5 hloc5))
            go_roundw
            case rel =>
              refine ⟨a + m, a + m, ps ++ [⟨false, s.extract p a, 0, 0⟩] ++ [⟨true, ⟨#[]⟩, o, m⟩], by go_num, by go_num, by omega, by omega, by simp; omega, HO5, Lib.hid ?_, HB5⟩
              have e := HEQ.out
              rw [HLP.out] at e
              exact e.symm.trans HP.out
            case measure => simp [intOf]; omega
          · have hpi : ¬ ((p : Int) < (a : Int)) := by omega
            have HLP : Hid (litp s.data.toList p a = []) := Lib.hid (by unfold litp; rw [if_neg hp])
            go_wp2_with (first
              | (go_at_call 29; refine (HMM.out _).mono ?_; rintro e w3 ⟨rfl, hb3⟩; have HB3 := Lib.hid (HB.out.trans (hb3.mono HB.out.size)); have HO3 := Lib.hid (HO.out.below hb3 (Nat.le_refl _)); clear hb3)
              | (at_builtin; refine wpList_append_own_at _ rfl (.tmp 37) (.tmp 41) 42 rfl w.heap.size 76 i0 _ 4 40 Try.underlying42 hi hz0 hz1 hz2 (by rfl) (by decide) (.slice ua ps.length uc) (ps).length (cells4 (ps)) rfl (World.ownsRow.alloc HO3.out _) ⟨w3.heap.size, 0, none⟩ 1 1 [.bool true, .string ⟨#[]⟩, .int .i64 (o : Int), .int .i64 (m : Int)] rfl rfl (cells_new4 _ _ _ _ _ _) (by simp [Value.oneCell']) (by unfold maxLen; first | omega | (simp only [List.length_append, List.length_singleton]; omega)) (by first | omega | (simp only [List.length_append, List.length_singleton]; omega)) (Nat.le_trans HB3.out.size (by simp)) ?_; intro v5 w5 hown5 hgrow5 hnil5 hloc5; have HO5 := Lib.hid (om_snoc (P := ⟨true, ⟨#[]⟩, o, m⟩) hown5); have HB5 := Lib.hid ((HB3.out.alloc HB3.out.size (.cells #[.bool true, .string ⟨#[]⟩, .int .i64 (o : Int), .int .i64 (m : Int)] 76)).grown hgrow5 (Nat.le_trans HB3.out.size (by simp)) (fun g hg => (own_lt HO3.out g hg).1));  clear hown5 hgrow5 hnil5 hloc5))
            go_roundw
            case rel =>
              refine ⟨a + m, a + m, ps ++ [⟨true, ⟨#[]⟩, o, m⟩], by go_num, by go_num, by omega, by omega, by simp; omega, HO5, Lib.hid ?_, HB5⟩
              have e := HEQ.out
              rw [HLP.out, List.append_nil] at e
              exact e.symm.trans HP.out
            case measure => simp [intOf]; omega
        · have HEQ := Lib.hid (pk_lit s.data.toList a p ps (by rw [HL0.out]; exact hlt) h4)
          clear h0
          generalize mat s.data.toList a = X at *
          obtain ⟨o, m⟩ := X
          dsimp only at h4
          have HMM := Lib.hid hMM
          have hm4 : ((m : Int) < 4) := by omega
          clear hMM h4
          go_wp2_with (go_at_call 29; refine (HMM.out _).mono ?_; rintro e w3 ⟨rfl, hb3⟩; have HB3 := Lib.hid (HB.out.trans (hb3.mono HB.out.size)); have HO3 := Lib.hid (HO.out.below hb3 (Nat.le_refl _)); clear hb3)
          go_roundw
          case rel => exact ⟨a + 1, p, ps, by go_num, rfl, by omega, by omega, by omega, HO3, Lib.hid (HEQ.out.symm.trans HP.out), HB3⟩
          case measure => simp [intOf]; omega
    · obtain rfl : a = s.size := by omega
      have hrun := HP.out
      rw [pk_end _ _ _ _ (by rw [HL0.out]; omega), HL0.out] at hrun
      have HRN := Lib.hid hrun
      clear hrun
      by_cases hp : p < s.size
      · have hpi : (p : Int) < (s.size : Int) := by omega
        have HLP : Hid (litp s.data.toList p s.size = [⟨false, s.extract p s.size, 0, 0⟩]) := Lib.hid (by unfold litp; rw [if_pos hp, extract_bs])
        go_wp2_with (at_builtin; refine wpList_append_own_at _ rfl (.tmp 50) (.tmp 55) 42 rfl w.heap.size 76 i0 _ 4 40 Try.underlying42 hi hz0 hz1 hz2 (by rfl) (by decide) (.slice ua ps.length uc) (ps).length (cells4 (ps)) rfl (World.ownsRow.alloc HO.out _) ⟨wr.heap.size, 0, none⟩ 1 1 [.bool false, .string (s.extract p s.size), .int .i64 0, .int .i64 0] rfl rfl (cells_new4 _ _ _ _ _ _) (by simp [Value.oneCell']) (by unfold maxLen; first | omega | (simp only [List.length_append, List.length_singleton]; omega)) (by first | omega | (simp only [List.length_append, List.length_singleton]; omega)) (Nat.le_trans HB.out.size (by simp)) ?_; intro v4 w4 hown4 hgrow4 hnil4 hloc4; have HO4 := Lib.hid (om_snoc (P := ⟨false, s.extract p s.size, 0, 0⟩) hown4); have HB4 := Lib.hid ((HB.out.alloc HB.out.size (.cells #[.bool false, .string (s.extract p s.size), .int .i64 0, .int .i64 0] 76)).grown hgrow4 (Nat.le_trans HB.out.size (by simp)) (fun g hg => (own_lt HO.out g hg).1));  clear hown4 hgrow4 hnil4 hloc4)
        go_ret2
        refine ⟨_, rfl, ?_, HB4.out⟩
        rw [← HRN.out, HLP.out]
        exact HO4.out
      · have hpi : ¬ ((p : Int) < (s.size : Int)) := by omega
        have HLP : Hid (litp s.data.toList p s.size = []) := Lib.hid (by unfold litp; rw [if_neg hp])
        go_wp2
        go_ret2
        refine ⟨_, rfl, ?_, HB.out⟩
        rw [← HRN.out, HLP.out, List.append_nil]
        exact HO.out
set_option maxRecDepth 100000 in
set_option maxHeartbeats 1000000 in
theorem rencode_any (s : ByteArray) (hs : s.size ≤ 65536) (w : World) :
    Calls Try.prog 31 #[.string s] w (Told w (encode s.data.toList)) := by
  have hl0 : s.data.toList.length = s.size := by simp
  unfold encode
  rw [if_neg (by omega)]
  have HW := Lib.hid (write_pk s.data.toList (by omega))
  have HL := Lib.hid (pk_length s.data.toList)
  have HM := Lib.hid (pk_may s.data.toList (by omega))
  have HP := Lib.hid (rpack_any s (by omega))
  generalize pk s.data.toList 0 0 [] = P at *
  generalize blk P s.data.toList = X at *
  go_enter Try.func31, Try.ntmps31
  go_wp2_with fail
  refine (HP.out _).mono ?_
  rintro e w1 ⟨v, rfl, ho1, hb1⟩
  have HO1 := Lib.hid (argAt_of ho1)
  have HB1 := Lib.hid hb1
  clear ho1 hb1
  have HWW := Lib.hid (rwrite_any P (by have := HL.out; omega) (fun p hp => may_ok (HM.out p hp)) v w1 HO1.out)
  rw [HW.out] at HWW
  go_wp2_with fail
  refine HWW.out.mono ?_
  rintro e w2 ⟨rfl, hb2⟩
  have HB2 := Lib.hid hb2
  clear hb2
  go_wp2
  go_ret2
  exact ⟨rfl, HB1.out.trans (HB2.out.mono HB1.out.size)⟩
end Go.Proofs.Ytnnogjojoeajnaa
