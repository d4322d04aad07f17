/- LabelsNormal: the law answers true. Condition: the tables of the library read as their initialisers lay them (tied to the program's text by the card). -/
import Derived.Test.YtjhgmlhoefakpaaDoorCards
import Derived.Test.YtjhgmlhoefakpaaDoorTie
import Derived.Test.YtjhgmlhoefakpaaDoorFi
import Derived.Test.YtjhgmlhoefakpaaDoorAw
import Derived.Test.YtjhgmlhoefakpaaDoorKn
import Derived.SevenTiedAt
import Derived.LaidMore
import Derived.Lay
import Derived.WalkKit
import Derived.ProofKit
import Derived.OpenShut
import Derived.ShutString
namespace Go.Proofs.YtjhgmlhoefakpaaDoor.labelsNormal
open Go.ChangeShapes Go.WideShapes Go.ChangeAt Go.RowKit
open Go.ChangeMaps (open_string shut_string)
set_option linter.unusedVariables false
set_option maxRecDepth 100000 in
set_option maxHeartbeats 4000000 in
theorem core (s key : ByteArray) (w : World) (ws : s.size ≤ maxLen) (wk : key.size ≤ maxLen) (hT : Hid (Tab w)) :
    Calls Tryd.prog 9 #[.string s, .string key] w fun e w' => e = .returned (.bool true) ∧ Below w.heap.size w w' := by
  have hs63 : (s.size : Int) ≤ 9223372036854775807 := by unfold maxLen at ws; omega
  have hk63 : (key.size : Int) ≤ 9223372036854775807 := by unfold maxLen at wk; omega
  by_cases hs : 3000 < s.size
  · have HB0 : Hid (Below w.heap.size w w) := Lib.hid (Below.refl _ _)
    go_enter Tryd.func9, Tryd.ntmps9
    go_wp2_with fail
    refine (awake_any _ (tab_of hT HB0)).mono ?_
    rintro e w1 ⟨rfl, hb⟩
    have HB1 : Hid (Below w.heap.size w w1) := Lib.hid (below_trans' HB0.out hb)
    clear hb
    go_wp2
    go_ret
    exact ⟨rfl, HB1.out⟩
  by_cases hk : 3000 < key.size
  · have HB0 : Hid (Below w.heap.size w w) := Lib.hid (Below.refl _ _)
    go_enter Tryd.func9, Tryd.ntmps9
    go_wp2_with fail
    refine (awake_any _ (tab_of hT HB0)).mono ?_
    rintro e w1 ⟨rfl, hb⟩
    have HB1 : Hid (Below w.heap.size w w1) := Lib.hid (below_trans' HB0.out hb)
    clear hb
    go_wp2
    go_ret
    exact ⟨rfl, HB1.out⟩
  obtain ⟨m, K, hP⟩ : ∃ m K, ofK key.data.toList = (m, K) := ⟨_, _, rfl⟩
  have HOK := Lib.hid (fun W (k : Tab W) => of_is key m K (by omega) hP W k)
  have HOK2 := Lib.hid (ofK_parts hP)
  clear hP
  have HPS := Lib.hid (parse_parts s)
  have HPA := Lib.hid (fun m (e : parseK s.data.toList = (m, 0)) W (k : Tab W) => parse_yes s m (by omega) e W k)
  have HPN := Lib.hid (fun (e : parseK s.data.toList = ([], 4)) W (k : Tab W) => parse_not s (by omega) e W k)
  rcases HPS.out with hn | ⟨l, hl, hm⟩
  · have HB0 : Hid (Below w.heap.size w w) := Lib.hid (Below.refl _ _)
    go_enter Tryd.func9, Tryd.ntmps9
    go_wp2_with fail
    refine (awake_any _ (tab_of hT HB0)).mono ?_
    rintro e w1 ⟨rfl, hb⟩
    have HB1 : Hid (Below w.heap.size w w1) := Lib.hid (below_trans' HB0.out hb)
    clear hb
    go_wp2_with fail
    refine (HPN.out hn _ (tab_of hT HB1)).mono ?_
    rintro e w2 ⟨ul, rfl, ho, hb⟩
    have HB2 : Hid (Below w.heap.size w w2) := Lib.hid (below_trans' HB1.out hb)
    have HLo := Lib.hid ho
    have HL_2 := Lib.hid ho.at
    have HLw_2 := Lib.hid ho.wr
    clear ho hb
    go_wp2_with fail
    refine (HOK.out _ (tab_of hT HB2)).mono ?_
    rintro e w3 ⟨um, rfl, ho, hb⟩
    have HB3 : Hid (Below w.heap.size w w3) := Lib.hid (below_trans' HB2.out hb)
    have HL_3 := Lib.hid (HL_2.out.below hb (Nat.le_refl _))
    have HLw_3 := Lib.hid (HLw_2.out.below hb (Nat.le_refl _))
    have HMo := Lib.hid ho
    have HM_3 := Lib.hid ho.at
    have HMw_3 := Lib.hid ho.wr
    clear ho hb
    obtain ⟨md, mc, hum⟩ := HMo.out.shape
    subst hum
    rcases HOK2.out with ⟨hK, hm0⟩ | ⟨hK, hmm, hlen⟩
    · subst hm0
      have eK : ((K : Int) != 0) = true := by rw [bne_iff_ne]; omega
      go_wp2
      go_ret
      exact ⟨rfl, HB3.out⟩
    · subst hK
      have hsm := may_small hmm
      have htm := tot_may hmm
      have hml := mayL_len hmm
      have hk3 := keyL_len m (by omega)
      have hk4 : (bs (keyL m)).size ≤ 5440 := by rw [bs_size]; omega
      have hk5 : ((bs (keyL m)).size : Int) ≤ (key.size : Int) := by have := Lib.size_eq key; rw [bs_size]; omega
      have JKY := Lib.hid (fun v W (h : LAt W v m) => key_any m (by omega) v W h)
      have JOF := Lib.hid (fun W (k : Tab W) => of_is (bs (keyL m)) m 0 (by omega) ((ofK_key m (by omega)).1 hmm) W k)
      have JMY := Lib.hid (fun v W (h : LAt W v m) (k : Tab W) => mayL_any m (by omega) (small_wide hsm) v W h k)
      rw [hmm] at JMY
      have JSM := Lib.hid (fun v u W (h : LAt W v m) (k : LAt W u m) => same_any m m (by omega) (by omega) v u W h k)
      have hE : sameL m m = true := by simp [sameL]
      rw [hE] at JSM
      clear hsm htm hk3 hE hmm hlen
      generalize bs (keyL m) = km at *
      generalize hLm : m.length = Lm at *
      clear hLm
      go_wp2_with fail
      refine (JKY.out _ _ HM_3.out).mono ?_
      rintro e w4 ⟨rfl, hb⟩
      have HB4 : Hid (Below w.heap.size w w4) := Lib.hid (below_trans' HB3.out hb)
      have HL_4 := Lib.hid (HL_3.out.below hb (Nat.le_refl _))
      have HLw_4 := Lib.hid (HLw_3.out.below hb (Nat.le_refl _))
      have HM_4 := Lib.hid (HM_3.out.below hb (Nat.le_refl _))
      have HMw_4 := Lib.hid (HMw_3.out.below hb (Nat.le_refl _))
      clear hb
      go_wp2_with fail
      refine (JOF.out _ (tab_of hT HB4)).mono ?_
      rintro e w5 ⟨un, rfl, ho, hb⟩
      have HB5 : Hid (Below w.heap.size w w5) := Lib.hid (below_trans' HB4.out hb)
      have HL_5 := Lib.hid (HL_4.out.below hb (Nat.le_refl _))
      have HLw_5 := Lib.hid (HLw_4.out.below hb (Nat.le_refl _))
      have HM_5 := Lib.hid (HM_4.out.below hb (Nat.le_refl _))
      have HMw_5 := Lib.hid (HMw_4.out.below hb (Nat.le_refl _))
      have HNo := Lib.hid ho
      have HN_5 := Lib.hid ho.at
      have HNw_5 := Lib.hid ho.wr
      clear ho hb
      go_wp2_with fail
      refine (JMY.out _ _ HM_5.out (tab_of hT HB5)).mono ?_
      rintro e w6 ⟨rfl, hb⟩
      have HB6 : Hid (Below w.heap.size w w6) := Lib.hid (below_trans' HB5.out hb)
      have HL_6 := Lib.hid (HL_5.out.below hb (Nat.le_refl _))
      have HLw_6 := Lib.hid (HLw_5.out.below hb (Nat.le_refl _))
      have HM_6 := Lib.hid (HM_5.out.below hb (Nat.le_refl _))
      have HMw_6 := Lib.hid (HMw_5.out.below hb (Nat.le_refl _))
      have HN_6 := Lib.hid (HN_5.out.below hb (Nat.le_refl _))
      have HNw_6 := Lib.hid (HNw_5.out.below hb (Nat.le_refl _))
      clear hb
      go_wp2_with fail
      refine (JSM.out _ _ _ HN_6.out HM_6.out).mono ?_
      rintro e w7 ⟨rfl, hb⟩
      have HB7 : Hid (Below w.heap.size w w7) := Lib.hid (below_trans' HB6.out hb)
      have HL_7 := Lib.hid (HL_6.out.below hb (Nat.le_refl _))
      have HLw_7 := Lib.hid (HLw_6.out.below hb (Nat.le_refl _))
      have HM_7 := Lib.hid (HM_6.out.below hb (Nat.le_refl _))
      have HMw_7 := Lib.hid (HMw_6.out.below hb (Nat.le_refl _))
      have HN_7 := Lib.hid (HN_6.out.below hb (Nat.le_refl _))
      have HNw_7 := Lib.hid (HNw_6.out.below hb (Nat.le_refl _))
      clear hb
      go_wp2
      go_ret
      exact ⟨rfl, HB7.out⟩
  · have hsm := may_small hm
    have htm := tot_may hm
    have hml := mayL_len hm
    have hz := shows_len hm
    have hz2 : (bs (shows l)).size ≤ 11329 := by rw [bs_size]; exact hz
    have HSH := Lib.hid (fun v W (h : LAt W v l) (k : Tab W) => show_yes l _ (by omega) (small_wide hsm) (showE_yes hm) v W h k)
    have hp : parseK (bs (shows l)).data.toList = (l, 0) := by unfold parseK; rw [bs_data, parse_shows hm]
    have HPB := Lib.hid (fun W (k : Tab W) => parse_yes (bs (shows l)) l (by omega) hp W k)
    have HMY := Lib.hid (fun v W (h : LAt W v l) (k : Tab W) => mayL_any l (by omega) (small_wide hsm) v W h k)
    rw [hm] at HMY
    have HSM := Lib.hid (fun v u W (h : LAt W v l) (k : LAt W u l) => same_any l l (by omega) (by omega) v u W h k)
    have hE : sameL l l = true := by simp [sameL]
    rw [hE] at HSM
    have e1 : ((bs (shows l)).toList != (bs (shows l)).toList) = false := by simp
    clear hE hsm htm hml hz hm hp
    generalize bs (shows l) = sl at *
    have HB0 : Hid (Below w.heap.size w w) := Lib.hid (Below.refl _ _)
    go_enter Tryd.func9, Tryd.ntmps9
    go_wp2_with fail
    refine (awake_any _ (tab_of hT HB0)).mono ?_
    rintro e w1 ⟨rfl, hb⟩
    have HB1 : Hid (Below w.heap.size w w1) := Lib.hid (below_trans' HB0.out hb)
    clear hb
    go_wp2_with fail
    refine (HPA.out l hl _ (tab_of hT HB1)).mono ?_
    rintro e w2 ⟨ul, rfl, ho, hb⟩
    have HB2 : Hid (Below w.heap.size w w2) := Lib.hid (below_trans' HB1.out hb)
    have HLo := Lib.hid ho
    have HL_2 := Lib.hid ho.at
    have HLw_2 := Lib.hid ho.wr
    clear ho hb
    go_wp2_with fail
    refine (HSH.out _ _ HL_2.out (tab_of hT HB2)).mono ?_
    rintro e w3 ⟨rfl, hb⟩
    have HB3 : Hid (Below w.heap.size w w3) := Lib.hid (below_trans' HB2.out hb)
    have HL_3 := Lib.hid (HL_2.out.below hb (Nat.le_refl _))
    have HLw_3 := Lib.hid (HLw_2.out.below hb (Nat.le_refl _))
    clear hb
    go_wp2_with fail
    refine (HPB.out _ (tab_of hT HB3)).mono ?_
    rintro e w4 ⟨uq, rfl, ho, hb⟩
    have HB4 : Hid (Below w.heap.size w w4) := Lib.hid (below_trans' HB3.out hb)
    have HL_4 := Lib.hid (HL_3.out.below hb (Nat.le_refl _))
    have HLw_4 := Lib.hid (HLw_3.out.below hb (Nat.le_refl _))
    have HQo := Lib.hid ho
    have HQ_4 := Lib.hid ho.at
    have HQw_4 := Lib.hid ho.wr
    clear ho hb
    go_wp2_with fail
    refine (HSH.out _ _ HQ_4.out (tab_of hT HB4)).mono ?_
    rintro e w5 ⟨rfl, hb⟩
    have HB5 : Hid (Below w.heap.size w w5) := Lib.hid (below_trans' HB4.out hb)
    have HL_5 := Lib.hid (HL_4.out.below hb (Nat.le_refl _))
    have HLw_5 := Lib.hid (HLw_4.out.below hb (Nat.le_refl _))
    have HQ_5 := Lib.hid (HQ_4.out.below hb (Nat.le_refl _))
    have HQw_5 := Lib.hid (HQw_4.out.below hb (Nat.le_refl _))
    clear hb
    go_wp2_with fail
    refine (HMY.out _ _ HL_5.out (tab_of hT HB5)).mono ?_
    rintro e w6 ⟨rfl, hb⟩
    have HB6 : Hid (Below w.heap.size w w6) := Lib.hid (below_trans' HB5.out hb)
    have HL_6 := Lib.hid (HL_5.out.below hb (Nat.le_refl _))
    have HLw_6 := Lib.hid (HLw_5.out.below hb (Nat.le_refl _))
    have HQ_6 := Lib.hid (HQ_5.out.below hb (Nat.le_refl _))
    have HQw_6 := Lib.hid (HQw_5.out.below hb (Nat.le_refl _))
    clear hb
    go_wp2_with fail
    refine (HSM.out _ _ _ HL_6.out HQ_6.out).mono ?_
    rintro e w7 ⟨rfl, hb⟩
    have HB7 : Hid (Below w.heap.size w w7) := Lib.hid (below_trans' HB6.out hb)
    have HL_7 := Lib.hid (HL_6.out.below hb (Nat.le_refl _))
    have HLw_7 := Lib.hid (HLw_6.out.below hb (Nat.le_refl _))
    have HQ_7 := Lib.hid (HQ_6.out.below hb (Nat.le_refl _))
    have HQw_7 := Lib.hid (HQw_6.out.below hb (Nat.le_refl _))
    clear hb
    go_wp2_with fail
    refine (HOK.out _ (tab_of hT HB7)).mono ?_
    rintro e w8 ⟨um, rfl, ho, hb⟩
    have HB8 : Hid (Below w.heap.size w w8) := Lib.hid (below_trans' HB7.out hb)
    have HL_8 := Lib.hid (HL_7.out.below hb (Nat.le_refl _))
    have HLw_8 := Lib.hid (HLw_7.out.below hb (Nat.le_refl _))
    have HQ_8 := Lib.hid (HQ_7.out.below hb (Nat.le_refl _))
    have HQw_8 := Lib.hid (HQw_7.out.below hb (Nat.le_refl _))
    have HMo := Lib.hid ho
    have HM_8 := Lib.hid ho.at
    have HMw_8 := Lib.hid ho.wr
    clear ho hb
    obtain ⟨md, mc, hum⟩ := HMo.out.shape
    subst hum
    rcases HOK2.out with ⟨hK, hm0⟩ | ⟨hK, hmm, hlen⟩
    · subst hm0
      have eK : ((K : Int) != 0) = true := by rw [bne_iff_ne]; omega
      go_wp2
      go_ret
      exact ⟨rfl, HB8.out⟩
    · subst hK
      have hsm := may_small hmm
      have htm := tot_may hmm
      have hml := mayL_len hmm
      have hk3 := keyL_len m (by omega)
      have hk4 : (bs (keyL m)).size ≤ 5440 := by rw [bs_size]; omega
      have hk5 : ((bs (keyL m)).size : Int) ≤ (key.size : Int) := by have := Lib.size_eq key; rw [bs_size]; omega
      have JKY := Lib.hid (fun v W (h : LAt W v m) => key_any m (by omega) v W h)
      have JOF := Lib.hid (fun W (k : Tab W) => of_is (bs (keyL m)) m 0 (by omega) ((ofK_key m (by omega)).1 hmm) W k)
      have JMY := Lib.hid (fun v W (h : LAt W v m) (k : Tab W) => mayL_any m (by omega) (small_wide hsm) v W h k)
      rw [hmm] at JMY
      have JSM := Lib.hid (fun v u W (h : LAt W v m) (k : LAt W u m) => same_any m m (by omega) (by omega) v u W h k)
      have hE : sameL m m = true := by simp [sameL]
      rw [hE] at JSM
      clear hsm htm hk3 hE hmm hlen
      generalize bs (keyL m) = km at *
      generalize hLm : m.length = Lm at *
      clear hLm
      go_wp2_with fail
      refine (JKY.out _ _ HM_8.out).mono ?_
      rintro e w9 ⟨rfl, hb⟩
      have HB9 : Hid (Below w.heap.size w w9) := Lib.hid (below_trans' HB8.out hb)
      have HL_9 := Lib.hid (HL_8.out.below hb (Nat.le_refl _))
      have HLw_9 := Lib.hid (HLw_8.out.below hb (Nat.le_refl _))
      have HQ_9 := Lib.hid (HQ_8.out.below hb (Nat.le_refl _))
      have HQw_9 := Lib.hid (HQw_8.out.below hb (Nat.le_refl _))
      have HM_9 := Lib.hid (HM_8.out.below hb (Nat.le_refl _))
      have HMw_9 := Lib.hid (HMw_8.out.below hb (Nat.le_refl _))
      clear hb
      go_wp2_with fail
      refine (JOF.out _ (tab_of hT HB9)).mono ?_
      rintro e w10 ⟨un, rfl, ho, hb⟩
      have HB10 : Hid (Below w.heap.size w w10) := Lib.hid (below_trans' HB9.out hb)
      have HL_10 := Lib.hid (HL_9.out.below hb (Nat.le_refl _))
      have HLw_10 := Lib.hid (HLw_9.out.below hb (Nat.le_refl _))
      have HQ_10 := Lib.hid (HQ_9.out.below hb (Nat.le_refl _))
      have HQw_10 := Lib.hid (HQw_9.out.below hb (Nat.le_refl _))
      have HM_10 := Lib.hid (HM_9.out.below hb (Nat.le_refl _))
      have HMw_10 := Lib.hid (HMw_9.out.below hb (Nat.le_refl _))
      have HNo := Lib.hid ho
      have HN_10 := Lib.hid ho.at
      have HNw_10 := Lib.hid ho.wr
      clear ho hb
      go_wp2_with fail
      refine (JMY.out _ _ HM_10.out (tab_of hT HB10)).mono ?_
      rintro e w11 ⟨rfl, hb⟩
      have HB11 : Hid (Below w.heap.size w w11) := Lib.hid (below_trans' HB10.out hb)
      have HL_11 := Lib.hid (HL_10.out.below hb (Nat.le_refl _))
      have HLw_11 := Lib.hid (HLw_10.out.below hb (Nat.le_refl _))
      have HQ_11 := Lib.hid (HQ_10.out.below hb (Nat.le_refl _))
      have HQw_11 := Lib.hid (HQw_10.out.below hb (Nat.le_refl _))
      have HM_11 := Lib.hid (HM_10.out.below hb (Nat.le_refl _))
      have HMw_11 := Lib.hid (HMw_10.out.below hb (Nat.le_refl _))
      have HN_11 := Lib.hid (HN_10.out.below hb (Nat.le_refl _))
      have HNw_11 := Lib.hid (HNw_10.out.below hb (Nat.le_refl _))
      clear hb
      go_wp2_with fail
      refine (JSM.out _ _ _ HN_11.out HM_11.out).mono ?_
      rintro e w12 ⟨rfl, hb⟩
      have HB12 : Hid (Below w.heap.size w w12) := Lib.hid (below_trans' HB11.out hb)
      have HL_12 := Lib.hid (HL_11.out.below hb (Nat.le_refl _))
      have HLw_12 := Lib.hid (HLw_11.out.below hb (Nat.le_refl _))
      have HQ_12 := Lib.hid (HQ_11.out.below hb (Nat.le_refl _))
      have HQw_12 := Lib.hid (HQw_11.out.below hb (Nat.le_refl _))
      have HM_12 := Lib.hid (HM_11.out.below hb (Nat.le_refl _))
      have HMw_12 := Lib.hid (HMw_11.out.below hb (Nat.le_refl _))
      have HN_12 := Lib.hid (HN_11.out.below hb (Nat.le_refl _))
      have HNw_12 := Lib.hid (HNw_11.out.below hb (Nat.le_refl _))
      clear hb
      go_wp2
      go_ret
      exact ⟨rfl, HB12.out⟩
set_option maxRecDepth 100000 in
theorem lifted (os : Os) (started : os.Started) (H : Type) (enc : TypeId × Value → H) :
    ReturnsInHanded {} Tryd.checked os 9 .any (fun w args => (Rows.labelsNormalSpec.pre enc Tryd.prog Tryd.f9 [] false w args ∧ laidMetH Tryd.prog laid w) ∧ sizedMet enc Tryd.prog Tryd.f9 (OpenSpec.ofChange Rows.labelsNormalSpec) false w args)
      (Rows.labelsNormalSpec.post enc Tryd.prog Tryd.f9 false true false false) := by
  refine returnsInHanded_of_change_and (C := Tryd.checked) (X := fun w _ => laidMetH Tryd.prog laid w) (fun _ _ _ hh h => h.of_heap hh) own started (by kernel_rfl) Tryd.func9
    (ChangeSpec.witness_shaped (enc := enc) (C := Tryd.checked) (os := os) (X := fun w _ => laidMetH Tryd.prog laid w) false (World.laidAll Tryd.prog os laid) #[.string ByteArray.empty, .string ByteArray.empty] 8 (World.laidAll_os _ _ _) (World.shaped_of_ZipB (by kernel_rfl) (by kernel_rfl)) (by kernel_rfl) (by kernel_rfl) (by kernel_rfl) (door_met os _)) ?_
  intro W base args ds gs before hval0 hW hcnd _ hL _
  have hval : ∀ (j : Nat) t v, Tryd.f9.params[j]? = some t → args[j]? = some v → Value.okWide Tryd.prog W .any base t v := hval0
  have hW' := hW
  obtain ⟨p, q, hA0, hV, rfl, hfz, hnd⟩ := hW
  have hA : DataW.TrodAll enc Tryd.prog W 0 (fun _ => true) true Tryd.f9.params.toList args.toList ds p := hA0
  rw [Tryd.params9] at hA hval
  obtain ⟨v0, vs0, d0, ds0, p0, q0, hargs, rfl, rfl, h0, r0⟩ := trodAll_cons hA
  obtain ⟨v1, vs1, d1, ds1, p1, q1, rfl, rfl, rfl, h1, r1⟩ := trodAll_cons r0
  obtain ⟨rfl, rfl, rfl⟩ := trodAll_nil r1
  obtain rfl : args = #[v0, v1] := by cases args; simp_all
  obtain ⟨rfl, rfl⟩ := trodVars_none hV
  have k0 := h0
  have lt0 : ∀ x ∈ p0, x.block < W.heap.size := by obtain ⟨m, hm⟩ := k0; exact DataW.trod_lt m _ _ _ hm
  have k1 := h1
  have lt1 : ∀ x ∈ p1, x.block < W.heap.size := by obtain ⟨m, hm⟩ := k1; exact DataW.trod_lt m _ _ _ hm
  obtain ⟨a0, rfl, rfl, rfl, w0⟩ := open_string Tryd.underlying9 (hval 0 9 v0 rfl rfl) h0
  obtain ⟨a1, rfl, rfl, rfl, w1⟩ := open_string Tryd.underlying9 (hval 1 9 v1 rfl rfl) h1
  clear hA0 hval0
  refine (core a0 a1 W w0 w1 (Lib.hid (of_laid hL))).mono fun e W' ⟨he, bel⟩ => ?_
  subst he
  exact ⟨_, rfl, _, _, _, [], _, [], hW', trodAll_mk1 (shut_bool Tryd.underlying4 _), (trodAll_cons_mk (Below.trod laidOut (by kernel_rfl) (of_decide_eq_true (by kernel_rfl)) k0 bel lt0) (trodAll_cons_mk (Below.trod laidOut (by kernel_rfl) (of_decide_eq_true (by kernel_rfl)) k1 bel lt1) trodAll_mk0)), rfl, bel.frame _, fun h => by cases h⟩
theorem over : Rows.labelsNormalRow.holds Tryd.pinned (OpenSpec.ofChange Rows.labelsNormalSpec) :=
  OpenClaim.holds_of_wide 9 Tryd.f9 rfl rfl rfl rfl rfl rfl rfl ⟨rfl, rfl, rfl, rfl, rfl⟩ rfl rfl rfl rfl rfl (by kernel_rfl) Tryd.func9 (by kernel_rfl)
    (of_decide_eq_true (by kernel_rfl)) (by unfold Func.isWrapper; first | (rw [if_pos (by decide +kernel)]; kernel_rfl) | (rw [if_neg (by decide +kernel)]; exact ⟨rfl, rfl⟩))
    (fun os started H enc _ => lifted os started H enc)
theorem proved : Rows.LabelsNormalCardSaid :=
  Claim7.holds_tied_plain_at .later [] [.data, .data, .data, .data, .pinned] true (true, "29d8eb039746b622064e7fdd6be2e3716893f65b16f6a8010a72416b636b660b") false
    over (fun _ h => by cases h) (by kernel_rfl) (fun _ h => by cases h) labelsNormal_row_tie rfl ⟨rfl, rfl⟩ (by kernel_rfl) rfl
    (fun f fn hf hfn => by
      obtain rfl : f = 9 := Option.some.inj ((show Tryd.prog.funcNamed "baton/batonlaw05.LabelsNormal" = some 9 by kernel_rfl).symm.trans hf) |>.symm
      obtain rfl : fn = Tryd.f9 := (Option.some.inj (Tryd.func9.symm.trans hfn)).symm
      exact ⟨by kernel_rfl, fun j t ht => by
        rw [Tryd.params9] at ht
        have hm : t ∈ [9, 9] := by simpa using Array.mem_of_getElem? ht
        have hall : ([9, 9].all fun u => !Tryd.prog.wantsStandIn u) = true := by kernel_rfl
        exact (show Tryd.prog.wantsStandIn t = false by simpa using List.all_eq_true.1 hall t hm)⟩)
    (by kernel_rfl)
end Go.Proofs.YtjhgmlhoefakpaaDoor.labelsNormal
