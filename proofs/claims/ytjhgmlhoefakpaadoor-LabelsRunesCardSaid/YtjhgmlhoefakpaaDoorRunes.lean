/- LabelsRunes: the law answers true. Condition: the tables of the library read as their initialisers lay them (tied to the program's text by the card). -/
import Derived.Test.YtjhgmlhoefakpaaDoorCards
import Derived.Test.YtjhgmlhoefakpaaDoorTie
import Derived.Test.YtjhgmlhoefakpaaDoorFi
import Derived.Test.YtjhgmlhoefakpaaDoorAw
import Derived.Test.YtjhgmlhoefakpaaDoorRm
import Derived.SevenTiedAt
import Derived.LaidMore
import Derived.Lay
import Derived.WalkKit
import Derived.ProofKit
import Derived.OpenShut
import Derived.ShutString
namespace Go.Proofs.YtjhgmlhoefakpaaDoor.labelsRunes
open Go.ChangeShapes Go.WideShapes Go.ChangeAt Go.RowKit
open Go.ChangeMaps (open_string shut_string)
set_option linter.unusedVariables false
theorem cut_at (cut : Int) (n : Nat) (h0 : 0 < n) (hn : n ≤ 6000) : ∃ M : Nat, wrap64 ((IntKind.u64.wrap cut).tmod (n : Int)) = (M : Int) ∧ M < n := by
  have h0 : 0 ≤ IntKind.u64.wrap cut := by rw [IntKind.wrap_u64]; omega
  have h1 := Int.tmod_nonneg (n : Int) h0
  have h2 := Int.tmod_lt_of_pos (IntKind.u64.wrap cut) (b := (n : Int)) (by omega)
  obtain ⟨M, hM⟩ := Int.eq_ofNat_of_zero_le h1
  rw [hM] at h2 ⊢
  exact ⟨M, by unfold wrap64; omega, by omega⟩
def VC (s : ByteArray) (b : Bool) : Prop := ∀ W, Tab W → Calls Tryd.prog 15 #[.string s] W (Ret W (.bool b))
theorem vc (s : ByteArray) (hs : s.size ≤ 9223372036854775807) (b : Bool) (h : mayV s.data.toList = b) : Hid (VC s b) := Lib.hid fun W k => by
  have := mayV_any s W hs k
  rw [h] at this
  exact this
theorem ext0 (s : ByteArray) (k : Nat) : (s.extract 0 k).data.toList = s.data.toList.take k := by
  simp [ByteArray.data_extract]
theorem ext1 (s : ByteArray) (k : Nat) : (s.extract k s.size).data.toList = s.data.toList.drop k := by
  have := Lib.size_eq s
  have h2 : (s.data.toList.drop k).length ≤ s.size - k := by rw [List.length_drop]; omega
  simp only [ByteArray.data_extract, Array.toList_extract, List.extract_eq_drop_take']
  try rw [List.drop_take]
  exact List.take_of_length_le h2
set_option maxRecDepth 100000 in
set_option maxHeartbeats 4000000 in
theorem fin_no (a b : ByteArray) (cut : Int) (w : World) (hT : Hid (Tab w)) (hs : ¬ 2000 < a.size) (hk : ¬ 2000 < b.size) (ha63 : (a.size : Int) ≤ 9223372036854775807) (hb63 : (b.size : Int) ≤ 9223372036854775807) (hpos : 0 < a.size) (M : Nat) (hM : wrap64 ((IntKind.u64.wrap cut).tmod (a.size : Int)) = (M : Int)) (hMl : M < a.size) (x : UInt8) (hx : a[M] = x) (hxb : x.toNat < 256) (hMi : (M : Int) ≤ (a.size : Int)) (hct : cont x = decide (128 ≤ x.toNat ∧ x.toNat < 192)) (hz : M = 0 → cont x = false) (HA : Hid (VC a true)) (HX : Hid (VC (a ++ { data := #[128] }) false)) (HY : Hid (VC ({ data := #[10] } ++ a) false)) (HT : Hid (VC (a.extract 0 M) (decide (0 < M) && !cont x))) (HD : Hid (VC (a.extract M a.size) (!cont x))) (HB : Hid (VC b false)) :
    Calls Tryd.prog 11 #[.string a, .string b, .int .i64 cut] w fun e w' => e = .returned (.bool true) ∧ Below w.heap.size w w' := by
  have HB0 : Hid (Below w.heap.size w w) := Lib.hid (Below.refl _ _)
  go_enter Tryd.func11, Tryd.ntmps11
  go_wp2_with fail
  refine (awake_any _ (tab_of hT HB0)).mono ?_
  rintro e w1 ⟨rfl, hb⟩
  have HB1 : Hid (Below w.heap.size w w1) := Lib.hid (below_trans' HB0.out hb)
  clear hb
  go_wp2_with fail
  refine (HA.out _ (tab_of hT HB1)).mono ?_
  rintro e w2 ⟨rfl, hb⟩
  have HB2 : Hid (Below w.heap.size w w2) := Lib.hid (below_trans' HB1.out hb)
  clear hb
  go_wp2_with fail
  refine (HB.out _ (tab_of hT HB2)).mono ?_
  rintro e w3 ⟨rfl, hb⟩
  have HB3 : Hid (Below w.heap.size w w3) := Lib.hid (below_trans' HB2.out hb)
  clear hb
  by_cases hcx : 128 ≤ x.toNat ∧ x.toNat < 192
  · rw [decide_eq_true hcx] at hct
    have hM0 : 0 < M := by
      rcases Nat.eq_zero_or_pos M with h | h
      · rw [hz h] at hct; cases hct
      · exact h
    rw [hct, decide_eq_true hM0] at HT
    rw [hct] at HD
    have g1 := hcx.1
    have g2 := hcx.2
    clear hcx hz hct
    go_wp2_with fail
    refine (HT.out _ (tab_of hT HB3)).mono ?_
    rintro e w4 ⟨rfl, hb⟩
    have HB4 : Hid (Below w.heap.size w w4) := Lib.hid (below_trans' HB3.out hb)
    clear hb
    go_wp2_with fail
    refine (HD.out _ (tab_of hT HB4)).mono ?_
    rintro e w5 ⟨rfl, hb⟩
    have HB5 : Hid (Below w.heap.size w w5) := Lib.hid (below_trans' HB4.out hb)
    clear hb
    go_wp2_with fail
    refine (HX.out _ (tab_of hT HB5)).mono ?_
    rintro e w6 ⟨rfl, hb⟩
    have HB6 : Hid (Below w.heap.size w w6) := Lib.hid (below_trans' HB5.out hb)
    clear hb
    go_wp2_with fail
    refine (HY.out _ (tab_of hT HB6)).mono ?_
    rintro e w7 ⟨rfl, hb⟩
    have HB7 : Hid (Below w.heap.size w w7) := Lib.hid (below_trans' HB6.out hb)
    clear hb
    go_wp2
    go_ret
    exact ⟨rfl, HB7.out⟩
  · rw [decide_eq_false hcx] at hct
    rw [hct] at HT HD
    clear hz hct
    by_cases hM0 : 0 < M
    · rw [decide_eq_true hM0] at HT
      rcases (show x.toNat < 128 ∨ 192 ≤ x.toNat by omega) with g1 | g1
      · clear hcx
        go_wp2_with fail
        refine (HT.out _ (tab_of hT HB3)).mono ?_
        rintro e w4 ⟨rfl, hb⟩
        have HB4 : Hid (Below w.heap.size w w4) := Lib.hid (below_trans' HB3.out hb)
        clear hb
        go_wp2_with fail
        refine (HD.out _ (tab_of hT HB4)).mono ?_
        rintro e w5 ⟨rfl, hb⟩
        have HB5 : Hid (Below w.heap.size w w5) := Lib.hid (below_trans' HB4.out hb)
        clear hb
        go_wp2_with fail
        refine (HX.out _ (tab_of hT HB5)).mono ?_
        rintro e w6 ⟨rfl, hb⟩
        have HB6 : Hid (Below w.heap.size w w6) := Lib.hid (below_trans' HB5.out hb)
        clear hb
        go_wp2_with fail
        refine (HY.out _ (tab_of hT HB6)).mono ?_
        rintro e w7 ⟨rfl, hb⟩
        have HB7 : Hid (Below w.heap.size w w7) := Lib.hid (below_trans' HB6.out hb)
        clear hb
        go_wp2
        go_ret
        exact ⟨rfl, HB7.out⟩
      · clear hcx
        have g3 : decide ((x.toNat : Int) < 192) = false := decide_eq_false (by omega)
        go_wp2_with fail
        refine (HT.out _ (tab_of hT HB3)).mono ?_
        rintro e w4 ⟨rfl, hb⟩
        have HB4 : Hid (Below w.heap.size w w4) := Lib.hid (below_trans' HB3.out hb)
        clear hb
        go_wp2_with fail
        refine (HD.out _ (tab_of hT HB4)).mono ?_
        rintro e w5 ⟨rfl, hb⟩
        have HB5 : Hid (Below w.heap.size w w5) := Lib.hid (below_trans' HB4.out hb)
        clear hb
        go_wp2_with fail
        refine (HX.out _ (tab_of hT HB5)).mono ?_
        rintro e w6 ⟨rfl, hb⟩
        have HB6 : Hid (Below w.heap.size w w6) := Lib.hid (below_trans' HB5.out hb)
        clear hb
        go_wp2_with fail
        refine (HY.out _ (tab_of hT HB6)).mono ?_
        rintro e w7 ⟨rfl, hb⟩
        have HB7 : Hid (Below w.heap.size w w7) := Lib.hid (below_trans' HB6.out hb)
        clear hb
        go_wp2
        go_ret
        exact ⟨rfl, HB7.out⟩
    · rw [decide_eq_false hM0] at HT
      rcases (show x.toNat < 128 ∨ 192 ≤ x.toNat by omega) with g1 | g1
      · clear hcx
        go_wp2_with fail
        refine (HT.out _ (tab_of hT HB3)).mono ?_
        rintro e w4 ⟨rfl, hb⟩
        have HB4 : Hid (Below w.heap.size w w4) := Lib.hid (below_trans' HB3.out hb)
        clear hb
        go_wp2_with fail
        refine (HD.out _ (tab_of hT HB4)).mono ?_
        rintro e w5 ⟨rfl, hb⟩
        have HB5 : Hid (Below w.heap.size w w5) := Lib.hid (below_trans' HB4.out hb)
        clear hb
        go_wp2_with fail
        refine (HX.out _ (tab_of hT HB5)).mono ?_
        rintro e w6 ⟨rfl, hb⟩
        have HB6 : Hid (Below w.heap.size w w6) := Lib.hid (below_trans' HB5.out hb)
        clear hb
        go_wp2_with fail
        refine (HY.out _ (tab_of hT HB6)).mono ?_
        rintro e w7 ⟨rfl, hb⟩
        have HB7 : Hid (Below w.heap.size w w7) := Lib.hid (below_trans' HB6.out hb)
        clear hb
        go_wp2
        go_ret
        exact ⟨rfl, HB7.out⟩
      · clear hcx
        have g3 : decide ((x.toNat : Int) < 192) = false := decide_eq_false (by omega)
        go_wp2_with fail
        refine (HT.out _ (tab_of hT HB3)).mono ?_
        rintro e w4 ⟨rfl, hb⟩
        have HB4 : Hid (Below w.heap.size w w4) := Lib.hid (below_trans' HB3.out hb)
        clear hb
        go_wp2_with fail
        refine (HD.out _ (tab_of hT HB4)).mono ?_
        rintro e w5 ⟨rfl, hb⟩
        have HB5 : Hid (Below w.heap.size w w5) := Lib.hid (below_trans' HB4.out hb)
        clear hb
        go_wp2_with fail
        refine (HX.out _ (tab_of hT HB5)).mono ?_
        rintro e w6 ⟨rfl, hb⟩
        have HB6 : Hid (Below w.heap.size w w6) := Lib.hid (below_trans' HB5.out hb)
        clear hb
        go_wp2_with fail
        refine (HY.out _ (tab_of hT HB6)).mono ?_
        rintro e w7 ⟨rfl, hb⟩
        have HB7 : Hid (Below w.heap.size w w7) := Lib.hid (below_trans' HB6.out hb)
        clear hb
        go_wp2
        go_ret
        exact ⟨rfl, HB7.out⟩
set_option maxRecDepth 100000 in
set_option maxHeartbeats 4000000 in
theorem fin_le (a b : ByteArray) (cut : Int) (w : World) (hT : Hid (Tab w)) (hs : ¬ 2000 < a.size) (hk : ¬ 2000 < b.size) (ha63 : (a.size : Int) ≤ 9223372036854775807) (hb63 : (b.size : Int) ≤ 9223372036854775807) (hpos : 0 < a.size) (M : Nat) (hM : wrap64 ((IntKind.u64.wrap cut).tmod (a.size : Int)) = (M : Int)) (hMl : M < a.size) (x : UInt8) (hx : a[M] = x) (hxb : x.toNat < 256) (hMi : (M : Int) ≤ (a.size : Int)) (hct : cont x = decide (128 ≤ x.toNat ∧ x.toNat < 192)) (hz : M = 0 → cont x = false) (HA : Hid (VC a true)) (HX : Hid (VC (a ++ { data := #[128] }) false)) (HY : Hid (VC ({ data := #[10] } ++ a) false)) (HT : Hid (VC (a.extract 0 M) (decide (0 < M) && !cont x))) (HD : Hid (VC (a.extract M a.size) (!cont x))) (HB : Hid (VC b true)) (A B : Nat) (hA2 : A ≤ 2000) (hB2 : B ≤ 2000) (HS1 : Hid (∀ W, Calls Tryd.prog 37 #[.string a] W fun e w' => e = .returned (.int .i64 (A : Nat)) ∧ W = w')) (HS2 : Hid (∀ W, Calls Tryd.prog 37 #[.string b] W fun e w' => e = .returned (.int .i64 (B : Nat)) ∧ W = w')) (HJ2 : Hid (VC (a ++ b) true)) (hab2 : decide ((A : Int) + (B : Int) ≤ 64) = true) :
    Calls Tryd.prog 11 #[.string a, .string b, .int .i64 cut] w fun e w' => e = .returned (.bool true) ∧ Below w.heap.size w w' := by
  have HB0 : Hid (Below w.heap.size w w) := Lib.hid (Below.refl _ _)
  go_enter Tryd.func11, Tryd.ntmps11
  go_wp2_with fail
  refine (awake_any _ (tab_of hT HB0)).mono ?_
  rintro e w1 ⟨rfl, hb⟩
  have HB1 : Hid (Below w.heap.size w w1) := Lib.hid (below_trans' HB0.out hb)
  clear hb
  go_wp2_with fail
  refine (HA.out _ (tab_of hT HB1)).mono ?_
  rintro e w2 ⟨rfl, hb⟩
  have HB2 : Hid (Below w.heap.size w w2) := Lib.hid (below_trans' HB1.out hb)
  clear hb
  go_wp2_with fail
  refine (HB.out _ (tab_of hT HB2)).mono ?_
  rintro e w3 ⟨rfl, hb⟩
  have HB3 : Hid (Below w.heap.size w w3) := Lib.hid (below_trans' HB2.out hb)
  clear hb
  go_wp2_with fail
  refine (HJ2.out _ (tab_of hT HB3)).mono ?_
  rintro e w4 ⟨rfl, hb⟩
  have HB4 : Hid (Below w.heap.size w w4) := Lib.hid (below_trans' HB3.out hb)
  clear hb
  go_wp2_with fail
  refine (HS1.out _).mono ?_
  rintro e wx ⟨rfl, rfl⟩
  go_wp2_with fail
  refine (HS2.out _).mono ?_
  rintro e wx ⟨rfl, rfl⟩
  by_cases hcx : 128 ≤ x.toNat ∧ x.toNat < 192
  · rw [decide_eq_true hcx] at hct
    have hM0 : 0 < M := by
      rcases Nat.eq_zero_or_pos M with h | h
      · rw [hz h] at hct; cases hct
      · exact h
    rw [hct, decide_eq_true hM0] at HT
    rw [hct] at HD
    have g1 := hcx.1
    have g2 := hcx.2
    clear hcx hz hct
    go_wp2_with fail
    refine (HT.out _ (tab_of hT HB4)).mono ?_
    rintro e w5 ⟨rfl, hb⟩
    have HB5 : Hid (Below w.heap.size w w5) := Lib.hid (below_trans' HB4.out hb)
    clear hb
    go_wp2_with fail
    refine (HD.out _ (tab_of hT HB5)).mono ?_
    rintro e w6 ⟨rfl, hb⟩
    have HB6 : Hid (Below w.heap.size w w6) := Lib.hid (below_trans' HB5.out hb)
    clear hb
    go_wp2_with fail
    refine (HX.out _ (tab_of hT HB6)).mono ?_
    rintro e w7 ⟨rfl, hb⟩
    have HB7 : Hid (Below w.heap.size w w7) := Lib.hid (below_trans' HB6.out hb)
    clear hb
    go_wp2_with fail
    refine (HY.out _ (tab_of hT HB7)).mono ?_
    rintro e w8 ⟨rfl, hb⟩
    have HB8 : Hid (Below w.heap.size w w8) := Lib.hid (below_trans' HB7.out hb)
    clear hb
    go_wp2
    go_ret
    exact ⟨rfl, HB8.out⟩
  · rw [decide_eq_false hcx] at hct
    rw [hct] at HT HD
    clear hz hct
    by_cases hM0 : 0 < M
    · rw [decide_eq_true hM0] at HT
      rcases (show x.toNat < 128 ∨ 192 ≤ x.toNat by omega) with g1 | g1
      · clear hcx
        go_wp2_with fail
        refine (HT.out _ (tab_of hT HB4)).mono ?_
        rintro e w5 ⟨rfl, hb⟩
        have HB5 : Hid (Below w.heap.size w w5) := Lib.hid (below_trans' HB4.out hb)
        clear hb
        go_wp2_with fail
        refine (HD.out _ (tab_of hT HB5)).mono ?_
        rintro e w6 ⟨rfl, hb⟩
        have HB6 : Hid (Below w.heap.size w w6) := Lib.hid (below_trans' HB5.out hb)
        clear hb
        go_wp2_with fail
        refine (HX.out _ (tab_of hT HB6)).mono ?_
        rintro e w7 ⟨rfl, hb⟩
        have HB7 : Hid (Below w.heap.size w w7) := Lib.hid (below_trans' HB6.out hb)
        clear hb
        go_wp2_with fail
        refine (HY.out _ (tab_of hT HB7)).mono ?_
        rintro e w8 ⟨rfl, hb⟩
        have HB8 : Hid (Below w.heap.size w w8) := Lib.hid (below_trans' HB7.out hb)
        clear hb
        go_wp2
        go_ret
        exact ⟨rfl, HB8.out⟩
      · clear hcx
        have g3 : decide ((x.toNat : Int) < 192) = false := decide_eq_false (by omega)
        go_wp2_with fail
        refine (HT.out _ (tab_of hT HB4)).mono ?_
        rintro e w5 ⟨rfl, hb⟩
        have HB5 : Hid (Below w.heap.size w w5) := Lib.hid (below_trans' HB4.out hb)
        clear hb
        go_wp2_with fail
        refine (HD.out _ (tab_of hT HB5)).mono ?_
        rintro e w6 ⟨rfl, hb⟩
        have HB6 : Hid (Below w.heap.size w w6) := Lib.hid (below_trans' HB5.out hb)
        clear hb
        go_wp2_with fail
        refine (HX.out _ (tab_of hT HB6)).mono ?_
        rintro e w7 ⟨rfl, hb⟩
        have HB7 : Hid (Below w.heap.size w w7) := Lib.hid (below_trans' HB6.out hb)
        clear hb
        go_wp2_with fail
        refine (HY.out _ (tab_of hT HB7)).mono ?_
        rintro e w8 ⟨rfl, hb⟩
        have HB8 : Hid (Below w.heap.size w w8) := Lib.hid (below_trans' HB7.out hb)
        clear hb
        go_wp2
        go_ret
        exact ⟨rfl, HB8.out⟩
    · rw [decide_eq_false hM0] at HT
      rcases (show x.toNat < 128 ∨ 192 ≤ x.toNat by omega) with g1 | g1
      · clear hcx
        go_wp2_with fail
        refine (HT.out _ (tab_of hT HB4)).mono ?_
        rintro e w5 ⟨rfl, hb⟩
        have HB5 : Hid (Below w.heap.size w w5) := Lib.hid (below_trans' HB4.out hb)
        clear hb
        go_wp2_with fail
        refine (HD.out _ (tab_of hT HB5)).mono ?_
        rintro e w6 ⟨rfl, hb⟩
        have HB6 : Hid (Below w.heap.size w w6) := Lib.hid (below_trans' HB5.out hb)
        clear hb
        go_wp2_with fail
        refine (HX.out _ (tab_of hT HB6)).mono ?_
        rintro e w7 ⟨rfl, hb⟩
        have HB7 : Hid (Below w.heap.size w w7) := Lib.hid (below_trans' HB6.out hb)
        clear hb
        go_wp2_with fail
        refine (HY.out _ (tab_of hT HB7)).mono ?_
        rintro e w8 ⟨rfl, hb⟩
        have HB8 : Hid (Below w.heap.size w w8) := Lib.hid (below_trans' HB7.out hb)
        clear hb
        go_wp2
        go_ret
        exact ⟨rfl, HB8.out⟩
      · clear hcx
        have g3 : decide ((x.toNat : Int) < 192) = false := decide_eq_false (by omega)
        go_wp2_with fail
        refine (HT.out _ (tab_of hT HB4)).mono ?_
        rintro e w5 ⟨rfl, hb⟩
        have HB5 : Hid (Below w.heap.size w w5) := Lib.hid (below_trans' HB4.out hb)
        clear hb
        go_wp2_with fail
        refine (HD.out _ (tab_of hT HB5)).mono ?_
        rintro e w6 ⟨rfl, hb⟩
        have HB6 : Hid (Below w.heap.size w w6) := Lib.hid (below_trans' HB5.out hb)
        clear hb
        go_wp2_with fail
        refine (HX.out _ (tab_of hT HB6)).mono ?_
        rintro e w7 ⟨rfl, hb⟩
        have HB7 : Hid (Below w.heap.size w w7) := Lib.hid (below_trans' HB6.out hb)
        clear hb
        go_wp2_with fail
        refine (HY.out _ (tab_of hT HB7)).mono ?_
        rintro e w8 ⟨rfl, hb⟩
        have HB8 : Hid (Below w.heap.size w w8) := Lib.hid (below_trans' HB7.out hb)
        clear hb
        go_wp2
        go_ret
        exact ⟨rfl, HB8.out⟩
set_option maxRecDepth 100000 in
set_option maxHeartbeats 4000000 in
theorem fin_gt (a b : ByteArray) (cut : Int) (w : World) (hT : Hid (Tab w)) (hs : ¬ 2000 < a.size) (hk : ¬ 2000 < b.size) (ha63 : (a.size : Int) ≤ 9223372036854775807) (hb63 : (b.size : Int) ≤ 9223372036854775807) (hpos : 0 < a.size) (M : Nat) (hM : wrap64 ((IntKind.u64.wrap cut).tmod (a.size : Int)) = (M : Int)) (hMl : M < a.size) (x : UInt8) (hx : a[M] = x) (hxb : x.toNat < 256) (hMi : (M : Int) ≤ (a.size : Int)) (hct : cont x = decide (128 ≤ x.toNat ∧ x.toNat < 192)) (hz : M = 0 → cont x = false) (HA : Hid (VC a true)) (HX : Hid (VC (a ++ { data := #[128] }) false)) (HY : Hid (VC ({ data := #[10] } ++ a) false)) (HT : Hid (VC (a.extract 0 M) (decide (0 < M) && !cont x))) (HD : Hid (VC (a.extract M a.size) (!cont x))) (HB : Hid (VC b true)) (A B : Nat) (hA2 : A ≤ 2000) (hB2 : B ≤ 2000) (HS1 : Hid (∀ W, Calls Tryd.prog 37 #[.string a] W fun e w' => e = .returned (.int .i64 (A : Nat)) ∧ W = w')) (HS2 : Hid (∀ W, Calls Tryd.prog 37 #[.string b] W fun e w' => e = .returned (.int .i64 (B : Nat)) ∧ W = w')) (HJ2 : Hid (VC (a ++ b) false)) (hab2 : decide ((A : Int) + (B : Int) ≤ 64) = false) :
    Calls Tryd.prog 11 #[.string a, .string b, .int .i64 cut] w fun e w' => e = .returned (.bool true) ∧ Below w.heap.size w w' := by
  have HB0 : Hid (Below w.heap.size w w) := Lib.hid (Below.refl _ _)
  go_enter Tryd.func11, Tryd.ntmps11
  go_wp2_with fail
  refine (awake_any _ (tab_of hT HB0)).mono ?_
  rintro e w1 ⟨rfl, hb⟩
  have HB1 : Hid (Below w.heap.size w w1) := Lib.hid (below_trans' HB0.out hb)
  clear hb
  go_wp2_with fail
  refine (HA.out _ (tab_of hT HB1)).mono ?_
  rintro e w2 ⟨rfl, hb⟩
  have HB2 : Hid (Below w.heap.size w w2) := Lib.hid (below_trans' HB1.out hb)
  clear hb
  go_wp2_with fail
  refine (HB.out _ (tab_of hT HB2)).mono ?_
  rintro e w3 ⟨rfl, hb⟩
  have HB3 : Hid (Below w.heap.size w w3) := Lib.hid (below_trans' HB2.out hb)
  clear hb
  go_wp2_with fail
  refine (HJ2.out _ (tab_of hT HB3)).mono ?_
  rintro e w4 ⟨rfl, hb⟩
  have HB4 : Hid (Below w.heap.size w w4) := Lib.hid (below_trans' HB3.out hb)
  clear hb
  go_wp2_with fail
  refine (HS1.out _).mono ?_
  rintro e wx ⟨rfl, rfl⟩
  go_wp2_with fail
  refine (HS2.out _).mono ?_
  rintro e wx ⟨rfl, rfl⟩
  by_cases hcx : 128 ≤ x.toNat ∧ x.toNat < 192
  · rw [decide_eq_true hcx] at hct
    have hM0 : 0 < M := by
      rcases Nat.eq_zero_or_pos M with h | h
      · rw [hz h] at hct; cases hct
      · exact h
    rw [hct, decide_eq_true hM0] at HT
    rw [hct] at HD
    have g1 := hcx.1
    have g2 := hcx.2
    clear hcx hz hct
    go_wp2_with fail
    refine (HT.out _ (tab_of hT HB4)).mono ?_
    rintro e w5 ⟨rfl, hb⟩
    have HB5 : Hid (Below w.heap.size w w5) := Lib.hid (below_trans' HB4.out hb)
    clear hb
    go_wp2_with fail
    refine (HD.out _ (tab_of hT HB5)).mono ?_
    rintro e w6 ⟨rfl, hb⟩
    have HB6 : Hid (Below w.heap.size w w6) := Lib.hid (below_trans' HB5.out hb)
    clear hb
    go_wp2_with fail
    refine (HX.out _ (tab_of hT HB6)).mono ?_
    rintro e w7 ⟨rfl, hb⟩
    have HB7 : Hid (Below w.heap.size w w7) := Lib.hid (below_trans' HB6.out hb)
    clear hb
    go_wp2_with fail
    refine (HY.out _ (tab_of hT HB7)).mono ?_
    rintro e w8 ⟨rfl, hb⟩
    have HB8 : Hid (Below w.heap.size w w8) := Lib.hid (below_trans' HB7.out hb)
    clear hb
    go_wp2
    go_ret
    exact ⟨rfl, HB8.out⟩
  · rw [decide_eq_false hcx] at hct
    rw [hct] at HT HD
    clear hz hct
    by_cases hM0 : 0 < M
    · rw [decide_eq_true hM0] at HT
      rcases (show x.toNat < 128 ∨ 192 ≤ x.toNat by omega) with g1 | g1
      · clear hcx
        go_wp2_with fail
        refine (HT.out _ (tab_of hT HB4)).mono ?_
        rintro e w5 ⟨rfl, hb⟩
        have HB5 : Hid (Below w.heap.size w w5) := Lib.hid (below_trans' HB4.out hb)
        clear hb
        go_wp2_with fail
        refine (HD.out _ (tab_of hT HB5)).mono ?_
        rintro e w6 ⟨rfl, hb⟩
        have HB6 : Hid (Below w.heap.size w w6) := Lib.hid (below_trans' HB5.out hb)
        clear hb
        go_wp2_with fail
        refine (HX.out _ (tab_of hT HB6)).mono ?_
        rintro e w7 ⟨rfl, hb⟩
        have HB7 : Hid (Below w.heap.size w w7) := Lib.hid (below_trans' HB6.out hb)
        clear hb
        go_wp2_with fail
        refine (HY.out _ (tab_of hT HB7)).mono ?_
        rintro e w8 ⟨rfl, hb⟩
        have HB8 : Hid (Below w.heap.size w w8) := Lib.hid (below_trans' HB7.out hb)
        clear hb
        go_wp2
        go_ret
        exact ⟨rfl, HB8.out⟩
      · clear hcx
        have g3 : decide ((x.toNat : Int) < 192) = false := decide_eq_false (by omega)
        go_wp2_with fail
        refine (HT.out _ (tab_of hT HB4)).mono ?_
        rintro e w5 ⟨rfl, hb⟩
        have HB5 : Hid (Below w.heap.size w w5) := Lib.hid (below_trans' HB4.out hb)
        clear hb
        go_wp2_with fail
        refine (HD.out _ (tab_of hT HB5)).mono ?_
        rintro e w6 ⟨rfl, hb⟩
        have HB6 : Hid (Below w.heap.size w w6) := Lib.hid (below_trans' HB5.out hb)
        clear hb
        go_wp2_with fail
        refine (HX.out _ (tab_of hT HB6)).mono ?_
        rintro e w7 ⟨rfl, hb⟩
        have HB7 : Hid (Below w.heap.size w w7) := Lib.hid (below_trans' HB6.out hb)
        clear hb
        go_wp2_with fail
        refine (HY.out _ (tab_of hT HB7)).mono ?_
        rintro e w8 ⟨rfl, hb⟩
        have HB8 : Hid (Below w.heap.size w w8) := Lib.hid (below_trans' HB7.out hb)
        clear hb
        go_wp2
        go_ret
        exact ⟨rfl, HB8.out⟩
    · rw [decide_eq_false hM0] at HT
      rcases (show x.toNat < 128 ∨ 192 ≤ x.toNat by omega) with g1 | g1
      · clear hcx
        go_wp2_with fail
        refine (HT.out _ (tab_of hT HB4)).mono ?_
        rintro e w5 ⟨rfl, hb⟩
        have HB5 : Hid (Below w.heap.size w w5) := Lib.hid (below_trans' HB4.out hb)
        clear hb
        go_wp2_with fail
        refine (HD.out _ (tab_of hT HB5)).mono ?_
        rintro e w6 ⟨rfl, hb⟩
        have HB6 : Hid (Below w.heap.size w w6) := Lib.hid (below_trans' HB5.out hb)
        clear hb
        go_wp2_with fail
        refine (HX.out _ (tab_of hT HB6)).mono ?_
        rintro e w7 ⟨rfl, hb⟩
        have HB7 : Hid (Below w.heap.size w w7) := Lib.hid (below_trans' HB6.out hb)
        clear hb
        go_wp2_with fail
        refine (HY.out _ (tab_of hT HB7)).mono ?_
        rintro e w8 ⟨rfl, hb⟩
        have HB8 : Hid (Below w.heap.size w w8) := Lib.hid (below_trans' HB7.out hb)
        clear hb
        go_wp2
        go_ret
        exact ⟨rfl, HB8.out⟩
      · clear hcx
        have g3 : decide ((x.toNat : Int) < 192) = false := decide_eq_false (by omega)
        go_wp2_with fail
        refine (HT.out _ (tab_of hT HB4)).mono ?_
        rintro e w5 ⟨rfl, hb⟩
        have HB5 : Hid (Below w.heap.size w w5) := Lib.hid (below_trans' HB4.out hb)
        clear hb
        go_wp2_with fail
        refine (HD.out _ (tab_of hT HB5)).mono ?_
        rintro e w6 ⟨rfl, hb⟩
        have HB6 : Hid (Below w.heap.size w w6) := Lib.hid (below_trans' HB5.out hb)
        clear hb
        go_wp2_with fail
        refine (HX.out _ (tab_of hT HB6)).mono ?_
        rintro e w7 ⟨rfl, hb⟩
        have HB7 : Hid (Below w.heap.size w w7) := Lib.hid (below_trans' HB6.out hb)
        clear hb
        go_wp2_with fail
        refine (HY.out _ (tab_of hT HB7)).mono ?_
        rintro e w8 ⟨rfl, hb⟩
        have HB8 : Hid (Below w.heap.size w w8) := Lib.hid (below_trans' HB7.out hb)
        clear hb
        go_wp2
        go_ret
        exact ⟨rfl, HB8.out⟩
set_option maxRecDepth 100000 in
set_option maxHeartbeats 4000000 in
theorem core (a b : ByteArray) (cut : Int) (w : World) (wa : a.size ≤ maxLen) (wb : b.size ≤ maxLen) (wc : (Lit.int .i64 cut).wf = true) (hT : Hid (Tab w)) :
    Calls Tryd.prog 11 #[.string a, .string b, .int .i64 cut] w fun e w' => e = .returned (.bool true) ∧ Below w.heap.size w w' := by
  have ha63 : (a.size : Int) ≤ 9223372036854775807 := by unfold maxLen at wa; omega
  have hb63 : (b.size : Int) ≤ 9223372036854775807 := by unfold maxLen at wb; omega
  obtain ⟨hc0, hc1⟩ := bounds_i64 wc
  clear wc wa wb
  by_cases hs : 2000 < a.size
  · have HB0 : Hid (Below w.heap.size w w) := Lib.hid (Below.refl _ _)
    go_enter Tryd.func11, Tryd.ntmps11
    go_wp2_with fail
    refine (awake_any _ (tab_of hT HB0)).mono ?_
    rintro e w1 ⟨rfl, hb⟩
    have HB1 : Hid (Below w.heap.size w w1) := Lib.hid (below_trans' HB0.out hb)
    clear hb
    go_wp2
    go_ret
    exact ⟨rfl, HB1.out⟩
  by_cases hk : 2000 < b.size
  · have HB0 : Hid (Below w.heap.size w w) := Lib.hid (Below.refl _ _)
    go_enter Tryd.func11, Tryd.ntmps11
    go_wp2_with fail
    refine (awake_any _ (tab_of hT HB0)).mono ?_
    rintro e w1 ⟨rfl, hb⟩
    have HB1 : Hid (Below w.heap.size w w1) := Lib.hid (below_trans' HB0.out hb)
    clear hb
    go_wp2
    go_ret
    exact ⟨rfl, HB1.out⟩
  have h20 : a.size ≤ 9223372036854775807 := by omega
  have h21 : b.size ≤ 9223372036854775807 := by omega
  have hza := Lib.size_eq a
  cases hm : mayV a.data.toList with
  | false =>
    have HA := vc a h20 _ hm
    clear hm hza
    have HB0 : Hid (Below w.heap.size w w) := Lib.hid (Below.refl _ _)
    go_enter Tryd.func11, Tryd.ntmps11
    go_wp2_with fail
    refine (awake_any _ (tab_of hT HB0)).mono ?_
    rintro e w1 ⟨rfl, hb⟩
    have HB1 : Hid (Below w.heap.size w w1) := Lib.hid (below_trans' HB0.out hb)
    clear hb
    go_wp2_with fail
    refine (HA.out _ (tab_of hT HB1)).mono ?_
    rintro e w2 ⟨rfl, hb⟩
    have HB2 : Hid (Below w.heap.size w w2) := Lib.hid (below_trans' HB1.out hb)
    clear hb
    go_wp2
    go_ret
    exact ⟨rfl, HB2.out⟩
  | true =>
    have HA := vc a h20 _ hm
    have hpos : 0 < a.size := by have := (mayV_len hm).1; omega
    obtain ⟨M, hM, hMl⟩ := cut_at cut a.size hpos (by omega)
    have HX := vc (a ++ { data := #[128] }) (by rw [ByteArray.size_append]; show a.size + 1 ≤ _; omega) false (by rw [ByteArray.data_append, Array.toList_append]; exact mayV_behind hm)
    have HY := vc ({ data := #[10] } ++ a) (by rw [ByteArray.size_append]; show 1 + a.size ≤ _; omega) false (by rw [ByteArray.data_append, Array.toList_append]; exact mayV_ahead hm)
    have HT := vc (a.extract 0 M) (by rw [ByteArray.size_extract]; omega) _ ((congrArg mayV (ext0 a M)).trans (mayV_take hm (by omega)))
    have HD := vc (a.extract M a.size) (by rw [ByteArray.size_extract]; omega) _ ((congrArg mayV (ext1 a M)).trans (mayV_drop hm (by omega)))
    have hz : M = 0 → cont (a.data.toList.getD M 0) = false := fun e => by
      subst e
      have := mayV_drop hm (k := 0) (by omega)
      rw [List.drop_zero, hm] at this
      cases hc : cont (a.data.toList.getD 0 0) with
      | false => rfl
      | true => rw [hc] at this; cases this
    rw [getD_at a M hMl] at HT HD hz
    have HS1 := Lib.hid (fun W => starts_any a h20 W)
    have HS2 := Lib.hid (fun W => starts_any b h21 W)
    have HJ := fun (k : mayV b.data.toList = true) => vc (a ++ b) (by rw [ByteArray.size_append]; omega) (decide (st a.data.toList + st b.data.toList ≤ 64)) (by rw [ByteArray.data_append, Array.toList_append]; exact mayV_join hm k)
    have hs1 := st_le a.data.toList
    have hs2 := st_le b.data.toList
    have hzb := Lib.size_eq b
    have hA2 : st a.data.toList ≤ 2000 := by omega
    have hB2 : st b.data.toList ≤ 2000 := by omega
    clear hs1 hs2 hm hza hzb
    generalize st a.data.toList = A at *
    generalize st b.data.toList = B at *
    obtain ⟨x, hx⟩ : ∃ x : UInt8, a[M]'hMl = x := ⟨_, rfl⟩
    rw [hx] at HT HD hz
    have hxb : x.toNat < 256 := UInt8.toNat_lt x
    have hMi : (M : Int) ≤ (a.size : Int) := by omega
    have hct : cont x = decide (128 ≤ x.toNat ∧ x.toNat < 192) := rfl
    cases hmb : mayV b.data.toList with
    | false =>
      have HB := vc b h21 _ hmb
      clear HJ hmb HS1 HS2 hA2 hB2
      exact fin_no a b cut w hT hs hk ha63 hb63 hpos M hM hMl x hx hxb hMi hct hz HA HX HY HT HD HB
    | true =>
      have HB := vc b h21 _ hmb
      have HJ2 := HJ hmb
      clear HJ hmb
      by_cases hab : A + B ≤ 64
      · rw [decide_eq_true hab] at HJ2
        have hab2 : decide ((A : Int) + (B : Int) ≤ 64) = true := decide_eq_true (by omega)
        exact fin_le a b cut w hT hs hk ha63 hb63 hpos M hM hMl x hx hxb hMi hct hz HA HX HY HT HD HB A B hA2 hB2 HS1 HS2 HJ2 hab2
      · rw [decide_eq_false hab] at HJ2
        have hab2 : decide ((A : Int) + (B : Int) ≤ 64) = false := decide_eq_false (by omega)
        exact fin_gt a b cut w hT hs hk ha63 hb63 hpos M hM hMl x hx hxb hMi hct hz HA HX HY HT HD HB A B hA2 hB2 HS1 HS2 HJ2 hab2
set_option maxRecDepth 100000 in
theorem lifted (os : Os) (started : os.Started) (H : Type) (enc : TypeId × Value → H) :
    ReturnsInHanded {} Tryd.checked os 11 .any (fun w args => (Rows.labelsRunesSpec.pre enc Tryd.prog Tryd.f11 [] false w args ∧ laidMetH Tryd.prog laid w) ∧ sizedMet enc Tryd.prog Tryd.f11 (OpenSpec.ofChange Rows.labelsRunesSpec) false w args)
      (Rows.labelsRunesSpec.post enc Tryd.prog Tryd.f11 false true false false) := by
  refine returnsInHanded_of_change_and (C := Tryd.checked) (X := fun w _ => laidMetH Tryd.prog laid w) (fun _ _ _ hh h => h.of_heap hh) own started (by kernel_rfl) Tryd.func11
    (ChangeSpec.witness_shaped (enc := enc) (C := Tryd.checked) (os := os) (X := fun w _ => laidMetH Tryd.prog laid w) false (World.laidAll Tryd.prog os laid) #[.string ByteArray.empty, .string ByteArray.empty, .int .i64 0] 8 (World.laidAll_os _ _ _) (World.shaped_of_ZipB (by kernel_rfl) (by kernel_rfl)) (by kernel_rfl) (by kernel_rfl) (by kernel_rfl) (door_met os _)) ?_
  intro W base args ds gs before hval0 hW hcnd _ hL _
  have hval : ∀ (j : Nat) t v, Tryd.f11.params[j]? = some t → args[j]? = some v → Value.okWide Tryd.prog W .any base t v := hval0
  have hW' := hW
  obtain ⟨p, q, hA0, hV, rfl, hfz, hnd⟩ := hW
  have hA : DataW.TrodAll enc Tryd.prog W 0 (fun _ => true) true Tryd.f11.params.toList args.toList ds p := hA0
  rw [Tryd.params11] at hA hval
  obtain ⟨v0, vs0, d0, ds0, p0, q0, hargs, rfl, rfl, h0, r0⟩ := trodAll_cons hA
  obtain ⟨v1, vs1, d1, ds1, p1, q1, rfl, rfl, rfl, h1, r1⟩ := trodAll_cons r0
  obtain ⟨v2, vs2, d2, ds2, p2, q2, rfl, rfl, rfl, h2, r2⟩ := trodAll_cons r1
  obtain ⟨rfl, rfl, rfl⟩ := trodAll_nil r2
  obtain rfl : args = #[v0, v1, v2] := by cases args; simp_all
  obtain ⟨rfl, rfl⟩ := trodVars_none hV
  have k0 := h0
  have lt0 : ∀ x ∈ p0, x.block < W.heap.size := by obtain ⟨m, hm⟩ := k0; exact DataW.trod_lt m _ _ _ hm
  have k1 := h1
  have lt1 : ∀ x ∈ p1, x.block < W.heap.size := by obtain ⟨m, hm⟩ := k1; exact DataW.trod_lt m _ _ _ hm
  have k2 := h2
  have lt2 : ∀ x ∈ p2, x.block < W.heap.size := by obtain ⟨m, hm⟩ := k2; exact DataW.trod_lt m _ _ _ hm
  obtain ⟨a0, rfl, rfl, rfl, w0⟩ := open_string Tryd.underlying9 (hval 0 9 v0 rfl rfl) h0
  obtain ⟨a1, rfl, rfl, rfl, w1⟩ := open_string Tryd.underlying9 (hval 1 9 v1 rfl rfl) h1
  obtain ⟨a2, rfl, rfl, rfl, w2⟩ := open_int Tryd.underlying3 (hval 2 3 v2 rfl rfl) h2
  clear hA0 hval0
  refine (core a0 a1 a2 W w0 w1 w2 (Lib.hid (of_laid hL))).mono fun e W' ⟨he, bel⟩ => ?_
  subst he
  exact ⟨_, rfl, _, _, _, [], _, [], hW', trodAll_mk1 (shut_bool Tryd.underlying4 _), (trodAll_cons_mk (Below.trod laidOut (by kernel_rfl) (of_decide_eq_true (by kernel_rfl)) k0 bel lt0) (trodAll_cons_mk (Below.trod laidOut (by kernel_rfl) (of_decide_eq_true (by kernel_rfl)) k1 bel lt1) (trodAll_cons_mk (Below.trod laidOut (by kernel_rfl) (of_decide_eq_true (by kernel_rfl)) k2 bel lt2) trodAll_mk0))), rfl, bel.frame _, fun h => by cases h⟩
theorem over : Rows.labelsRunesRow.holds Tryd.pinned (OpenSpec.ofChange Rows.labelsRunesSpec) :=
  OpenClaim.holds_of_wide 11 Tryd.f11 rfl rfl rfl rfl rfl rfl rfl ⟨rfl, rfl, rfl, rfl, rfl⟩ rfl rfl rfl rfl rfl (by kernel_rfl) Tryd.func11 (by kernel_rfl)
    (of_decide_eq_true (by kernel_rfl)) (by unfold Func.isWrapper; first | (rw [if_pos (by decide +kernel)]; kernel_rfl) | (rw [if_neg (by decide +kernel)]; exact ⟨rfl, rfl⟩))
    (fun os started H enc _ => lifted os started H enc)
theorem proved : Rows.LabelsRunesCardSaid :=
  Claim7.holds_tied_plain_at .later [] [.data, .data, .data, .data, .pinned] true (true, "29d8eb039746b622064e7fdd6be2e3716893f65b16f6a8010a72416b636b660b") false
    over (fun _ h => by cases h) (by kernel_rfl) (fun _ h => by cases h) labelsRunes_row_tie rfl ⟨rfl, rfl⟩ (by kernel_rfl) rfl
    (fun f fn hf hfn => by
      obtain rfl : f = 11 := Option.some.inj ((show Tryd.prog.funcNamed "baton/batonlaw05.LabelsRunes" = some 11 by kernel_rfl).symm.trans hf) |>.symm
      obtain rfl : fn = Tryd.f11 := (Option.some.inj (Tryd.func11.symm.trans hfn)).symm
      exact ⟨by kernel_rfl, fun j t ht => by
        rw [Tryd.params11] at ht
        have hm : t ∈ [9, 9, 3] := by simpa using Array.mem_of_getElem? ht
        have hall : ([9, 9, 3].all fun u => !Tryd.prog.wantsStandIn u) = true := by kernel_rfl
        exact (show Tryd.prog.wantsStandIn t = false by simpa using List.all_eq_true.1 hall t hm)⟩)
    (by kernel_rfl)
end Go.Proofs.YtjhgmlhoefakpaaDoor.labelsRunes
