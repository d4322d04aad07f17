/- FrameBack: for any kind, any payload, any text and any place the law answers true. Condition: the table of package sum reads as its initialiser lays it (tied to the program's text by the card). -/
import Derived.Test.YtkbifmgddbilmaaDoorCards
import Derived.Test.YtkbifmgddbilmaaDoorTie
import Derived.Test.YtkbifmgddbilmaaDoorSf
import Derived.Test.YtkbifmgddbilmaaDoorAw
import Derived.Deep.QuietTactic
import Derived.SevenTiedAt
namespace Go.Proofs.YtkbifmgddbilmaaDoor.frameBack
open Go Go.ChangeShapes Go.WideShapes Go.ChangeAt Go.RowKit
open Go.ChangeMaps (open_string shut_string)
set_option linter.unusedVariables false
open Go.Sort
theorem long (k a : Int) (s t : ByteArray) (h : 20000 < s.size ∨ 20000 < t.size) (h0 : s.size ≤ 9223372036854775807) (h1 : t.size ≤ 9223372036854775807) (w : World) (hT : Hid (Tab w)) : Calls Tryd.prog 6 #[.int .u8 k, .string s, .string t, .int .i64 a] w (Ret w (.bool true)) := by
  by_cases hs : 20000 < s.size
  · clear h
    go_enter Tryd.func6, Tryd.ntmps6
    go_wp2_with (go_at_call 11; refine (awake_any _ hT).mono ?_; rintro e w1 ⟨rfl, hb1⟩; have HB1 := Lib.hid hb1; clear hb1)
    go_ret
    exact ⟨rfl, HB1.out⟩
  · have ht : 20000 < t.size := by omega
    clear h
    go_enter Tryd.func6, Tryd.ntmps6
    go_wp2_with (go_at_call 11; refine (awake_any _ hT).mono ?_; rintro e w1 ⟨rfl, hb1⟩; have HB1 := Lib.hid hb1; clear hb1)
    go_ret
    exact ⟨rfl, HB1.out⟩
theorem made_grown (k : UInt8) (p T : ByteArray) (h : bs (mdl k p) = T) (W : World) (d : Nat) (os : Array Obj) (hT : Tab (grow (redrawn W d) os)) :
    Calls Tryd.prog 24 #[.int .u8 (k.toNat : Int), .string p] (grow (redrawn W d) os) fun e w'' => e = .returned (.string T) ∧ ∃ p : Regrown, w'' = grow (redrawn W p.d) p.os := by
  subst h
  exact Calls.regrown_of (made_any k p _ (Lib.hid hT))
theorem bh_mid (t b : ByteArray) : bh (t ++ b ++ t) t.size = b.data.toList ++ t.data.toList := by
  unfold bh
  have e : (t ++ b ++ t).data.toList = t.data.toList ++ (b.data.toList ++ t.data.toList) := by simp
  rw [e]
  exact List.drop_left' (by simp)
set_option maxRecDepth 100000 in
set_option maxHeartbeats 2000000 in
theorem main_okok (k : UInt8) (s t : ByteArray) (hs : s.size ≤ 20000) (ht : t.size ≤ 20000) (hk : 1 ≤ k.toNat ∧ k.toNat ≤ 3) (at' : Nat) (hg : Fr.Good (bh t at')) (w : World) (hT : Hid (Tab w)) : Calls Tryd.prog 6 #[.int .u8 (k.toNat : Int), .string s, .string t, .int .i64 (at' : Int)] w (Ret w (.bool true)) := by
  have hgw := hg.whole
  rw [bh_length] at hgw
  have hgn := hg.nine
  rw [bh_length] at hgn
  have r1 := fun W (hW : Tab W) => read_ok t at' hg W (by omega) (Lib.hid hW)
  have hY : t.extract at' (at' + 9 + Fr.ln (bh t at')) = bs (Fr.frm (Fr.kd (bh t at')) (Fr.pl (bh t at'))) := by
    refine bs_toData _ _ ?_
    rw [ext_toList, List.drop_take, ← Fr.good_frm hg, show at' + 9 + Fr.ln (bh t at') - at' = 9 + Fr.ln (bh t at') by omega]
  have hgo := Fr.good_ok hg
  have hmd : bs (mdl (Fr.kd (bh t at')) (bs (Fr.pl (bh t at')))) = bs (Fr.frm (Fr.kd (bh t at')) (Fr.pl (bh t at'))) := congrArg bs (ok1 _ _ hgo.1 hgo.2)
  have cm := made_grown _ _ _ hmd
  have hX1 : at' ≤ at' + 9 + Fr.ln (bh t at') := by omega
  have hX2 : at' + 9 + Fr.ln (bh t at') ≤ t.size := by omega
  clear hgw hgn hg hgo hmd
  generalize at' + 9 + Fr.ln (bh t at') = X at *
  generalize bs (Fr.frm (Fr.kd (bh t at')) (Fr.pl (bh t at'))) = Y at *
  generalize Fr.kd (bh t at') = kk at *
  generalize bs (Fr.pl (bh t at')) = P at *
  have hYY : (Y.toList == Y.toList) = true := by simp
  have R1 := Lib.hid r1
  have CM := Lib.hid cm
  clear r1 cm
  have hm : mdl k s = Fr.frm k s.data.toList := by unfold mdl; rw [if_pos hk, if_pos (by omega)]
  have hmE : mkE k s = 0 := by unfold mkE; rw [if_pos hk, if_pos (by omega)]
  have c1 := fun W (hW : Tab W) => make_any k s W (Lib.hid hW)
  rw [hmE, hm] at c1
  have hok : Fr.Ok k s.data.toList := ⟨hk, by simp; omega⟩
  have hbz : (bs (Fr.frm k s.data.toList)).size = s.size + 9 := by rw [bs_size, Fr.frm_length]; simp; omega
  have hgd : Fr.Good (bh (t ++ bs (Fr.frm k s.data.toList) ++ t) t.size) := by rw [bh_mid]; exact Fr.good_of k s.data.toList _ hok
  have hz2 : (t ++ bs (Fr.frm k s.data.toList)).size = t.size + (s.size + 9) := by rw [ByteArray.size_append, hbz]
  have hz3 : (t ++ bs (Fr.frm k s.data.toList) ++ t).size = t.size + (s.size + 9) + t.size := by rw [ByteArray.size_append, hz2]
  have c2 := fun W (hW : Tab W) => read_ok (t ++ bs (Fr.frm k s.data.toList) ++ t) t.size hgd W (by rw [hz3]; omega) (Lib.hid hW)
  rw [bh_mid, bs_data, Fr.kd_frm, Fr.pl_frm _ _ _ hok.2, Fr.ln_frm _ _ _ hok.2, bs_of] at c2
  rw [show t.size + 9 + s.data.toList.length = t.size + (s.size + 9) by simp; omega] at c2
  have c3 := fun W (hW : Tab W) => one_any (bs (Fr.frm k s.data.toList)) k W (by rw [hbz]; omega) (Lib.hid hW)
  have hone : oneV (bs (Fr.frm k s.data.toList)) k = .tuple #[.string s, .bool true] := by
    have hg := Fr.good_of k s.data.toList [] hok
    rw [List.append_nil] at hg
    have e1 := Fr.kd_frm k s.data.toList []
    have e2 := Fr.ln_frm k s.data.toList [] hok.2
    have e3 := Fr.pl_frm k s.data.toList [] hok.2
    rw [List.append_nil] at e1 e2 e3
    unfold oneV
    rw [if_pos ⟨Fr.er_good.2 (by rw [bs_data]; exact hg), by rw [bs_data]; exact e1, by rw [bs_data, e2, hbz]; simp; omega⟩, bs_data, e3, bs_of]
  rw [hone] at c3
  have hsm := fun W => same_true (k.toNat : Int) s (t.size : Int) W
  obtain ⟨b, hb⟩ : ∃ b, bs (Fr.frm k s.data.toList) = b := ⟨_, rfl⟩
  rw [hb] at c1 c2 c3 hbz hz2 hz3
  obtain ⟨tb, htb⟩ : ∃ tb, t ++ b = tb := ⟨_, rfl⟩
  rw [htb] at c2 hz2 hz3
  obtain ⟨tbt, htbt⟩ : ∃ u, tb ++ t = u := ⟨_, rfl⟩
  rw [htbt] at c2 hz3
  have C1 := Lib.hid c1
  have C2 := Lib.hid c2
  have C3 := Lib.hid c3
  have HSM := Lib.hid hsm
  have hst : (s.toList == s.toList) = true := by simp
  have hst2 : (s.toList != s.toList) = false := by simp
  generalize (k.toNat : Int) = K at *
  clear c1 c2 c3 hsm hb hone hgd hok hm hmE hk
  go_enter Tryd.func6, Tryd.ntmps6
  go_wp2_with fail
  refine (awake_any _ hT).mono ?_
  rintro e w1 ⟨rfl, hb1⟩
  have HB1 := Lib.hid hb1
  clear hb1
  go_wp2_with fail
  refine (C1.out _ (hT.out.below HB1.out)).mono ?_
  rintro e w2 ⟨rfl, hb2⟩
  have HB2 := Lib.hid (below_chain HB1.out hb2)
  clear hb2
  go_wp2_with fail
  refine (C2.out _ (hT.out.below HB2.out)).mono ?_
  rintro e w3 ⟨rfl, hb3⟩
  have HB3 := Lib.hid (below_more (.cells #[.int .u8 K, .string s, .int .i64 (t.size : Int)] 24) (below_chain HB2.out hb3))
  have x3 := Box3.new w3 24 (.int .u8 K) (.string s) (.int .i64 (t.size : Int))
  have HX3 := Lib.hid x3
  clear hb3 x3
  go_wp2_with fail
  refine (C3.out _ (hT.out.below HB3.out)).mono ?_
  rintro e w4 ⟨rfl, hb4⟩
  have HB4 := Lib.hid (below_chain HB3.out hb4)
  have x4 : Box3 w4 w3.heap.size 24 (.int .u8 K) (.string s) (.int .i64 (t.size : Int)) := (hb4.block _ HX3.out.lt).trans HX3.out
  have x40 := x4.c0
  have x41 := x4.c1
  have x42 := x4.c2
  clear hb4 x4
  go_wp2_with fail
  refine (HSM.out _).mono ?_
  rintro e w5 ⟨rfl, hb5⟩
  have HB5 := Lib.hid (below_chain HB4.out hb5)
  clear hb5 x40 x41 x42
  go_wp2_with fail
  refine (R1.out _ (hT.out.below HB5.out)).mono ?_
  rintro e w6 ⟨rfl, hb6⟩
  have HB6 := Lib.hid (below_more (.cells #[.int .u8 (kk.toNat : Int), .string P, .int .i64 (at' : Int)] 24) (below_chain HB5.out hb6))
  have x6 := Box3.new w6 24 (.int .u8 (kk.toNat : Int)) (.string P) (.int .i64 (at' : Int))
  clear hb6
  go_wp2_with fail
  generalize hW : w6.alloc (.cells #[.int .u8 (kk.toNat : Int), .string P, .int .i64 (at' : Int)] 24) = W6 at *
  have k0 := fun d os => cell_regrown x6.c0 d os
  have k1 := fun d os => cell_regrown x6.c1 d os
  have k2 := fun d os => cell_regrown x6.c2 d os
  have HT6 := Lib.hid (hT.out.below HB6.out)
  have HC := Lib.hid (fun d os => CM.out W6 d os (HT6.out.below (below_regrown W6 d os)))
  have HW := Lib.hid hW
  clear hW x6
  refine wp_region_quiet_below (by kernel_rfl) (by kernel_rfl) ?_
  iterate 12 (go_big_quiet_step (fail))
  go_big_quiet_step (first | (go_at_call 24; exact HC.out _ _))
  iterate 8 (go_big_quiet_step (fail))
  refine wpQuiet_nil ?_
  intro W7 hw7
  have hb7 : Below W6.heap.size W6 W7 := by obtain ⟨q, rfl⟩ := hw7; exact below_regrown _ _ _
  have HB7 := Lib.hid (below_chain HB6.out hb7)
  clear hw7 hb7 k0 k1 k2 HC
  go_wp2
  go_ret
  exact ⟨rfl, HB7.out⟩
set_option maxRecDepth 100000 in
set_option maxHeartbeats 2000000 in
theorem main_okno (k : UInt8) (s t : ByteArray) (hs : s.size ≤ 20000) (ht : t.size ≤ 20000) (hk : 1 ≤ k.toNat ∧ k.toNat ≤ 3) (at' : Int) (hg : er1 t at' ≠ 0) (w : World) (hT : Hid (Tab w)) : Calls Tryd.prog 6 #[.int .u8 (k.toNat : Int), .string s, .string t, .int .i64 at'] w (Ret w (.bool true)) := by
  have r1 := fun W (hW : Tab W) => read_bad t at' _ rfl hg W (by omega) (Lib.hid hW)
  have hE2 : ((er1 t at' : Int) != 0) = true := by rw [bne_iff_ne]; omega
  generalize er1 t at' = E2 at *
  have R1 := Lib.hid r1
  clear r1 hg
  have hm : mdl k s = Fr.frm k s.data.toList := by unfold mdl; rw [if_pos hk, if_pos (by omega)]
  have hmE : mkE k s = 0 := by unfold mkE; rw [if_pos hk, if_pos (by omega)]
  have c1 := fun W (hW : Tab W) => make_any k s W (Lib.hid hW)
  rw [hmE, hm] at c1
  have hok : Fr.Ok k s.data.toList := ⟨hk, by simp; omega⟩
  have hbz : (bs (Fr.frm k s.data.toList)).size = s.size + 9 := by rw [bs_size, Fr.frm_length]; simp; omega
  have hgd : Fr.Good (bh (t ++ bs (Fr.frm k s.data.toList) ++ t) t.size) := by rw [bh_mid]; exact Fr.good_of k s.data.toList _ hok
  have hz2 : (t ++ bs (Fr.frm k s.data.toList)).size = t.size + (s.size + 9) := by rw [ByteArray.size_append, hbz]
  have hz3 : (t ++ bs (Fr.frm k s.data.toList) ++ t).size = t.size + (s.size + 9) + t.size := by rw [ByteArray.size_append, hz2]
  have c2 := fun W (hW : Tab W) => read_ok (t ++ bs (Fr.frm k s.data.toList) ++ t) t.size hgd W (by rw [hz3]; omega) (Lib.hid hW)
  rw [bh_mid, bs_data, Fr.kd_frm, Fr.pl_frm _ _ _ hok.2, Fr.ln_frm _ _ _ hok.2, bs_of] at c2
  rw [show t.size + 9 + s.data.toList.length = t.size + (s.size + 9) by simp; omega] at c2
  have c3 := fun W (hW : Tab W) => one_any (bs (Fr.frm k s.data.toList)) k W (by rw [hbz]; omega) (Lib.hid hW)
  have hone : oneV (bs (Fr.frm k s.data.toList)) k = .tuple #[.string s, .bool true] := by
    have hg := Fr.good_of k s.data.toList [] hok
    rw [List.append_nil] at hg
    have e1 := Fr.kd_frm k s.data.toList []
    have e2 := Fr.ln_frm k s.data.toList [] hok.2
    have e3 := Fr.pl_frm k s.data.toList [] hok.2
    rw [List.append_nil] at e1 e2 e3
    unfold oneV
    rw [if_pos ⟨Fr.er_good.2 (by rw [bs_data]; exact hg), by rw [bs_data]; exact e1, by rw [bs_data, e2, hbz]; simp; omega⟩, bs_data, e3, bs_of]
  rw [hone] at c3
  have hsm := fun W => same_true (k.toNat : Int) s (t.size : Int) W
  obtain ⟨b, hb⟩ : ∃ b, bs (Fr.frm k s.data.toList) = b := ⟨_, rfl⟩
  rw [hb] at c1 c2 c3 hbz hz2 hz3
  obtain ⟨tb, htb⟩ : ∃ tb, t ++ b = tb := ⟨_, rfl⟩
  rw [htb] at c2 hz2 hz3
  obtain ⟨tbt, htbt⟩ : ∃ u, tb ++ t = u := ⟨_, rfl⟩
  rw [htbt] at c2 hz3
  have C1 := Lib.hid c1
  have C2 := Lib.hid c2
  have C3 := Lib.hid c3
  have HSM := Lib.hid hsm
  have hst : (s.toList == s.toList) = true := by simp
  have hst2 : (s.toList != s.toList) = false := by simp
  generalize (k.toNat : Int) = K at *
  clear c1 c2 c3 hsm hb hone hgd hok hm hmE hk
  go_enter Tryd.func6, Tryd.ntmps6
  go_wp2_with fail
  refine (awake_any _ hT).mono ?_
  rintro e w1 ⟨rfl, hb1⟩
  have HB1 := Lib.hid hb1
  clear hb1
  go_wp2_with fail
  refine (C1.out _ (hT.out.below HB1.out)).mono ?_
  rintro e w2 ⟨rfl, hb2⟩
  have HB2 := Lib.hid (below_chain HB1.out hb2)
  clear hb2
  go_wp2_with fail
  refine (C2.out _ (hT.out.below HB2.out)).mono ?_
  rintro e w3 ⟨rfl, hb3⟩
  have HB3 := Lib.hid (below_more (.cells #[.int .u8 K, .string s, .int .i64 (t.size : Int)] 24) (below_chain HB2.out hb3))
  have x3 := Box3.new w3 24 (.int .u8 K) (.string s) (.int .i64 (t.size : Int))
  have HX3 := Lib.hid x3
  clear hb3 x3
  go_wp2_with fail
  refine (C3.out _ (hT.out.below HB3.out)).mono ?_
  rintro e w4 ⟨rfl, hb4⟩
  have HB4 := Lib.hid (below_chain HB3.out hb4)
  have x4 : Box3 w4 w3.heap.size 24 (.int .u8 K) (.string s) (.int .i64 (t.size : Int)) := (hb4.block _ HX3.out.lt).trans HX3.out
  have x40 := x4.c0
  have x41 := x4.c1
  have x42 := x4.c2
  clear hb4 x4
  go_wp2_with fail
  refine (HSM.out _).mono ?_
  rintro e w5 ⟨rfl, hb5⟩
  have HB5 := Lib.hid (below_chain HB4.out hb5)
  clear hb5 x40 x41 x42
  go_wp2_with fail
  refine (R1.out _ (hT.out.below HB5.out)).mono ?_
  rintro e w6 ⟨rfl, hb6⟩
  have HB6 := Lib.hid (below_more (.cells #[.int .u8 0, .string ⟨#[]⟩, .int .i64 0] 24) (below_chain HB5.out hb6))
  clear hb6
  go_wp2_with fail
  refine wp_region_quiet_below (by kernel_rfl) (by kernel_rfl) ?_
  repeat (go_big_quiet_step (fail))
  refine wpQuiet_nil ?_
  intro W7 hw7
  have HB7 : Hid (Below w.heap.size w W7) := Lib.hid (below_chain HB6.out (by obtain ⟨q, rfl⟩ := hw7; exact below_regrown _ _ _))
  clear hw7
  go_wp2
  go_ret
  exact ⟨rfl, HB7.out⟩
set_option maxRecDepth 100000 in
set_option maxHeartbeats 2000000 in
theorem main_nook (k : UInt8) (s t : ByteArray) (hs : s.size ≤ 20000) (ht : t.size ≤ 20000) (hk : mkE k s ≠ 0) (at' : Nat) (hg : Fr.Good (bh t at')) (w : World) (hT : Hid (Tab w)) : Calls Tryd.prog 6 #[.int .u8 (k.toNat : Int), .string s, .string t, .int .i64 (at' : Int)] w (Ret w (.bool true)) := by
  have hgw := hg.whole
  rw [bh_length] at hgw
  have hgn := hg.nine
  rw [bh_length] at hgn
  have r1 := fun W (hW : Tab W) => read_ok t at' hg W (by omega) (Lib.hid hW)
  have hY : t.extract at' (at' + 9 + Fr.ln (bh t at')) = bs (Fr.frm (Fr.kd (bh t at')) (Fr.pl (bh t at'))) := by
    refine bs_toData _ _ ?_
    rw [ext_toList, List.drop_take, ← Fr.good_frm hg, show at' + 9 + Fr.ln (bh t at') - at' = 9 + Fr.ln (bh t at') by omega]
  have hgo := Fr.good_ok hg
  have hmd : bs (mdl (Fr.kd (bh t at')) (bs (Fr.pl (bh t at')))) = bs (Fr.frm (Fr.kd (bh t at')) (Fr.pl (bh t at'))) := congrArg bs (ok1 _ _ hgo.1 hgo.2)
  have cm := made_grown _ _ _ hmd
  have hX1 : at' ≤ at' + 9 + Fr.ln (bh t at') := by omega
  have hX2 : at' + 9 + Fr.ln (bh t at') ≤ t.size := by omega
  clear hgw hgn hg hgo hmd
  generalize at' + 9 + Fr.ln (bh t at') = X at *
  generalize bs (Fr.frm (Fr.kd (bh t at')) (Fr.pl (bh t at'))) = Y at *
  generalize Fr.kd (bh t at') = kk at *
  generalize bs (Fr.pl (bh t at')) = P at *
  have hYY : (Y.toList == Y.toList) = true := by simp
  have R1 := Lib.hid r1
  have CM := Lib.hid cm
  clear r1 cm
  have c1 := fun W (hW : Tab W) => make_any k s W (Lib.hid hW)
  have hE1 : ((mkE k s : Int) == 0) = false := by rw [beq_eq_false_iff_ne]; omega
  generalize bs (mdl k s) = b at *
  generalize mkE k s = E1 at *
  generalize (k.toNat : Int) = K at *
  have C1 := Lib.hid c1
  clear c1 hk
  go_enter Tryd.func6, Tryd.ntmps6
  go_wp2_with fail
  refine (awake_any _ hT).mono ?_
  rintro e w1 ⟨rfl, hb1⟩
  have HB1 := Lib.hid hb1
  clear hb1
  go_wp2_with fail
  refine (C1.out _ (hT.out.below HB1.out)).mono ?_
  rintro e w2 ⟨rfl, hb2⟩
  have HB2 := Lib.hid (below_chain HB1.out hb2)
  clear hb2
  go_wp2_with fail
  refine (R1.out _ (hT.out.below HB2.out)).mono ?_
  rintro e w6 ⟨rfl, hb6⟩
  have HB6 := Lib.hid (below_more (.cells #[.int .u8 (kk.toNat : Int), .string P, .int .i64 (at' : Int)] 24) (below_chain HB2.out hb6))
  have x6 := Box3.new w6 24 (.int .u8 (kk.toNat : Int)) (.string P) (.int .i64 (at' : Int))
  clear hb6
  go_wp2_with fail
  generalize hW : w6.alloc (.cells #[.int .u8 (kk.toNat : Int), .string P, .int .i64 (at' : Int)] 24) = W6 at *
  have k0 := fun d os => cell_regrown x6.c0 d os
  have k1 := fun d os => cell_regrown x6.c1 d os
  have k2 := fun d os => cell_regrown x6.c2 d os
  have HT6 := Lib.hid (hT.out.below HB6.out)
  have HC := Lib.hid (fun d os => CM.out W6 d os (HT6.out.below (below_regrown W6 d os)))
  have HW := Lib.hid hW
  clear hW x6
  refine wp_region_quiet_below (by kernel_rfl) (by kernel_rfl) ?_
  iterate 12 (go_big_quiet_step (fail))
  go_big_quiet_step (first | (go_at_call 24; exact HC.out _ _))
  iterate 8 (go_big_quiet_step (fail))
  refine wpQuiet_nil ?_
  intro W7 hw7
  have hb7 : Below W6.heap.size W6 W7 := by obtain ⟨q, rfl⟩ := hw7; exact below_regrown _ _ _
  have HB7 := Lib.hid (below_chain HB6.out hb7)
  clear hw7 hb7 k0 k1 k2 HC
  go_wp2
  go_ret
  exact ⟨rfl, HB7.out⟩
set_option maxRecDepth 100000 in
set_option maxHeartbeats 2000000 in
theorem main_nono (k : UInt8) (s t : ByteArray) (hs : s.size ≤ 20000) (ht : t.size ≤ 20000) (hk : mkE k s ≠ 0) (at' : Int) (hg : er1 t at' ≠ 0) (w : World) (hT : Hid (Tab w)) : Calls Tryd.prog 6 #[.int .u8 (k.toNat : Int), .string s, .string t, .int .i64 at'] w (Ret w (.bool true)) := by
  have r1 := fun W (hW : Tab W) => read_bad t at' _ rfl hg W (by omega) (Lib.hid hW)
  have hE2 : ((er1 t at' : Int) != 0) = true := by rw [bne_iff_ne]; omega
  generalize er1 t at' = E2 at *
  have R1 := Lib.hid r1
  clear r1 hg
  have c1 := fun W (hW : Tab W) => make_any k s W (Lib.hid hW)
  have hE1 : ((mkE k s : Int) == 0) = false := by rw [beq_eq_false_iff_ne]; omega
  generalize bs (mdl k s) = b at *
  generalize mkE k s = E1 at *
  generalize (k.toNat : Int) = K at *
  have C1 := Lib.hid c1
  clear c1 hk
  go_enter Tryd.func6, Tryd.ntmps6
  go_wp2_with fail
  refine (awake_any _ hT).mono ?_
  rintro e w1 ⟨rfl, hb1⟩
  have HB1 := Lib.hid hb1
  clear hb1
  go_wp2_with fail
  refine (C1.out _ (hT.out.below HB1.out)).mono ?_
  rintro e w2 ⟨rfl, hb2⟩
  have HB2 := Lib.hid (below_chain HB1.out hb2)
  clear hb2
  go_wp2_with fail
  refine (R1.out _ (hT.out.below HB2.out)).mono ?_
  rintro e w6 ⟨rfl, hb6⟩
  have HB6 := Lib.hid (below_more (.cells #[.int .u8 0, .string ⟨#[]⟩, .int .i64 0] 24) (below_chain HB2.out hb6))
  clear hb6
  go_wp2_with fail
  refine wp_region_quiet_below (by kernel_rfl) (by kernel_rfl) ?_
  repeat (go_big_quiet_step (fail))
  refine wpQuiet_nil ?_
  intro W7 hw7
  have HB7 : Hid (Below w.heap.size w W7) := Lib.hid (below_chain HB6.out (by obtain ⟨q, rfl⟩ := hw7; exact below_regrown _ _ _))
  clear hw7
  go_wp2
  go_ret
  exact ⟨rfl, HB7.out⟩
theorem main (k : UInt8) (s t : ByteArray) (at' : Int) (hs : s.size ≤ 20000) (ht : t.size ≤ 20000) (w : World) (hT : Hid (Tab w)) : Calls Tryd.prog 6 #[.int .u8 (k.toNat : Int), .string s, .string t, .int .i64 at'] w (Ret w (.bool true)) := by
  by_cases hk : 1 ≤ k.toNat ∧ k.toNat ≤ 3
  · by_cases h : er1 t at' = 0
    · have hp : 0 ≤ at' ∧ at' ≤ (t.size : Int) := Classical.byContradiction fun hn => by
        rw [er1_out t at' (by omega)] at h; omega
      obtain ⟨a, rfl⟩ := Int.eq_ofNat_of_zero_le hp.1
      rw [er1_at t a (by omega)] at h
      exact main_okok k s t hs ht hk a (Fr.er_good.1 h) w hT
    · exact main_okno k s t hs ht hk at' h w hT
  · have hkE : mkE k s ≠ 0 := by unfold mkE; rw [if_neg hk]; omega
    by_cases h : er1 t at' = 0
    · have hp : 0 ≤ at' ∧ at' ≤ (t.size : Int) := Classical.byContradiction fun hn => by
        rw [er1_out t at' (by omega)] at h; omega
      obtain ⟨a, rfl⟩ := Int.eq_ofNat_of_zero_le hp.1
      rw [er1_at t a (by omega)] at h
      exact main_nook k s t hs ht hkE a (Fr.er_good.1 h) w hT
    · exact main_nono k s t hs ht hkE at' h w hT
theorem core (a0 : Int) (s t : ByteArray) (a3 : Int) (w0 : (Lit.int .u8 a0).wf = true) (w1 : s.size ≤ maxLen) (w2 : t.size ≤ maxLen) (w3 : (Lit.int .i64 a3).wf = true) (w : World) (hT : Hid (Tab w)) :
    Calls Tryd.prog 6 #[.int .u8 a0, .string s, .string t, .int .i64 a3] w fun e w' => e = .returned (.bool true) ∧ Below w.heap.size w w' := by
  unfold maxLen at w1 w2
  obtain ⟨n0, n1⟩ := bounds_u8 w0
  by_cases h : 20000 < s.size ∨ 20000 < t.size
  · exact long a0 a3 s t h (by omega) (by omega) w hT
  · have h2 := main (UInt8.ofNat a0.toNat) s t a3 (by omega) (by omega) w hT
    rw [Bt.ofNat_toNat (by omega), Int.toNat_of_nonneg n0] at h2
    exact h2
set_option maxRecDepth 100000 in
theorem lifted (os : Os) (started : os.Started) (H : Type) (enc : TypeId × Value → H) :
    ReturnsInHanded {} Tryd.checked os 6 .any (fun w args => (Rows.frameBackSpec.pre enc Tryd.prog Tryd.f6 [] false w args ∧ laidMetH Tryd.prog laid w) ∧ sizedMet enc Tryd.prog Tryd.f6 (OpenSpec.ofChange Rows.frameBackSpec) false w args)
      (Rows.frameBackSpec.post enc Tryd.prog Tryd.f6 false true false false) := by
  refine returnsInHanded_of_change_and (C := Tryd.checked) (X := fun w _ => laidMetH Tryd.prog laid w) (fun _ _ _ hh h => h.of_heap hh) own started (by kernel_rfl) Tryd.func6
    (ChangeSpec.witness_shaped (enc := enc) (C := Tryd.checked) (os := os) (X := fun w _ => laidMetH Tryd.prog laid w) false (World.doorLaid Tryd.prog doorSteps os) #[.int .u8 0, .string ByteArray.empty, .string ByteArray.empty, .int .i64 0] 8 rfl (World.shaped_of_RefB (by kernel_rfl) (by kernel_rfl)) (by kernel_rfl) (by kernel_rfl) (by kernel_rfl) (door_met os _)) ?_
  intro W base args ds gs before hval0 hW hcnd _ hL _
  have hval : ∀ (j : Nat) t v, Tryd.f6.params[j]? = some t → args[j]? = some v → Value.okWide Tryd.prog W .any base t v := hval0
  have hW' := hW
  obtain ⟨p, q, hA0, hV, rfl, hfz, hnd⟩ := hW
  have hA : DataW.TrodAll enc Tryd.prog W 0 (fun _ => true) true Tryd.f6.params.toList args.toList ds p := hA0
  rw [Tryd.params6] at hA hval
  obtain ⟨v0, vs0, d0, ds0, p0, q0, hargs, rfl, rfl, h0, r0⟩ := trodAll_cons hA
  obtain ⟨v1, vs1, d1, ds1, p1, q1, rfl, rfl, rfl, h1, r1⟩ := trodAll_cons r0
  obtain ⟨v2, vs2, d2, ds2, p2, q2, rfl, rfl, rfl, h2, r2⟩ := trodAll_cons r1
  obtain ⟨v3, vs3, d3, ds3, p3, q3, rfl, rfl, rfl, h3, r3⟩ := trodAll_cons r2
  obtain ⟨rfl, rfl, rfl⟩ := trodAll_nil r3
  obtain rfl : args = #[v0, v1, v2, v3] := by cases args; simp_all
  obtain ⟨rfl, rfl⟩ := trodVars_none hV
  have k0 := h0
  have lt0 : ∀ x ∈ p0, x.block < W.heap.size := by obtain ⟨m, hm⟩ := k0; exact DataW.trod_lt m _ _ _ hm
  have k1 := h1
  have lt1 : ∀ x ∈ p1, x.block < W.heap.size := by obtain ⟨m, hm⟩ := k1; exact DataW.trod_lt m _ _ _ hm
  have k2 := h2
  have lt2 : ∀ x ∈ p2, x.block < W.heap.size := by obtain ⟨m, hm⟩ := k2; exact DataW.trod_lt m _ _ _ hm
  have k3 := h3
  have lt3 : ∀ x ∈ p3, x.block < W.heap.size := by obtain ⟨m, hm⟩ := k3; exact DataW.trod_lt m _ _ _ hm
  obtain ⟨a0, rfl, rfl, rfl, w0⟩ := open_int Tryd.underlying5 (hval 0 5 v0 rfl rfl) h0
  obtain ⟨a1, rfl, rfl, rfl, w1⟩ := open_string Tryd.underlying9 (hval 1 9 v1 rfl rfl) h1
  obtain ⟨a2, rfl, rfl, rfl, w2⟩ := open_string Tryd.underlying9 (hval 2 9 v2 rfl rfl) h2
  obtain ⟨a3, rfl, rfl, rfl, w3⟩ := open_int Tryd.underlying3 (hval 3 3 v3 rfl rfl) h3
  clear hA0 hval0
  refine (core a0 a1 a2 a3 w0 w1 w2 w3 W (Lib.hid (of_laid hL))).mono fun e W' ⟨he, bel⟩ => ?_
  subst he
  exact ⟨_, rfl, _, _, _, [], _, [], hW', trodAll_mk1 (shut_bool Tryd.underlying4 _), (trodAll_cons_mk (Below.trod laidOut (by kernel_rfl) (of_decide_eq_true (by kernel_rfl)) k0 bel lt0) (trodAll_cons_mk (Below.trod laidOut (by kernel_rfl) (of_decide_eq_true (by kernel_rfl)) k1 bel lt1) (trodAll_cons_mk (Below.trod laidOut (by kernel_rfl) (of_decide_eq_true (by kernel_rfl)) k2 bel lt2) (trodAll_cons_mk (Below.trod laidOut (by kernel_rfl) (of_decide_eq_true (by kernel_rfl)) k3 bel lt3) trodAll_mk0)))), rfl, bel.frame _, fun h => by cases h⟩
theorem over : Rows.frameBackRow.holds Tryd.pinned (OpenSpec.ofChange Rows.frameBackSpec) :=
  OpenClaim.holds_of_wide 6 Tryd.f6 rfl rfl rfl rfl rfl rfl rfl ⟨rfl, rfl, rfl, rfl, rfl⟩ rfl rfl rfl rfl rfl (by kernel_rfl) Tryd.func6 (by kernel_rfl)
    (of_decide_eq_true (by kernel_rfl)) (by unfold Func.isWrapper; first | (rw [if_pos (by decide +kernel)]; kernel_rfl) | (rw [if_neg (by decide +kernel)]; exact ⟨rfl, rfl⟩))
    (fun os started H enc _ => lifted os started H enc)
theorem proved : Rows.FrameBackCardSaid :=
  Claim7.holds_tied_plain_at .later [] [.data] true (true, "528f451f71a3945e035b345f81124441f1a1f31a8451669a6375411dc09c6830") false
    over (fun _ h => by cases h) (by kernel_rfl) (fun _ h => by cases h) frameBack_row_tie rfl ⟨rfl, rfl⟩ (by kernel_rfl) rfl
    (fun f fn hf hfn => by
      obtain rfl : f = 6 := Option.some.inj ((show Tryd.prog.funcNamed "baton/batonlaw08.FrameBack" = some 6 by kernel_rfl).symm.trans hf) |>.symm
      obtain rfl : fn = Tryd.f6 := (Option.some.inj (Tryd.func6.symm.trans hfn)).symm
      exact ⟨by kernel_rfl, fun j t ht => by
        rw [Tryd.params6] at ht
        have hm : t ∈ [5, 9, 9, 3] := by simpa using Array.mem_of_getElem? ht
        have hall : ([5, 9, 9, 3].all fun u => !Tryd.prog.wantsStandIn u) = true := by kernel_rfl
        exact (show Tryd.prog.wantsStandIn t = false by simpa using List.all_eq_true.1 hall t hm)⟩)
    (by kernel_rfl)
end Go.Proofs.YtkbifmgddbilmaaDoor.frameBack
