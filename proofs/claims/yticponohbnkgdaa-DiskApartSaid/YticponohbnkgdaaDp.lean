/- The examples: example, has, awake. -/
import Derived.Test.YticponohbnkgdaaDo
namespace Go.Proofs.Yticponohbnkgdaa
open Go Go.RowKit
set_option maxRecDepth 100000
def e1 : Dk := made0 10 []
def e2 : Dk := (doD e1 2 true (wf e1 ⟨#[97, 98, 99, 100]⟩)).1
def e3 : Dk := (doD e2 2 false sy).1
def e4 : Dk := (doD e3 2 true (wf e3 ⟨#[101, 102, 103]⟩)).1
theorem e1_ok : e1.ok := made0_ok (by decide) (by kernel_rfl)
theorem e2_ok : e2.ok := doD_ok e1_ok _ _ (fine_wf e1_ok _)
theorem e3_ok : e3.ok := doD_ok e2_ok _ _ (fine_sy e2_ok)
theorem e4_ok : e4.ok := doD_ok e3_ok _ _ (fine_wf e3_ok _)
set_option maxHeartbeats 400000 in
theorem new_ten (w : World) : Calls Try.prog 11 #[.int .i64 10] w fun e w' => ∃ B, w.heap.size ≤ B ∧ e = .returned (.tuple #[.pointer (some ⟨B, 0, none⟩), .int .i64 0]) ∧ DAt w' B e1 ∧ Below w.heap.size w w' := by
  have HL := Lib.hid (load_any 10 [] (.slice none 0 0) w (At2.nil w) (by decide) (by decide) (fun q hq => by cases hq))
  go_enter Try.func11, Try.ntmps11
  go_wp2_with fail
  refine HL.out.mono ?_
  rintro e w1 ⟨hb1, ⟨h0, rfl⟩ | ⟨h0, c, hc, hok, B, hB, rfl, hd⟩⟩
  · exact absurd (by kernel_rfl : loadE 10 [] = 0) h0
  · obtain rfl : c = 10 := by omega
    have HD := Lib.hid hd
    clear hd hok h0 HL hc
    go_wp2
    go_ret2
    exact ⟨B, hB, rfl, HD.out, hb1⟩
set_option maxHeartbeats 400000 in
theorem has_yes (B : Nat) (d : Dk) (t : Int) (s : ByteArray) (w : World) (h : DAt w B d) (hr : readD d t = (s, 0)) : Calls Try.prog 36 #[.pointer (some ⟨B, 0, none⟩), .int .i64 t, .string s] w fun e w' => e = .returned (.bool true) ∧ w = w' := by
  have HR := Lib.hid (read_any B d t w h)
  rw [hr] at HR
  clear hr
  go_enter Try.func36, Try.ntmps36
  go_wp2_with fail
  refine HR.out.mono ?_
  rintro e w1 ⟨rfl, rfl⟩
  go_wp2
  go_ret
  exact ⟨rfl, rfl⟩
set_option maxHeartbeats 400000 in
theorem example_any (w : World) : Calls Try.prog 35 #[] w fun e w' => ∃ B, w.heap.size ≤ B ∧ e = .returned (.pointer (some ⟨B, 0, none⟩)) ∧ DAt w' B e4 ∧ Below w.heap.size w w' := by
  have H1 := Lib.hid (fun B W h => write_any B e1 2 ⟨#[97, 98, 99, 100]⟩ W h e1_ok (by decide))
  have H2 := Lib.hid (fun B W h => sync_any B e2 2 W h e2_ok)
  have H3 := Lib.hid (fun B W h => write_any B e3 2 ⟨#[101, 102, 103]⟩ W h e3_ok (by decide))
  rw [show (doD e1 2 true (wf e1 ⟨#[97, 98, 99, 100]⟩)).2 = 0 by kernel_rfl] at H1
  rw [show (doD e2 2 false sy).2 = 0 by kernel_rfl] at H2
  rw [show (doD e3 2 true (wf e3 ⟨#[101, 102, 103]⟩)).2 = 0 by kernel_rfl] at H3
  rw [show (doD e1 2 true (wf e1 ⟨#[97, 98, 99, 100]⟩)).1 = e2 from rfl] at H1
  rw [show (doD e2 2 false sy).1 = e3 from rfl] at H2
  rw [show (doD e3 2 true (wf e3 ⟨#[101, 102, 103]⟩)).1 = e4 from rfl] at H3
  go_enter Try.func35, Try.ntmps35
  go_wp2_with fail
  refine (new_ten _).mono ?_
  rintro e w1 ⟨B, hB, rfl, hd, hb⟩
  have HB1 := Lib.hid hb
  have HBB := Lib.hid hB
  have HD1 := Lib.hid hd
  clear hb hB hd
  go_wp2_with fail
  refine (H1.out _ _ HD1.out).mono ?_
  rintro e w2 ⟨rfl, hd, hg⟩
  have HB2 := Lib.hid (below_grown HB1.out hg HB1.out.size HBB.out)
  have HD2 := Lib.hid hd
  clear hd hg
  go_wp2_with fail
  refine (H2.out _ _ HD2.out).mono ?_
  rintro e w3 ⟨rfl, hd, hg⟩
  have HB3 := Lib.hid (below_grown HB2.out hg HB2.out.size HBB.out)
  have HD3 := Lib.hid hd
  clear hd hg
  go_wp2_with fail
  refine (H3.out _ _ HD3.out).mono ?_
  rintro e w4 ⟨rfl, hd, hg⟩
  have HB4 := Lib.hid (below_grown HB3.out hg HB3.out.size HBB.out)
  have HD4 := Lib.hid hd
  clear hd hg
  go_wp2
  go_ret
  exact ⟨B, HBB.out, rfl, HD4.out, HB4.out⟩
theorem k2_at (w : World) : KAt (w.alloc (.cells #[.int .i64 2] 3)) (.slice (some ⟨w.heap.size, 0, none⟩) 1 1) [2] := .inr ⟨_, 0, 1, rfl, Nat.le_refl _, fun j hj => by
  obtain rfl : j = 0 := by simpa using hj
  exact cell_of_one (heap_alloc_new _ _)⟩
def e5 : Dk := backD e4 [2]
def f5 : Dk := backD e4 []
def g5 : Dk := (failD e4 1).1
def g6 : Dk := (doD g5 2 false sy).1
def g7 : Dk := (doD g6 2 true (wf g6 ⟨#[104]⟩)).1
theorem g5_ok : g5.ok := failD_ok e4_ok 1 (by decide)
theorem g6_ok : g6.ok := doD_ok g5_ok _ _ (fine_sy g5_ok)
theorem g7_ok : g7.ok := doD_ok g6_ok _ _ (fine_wf g6_ok _)
theorem f5_ok : f5.ok := backD_ok e4_ok _
set_option maxHeartbeats 2000000 in
theorem awake_any (w : World) : Calls Try.prog 10 #[] w (Ret w (.bool true)) := by
  have A1 := Lib.hid (fun B W h => has_yes B e4 2 ⟨#[97, 98, 99, 100, 101, 102, 103]⟩ W h (by kernel_rfl))
  have A2 := Lib.hid (fun B W h v hv hne => back_disk B e4 [2] v W h e4_ok.t hv hne (by decide))
  have A3 := Lib.hid (fun B W h => has_yes B e5 2 ⟨#[97, 98, 99, 100, 101, 102]⟩ W h (by kernel_rfl))
  have B1 := Lib.hid (fun B W h => back_disk B e4 [] (.slice none 0 0) W h e4_ok.t (KAt.nil W) (fun h => absurd rfl h) (by decide))
  have B2 := Lib.hid (fun B W h => has_yes B f5 2 ⟨#[97, 98, 99, 100]⟩ W h (by kernel_rfl))
  have B3 := Lib.hid (fun B W h => write_any B f5 0 ⟨#[49, 50, 51, 52, 53, 54, 55]⟩ W h f5_ok (by decide))
  rw [show (doD f5 0 true (wf f5 ⟨#[49, 50, 51, 52, 53, 54, 55]⟩)).2 = 44 by kernel_rfl] at B3
  have C1 := Lib.hid (fun B W h => fail_any B e4 1 W h)
  rw [show (failD e4 1).2 = 0 by kernel_rfl] at C1
  have C2 := Lib.hid (fun B W h => sync_any B g5 2 W h g5_ok)
  rw [show (doD g5 2 false sy).2 = 0 by kernel_rfl] at C2
  have C3 := Lib.hid (fun B W h => write_any B g6 2 ⟨#[104]⟩ W h g6_ok (by decide))
  rw [show (doD g6 2 true (wf g6 ⟨#[104]⟩)).2 = 45 by kernel_rfl] at C3
  have C4 := Lib.hid (fun B W h => up_any B g7 W h)
  rw [show g7.dn = true by kernel_rfl] at C4
  have C5 := Lib.hid (fun B W h => tapes_any B g7 W h g7_ok.t)
  have hq1 : (qT (g7.T 2)).a = ⟨#[97, 98, 99, 100, 101, 102, 103]⟩ := by kernel_rfl
  have hq2 : (qT (g7.T 2)).b = ⟨#[104]⟩ := by kernel_rfl
  rw [show backD e4 [2] = e5 from rfl] at A2
  rw [show backD e4 [] = f5 from rfl] at B1
  rw [show (failD e4 1).1 = g5 from rfl] at C1
  rw [show (doD g5 2 false sy).1 = g6 from rfl] at C2
  rw [show (doD g6 2 true (wf g6 ⟨#[104]⟩)).1 = g7 from rfl] at C3
  have HQ := Lib.hid (And.intro hq1 hq2)
  clear hq1 hq2
  go_enter Try.func10, Try.ntmps10
  go_wp2_with fail
  refine (example_any _).mono ?_
  rintro e w1 ⟨B, hB, rfl, hd, hb⟩
  have HB1 := Lib.hid hb
  have HBB := Lib.hid hB
  have HD1 := Lib.hid hd
  clear hb hB hd
  go_wp2_with fail
  refine (A1.out _ _ HD1.out).mono ?_
  rintro e w1' ⟨rfl, rfl⟩
  have HB2 : Hid (Below w.heap.size w (w1.alloc (.cells #[.int .i64 2] 3))) := Lib.hid (HB1.out.alloc HB1.out.size _)
  have HD2 := Lib.hid (HD1.out.alloc (.cells #[.int .i64 2] 3))
  have HK2 := Lib.hid (k2_at w1)
  have HN2 : Hid ((Value.slice (some ⟨w1.heap.size, 0, none⟩) 1 1).ownBlock ≠ some B) := Lib.hid (by have := HD1.out.lt; simp [Value.ownBlock]; omega)
  go_wp2_with fail
  refine (A2.out _ _ HD2.out _ HK2.out (fun _ => HN2.out)).mono ?_
  rintro e w2 ⟨rfl, hd, hg⟩
  have HB3 := Lib.hid (below_grown HB2.out hg HB2.out.size HBB.out)
  have HD3 := Lib.hid hd
  clear hd hg
  go_wp2_with fail
  refine (A3.out _ _ HD3.out).mono ?_
  rintro e w2' ⟨rfl, rfl⟩
  go_wp2_with fail
  refine (example_any _).mono ?_
  rintro e w4 ⟨B4, hB, rfl, hd, hb⟩
  have HB4 := Lib.hid (below_trans' HB3.out hb)
  have HBC := Lib.hid (Nat.le_trans HB3.out.size hB)
  have HD4 := Lib.hid hd
  clear hb hB hd
  go_wp2_with fail
  refine (B1.out _ _ HD4.out).mono ?_
  rintro e w5 ⟨rfl, hd, hg⟩
  have HB5 := Lib.hid (below_grown HB4.out hg HB4.out.size HBC.out)
  have HD5 := Lib.hid hd
  clear hd hg
  go_wp2_with fail
  refine (B2.out _ _ HD5.out).mono ?_
  rintro e w5' ⟨rfl, rfl⟩
  go_wp2_with fail
  refine (B3.out _ _ HD5.out).mono ?_
  rintro e w6 ⟨rfl, hd, hg⟩
  have HB6 := Lib.hid (below_grown HB5.out hg HB5.out.size HBC.out)
  clear hd hg
  go_wp2_with fail
  refine (example_any _).mono ?_
  rintro e w7 ⟨B7, hB, rfl, hd, hb⟩
  have HB7 := Lib.hid (below_trans' HB6.out hb)
  have HBD := Lib.hid (Nat.le_trans HB6.out.size hB)
  have HD7 := Lib.hid hd
  clear hb hB hd
  go_wp2_with fail
  refine (C1.out _ _ HD7.out).mono ?_
  rintro e w8 ⟨rfl, hd, hg⟩
  have HB8 := Lib.hid (below_grown HB7.out hg HB7.out.size HBD.out)
  have HD8 := Lib.hid hd
  clear hd hg
  go_wp2_with fail
  refine (C2.out _ _ HD8.out).mono ?_
  rintro e w9 ⟨rfl, hd, hg⟩
  have HB9 := Lib.hid (below_grown HB8.out hg HB8.out.size HBD.out)
  have HD9 := Lib.hid hd
  clear hd hg
  go_wp2_with fail
  refine (C3.out _ _ HD9.out).mono ?_
  rintro e w10 ⟨rfl, hd, hg⟩
  have HB10 := Lib.hid (below_grown HB9.out hg HB9.out.size HBD.out)
  have HD10 := Lib.hid hd
  clear hd hg
  go_wp2_with fail
  refine (C4.out _ _ HD10.out).mono ?_
  rintro e w10' ⟨rfl, rfl⟩
  go_wp2_with fail
  refine (C5.out _ _ HD10.out).mono ?_
  rintro e w11 ⟨rfl, hr⟩
  have HB11 := Lib.hid (below_trans' HB10.out hr.below)
  have c4 := hr.a 2 (by decide)
  have c5 := hr.b 2 (by decide)
  rw [HQ.out.1] at c4
  rw [HQ.out.2] at c5
  clear hr
  go_wp2
  go_ret
  exact ⟨rfl, HB11.out⟩
end Go.Proofs.Yticponohbnkgdaa
