/- DiskNames: the law answers true. No condition. -/
import Derived.Test.YticponohbnkgdaaRows
import Derived.Test.YticponohbnkgdaaDu
import Derived.WalkKit
import Derived.ProofKit
import Derived.OpenShut
import Derived.ShutString
namespace Go.Proofs.Yticponohbnkgdaa.diskNames
open Go.ChangeShapes Go.WideShapes Go.ChangeAt Go.RowKit
set_option linter.unusedVariables false
set_option maxRecDepth 100000
theorem make33 : ∃ Z : Array Value, (∀ w, (Instr.makeSlice 28 (.int .i64 33) (.int .i64 33)).run Try.prog w = .ok (.slice (some ⟨w.heap.size, 0, none⟩) 33 33) (w.alloc (.cells Z 30))) ∧ ∀ w : World, TAt (w.alloc (.cells Z 30)) (.slice (some ⟨w.heap.size, 0, none⟩) 33 33) (List.replicate 33 ⟨⟨#[]⟩, ⟨#[]⟩⟩) := by
  refine ⟨((List.range 66).map fun _ => Value.string ⟨#[]⟩).toArray, fun w => by kernel_rfl, fun w => .inr ⟨w.heap.size, 0, 33, by simp [tq], fun j hj => ?_⟩⟩
  have hj : j < 33 := by simpa using hj
  have h := heap_alloc_new w (.cells ((List.range 66).map fun _ => Value.string ⟨#[]⟩).toArray 30)
  have c : ∀ i, i < 66 → (w.alloc (.cells ((List.range 66).map fun _ => Value.string ⟨#[]⟩).toArray 30)).cell? ⟨w.heap.size, i, none⟩ = some (.string ⟨#[]⟩) := fun i hi => by
    rw [cell_of_row _ _ i _ 30 (0, 0) h, List.getElem?_toArray, List.getElem?_map, List.getElem?_range hi]
    rfl
  rw [Nat.zero_add, c _ (by omega), c _ (by omega)]
  simp only [List.getElem_map, List.getElem_replicate]
  exact ⟨rfl, rfl⟩
theorem tat2 (w : World) (a b c d : ByteArray) : TAt (w.alloc (.cells #[.string a, .string b, .string c, .string d] 30)) (.slice (some ⟨w.heap.size, 0, none⟩) 2 2) [⟨a, b⟩, ⟨c, d⟩] := .inr ⟨_, 0, 2, rfl, fun j hj => by
  have hj : j < 2 := by simpa using hj
  have h := heap_alloc_new w (.cells #[.string a, .string b, .string c, .string d] 30)
  rw [Nat.zero_add, cell_of_row _ _ _ _ 30 (0, 0) h, cell_of_row _ _ _ _ 30 (0, 0) h]
  match j, hj with
  | 0, _ => exact ⟨rfl, rfl⟩
  | 1, _ => exact ⟨rfl, rfl⟩⟩
theorem tat1 (w : World) (a b : ByteArray) : TAt (w.alloc (.cells #[.string a, .string b] 30)) (.slice (some ⟨w.heap.size, 0, none⟩) 1 1) [⟨a, b⟩] := .inr ⟨_, 0, 1, rfl, fun j hj => by
  obtain rfl : j = 0 := by simpa using hj
  have h := heap_alloc_new w (.cells #[.string a, .string b] 30)
  rw [Nat.zero_add, cell_of_row _ _ _ _ 30 (0, 0) h, cell_of_row _ _ _ _ 30 (0, 0) h]
  exact ⟨rfl, rfl⟩⟩
theorem load_bad {cap : Int} {l : List Tq} {v : Value} {w : World} (hv : TAt w v l) (hc : (Lit.int .i64 cap).wf = true) (hl : l.length ≤ 9223372036854775807) (hw : ∀ q ∈ l, q.a.size ≤ 9223372036854775807 ∧ q.b.size ≤ 9223372036854775807) {E : Nat} (hE : loadE cap l = E) (h0 : E ≠ 0) : Calls Try.prog 12 #[.int .i64 cap, v] w (Ret w (.tuple #[.pointer none, .int .i64 (E : Int)])) := by
  refine (load_any cap l v w hv hc hl hw).mono ?_
  rintro e w' ⟨hb, ⟨h1, rfl⟩ | ⟨h1, _⟩⟩
  · exact ⟨by rw [hE], hb⟩
  · exact absurd (hE.symm.trans h1) h0
theorem load_good {c : Nat} {l : List Tq} {v : Value} {w : World} (hv : TAt w v l) (hc : (Lit.int .i64 (c : Int)).wf = true) (hl : l.length ≤ 9223372036854775807) (hw : ∀ q ∈ l, q.a.size ≤ 9223372036854775807 ∧ q.b.size ≤ 9223372036854775807) (hE : loadE c l = 0) : Calls Try.prog 12 #[.int .i64 (c : Int), v] w fun e w' => Below w.heap.size w w' ∧ ∃ B, w.heap.size ≤ B ∧ e = .returned (.tuple #[.pointer (some ⟨B, 0, none⟩), .int .i64 0]) ∧ DAt w' B (made0 c l) := by
  refine (load_any c l v w hv hc hl hw).mono ?_
  rintro e w' ⟨hb, ⟨h1, rfl⟩ | ⟨h1, c2, hc2, _, B, hB, rfl, hd⟩⟩
  · exact absurd hE h1
  · obtain rfl : c2 = c := by omega
    exact ⟨hb, B, hB, rfl, hd⟩
theorem tape_tells (B : Nat) (d : Dk) (w : World) (h : DAt w B d) (hd : d.ok) : Calls Try.prog 14 #[.pointer (some ⟨B, 0, none⟩)] w (Ret w (.slice (some ⟨w.heap.size, 0, none⟩) 32 32)) :=
  (tapes_any B d w h hd.t).mono fun _ _ h => ⟨h.1, h.2.below⟩
def n0 : Dk := made0 11 [⟨⟨#[97, 98, 99, 100, 101]⟩, ⟨#[]⟩⟩, ⟨⟨#[]⟩, ⟨#[102, 103, 104, 105, 106, 107]⟩⟩]
def n1 : Dk := (doD n0 1 false (tr 6)).1
def n2 : Dk := (failD n1 1).1
def n3 : Dk := (failD n2 0).1
def n4 : Dk := (doD n3 0 false wi).1
def n5 : Dk := backD n4 []
def n6 : Dk := (doD n5 0 false wi).1
theorem n0_ok : n0.ok := made0_ok (by decide) (by kernel_rfl)
theorem n1_ok : n1.ok := doD_ok n0_ok _ _ (fine_tr n0_ok _)
theorem n2_ok : n2.ok := failD_ok n1_ok 1 (by decide)
theorem n3_ok : n3.ok := failD_ok n2_ok 0 (by decide)
theorem n4_ok : n4.ok := doD_ok n3_ok _ _ (fine_wi n3_ok)
theorem n5_ok : n5.ok := backD_ok n4_ok _
theorem n6_ok : n6.ok := doD_ok n5_ok _ _ (fine_wi n5_ok)
theorem c1 (B : Nat) (w : World) (h : DAt w B n0) : Calls Try.prog 13 #[.pointer (some ⟨B, 0, none⟩), .int .i64 32, .string ⟨#[]⟩] w (DRet w B (.int .i64 1) n0) := by
  have H := write_any B n0 32 ⟨#[]⟩ w h n0_ok (by decide)
  rw [show (1 : Int) = ((1 : Nat) : Int) from rfl]
  exact H
theorem c2 (B : Nat) (w : World) (h : DAt w B n0) : Calls Try.prog 13 #[.pointer (some ⟨B, 0, none⟩), .int .i64 (-1), .string ⟨#[]⟩] w (DRet w B (.int .i64 1) n0) := by
  have H := write_any B n0 (-1) ⟨#[]⟩ w h n0_ok (by decide)
  rw [show (1 : Int) = ((1 : Nat) : Int) from rfl]
  exact H
theorem c3 (B : Nat) (w : World) (h : DAt w B n0) : Calls Try.prog 16 #[.pointer (some ⟨B, 0, none⟩), .int .i64 32] w (DRet w B (.int .i64 1) n0) := by
  have H := sync_any B n0 32 w h n0_ok
  rw [show (1 : Int) = ((1 : Nat) : Int) from rfl]
  exact H
theorem c4 (B : Nat) (w : World) (h : DAt w B n0) : Calls Try.prog 17 #[.pointer (some ⟨B, 0, none⟩), .int .i64 (-1)] w (DRet w B (.int .i64 1) n0) := by
  have H := wipe_any B n0 (-1) w h n0_ok
  rw [show (1 : Int) = ((1 : Nat) : Int) from rfl]
  exact H
theorem c5 (B : Nat) (w : World) (h : DAt w B n0) : Calls Try.prog 18 #[.pointer (some ⟨B, 0, none⟩), .int .i64 0, .int .i64 6] w (DRet w B (.int .i64 1) n0) := by
  have H := trim_any B n0 0 6 w h n0_ok
  rw [show (1 : Int) = ((1 : Nat) : Int) from rfl]
  exact H
theorem c6 (B : Nat) (w : World) (h : DAt w B n0) : Calls Try.prog 18 #[.pointer (some ⟨B, 0, none⟩), .int .i64 0, .int .i64 (-1)] w (DRet w B (.int .i64 1) n0) := by
  have H := trim_any B n0 0 (-1) w h n0_ok
  rw [show (1 : Int) = ((1 : Nat) : Int) from rfl]
  exact H
theorem c7 (B : Nat) (w : World) (h : DAt w B n0) : Calls Try.prog 18 #[.pointer (some ⟨B, 0, none⟩), .int .i64 1, .int .i64 6] w (DRet w B (.int .i64 0) n1) := by
  have H := trim_any B n0 1 6 w h n0_ok
  rw [show (0 : Int) = ((0 : Nat) : Int) from rfl]
  exact H
theorem c8 (B : Nat) (w : World) (h : DAt w B n1) : Calls Try.prog 13 #[.pointer (some ⟨B, 0, none⟩), .int .i64 31, .string ⟨#[120]⟩] w (DRet w B (.int .i64 44) n1) := by
  have H := write_any B n1 31 ⟨#[120]⟩ w h n1_ok (by decide)
  rw [show (44 : Int) = ((44 : Nat) : Int) from rfl]
  exact H
theorem c9 (B : Nat) (w : World) (h : DAt w B n1) : Calls Try.prog 19 #[.pointer (some ⟨B, 0, none⟩), .int .i64 (-1)] w (DRet w B (.int .i64 1) n1) := by
  have H := fail_any B n1 (-1) w h
  rw [show (1 : Int) = ((1 : Nat) : Int) from rfl]
  exact H
theorem c10 (B : Nat) (w : World) (h : DAt w B n1) : Calls Try.prog 19 #[.pointer (some ⟨B, 0, none⟩), .int .i64 1] w (DRet w B (.int .i64 0) n2) := by
  have H := fail_any B n1 1 w h
  rw [show (0 : Int) = ((0 : Nat) : Int) from rfl]
  exact H
theorem c11 (B : Nat) (w : World) (h : DAt w B n2) : Calls Try.prog 19 #[.pointer (some ⟨B, 0, none⟩), .int .i64 0] w (DRet w B (.int .i64 0) n3) := by
  have H := fail_any B n2 0 w h
  rw [show (0 : Int) = ((0 : Nat) : Int) from rfl]
  exact H
theorem c12 (B : Nat) (w : World) (h : DAt w B n3) : Calls Try.prog 17 #[.pointer (some ⟨B, 0, none⟩), .int .i64 0] w (DRet w B (.int .i64 45) n4) := by
  have H := wipe_any B n3 0 w h n3_ok
  rw [show (45 : Int) = ((45 : Nat) : Int) from rfl]
  exact H
theorem c13 (B : Nat) (w : World) (h : DAt w B n4) : Calls Try.prog 19 #[.pointer (some ⟨B, 0, none⟩), .int .i64 3] w (DRet w B (.int .i64 45) n4) := by
  have H := fail_any B n4 3 w h
  rw [show (45 : Int) = ((45 : Nat) : Int) from rfl]
  exact H
theorem c14 (B : Nat) (w : World) (h : DAt w B n4) : Calls Try.prog 17 #[.pointer (some ⟨B, 0, none⟩), .int .i64 99] w (DRet w B (.int .i64 45) n4) := by
  have H := wipe_any B n4 99 w h n4_ok
  rw [show (45 : Int) = ((45 : Nat) : Int) from rfl]
  exact H
theorem c15 (B : Nat) (w : World) (h : DAt w B n4) : Calls Try.prog 21 #[.pointer (some ⟨B, 0, none⟩), .slice none 0 0] w (DRet w B (.int .i64 0) n5) := by
  have H := back_disk B n4 [] (.slice none 0 0) w h n4_ok.t (KAt.nil w) (fun h => absurd rfl h) (by decide)
  rw [show (0 : Int) = ((0 : Nat) : Int) from rfl]
  exact H
theorem c16 (B : Nat) (w : World) (h : DAt w B n5) : Calls Try.prog 17 #[.pointer (some ⟨B, 0, none⟩), .int .i64 0] w (DRet w B (.int .i64 0) n6) := by
  have H := wipe_any B n5 0 w h n5_ok
  rw [show (0 : Int) = ((0 : Nat) : Int) from rfl]
  exact H
theorem u12 (B : Nat) (w : World) (h : DAt w B n4) : Calls Try.prog 20 #[.pointer (some ⟨B, 0, none⟩)] w (Ret w (.bool false)) := (up_any B n4 w h).mono fun _ _ h => ⟨h.1, by rw [← h.2]; exact Below.refl _ _⟩
theorem u15 (B : Nat) (w : World) (h : DAt w B n5) : Calls Try.prog 20 #[.pointer (some ⟨B, 0, none⟩)] w (Ret w (.bool true)) := (up_any B n5 w h).mono fun _ _ h => ⟨h.1, by rw [← h.2]; exact Below.refl _ _⟩
theorem v14 (B : Nat) (w : World) (h : DAt w B n4) : Calls Try.prog 15 #[.pointer (some ⟨B, 0, none⟩)] w (Ret w (.int .i64 11)) := by
  have H := used_any B n4 w h n4_ok
  rw [show n4.used = 11 by kernel_rfl] at H
  exact H
theorem v16 (B : Nat) (w : World) (h : DAt w B n6) : Calls Try.prog 15 #[.pointer (some ⟨B, 0, none⟩)] w (Ret w (.int .i64 6)) := by
  have H := used_any B n6 w h n6_ok
  rw [show n6.used = 6 by kernel_rfl] at H
  exact H
theorem r32 (B : Nat) (w : World) (h : DAt w B n6) : Calls Try.prog 22 #[.pointer (some ⟨B, 0, none⟩), .int .i64 32] w (Ret w (.tuple #[.string ⟨#[]⟩, .int .i64 1])) := (read_any B n6 32 w h).mono fun _ _ h => ⟨h.1, by rw [← h.2]; exact Below.refl _ _⟩
set_option maxHeartbeats 16000000 in
theorem core (w : World) : Calls Try.prog 3 #[] w fun e w' => e = .returned (.bool true) ∧ Below w.heap.size w w' := by
  obtain ⟨Z33, hm33, ht33⟩ := make33
  obtain ⟨ZF, F, hF, hmf, hcf⟩ := made_full
  have HT33 := Lib.hid ht33
  have HF := Lib.hid hF
  clear ht33 hF
  go_enter Try.func3, Try.ntmps3
  go_wp2_with fail
  refine (awake_any _).mono ?_
  rintro e w1 ⟨rfl, hb⟩
  have HB1 := Lib.hid hb
  clear hb
  go_wp2_with fail
  refine (new_no _).mono ?_
  rintro e w2 ⟨rfl, hb⟩
  have HB2 := Lib.hid (below_trans' HB1.out hb)
  clear hb HB1
  have HA := Lib.hid (HB2.out.alloc HB2.out.size (.cells Z33 30))
  have HC := Lib.hid (load_no 10 _ _ _ (HT33.out w2) (by decide) (.inr (by decide)))
  clear HB2
  go_wp2_with fail
  refine HC.out.mono ?_
  rintro e w3 ⟨rfl, rfl⟩
  generalize hw3 : w2.alloc (.cells Z33 30) = w3 at *
  clear hw3 HC
  have HA4 := Lib.hid (HA.out.alloc HA.out.size (.cells #[.string ⟨#[97, 98, 99, 100, 101]⟩, .string ⟨#[]⟩, .string ⟨#[]⟩, .string ⟨#[102, 103, 104, 105, 106, 107]⟩] 30))
  have HC := Lib.hid (load_bad (cap := 10) (E := 44) (tat2 w3 ⟨#[97, 98, 99, 100, 101]⟩ ⟨#[]⟩ ⟨#[]⟩ ⟨#[102, 103, 104, 105, 106, 107]⟩) (by decide) (by decide) (by intro q hq; simp at hq; rcases hq with rfl | rfl <;> decide) (by kernel_rfl) (by decide))
  go_wp2_with fail
  refine (HC.out).mono ?_
  rintro e w4 ⟨rfl, hb⟩
  have HB4 := Lib.hid (HA4.out.trans (hb.mono HA4.out.size))
  clear hb HA4 HA HC
  have HA5 := Lib.hid (HB4.out.alloc HB4.out.size (.cells #[.string ⟨#[97, 98, 99, 100, 101]⟩, .string ⟨#[]⟩, .string ⟨#[]⟩, .string ⟨#[102, 103, 104, 105, 106, 107]⟩] 30))
  have HC := Lib.hid (load_good (c := 11) (tat2 w4 ⟨#[97, 98, 99, 100, 101]⟩ ⟨#[]⟩ ⟨#[]⟩ ⟨#[102, 103, 104, 105, 106, 107]⟩) (by decide) (by decide) (by intro q hq; simp at hq; rcases hq with rfl | rfl <;> decide) (by kernel_rfl))
  rw [show (made0 11 [⟨⟨#[97, 98, 99, 100, 101]⟩, ⟨#[]⟩⟩, ⟨⟨#[]⟩, ⟨#[102, 103, 104, 105, 106, 107]⟩⟩] : Dk) = n0 from rfl] at HC
  go_wp2_with fail
  refine (HC.out).mono ?_
  rintro e w5 ⟨hb, B, hB, rfl, hd⟩
  have HB5 := Lib.hid (HA5.out.trans (hb.mono HA5.out.size))
  have HBB := Lib.hid (Nat.le_trans HA5.out.size hB)
  have HD5 := Lib.hid hd
  clear hb hd hB HA5 HC HB4
  have HB6 := Lib.hid (HB5.out.alloc HB5.out.size (.cells ZF 5))
  have HD6 := Lib.hid (HD5.out.alloc (.cells ZF 5))
  have hcf5 := hcf w5
  clear HD5 HB5
  go_wp2_with (first | fail)
  have HS6 : Hid ((w5.alloc (.cells ZF 5)).heap.size = w5.heap.size + 1) := Lib.hid (by simp)
  generalize hw6 : w5.alloc (.cells ZF 5) = w6 at *
  clear hw6 hcf5
  have HA7 := Lib.hid (HB6.out.alloc HB6.out.size (.cells #[.string F, .string ⟨#[120]⟩] 30))
  have HC := Lib.hid (load_bad (cap := 1073741824) (E := 40) (tat1 w6 F ⟨#[120]⟩) (by decide) (by simp) (by intro q hq; obtain rfl := List.mem_singleton.1 hq; exact ⟨by rw [HF.out]; decide, by show (⟨#[120]⟩ : ByteArray).size ≤ _; decide⟩) (great_no F ⟨#[120]⟩ HF.out rfl) (by decide))
  rw [HS6.out] at HC
  refine HC.out.mono ?_
  rintro e w7 ⟨rfl, hb⟩
  have HB7 := Lib.hid (HA7.out.trans (hb.mono HA7.out.size))
  have HD7 := Lib.hid ((HD6.out.alloc (.cells #[.string F, .string ⟨#[120]⟩] 30)).below hb (HD6.out.alloc _).lt)
  clear hb HA7 HC HD6 HB6
  have HA8 := Lib.hid (HB7.out.alloc HB7.out.size (.cells #[.string F, .string ⟨#[]⟩] 30))
  have HC := Lib.hid (load_good (c := 1073741824) (tat1 w7 F ⟨#[]⟩) (by decide) (by simp) (by intro q hq; obtain rfl := List.mem_singleton.1 hq; exact ⟨by rw [HF.out]; decide, by show (⟨#[]⟩ : ByteArray).size ≤ _; decide⟩) (great_ok F HF.out))
  rw [show (made0 1073741824 [⟨F, ⟨#[]⟩⟩] : Dk) = gr0 F from rfl] at HC
  go_wp2_with fail
  refine (HC.out).mono ?_
  rintro e w8 ⟨hb, G, hG, rfl, hd⟩
  have HB8 := Lib.hid (HA8.out.trans (hb.mono HA8.out.size))
  have HGG := Lib.hid (Nat.le_trans HA8.out.size hG)
  have HNE : Hid (B ≠ G) := Lib.hid (by have := (HD7.out.alloc (.cells #[.string F, .string ⟨#[]⟩] 30)).lt; omega)
  have HE8 := Lib.hid hd
  have HD8 := Lib.hid ((HD7.out.alloc (.cells #[.string F, .string ⟨#[]⟩] 30)).below hb (HD7.out.alloc _).lt)
  clear hb hd hG HA8 HC HD7 HB7
  have HC := Lib.hid (write_any G (gr0 F) 0 ⟨#[120]⟩ w8 HE8.out (gr0_ok F HF.out) (by decide))
  rw [gr_x F ⟨#[120]⟩ HF.out rfl] at HC
  go_wp2_with fail
  refine (HC.out).mono ?_
  rintro e w9 ⟨rfl, hd, hg⟩
  have HB9 := Lib.hid (below_grown HB8.out hg HB8.out.size HGG.out)
  have HE9 := Lib.hid hd
  have HD9 := Lib.hid (HD8.out.grown hg (by simpa using HNE.out))
  clear hd hg HB8 HE8 HD8
  have HC := Lib.hid (write_any G (gr0 F) 0 ⟨#[]⟩ w9 HE9.out (gr0_ok F HF.out) (by decide))
  rw [show (doD (gr0 F) 0 true (wf (gr0 F) ⟨#[]⟩)).2 = 0 by rw [gr_0 F HF.out], show (doD (gr0 F) 0 true (wf (gr0 F) ⟨#[]⟩)).1 = gr1 F from rfl] at HC
  go_wp2_with fail
  refine (HC.out).mono ?_
  rintro e w10 ⟨rfl, hd, hg⟩
  have HB10 := Lib.hid (below_grown HB9.out hg HB9.out.size HGG.out)
  have HE10 := Lib.hid hd
  have HD10 := Lib.hid (HD9.out.grown hg (by simpa using HNE.out))
  clear hd hg HB9 HE9 HD9
  have HC := Lib.hid (write_any G (gr1 F) 1 F w10 HE10.out (gr1_ok F HF.out) (by rw [HF.out]; decide))
  rw [show (doD (gr1 F) 1 true (wf (gr1 F) F)).2 = 0 by rw [gr_1 F HF.out], show (doD (gr1 F) 1 true (wf (gr1 F) F)).1 = gr2 F from rfl] at HC
  go_wp2_with fail
  refine (HC.out).mono ?_
  rintro e w11 ⟨rfl, hd, hg⟩
  have HB11 := Lib.hid (below_grown HB10.out hg HB10.out.size HGG.out)
  have HE11 := Lib.hid hd
  have HD11 := Lib.hid (HD10.out.grown hg (by simpa using HNE.out))
  clear hd hg HB10 HE10 HD10
  go_wp2_with fail
  refine (tape_tells G (gr2 F) w11 HE11.out (gr2_ok F HF.out)).mono ?_
  rintro e w12 ⟨rfl, hb⟩
  have HB12 := Lib.hid (HB11.out.trans (hb.mono HB11.out.size))
  have HE12 := Lib.hid (HE11.out.below hb HE11.out.lt)
  have HD12 := Lib.hid (HD11.out.below hb HD11.out.lt)
  clear hb HB11 HD11 HE11
  have HC := Lib.hid (used_any G (gr2 F) w12 HE12.out (gr2_ok F HF.out))
  rw [gr2_used F HF.out] at HC
  go_wp2_with fail
  refine (HC.out).mono ?_
  rintro e w13 ⟨rfl, hb⟩
  have HB13 := Lib.hid (HB12.out.trans (hb.mono HB12.out.size))
  have HE13 := HBB
  have HD13 := Lib.hid (HD12.out.below hb HD12.out.lt)
  clear hb HB12 HD12 HE12
  clear HE13 HNE HGG HF hmf hcf
  go_wp2_with fail
  refine (c1 B w13 HD13.out).mono ?_
  rintro e w14 ⟨rfl, hd, hg⟩
  have HB14 := Lib.hid (below_grown HB13.out hg HB13.out.size HBB.out)
  have HD14 := Lib.hid hd
  clear hd hg HB13 HD13
  go_wp2_with fail
  refine (c2 B w14 HD14.out).mono ?_
  rintro e w15 ⟨rfl, hd, hg⟩
  have HB15 := Lib.hid (below_grown HB14.out hg HB14.out.size HBB.out)
  have HD15 := Lib.hid hd
  clear hd hg HB14 HD14
  go_wp2_with fail
  refine (c3 B w15 HD15.out).mono ?_
  rintro e w16 ⟨rfl, hd, hg⟩
  have HB16 := Lib.hid (below_grown HB15.out hg HB15.out.size HBB.out)
  have HD16 := Lib.hid hd
  clear hd hg HB15 HD15
  go_wp2_with fail
  refine (c4 B w16 HD16.out).mono ?_
  rintro e w17 ⟨rfl, hd, hg⟩
  have HB17 := Lib.hid (below_grown HB16.out hg HB16.out.size HBB.out)
  have HD17 := Lib.hid hd
  clear hd hg HB16 HD16
  go_wp2_with fail
  refine (c5 B w17 HD17.out).mono ?_
  rintro e w18 ⟨rfl, hd, hg⟩
  have HB18 := Lib.hid (below_grown HB17.out hg HB17.out.size HBB.out)
  have HD18 := Lib.hid hd
  clear hd hg HB17 HD17
  go_wp2_with fail
  refine (c6 B w18 HD18.out).mono ?_
  rintro e w19 ⟨rfl, hd, hg⟩
  have HB19 := Lib.hid (below_grown HB18.out hg HB18.out.size HBB.out)
  have HD19 := Lib.hid hd
  clear hd hg HB18 HD18
  go_wp2_with fail
  refine (c7 B w19 HD19.out).mono ?_
  rintro e w20 ⟨rfl, hd, hg⟩
  have HB20 := Lib.hid (below_grown HB19.out hg HB19.out.size HBB.out)
  have HD20 := Lib.hid hd
  clear hd hg HB19 HD19
  go_wp2_with fail
  refine (c8 B w20 HD20.out).mono ?_
  rintro e w21 ⟨rfl, hd, hg⟩
  have HB21 := Lib.hid (below_grown HB20.out hg HB20.out.size HBB.out)
  have HD21 := Lib.hid hd
  clear hd hg HB20 HD20
  go_wp2_with fail
  refine (c9 B w21 HD21.out).mono ?_
  rintro e w22 ⟨rfl, hd, hg⟩
  have HB22 := Lib.hid (below_grown HB21.out hg HB21.out.size HBB.out)
  have HD22 := Lib.hid hd
  clear hd hg HB21 HD21
  go_wp2_with fail
  refine (c10 B w22 HD22.out).mono ?_
  rintro e w23 ⟨rfl, hd, hg⟩
  have HB23 := Lib.hid (below_grown HB22.out hg HB22.out.size HBB.out)
  have HD23 := Lib.hid hd
  clear hd hg HB22 HD22
  go_wp2_with fail
  refine (c11 B w23 HD23.out).mono ?_
  rintro e w24 ⟨rfl, hd, hg⟩
  have HB24 := Lib.hid (below_grown HB23.out hg HB23.out.size HBB.out)
  have HD24 := Lib.hid hd
  clear hd hg HB23 HD23
  go_wp2_with fail
  refine (c12 B w24 HD24.out).mono ?_
  rintro e w25 ⟨rfl, hd, hg⟩
  have HB25 := Lib.hid (below_grown HB24.out hg HB24.out.size HBB.out)
  have HD25 := Lib.hid hd
  clear hd hg HB24 HD24
  go_wp2_with fail
  refine (u12 B w25 HD25.out).mono ?_
  rintro e w26 ⟨rfl, hb⟩
  have HB26 := Lib.hid (HB25.out.trans (hb.mono HB25.out.size))
  have HD26 := Lib.hid (HD25.out.below hb HD25.out.lt)
  clear hb HB25 HD25
  go_wp2_with fail
  refine (c13 B w26 HD26.out).mono ?_
  rintro e w27 ⟨rfl, hd, hg⟩
  have HB27 := Lib.hid (below_grown HB26.out hg HB26.out.size HBB.out)
  have HD27 := Lib.hid hd
  clear hd hg HB26 HD26
  go_wp2_with fail
  refine (c14 B w27 HD27.out).mono ?_
  rintro e w28 ⟨rfl, hd, hg⟩
  have HB28 := Lib.hid (below_grown HB27.out hg HB27.out.size HBB.out)
  have HD28 := Lib.hid hd
  clear hd hg HB27 HD27
  go_wp2_with fail
  refine (v14 B w28 HD28.out).mono ?_
  rintro e w29 ⟨rfl, hb⟩
  have HB29 := Lib.hid (HB28.out.trans (hb.mono HB28.out.size))
  have HD29 := Lib.hid (HD28.out.below hb HD28.out.lt)
  clear hb HB28 HD28
  go_wp2_with fail
  refine (c15 B w29 HD29.out).mono ?_
  rintro e w30 ⟨rfl, hd, hg⟩
  have HB30 := Lib.hid (below_grown HB29.out hg HB29.out.size HBB.out)
  have HD30 := Lib.hid hd
  clear hd hg HB29 HD29
  go_wp2_with fail
  refine (u15 B w30 HD30.out).mono ?_
  rintro e w31 ⟨rfl, hb⟩
  have HB31 := Lib.hid (HB30.out.trans (hb.mono HB30.out.size))
  have HD31 := Lib.hid (HD30.out.below hb HD30.out.lt)
  clear hb HB30 HD30
  go_wp2_with fail
  refine (c16 B w31 HD31.out).mono ?_
  rintro e w32 ⟨rfl, hd, hg⟩
  have HB32 := Lib.hid (below_grown HB31.out hg HB31.out.size HBB.out)
  have HD32 := Lib.hid hd
  clear hd hg HB31 HD31
  go_wp2_with fail
  refine (v16 B w32 HD32.out).mono ?_
  rintro e w33 ⟨rfl, hb⟩
  have HB33 := Lib.hid (HB32.out.trans (hb.mono HB32.out.size))
  have HD33 := Lib.hid (HD32.out.below hb HD32.out.lt)
  clear hb HB32 HD32
  go_wp2_with fail
  refine (r32 B w33 HD33.out).mono ?_
  rintro e w34 ⟨rfl, hb⟩
  have HB34 := Lib.hid (HB33.out.trans (hb.mono HB33.out.size))
  have HD34 := Lib.hid (HD33.out.below hb HD33.out.lt)
  clear hb HB33 HD33
  go_wp2_with fail
  refine (nil_read _ _).mono ?_
  rintro e w35 ⟨rfl, hb⟩
  have HB35 := Lib.hid (HB34.out.trans (hb.mono HB34.out.size))
  have HD35 := Lib.hid (HD34.out.below hb HD34.out.lt)
  clear hb HB34 HD34
  go_wp2_with fail
  refine (nil_write _ _ _).mono ?_
  rintro e w36 ⟨rfl, hb⟩
  have HB36 := Lib.hid (HB35.out.trans (hb.mono HB35.out.size))
  have HD36 := Lib.hid (HD35.out.below hb HD35.out.lt)
  clear hb HB35 HD35
  go_wp2_with fail
  refine (nil_sync _ _).mono ?_
  rintro e w37 ⟨rfl, hb⟩
  have HB37 := Lib.hid (HB36.out.trans (hb.mono HB36.out.size))
  have HD37 := Lib.hid (HD36.out.below hb HD36.out.lt)
  clear hb HB36 HD36
  go_wp2_with fail
  refine (nil_trim _ _ _).mono ?_
  rintro e w38 ⟨rfl, hb⟩
  have HB38 := Lib.hid (HB37.out.trans (hb.mono HB37.out.size))
  have HD38 := Lib.hid (HD37.out.below hb HD37.out.lt)
  clear hb HB37 HD37
  go_wp2_with fail
  refine (nil_wipe _ _).mono ?_
  rintro e w39 ⟨rfl, hb⟩
  have HB39 := Lib.hid (HB38.out.trans (hb.mono HB38.out.size))
  have HD39 := Lib.hid (HD38.out.below hb HD38.out.lt)
  clear hb HB38 HD38
  go_wp2_with fail
  refine (nil_fail _ _).mono ?_
  rintro e w40 ⟨rfl, hb⟩
  have HB40 := Lib.hid (HB39.out.trans (hb.mono HB39.out.size))
  have HD40 := Lib.hid (HD39.out.below hb HD39.out.lt)
  clear hb HB39 HD39
  go_wp2_with fail
  refine (nil_back _).mono ?_
  rintro e w41 ⟨rfl, hb⟩
  have HB41 := Lib.hid (HB40.out.trans (hb.mono HB40.out.size))
  have HD41 := Lib.hid (HD40.out.below hb HD40.out.lt)
  clear hb HB40 HD40
  go_wp2_with fail
  refine (nil_up _).mono ?_
  rintro e w42 ⟨rfl, hb⟩
  have HB42 := Lib.hid (HB41.out.trans (hb.mono HB41.out.size))
  have HD42 := Lib.hid (HD41.out.below hb HD41.out.lt)
  clear hb HB41 HD41
  go_wp2_with fail
  refine (nil_used _).mono ?_
  rintro e w43 ⟨rfl, hb⟩
  have HB43 := Lib.hid (HB42.out.trans (hb.mono HB42.out.size))
  have HD43 := Lib.hid (HD42.out.below hb HD42.out.lt)
  clear hb HB42 HD42
  go_wp2_with fail
  refine (nil_cap _).mono ?_
  rintro e w44 ⟨rfl, hb⟩
  have HB44 := Lib.hid (HB43.out.trans (hb.mono HB43.out.size))
  have HD44 := Lib.hid (HD43.out.below hb HD43.out.lt)
  clear hb HB43 HD43
  go_wp2_with fail
  refine (nil_tapes _).mono ?_
  rintro e w45 ⟨rfl, hb⟩
  have HB45 := Lib.hid (HB44.out.trans (hb.mono HB44.out.size))
  have HD45 := Lib.hid (HD44.out.below hb HD44.out.lt)
  clear hb HB44 HD44
  go_wp2_with fail
  refine (nil_copy _).mono ?_
  rintro e w46 ⟨rfl, hb⟩
  have HB46 := Lib.hid (HB45.out.trans (hb.mono HB45.out.size))
  have HD46 := Lib.hid (HD45.out.below hb HD45.out.lt)
  clear hb HB45 HD45
  go_wp2_with fail
  refine (nil_same _).mono ?_
  rintro e w47 ⟨rfl, hb⟩
  have HB47 := Lib.hid (HB46.out.trans (hb.mono HB46.out.size))
  have HD47 := Lib.hid (HD46.out.below hb HD46.out.lt)
  clear hb HB46 HD46
  go_wp2_with fail
  refine (nil_same_l B _).mono ?_
  rintro e w48 ⟨rfl, hb⟩
  have HB48 := Lib.hid (HB47.out.trans (hb.mono HB47.out.size))
  have HD48 := Lib.hid (HD47.out.below hb HD47.out.lt)
  clear hb HB47 HD47
  go_wp2_with fail
  refine (nil_same_r B _).mono ?_
  rintro e w49 ⟨rfl, hb⟩
  have HB49 := Lib.hid (HB48.out.trans (hb.mono HB48.out.size))
  have HD49 := Lib.hid (HD48.out.below hb HD48.out.lt)
  clear hb HB48 HD48
  go_wp2
  go_ret
  exact ⟨rfl, HB49.out⟩
theorem own : ownKnob Try.prog.godebug = none := by kernel_rfl
theorem laidOut : laidOutB Try.prog = true := by kernel_rfl
set_option maxRecDepth 100000 in
theorem lifted (os : Os) (started : os.Started) (H : Type) (enc : TypeId × Value → H) :
    ReturnsInHanded {} Try.checked os 3 .any (Rows.diskNamesSpec.pre6 enc Try.prog Try.f3 Rows.diskNamesRow.domain false) (Rows.diskNamesSpec.post enc Try.prog Try.f3 false true false false) := by
  refine returnsInHanded_of_change (C := Try.checked) own started (by kernel_rfl) Try.func3
    (ChangeSpec.witness6 (enc := enc) (C := Try.checked) false ⟨#[], #[], []⟩ 8 (by kernel_rfl) (by kernel_rfl) (by kernel_rfl) (by kernel_rfl)) ?_
  intro W base args ds gs before hval0 hW hcnd _
  have hval : ∀ (j : Nat) t v, Try.f3.params[j]? = some t → args[j]? = some v → Value.okWide Try.prog W .any base t v := hval0
  have hW' := hW
  obtain ⟨p, q, hA0, hV, rfl, hfz, hnd⟩ := hW
  have hA : DataW.TrodAll enc Try.prog W 0 (fun _ => true) true Try.f3.params.toList args.toList ds p := hA0
  rw [Try.params3] at hA hval
  obtain ⟨hargs, rfl, rfl⟩ := trodAll_nil hA
  obtain rfl : args = #[] := by cases args; simp_all
  obtain ⟨rfl, rfl⟩ := trodVars_none hV
  clear hA0 hval0
  refine (core   W ).mono fun e W' ⟨he, bel⟩ => ?_
  subst he
  exact ⟨_, rfl, _, _, _, [], _, [], hW', trodAll_mk1 (shut_bool Try.underlying4 _), trodAll_mk0, rfl, bel.frame _, fun h => by cases h⟩
theorem over : Rows.diskNamesRow.holds Try.pinned (OpenSpec.ofChange Rows.diskNamesSpec) :=
  OpenClaim.holds_of_wide 3 Try.f3 rfl rfl rfl rfl rfl rfl rfl ⟨rfl, rfl, rfl, rfl, rfl⟩ rfl rfl rfl rfl rfl (by kernel_rfl) Try.func3 (by kernel_rfl)
    (of_decide_eq_true (by kernel_rfl)) (by unfold Func.isWrapper; first | (rw [if_pos (by decide +kernel)]; kernel_rfl) | (rw [if_neg (by decide +kernel)]; exact ⟨rfl, rfl⟩))
    (fun os started H enc _ => lifted os started H enc)
theorem proved : Rows.DiskNamesSaid := over
end Go.Proofs.Yticponohbnkgdaa.diskNames
