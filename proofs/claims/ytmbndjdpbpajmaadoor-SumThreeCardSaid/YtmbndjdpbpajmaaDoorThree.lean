/- SumThree: for any three texts the law answers true. Condition: the table of package sum reads as its initialiser lays it (tied to the program's text by the card). -/
import Derived.Test.YtmbndjdpbpajmaaDoorCards
import Derived.Test.YtmbndjdpbpajmaaDoorTie
import Derived.Test.YtmbndjdpbpajmaaDoorFi
import Derived.Test.YtmbndjdpbpajmaaDoorMy
import Derived.BigRegion
import Derived.BigQuiet
import Derived.Test.YtmbndjdpbpajmaaDoorQu
import Derived.Test.YtmbndjdpbpajmaaDoorMc
import Derived.Deep.QuietTactic
import Derived.Deep.RegionWith
import Derived.SevenTiedAt
namespace Go.Proofs.YtmbndjdpbpajmaaDoor.sumThree
open Go.ChangeShapes Go.WideShapes Go.ChangeAt Go.RowKit
open Go.ChangeMaps (open_string shut_string)
set_option linter.unusedVariables false
theorem min4 (w : World) (a b c : Nat) (n : Nat) (hn : n = min (min (min a b) c) 20000) :
    (Builtin.min_ #[3, 3, 3, 3] 3 #[.int .i64 (a : Int), .int .i64 (b : Int), .int .i64 (c : Int), .int .i64 20000]).run Tryd.prog w = .ok (.int .i64 (n : Int)) w := by
  have e1 : ∀ x y : Nat, (if (y : Int) < (x : Int) then (y : Int) else (x : Int)) = ((min x y : Nat) : Int) := by
    intro x y; rw [Nat.min_def]; split <;> split <;> omega
  have e2 : (20000 : Int) = ((20000 : Nat) : Int) := rfl
  subst hn
  rw [e2]
  simp [Builtin.min_, Builtin.min2]
  repeat' split
  all_goals omega
def x3 (s t u : ByteArray) (n : Nat) : List UInt8 := (List.range n).map fun i => s.data.toList.getD i 0 ^^^ t.data.toList.getD i 0 ^^^ u.data.toList.getD i 0
theorem x3_length (s t u : ByteArray) (n : Nat) : (x3 s t u n).length = n := by simp [x3]
theorem getD_at (s : ByteArray) (k : Nat) (h : k < s.size) : s.data.toList.getD k 0 = s[k] := by
  rw [List.getD_eq_getElem?_getD, List.getElem?_eq_getElem (by simpa using h)]; rfl
theorem x3_at (s t u : ByteArray) (n k : Nat) (h : k < (x3 s t u n).length) (h1 : k < s.size) (h2 : k < t.size) (h3 : k < u.size) : (x3 s t u n)[k] = s[k] ^^^ t[k] ^^^ u[k] := by
  simp only [x3, List.getElem_map, List.getElem_range]
  rw [getD_at s k h1, getD_at t k h2, getD_at u k h3]
theorem xor8 (a b : UInt8) : bits .xor .u8 (a.toNat : Int) (b.toNat : Int) = ((a ^^^ b).toNat : Int) := by
  rw [u8_xor_nat _ _ a.toNat_lt b.toNat_lt, UInt8.toNat_xor]
theorem extract_toList (s : ByteArray) (k : Nat) : (s.extract 0 k).data.toList = s.data.toList.take k := by simp
theorem x3_zip (s t u : ByteArray) (n : Nat) (h0 : n ≤ s.size) (h1 : n ≤ t.size) (h2 : n ≤ u.size) :
    x3 s t u n = List.zipWith (fun a b => a ^^^ b) (List.zipWith (fun a b => a ^^^ b) (s.data.toList.take n) (t.data.toList.take n)) (u.data.toList.take n) := by
  apply List.ext_getElem
  · rw [x3_length, List.length_zipWith, List.length_zipWith, List.length_take, List.length_take, List.length_take]
    simp; omega
  · intro i g1 g2
    have hi : i < n := by rw [x3_length] at g1; exact g1
    rw [x3_at s t u n i g1 (by omega) (by omega) (by omega), List.getElem_zipWith, List.getElem_zipWith, List.getElem_take, List.getElem_take, List.getElem_take]
    rfl
theorem x3_sum (s t u : ByteArray) (n : Nat) (h0 : n ≤ s.size) (h1 : n ≤ t.size) (h2 : n ≤ u.size) :
    Sm.add 0 (x3 s t u n) = Sm.add 0 (s.data.toList.take n) ^^^ Sm.add 0 (t.data.toList.take n) ^^^ Sm.add 0 (u.data.toList.take n) := by
  have l0 : (s.data.toList.take n).length = n := by rw [List.length_take]; simp; omega
  have l1 : (t.data.toList.take n).length = n := by rw [List.length_take]; simp; omega
  have l2 : (u.data.toList.take n).length = n := by rw [List.length_take]; simp; omega
  refine Sm.add3 n _ _ _ _ l0 l1 l2 (x3_length _ _ _ _) ?_
  rw [x3_zip s t u n h0 h1 h2, Sm.num_zip _ _ (by rw [List.length_zipWith, l0, l1, l2]; omega), Sm.num_zip _ _ (by rw [l0, l1])]
set_option maxRecDepth 100000 in
set_option maxHeartbeats 2000000 in
theorem main (s t u : ByteArray) (n : Nat) (hn : n = min (min (min s.size t.size) u.size) 20000) (h0 : s.size ≤ 9223372036854775807) (h1 : t.size ≤ 9223372036854775807) (h2 : u.size ≤ 9223372036854775807) (w : World) (hT : Hid (Tab w)) :
    Calls Tryd.prog 7 #[.string s, .string t, .string u] w fun e w' => e = .returned (.bool true) ∧ Below w.heap.size w w' := by
  have hmin := min4 w s.size t.size u.size n hn
  have b0 : n ≤ s.size := by omega
  have b1 : n ≤ t.size := by omega
  have b2 : n ≤ u.size := by omega
  have b3 : n ≤ 20000 := by omega
  clear hn
  obtain ⟨w1, hmk, hF, hB, hz⟩ := make_bytes w w.heap.size (x3 s t u n) (Nat.le_refl _) (by rw [x3_length]; exact b3)
  rw [x3_length] at hmk
  have HF := Lib.hid hF
  have HB := Lib.hid hB
  clear hF hB hz
  go_enter Tryd.func7, Tryd.ntmps7
  go_wp2
  go_loopw [9] (fun x wr => ∃ k : Nat, k ≤ n ∧ x = .int .i64 k ∧ Hid (Fill wr w.heap.size w.heap.size (x3 s t u n) k) ∧ Hid (Below w.heap.size w wr)) (fun x _ => n - (intOf x).toNat)
  case atStart => exact ⟨0, by omega, rfl, HF, HB⟩
  case round =>
    clear HF HB hmk hmin
    obtain ⟨k, hk, rfl, HF, HB⟩ := hrel
    by_cases h : k < n
    · have hx : k < (x3 s t u n).length := by rw [x3_length]; exact h
      have h1 : k < s.size := by omega
      have h2 : k < t.size := by omega
      have h3 : k < u.size := by omega
      obtain ⟨hc, hf⟩ := HF.out.cell k (by rw [x3_length]; exact hk) hx
      have HN := Lib.hid (HF.out.store hx (u := .int .u8 ((s[k] ^^^ t[k] ^^^ u[k]).toNat)) (by rw [x3_at s t u n k hx h1 h2 h3]; rfl))
      have HB2 : Hid (Below w.heap.size w (wr.setCell ⟨w.heap.size, k, none⟩ (.int .u8 ((s[k] ^^^ t[k] ^^^ u[k]).toNat)))) := Lib.hid (HB.out.setCell (Nat.le_refl _) _)
      have e1 := xor8 s[k] t[k]
      have e2 := xor8 (s[k] ^^^ t[k]) u[k]
      generalize (s[k] ^^^ t[k] ^^^ u[k]).toNat = Y at *
      generalize (s[k] ^^^ t[k]).toNat = X at *
      go_wp2
      go_region
      go_wp2
      go_roundw
      case rel => exact ⟨k + 1, by omega, by go_num, Lib.hid (Own.drew HN.out), Lib.hid (Below.drew HB2.out)⟩
      case measure => simp [intOf]; omega
    · obtain rfl : k = n := by omega
      have HO : Hid (Own wr w.heap.size (.slice (some ⟨w.heap.size, 0, none⟩) k k) ((x3 s t u k).map bv)) := Lib.hid (by
        have h2 := HF.out
        have e : Fill wr w.heap.size w.heap.size (x3 s t u k) (x3 s t u k).length := by rw [x3_length]; exact h2
        have := e.full
        rwa [x3_length] at this)
      have hTr := Lib.hid (hT.out.below HB.out)
      clear HF
      go_wp2
      have hTd : Hid (Tab wr.drew) := hTr
      have HOd : Hid (Own wr.drew w.heap.size (.slice (some ⟨w.heap.size, 0, none⟩) k k) ((x3 s t u k).map bv)) := HO
      have HBd : Hid (Below w.heap.size w wr.drew) := Lib.hid (Below.drew HB.out)
      clear hTr HO HB
      refine wp_region_any (by kernel_rfl) ?_
      try (change wpAny _ _ _ _ _ _ _ (World.drew _))
      refine wpAny_ready (rs := [0]) (by kernel_rfl) (by simp) ?_
      refine AllReady.cons (o := ({ dst := some 38, op := Go.Op.call { callee := Go.Callee.value (Go.Operand.func 10), args := #[], argTypes := #[] }, type := 4, pos := "outright.go:64", after := #[], guard := none } : Oper)) rfl (fun K hK => ?_) AllReady.nil
      go_simp
      refine (awake_any _ hTd).mono ?_
      rintro e w1 ⟨rfl, hb1⟩
      dsimp only
      have hr1 := run_string_Own w1 w.heap.size 30 9 5 _ _ (HOd.out.below hb1 (fun k hk => (HOd.out.lt k hk).2)) Tryd.underlying30 Tryd.underlying5 Tryd.underlying9
      have hT1 := Lib.hid (hTd.out.below hb1)
      have HB1 := Lib.hid (HBd.out.trans (hb1.mono HBd.out.size))
      clear hb1 hTd HOd HBd
      have z0 : (bs (x3 s t u k)).size ≤ 140737488351232 := by rw [bs_size, x3_length]; omega
      have zs : (s.extract 0 k).size ≤ 140737488351232 := by simp; omega
      have zt : (t.extract 0 k).size ≤ 140737488351232 := by simp; omega
      have zu : (u.extract 0 k).size ≤ 140737488351232 := by simp; omega
      have C0 := of_any (bs (x3 s t u k)) w1 z0 hT1
      have C1 := of_any (s.extract 0 k) w1 zs hT1
      have C2 := of_any (t.extract 0 k) w1 zt hT1
      have C3 := of_any (u.extract 0 k) w1 zu hT1
      have x1 := Sm.add_lt (c := 0) (by omega) (s.extract 0 k).data.toList
      have x2 := Sm.add_lt (c := 0) (by omega) (t.extract 0 k).data.toList
      have x3' := Sm.add_lt (c := 0) (by omega) (u.extract 0 k).data.toList
      have e0 := x3_sum s t u k b0 b1 b2
      rw [← extract_toList, ← extract_toList, ← extract_toList] at e0
      have e0' : Sm.add 0 (bs (x3 s t u k)).data.toList = Sm.add 0 (s.extract 0 k).data.toList ^^^ Sm.add 0 (t.extract 0 k).data.toList ^^^ Sm.add 0 (u.extract 0 k).data.toList := e0
      rw [e0'] at C0
      have e1 := u32_xor_nat _ _ x1 x2
      have e2 := u32_xor_nat _ _ (Sm.xor_lt x1 x2) x3'
      clear z0 zs zt zu e0 e0' x1 x2 x3'
      generalize Sm.add 0 (s.extract 0 k).data.toList ^^^ Sm.add 0 (t.extract 0 k).data.toList ^^^ Sm.add 0 (u.extract 0 k).data.toList = X0 at *
      generalize Sm.add 0 (s.extract 0 k).data.toList ^^^ Sm.add 0 (t.extract 0 k).data.toList = Y at *
      generalize Sm.add 0 (s.extract 0 k).data.toList = X1 at *
      generalize Sm.add 0 (t.extract 0 k).data.toList = X2 at *
      generalize Sm.add 0 (u.extract 0 k).data.toList = X3 at *
      have C0 := Lib.hid C0
      have C1 := Lib.hid C1
      have C2 := Lib.hid C2
      have C3 := Lib.hid C3
      refine hK _ _ ?_; clear hK K
      try simp only [Act.put, List.setIfInBounds_toArray, List.set_cons_zero, List.set_cons_succ]
      refine q_start ?_
      refine q_take (i := 1) (oi := ({ dst := some 39, op := Go.Op.move (Go.Operand.tmp 38), type := 4, pos := "outright.go:64", after := #[{ on := 0, ground := Go.Ground.data }, { on := 0, ground := Go.Ground.chain }], guard := none } : Oper)) (v := ?_) rfl (by kernel_rfl) (by kernel_rfl) (by kernel_rfl) (q_val (by rfl) ?_) ?_
      rotate_left
      · go_simp; (try with_reducible rfl); (try rfl)
      simp only [Act.put, List.setIfInBounds_toArray, List.set_cons_zero, List.set_cons_succ]
      refine q_take (i := 2) (oi := ({ dst := some 40, op := Go.Op.move (Go.Operand.tmp 8), type := 30, pos := "outright.go:64", after := #[{ on := 1, ground := Go.Ground.guard }], guard := some (1, true) } : Oper)) (v := ?_) rfl (by kernel_rfl) (by kernel_rfl) (by kernel_rfl) (q_val (by rfl) ?_) ?_
      rotate_left
      · go_simp; (try with_reducible rfl); (try rfl)
      simp only [Act.put, List.setIfInBounds_toArray, List.set_cons_zero, List.set_cons_succ]
      refine q_take (i := 3) (oi := ({ dst := some 41, op := Go.Op.convert 30 9 (Go.Operand.tmp 40), type := 9, pos := "outright.go:64", after := #[{ on := 2, ground := Go.Ground.data }, { on := 1, ground := Go.Ground.guard }], guard := some (1, true) } : Oper)) (v := ?_) rfl (by kernel_rfl) (by kernel_rfl) (by kernel_rfl) (q_val (by rfl) ?_) ?_
      rotate_left
      · go_simp; (try with_reducible rfl); (try rfl)
      simp only [Act.put, List.setIfInBounds_toArray, List.set_cons_zero, List.set_cons_succ]
      refine q_take (i := 4) (oi := ({ dst := some 42, op := Go.Op.call { callee := Go.Callee.value (Go.Operand.func 13), args := #[Go.Operand.tmp 41], argTypes := #[9] }, type := 22, pos := "outright.go:64", after := #[{ on := 3, ground := Go.Ground.data }, { on := 1, ground := Go.Ground.chain }, { on := 1, ground := Go.Ground.guard }], guard := some (1, true) } : Oper)) (v := _) rfl (by kernel_rfl) (by kernel_rfl) (by kernel_rfl) (q_call (by rfl) ?_ C0.out) ?_
      · go_simp; (try with_reducible rfl); (try rfl)
      simp only [Act.put, List.setIfInBounds_toArray, List.set_cons_zero, List.set_cons_succ]
      refine q_take (i := 5) (oi := ({ dst := some 43, op := Go.Op.move (Go.Operand.tmp 0), type := 9, pos := "outright.go:64", after := #[{ on := 1, ground := Go.Ground.guard }], guard := some (1, true) } : Oper)) (v := ?_) rfl (by kernel_rfl) (by kernel_rfl) (by kernel_rfl) (q_val (by rfl) ?_) ?_
      rotate_left
      · go_simp; (try with_reducible rfl); (try rfl)
      simp only [Act.put, List.setIfInBounds_toArray, List.set_cons_zero, List.set_cons_succ]
      refine q_take (i := 6) (oi := ({ dst := some 44, op := Go.Op.move (Go.Operand.tmp 7), type := 3, pos := "outright.go:64", after := #[{ on := 1, ground := Go.Ground.guard }], guard := some (1, true) } : Oper)) (v := ?_) rfl (by kernel_rfl) (by kernel_rfl) (by kernel_rfl) (q_val (by rfl) ?_) ?_
      rotate_left
      · go_simp; (try with_reducible rfl); (try rfl)
      simp only [Act.put, List.setIfInBounds_toArray, List.set_cons_zero, List.set_cons_succ]
      refine q_take (i := 7) (oi := ({ dst := some 45, op := Go.Op.slice 9 (Go.Operand.tmp 43) none (some (Go.Operand.tmp 44)) none, type := 9, pos := "outright.go:64", after := #[{ on := 5, ground := Go.Ground.data }, { on := 6, ground := Go.Ground.data }, { on := 1, ground := Go.Ground.guard }], guard := some (1, true) } : Oper)) (v := ?_) rfl (by kernel_rfl) (by kernel_rfl) (by kernel_rfl) (q_val (by rfl) ?_) ?_
      rotate_left
      · go_simp; (try with_reducible rfl); (try rfl)
      simp only [Act.put, List.setIfInBounds_toArray, List.set_cons_zero, List.set_cons_succ]
      refine q_take (i := 8) (oi := ({ dst := some 46, op := Go.Op.call { callee := Go.Callee.value (Go.Operand.func 13), args := #[Go.Operand.tmp 45], argTypes := #[9] }, type := 22, pos := "outright.go:64", after := #[{ on := 7, ground := Go.Ground.data }, { on := 4, ground := Go.Ground.chain }, { on := 1, ground := Go.Ground.guard }], guard := some (1, true) } : Oper)) (v := _) rfl (by kernel_rfl) (by kernel_rfl) (by kernel_rfl) (q_call (by rfl) ?_ C1.out) ?_
      · go_simp; (try with_reducible rfl); (try rfl)
      simp only [Act.put, List.setIfInBounds_toArray, List.set_cons_zero, List.set_cons_succ]
      refine q_take (i := 9) (oi := ({ dst := some 47, op := Go.Op.move (Go.Operand.tmp 1), type := 9, pos := "outright.go:64", after := #[{ on := 1, ground := Go.Ground.guard }], guard := some (1, true) } : Oper)) (v := ?_) rfl (by kernel_rfl) (by kernel_rfl) (by kernel_rfl) (q_val (by rfl) ?_) ?_
      rotate_left
      · go_simp; (try with_reducible rfl); (try rfl)
      simp only [Act.put, List.setIfInBounds_toArray, List.set_cons_zero, List.set_cons_succ]
      refine q_take (i := 10) (oi := ({ dst := some 48, op := Go.Op.move (Go.Operand.tmp 7), type := 3, pos := "outright.go:64", after := #[{ on := 1, ground := Go.Ground.guard }], guard := some (1, true) } : Oper)) (v := ?_) rfl (by kernel_rfl) (by kernel_rfl) (by kernel_rfl) (q_val (by rfl) ?_) ?_
      rotate_left
      · go_simp; (try with_reducible rfl); (try rfl)
      simp only [Act.put, List.setIfInBounds_toArray, List.set_cons_zero, List.set_cons_succ]
      refine q_take (i := 11) (oi := ({ dst := some 49, op := Go.Op.slice 9 (Go.Operand.tmp 47) none (some (Go.Operand.tmp 48)) none, type := 9, pos := "outright.go:64", after := #[{ on := 9, ground := Go.Ground.data }, { on := 10, ground := Go.Ground.data }, { on := 1, ground := Go.Ground.guard }], guard := some (1, true) } : Oper)) (v := ?_) rfl (by kernel_rfl) (by kernel_rfl) (by kernel_rfl) (q_val (by rfl) ?_) ?_
      rotate_left
      · go_simp; (try with_reducible rfl); (try rfl)
      simp only [Act.put, List.setIfInBounds_toArray, List.set_cons_zero, List.set_cons_succ]
      refine q_take (i := 12) (oi := ({ dst := some 50, op := Go.Op.call { callee := Go.Callee.value (Go.Operand.func 13), args := #[Go.Operand.tmp 49], argTypes := #[9] }, type := 22, pos := "outright.go:64", after := #[{ on := 11, ground := Go.Ground.data }, { on := 8, ground := Go.Ground.chain }, { on := 1, ground := Go.Ground.guard }], guard := some (1, true) } : Oper)) (v := _) rfl (by kernel_rfl) (by kernel_rfl) (by kernel_rfl) (q_call (by rfl) ?_ C2.out) ?_
      · go_simp; (try with_reducible rfl); (try rfl)
      simp only [Act.put, List.setIfInBounds_toArray, List.set_cons_zero, List.set_cons_succ]
      refine q_take (i := 13) (oi := ({ dst := some 51, op := Go.Op.binOp Go.BinOp.xor 22 (Go.Operand.tmp 46) (Go.Operand.tmp 50) 22, type := 22, pos := "outright.go:64", after := #[{ on := 8, ground := Go.Ground.data }, { on := 12, ground := Go.Ground.data }, { on := 1, ground := Go.Ground.guard }], guard := some (1, true) } : Oper)) (v := ?_) rfl (by kernel_rfl) (by kernel_rfl) (by kernel_rfl) (q_val (by rfl) ?_) ?_
      rotate_left
      · go_simp; (try with_reducible rfl); (try rfl)
      simp only [Act.put, List.setIfInBounds_toArray, List.set_cons_zero, List.set_cons_succ]
      refine q_take (i := 14) (oi := ({ dst := some 52, op := Go.Op.move (Go.Operand.tmp 2), type := 9, pos := "outright.go:64", after := #[{ on := 1, ground := Go.Ground.guard }], guard := some (1, true) } : Oper)) (v := ?_) rfl (by kernel_rfl) (by kernel_rfl) (by kernel_rfl) (q_val (by rfl) ?_) ?_
      rotate_left
      · go_simp; (try with_reducible rfl); (try rfl)
      simp only [Act.put, List.setIfInBounds_toArray, List.set_cons_zero, List.set_cons_succ]
      refine q_take (i := 15) (oi := ({ dst := some 53, op := Go.Op.move (Go.Operand.tmp 7), type := 3, pos := "outright.go:64", after := #[{ on := 1, ground := Go.Ground.guard }], guard := some (1, true) } : Oper)) (v := ?_) rfl (by kernel_rfl) (by kernel_rfl) (by kernel_rfl) (q_val (by rfl) ?_) ?_
      rotate_left
      · go_simp; (try with_reducible rfl); (try rfl)
      simp only [Act.put, List.setIfInBounds_toArray, List.set_cons_zero, List.set_cons_succ]
      refine q_take (i := 16) (oi := ({ dst := some 54, op := Go.Op.slice 9 (Go.Operand.tmp 52) none (some (Go.Operand.tmp 53)) none, type := 9, pos := "outright.go:64", after := #[{ on := 14, ground := Go.Ground.data }, { on := 15, ground := Go.Ground.data }, { on := 1, ground := Go.Ground.guard }], guard := some (1, true) } : Oper)) (v := ?_) rfl (by kernel_rfl) (by kernel_rfl) (by kernel_rfl) (q_val (by rfl) ?_) ?_
      rotate_left
      · go_simp; (try with_reducible rfl); (try rfl)
      simp only [Act.put, List.setIfInBounds_toArray, List.set_cons_zero, List.set_cons_succ]
      refine q_take (i := 17) (oi := ({ dst := some 55, op := Go.Op.call { callee := Go.Callee.value (Go.Operand.func 13), args := #[Go.Operand.tmp 54], argTypes := #[9] }, type := 22, pos := "outright.go:64", after := #[{ on := 16, ground := Go.Ground.data }, { on := 12, ground := Go.Ground.chain }, { on := 1, ground := Go.Ground.guard }], guard := some (1, true) } : Oper)) (v := _) rfl (by kernel_rfl) (by kernel_rfl) (by kernel_rfl) (q_call (by rfl) ?_ C3.out) ?_
      · go_simp; (try with_reducible rfl); (try rfl)
      simp only [Act.put, List.setIfInBounds_toArray, List.set_cons_zero, List.set_cons_succ]
      refine q_take (i := 18) (oi := ({ dst := some 56, op := Go.Op.binOp Go.BinOp.xor 22 (Go.Operand.tmp 51) (Go.Operand.tmp 55) 22, type := 22, pos := "outright.go:64", after := #[{ on := 13, ground := Go.Ground.data }, { on := 17, ground := Go.Ground.data }, { on := 1, ground := Go.Ground.guard }], guard := some (1, true) } : Oper)) (v := ?_) rfl (by kernel_rfl) (by kernel_rfl) (by kernel_rfl) (q_val (by rfl) ?_) ?_
      rotate_left
      · go_simp; (try with_reducible rfl); (try rfl)
      simp only [Act.put, List.setIfInBounds_toArray, List.set_cons_zero, List.set_cons_succ]
      refine q_take (i := 19) (oi := ({ dst := some 57, op := Go.Op.binOp Go.BinOp.eql 22 (Go.Operand.tmp 42) (Go.Operand.tmp 56) 22, type := 4, pos := "outright.go:64", after := #[{ on := 4, ground := Go.Ground.data }, { on := 18, ground := Go.Ground.data }, { on := 1, ground := Go.Ground.guard }], guard := some (1, true) } : Oper)) (v := ?_) rfl (by kernel_rfl) (by kernel_rfl) (by kernel_rfl) (q_val (by rfl) ?_) ?_
      rotate_left
      · go_simp; (try with_reducible rfl); (try rfl)
      simp only [Act.put, List.setIfInBounds_toArray, List.set_cons_zero, List.set_cons_succ]
      refine q_take (i := 20) (oi := ({ dst := some 58, op := Go.Op.pick (Go.Operand.tmp 39) (Go.Operand.tmp 57) (Go.Operand.const (Go.Value.bool false)), type := 4, pos := "outright.go:64", after := #[{ on := 1, ground := Go.Ground.data }, { on := 19, ground := Go.Ground.data }], guard := none } : Oper)) (v := ?_) rfl (by kernel_rfl) (by kernel_rfl) (by kernel_rfl) (q_val (by rfl) ?_) ?_
      rotate_left
      · go_simp; (try with_reducible rfl); (try rfl)
      simp only [Act.put, List.setIfInBounds_toArray, List.set_cons_zero, List.set_cons_succ]
      refine q_take (i := 21) (oi := ({ dst := some 6, op := Go.Op.assign (Go.Operand.tmp 58), type := 4, pos := "outright.go:64", after := #[{ on := 20, ground := Go.Ground.data }, { on := 17, ground := Go.Ground.chain }, { on := 0, ground := Go.Ground.phase }, { on := 1, ground := Go.Ground.phase }, { on := 2, ground := Go.Ground.phase }, { on := 3, ground := Go.Ground.phase }, { on := 4, ground := Go.Ground.phase }, { on := 5, ground := Go.Ground.phase }, { on := 6, ground := Go.Ground.phase }, { on := 7, ground := Go.Ground.phase }, { on := 8, ground := Go.Ground.phase }, { on := 9, ground := Go.Ground.phase }, { on := 10, ground := Go.Ground.phase }, { on := 11, ground := Go.Ground.phase }, { on := 12, ground := Go.Ground.phase }, { on := 13, ground := Go.Ground.phase }, { on := 14, ground := Go.Ground.phase }, { on := 15, ground := Go.Ground.phase }, { on := 16, ground := Go.Ground.phase }, { on := 17, ground := Go.Ground.phase }, { on := 18, ground := Go.Ground.phase }, { on := 19, ground := Go.Ground.phase }, { on := 20, ground := Go.Ground.phase }], guard := none } : Oper)) (v := ?_) rfl (by kernel_rfl) (by kernel_rfl) (by kernel_rfl) (q_val (by rfl) ?_) ?_
      rotate_left
      · go_simp; (try with_reducible rfl); (try rfl)
      simp only [Act.put, List.setIfInBounds_toArray, List.set_cons_zero, List.set_cons_succ]
      refine q_done (by kernel_rfl) ?_ _
      go_wp2
      go_ret
      exact ⟨rfl, HB1.out⟩
theorem core (s t u : ByteArray) (w0 : s.size ≤ maxLen) (w1 : t.size ≤ maxLen) (w2 : u.size ≤ maxLen) (w : World) (hT : Hid (Tab w)) :
    Calls Tryd.prog 7 #[.string s, .string t, .string u] w fun e w' => e = .returned (.bool true) ∧ Below w.heap.size w w' := by
  unfold maxLen at w0 w1 w2
  exact main s t u _ rfl (by omega) (by omega) (by omega) w hT
set_option maxRecDepth 100000 in
theorem lifted (os : Os) (started : os.Started) (H : Type) (enc : TypeId × Value → H) :
    ReturnsInHanded {} Tryd.checked os 7 .any (fun w args => (Rows.sumThreeSpec.pre enc Tryd.prog Tryd.f7 [] false w args ∧ laidMetH Tryd.prog laid w) ∧ sizedMet enc Tryd.prog Tryd.f7 (OpenSpec.ofChange Rows.sumThreeSpec) false w args)
      (Rows.sumThreeSpec.post enc Tryd.prog Tryd.f7 false true false false) := by
  refine returnsInHanded_of_change_and (C := Tryd.checked) (X := fun w _ => laidMetH Tryd.prog laid w) (fun _ _ _ hh h => h.of_heap hh) own started (by kernel_rfl) Tryd.func7
    (ChangeSpec.witness_shaped (enc := enc) (C := Tryd.checked) (os := os) (X := fun w _ => laidMetH Tryd.prog laid w) false (World.doorLaid Tryd.prog doorSteps os) #[.string ByteArray.empty, .string ByteArray.empty, .string ByteArray.empty] 8 rfl (World.shaped_of_RefB (by kernel_rfl) (by kernel_rfl)) (by kernel_rfl) (by kernel_rfl) (by kernel_rfl) (door_met os _)) ?_
  intro W base args ds gs before hval0 hW hcnd _ hL _
  have hval : ∀ (j : Nat) t v, Tryd.f7.params[j]? = some t → args[j]? = some v → Value.okWide Tryd.prog W .any base t v := hval0
  have hW' := hW
  obtain ⟨p, q, hA0, hV, rfl, hfz, hnd⟩ := hW
  have hA : DataW.TrodAll enc Tryd.prog W 0 (fun _ => true) true Tryd.f7.params.toList args.toList ds p := hA0
  rw [Tryd.params7] at hA hval
  obtain ⟨v0, vs0, d0, ds0, p0, q0, hargs, rfl, rfl, h0, r0⟩ := trodAll_cons hA
  obtain ⟨v1, vs1, d1, ds1, p1, q1, rfl, rfl, rfl, h1, r1⟩ := trodAll_cons r0
  obtain ⟨v2, vs2, d2, ds2, p2, q2, rfl, rfl, rfl, h2, r2⟩ := trodAll_cons r1
  obtain ⟨rfl, rfl, rfl⟩ := trodAll_nil r2
  obtain rfl : args = #[v0, v1, v2] := by cases args; simp_all
  obtain ⟨rfl, rfl⟩ := trodVars_none hV
  have k0 := h0
  have lt0 : ∀ x ∈ p0, x.block < W.heap.size := by obtain ⟨m, hm⟩ := k0; exact DataW.trod_lt m _ _ _ hm
  have k1 := h1
  have lt1 : ∀ x ∈ p1, x.block < W.heap.size := by obtain ⟨m, hm⟩ := k1; exact DataW.trod_lt m _ _ _ hm
  have k2 := h2
  have lt2 : ∀ x ∈ p2, x.block < W.heap.size := by obtain ⟨m, hm⟩ := k2; exact DataW.trod_lt m _ _ _ hm
  obtain ⟨a0, rfl, rfl, rfl, w0⟩ := open_string Tryd.underlying9 (hval 0 9 v0 rfl rfl) h0
  obtain ⟨a1, rfl, rfl, rfl, w1⟩ := open_string Tryd.underlying9 (hval 1 9 v1 rfl rfl) h1
  obtain ⟨a2, rfl, rfl, rfl, w2⟩ := open_string Tryd.underlying9 (hval 2 9 v2 rfl rfl) h2
  clear hA0 hval0
  refine (core a0 a1 a2 w0 w1 w2 W (Lib.hid (of_laid hL))).mono fun e W' ⟨he, bel⟩ => ?_
  subst he
  exact ⟨_, rfl, _, _, _, [], _, [], hW', trodAll_mk1 (shut_bool Tryd.underlying4 _), (trodAll_cons_mk (Below.trod laidOut (by kernel_rfl) (of_decide_eq_true (by kernel_rfl)) k0 bel lt0) (trodAll_cons_mk (Below.trod laidOut (by kernel_rfl) (of_decide_eq_true (by kernel_rfl)) k1 bel lt1) (trodAll_cons_mk (Below.trod laidOut (by kernel_rfl) (of_decide_eq_true (by kernel_rfl)) k2 bel lt2) trodAll_mk0))), rfl, bel.frame _, fun h => by cases h⟩
theorem over : Rows.sumThreeRow.holds Tryd.pinned (OpenSpec.ofChange Rows.sumThreeSpec) :=
  OpenClaim.holds_of_wide 7 Tryd.f7 rfl rfl rfl rfl rfl rfl rfl ⟨rfl, rfl, rfl, rfl, rfl⟩ rfl rfl rfl rfl rfl (by kernel_rfl) Tryd.func7 (by kernel_rfl)
    (of_decide_eq_true (by kernel_rfl)) (by unfold Func.isWrapper; first | (rw [if_pos (by decide +kernel)]; kernel_rfl) | (rw [if_neg (by decide +kernel)]; exact ⟨rfl, rfl⟩))
    (fun os started H enc _ => lifted os started H enc)
theorem proved : Rows.SumThreeCardSaid :=
  Claim7.holds_tied_plain_at .later [] [.data] true (true, "ec012be40840c8b481adfdcd4a219216fde9b8c297530996d1c8b008bc4c498b") false
    over (fun _ h => by cases h) (by kernel_rfl) (fun _ h => by cases h) sumThree_row_tie rfl ⟨rfl, rfl⟩ (by kernel_rfl) rfl
    (fun f fn hf hfn => by
      obtain rfl : f = 7 := Option.some.inj ((show Tryd.prog.funcNamed "baton/batonlaw02.SumThree" = some 7 by kernel_rfl).symm.trans hf) |>.symm
      obtain rfl : fn = Tryd.f7 := (Option.some.inj (Tryd.func7.symm.trans hfn)).symm
      exact ⟨by kernel_rfl, fun j t ht => by
        rw [Tryd.params7] at ht
        have hm : t ∈ [9, 9, 9] := by simpa using Array.mem_of_getElem? ht
        have hall : ([9, 9, 9].all fun u => !Tryd.prog.wantsStandIn u) = true := by kernel_rfl
        exact (show Tryd.prog.wantsStandIn t = false by simpa using List.all_eq_true.1 hall t hm)⟩)
    (by kernel_rfl)
end Go.Proofs.YtmbndjdpbpajmaaDoor.sumThree
