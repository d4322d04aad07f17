/- SumBurst: for any text, any place and any bits the law answers true. Condition: the table of package sum reads as its initialiser lays it (tied to the program's text by the card). -/
import Derived.Test.YtmbndjdpbpajmaaDoorCards
import Derived.Test.YtmbndjdpbpajmaaDoorTie
import Derived.Test.YtmbndjdpbpajmaaDoorFi
import Derived.Test.YtmbndjdpbpajmaaDoorMy
import Derived.BigRegion
import Derived.BigQuiet
import Derived.Test.YtmbndjdpbpajmaaDoorQu
import Derived.Test.YtmbndjdpbpajmaaDoorMc
import Derived.Deep.QuietTactic
import Derived.Deep.RegionWith
import Derived.SevenTiedAt
namespace Go.Proofs.YtmbndjdpbpajmaaDoor.sumBurst
open Go.ChangeShapes Go.WideShapes Go.ChangeAt Go.RowKit
open Go.ChangeMaps (open_string shut_string)
set_option linter.unusedVariables false
theorem xor8 (a b : UInt8) : bits .xor .u8 (a.toNat : Int) (b.toNat : Int) = ((a ^^^ b).toNat : Int) := by
  rw [u8_xor_nat _ _ a.toNat_lt b.toNat_lt, UInt8.toNat_xor]
theorem ofNat_pow (j : Nat) (h : j < 8) : (UInt8.ofNat (2 ^ j)).toNat = 2 ^ j := by
  have : 2 ^ j < 2 ^ 8 := Nat.pow_lt_pow_right (by omega) h
  simp; omega
theorem pow_val8 (j : Nat) (h : j < 8) : (2 : Int) ^ j % 256 = ((2 ^ j : Nat) : Int) := by
  have e : (2 : Int) ^ j = ((2 ^ j : Nat) : Int) := by push_cast; rfl
  have : 2 ^ j < 2 ^ 8 := Nat.pow_lt_pow_right (by omega) h
  rw [e]
  generalize 2 ^ j = p at *
  omega
theorem same_is (s : ByteArray) (m : Nat) (R : Bool) (w : World) (hs : s.size ≤ 140737488351232) (hT : Hid (Tab w)) (e : (Sm.mask (Sm.add 0 s.data.toList) == m) = R) :
   Calls Tryd.prog 21 #[.string s, .int .u32 m] w fun e w' => e = .returned (.bool R) ∧ w = w' := by
  rw [← e]; exact same_any s m w hs hT
theorem add_dec {xs ys : List UInt8} (h : Sm.add 0 xs = Sm.add 0 ys ↔ xs = ys) : ((Sm.add 0 (bs xs).data.toList : Int) == (Sm.add 0 ys : Int)) = decide (xs = ys) := by
  rw [beq_nat, Bool.eq_iff_iff, decide_eq_true_iff, beq_iff_eq]; exact h
theorem mask_dec {xs ys : List UInt8} (h : Sm.add 0 xs = Sm.add 0 ys ↔ xs = ys) : (Sm.mask (Sm.add 0 (bs xs).data.toList) == Sm.mask (Sm.add 0 ys)) = decide (xs = ys) := by
  rw [Bool.eq_iff_iff, decide_eq_true_iff, beq_iff_eq, Sm.mask_inj _ _ (Sm.add_lt (by omega) _) (Sm.add_lt (by omega) _)]; exact h
theorem text_dec (xs : List UInt8) (s : ByteArray) : (xs == s.toList) = decide (xs = s.data.toList) := by
  rw [toList_eq, Bool.eq_iff_iff, decide_eq_true_iff, beq_iff_eq]
theorem own_cell {w : World} {base g n cap : Nat} {xs : List UInt8} (h : Own w base (.slice (some ⟨g, 0, none⟩) n cap) (xs.map bv)) (i : Nat) (hi : i < xs.length) :
    w.cell? ⟨g, i, none⟩ = some (.int .u8 (xs[i].toNat)) ∧ w.frozen? ⟨g, i, none⟩ = false := by
  obtain ⟨g', cap', e, _, _, _, h5⟩ := h.pos (by rw [List.length_map]; omega)
  injection e with e1 _ _
  injection e1 with e2
  injection e2 with e3
  subst e3
  have := h5 i (by rw [List.length_map]; exact hi)
  refine ⟨?_, this.2⟩
  rw [this.1, List.getElem?_map, List.getElem?_eq_getElem hi]; rfl
theorem own_set {w : World} {base g n cap : Nat} {xs : List UInt8} (h : Own w base (.slice (some ⟨g, 0, none⟩) n cap) (xs.map bv)) (i : Nat) (hi : i < xs.length) (b : UInt8) :
    Own (w.setCell ⟨g, i, none⟩ (.int .u8 (b.toNat : Int))) base (.slice (some ⟨g, 0, none⟩) n cap) ((xs.set i b).map bv) := by
  rw [List.map_set]
  exact h.stored' i (by rw [List.length_map]; exact hi) _
set_option maxRecDepth 100000 in
set_option maxHeartbeats 2000000 in
theorem main (s : ByteArray) (at' : Int) (n N F : Nat) (h0 : 0 < s.size) (h1 : s.size ≤ 20000) (hn : n < 4294967296) (e1 : IntKind.u64.wrap at' = (N : Int)) (hF : F < 8 * s.size) (e2 : (N : Int) % (8 * (s.size : Int)) = (F : Int)) (w : World) (hT : Hid (Tab w)) :
    Calls Tryd.prog 6 #[.string s, .int .i64 at', .int .u32 n] w fun e w' => e = .returned (.bool true) ∧ Below w.heap.size w w' := by
  obtain ⟨v1, w1, hcv, hO, hS⟩ := run_bytes (P := Tryd.prog) w w.heap.size 9 30 5 s Tryd.underlying9 Tryd.underlying30 Tryd.underlying5 (Nat.le_refl _) (by omega)
  have hB := hS.below (B := w.heap.size) (Nat.le_refl _) (fun k hk => by cases hk)
  obtain ⟨g, cap, rfl, hg, hg1, hcap, hcell⟩ := hO.pos (by simp; exact h0)
  have hl : (s.data.toList.map bv).length = s.size := by simp
  rw [hl] at hO hcv
  have HO := Lib.hid hO
  have HB := Lib.hid hB
  clear hO hB hS hcell hl hcap
  have hd : decide (20000 < (s.size : Int)) = false := decide_eq_false (by omega)
  have hz : ((s.size : Int) == 0) = false := by rw [beq_eq_false_iff_ne]; omega
  go_enter Tryd.func6, Tryd.ntmps6
  go_wp2_with fail
  clear e1 e2 hcv hd
  go_loopw [9] (fun x wr => ∃ (k : Nat) (xs : List UInt8), k ≤ 32 ∧ F + k ≤ 8 * s.size ∧ xs.length = s.size ∧ Hid (Sm.num xs = Sm.num s.data.toList ^^^ 2 ^ F * (n % 2 ^ k)) ∧ x = .int .i64 k ∧ Hid (Own wr w.heap.size (.slice (some ⟨g, 0, none⟩) s.size cap) (xs.map bv)) ∧ Hid (Below w.heap.size w wr)) (fun x _ => 32 - (intOf x).toNat)
  case atStart => exact ⟨0, s.data.toList, by omega, by omega, by simp, Lib.hid (by rw [Nat.pow_zero, Nat.mod_one, Nat.mul_zero, Nat.xor_zero]), rfl, HO, HB⟩
  case round =>
    clear HO HB
    obtain ⟨k, xs, hk, hk2, hxl, HX, rfl, HO, HB⟩ := hrel
    by_cases h : k < 32 ∧ F + k < 8 * s.size
    · obtain ⟨h3, h4⟩ := h
      have hst := Sm.burst_step (Sm.num s.data.toList) F n k
      have hBn : n / 2 ^ k % 2 < 2 := Nat.mod_lt _ (by omega)
      have e3 : bits .and .u32 ((n : Int) / 2 ^ k) 1 = ((n / 2 ^ k % 2 : Nat) : Int) := by
        rw [show (n : Int) / 2 ^ k = ((n / 2 ^ k : Nat) : Int) from by push_cast; rfl]
        exact and1 _ (Nat.lt_of_le_of_lt (Nat.div_le_self _ _) hn)
      rw [← HX.out] at hst
      generalize n / 2 ^ k % 2 = B at *
      by_cases hb : B = 1
      · subst hb
        rw [if_pos rfl] at hst
        have hi : (F + k) / 8 < xs.length := by omega
        have hj : (F + k) % 8 < 8 := Nat.mod_lt _ (by omega)
        have e4 : ((F : Int) + (k : Int)) / 8 = (((F + k) / 8 : Nat) : Int) := by omega
        have e5 : ((F : Int) + (k : Int)) % 8 = (((F + k) % 8 : Nat) : Int) := by omega
        have hset := Sm.num_set xs ((F + k) / 8) hi (UInt8.ofNat (2 ^ ((F + k) % 8)))
        rw [ofNat_pow _ hj, Sm.place, ← hst] at hset
        have hlen : (xs.set ((F + k) / 8) (xs[(F + k) / 8] ^^^ UInt8.ofNat (2 ^ ((F + k) % 8)))).length = s.size := by rw [List.length_set]; exact hxl
        obtain ⟨hc, hf⟩ := own_cell HO.out ((F + k) / 8) hi
        have HN := Lib.hid (own_set HO.out ((F + k) / 8) hi (xs[(F + k) / 8] ^^^ UInt8.ofNat (2 ^ ((F + k) % 8))))
        have hx8 := xor8 xs[(F + k) / 8] (UInt8.ofNat (2 ^ ((F + k) % 8)))
        rw [ofNat_pow _ hj, ← pow_val8 _ hj] at hx8
        have hlt := (xs[(F + k) / 8]).toNat_lt
        have HS := Lib.hid hset
        clear hst hset
        generalize (xs[(F + k) / 8] ^^^ UInt8.ofNat (2 ^ ((F + k) % 8))).toNat = y at *
        generalize xs.set ((F + k) / 8) (xs[(F + k) / 8] ^^^ UInt8.ofNat (2 ^ ((F + k) % 8))) = ys at *
        generalize (xs[(F + k) / 8]).toNat = x at *
        generalize (F + k) / 8 = i at *
        generalize (F + k) % 8 = j at *
        have HB2 : Hid (Below w.heap.size w (wr.setCell ⟨g, i, none⟩ (.int .u8 (y : Int)))) := Lib.hid (HB.out.setCell hg _)
        go_wp2
        go_roundw
        case rel => exact ⟨k + 1, ys, by omega, by omega, hlen, HS, by go_num, HN, HB2⟩
        case measure => simp [intOf]; omega
      · obtain rfl : B = 0 := by omega
        rw [if_neg (by omega)] at hst
        have HS := Lib.hid hst.symm
        clear hst
        go_wp2
        go_roundw
        case rel => exact ⟨k + 1, xs, by omega, by omega, hxl, HS, by go_num, HO, HB⟩
        case measure => simp [intOf]; omega
    · have HE : Hid (Sm.add 0 xs = Sm.add 0 s.data.toList ↔ xs = s.data.toList) := Lib.hid (by
        by_cases h3 : k < 32
        · exact Sm.burst_end xs s.data.toList F (n % 2 ^ k) (by rw [hxl]; simp) (by simp; omega) (Nat.lt_of_le_of_lt (Nat.mod_le _ _) hn) HX.out
        · exact Sm.burst_end xs s.data.toList F (n % 2 ^ k) (by rw [hxl]; simp) (by simp; omega) (Nat.lt_of_le_of_lt (Nat.mod_le _ _) hn) HX.out)
      have hTd : Hid (Tab wr.drew) := Lib.hid (Tab.below hT.out (Below.drew HB.out))
      have HOd : Hid (Own wr.drew w.heap.size (.slice (some ⟨g, 0, none⟩) s.size cap) (xs.map bv)) := HO
      have HBd : Hid (Below w.heap.size w wr.drew) := Lib.hid (Below.drew HB.out)
      have hxl2 : (bs xs).size ≤ 140737488351232 := by rw [bs_size]; omega
      have hs2 : s.size ≤ 140737488351232 := by omega
      clear HO HB HX
      have hcase : (k < 32 ∧ ¬ F + k < 8 * s.size) ∨ ¬ k < 32 := by omega
      clear h
      rcases hcase with ⟨h3, h4⟩ | h3
      all_goals
        go_wp2
        refine wp_region_any (by kernel_rfl) ?_
        try (change wpAny _ _ _ _ _ _ _ (World.drew _))
        refine wpAny_ready (rs := [0]) (by kernel_rfl) (by simp) ?_
        refine AllReady.cons (o := ({ dst := some 63, op := Go.Op.call { callee := Go.Callee.value (Go.Operand.func 10), args := #[], argTypes := #[] }, type := 4, pos := "outright.go:54", after := #[], guard := none } : Oper)) rfl (fun K hK => ?_) AllReady.nil
        go_simp
        refine (awake_any _ hTd).mono ?_
        rintro e w1 ⟨rfl, hb1⟩
        dsimp only
        have hr1 := run_string_Own w1 w.heap.size 30 9 5 _ _ (HOd.out.below hb1 (fun k hk => (HOd.out.lt k hk).2)) Tryd.underlying30 Tryd.underlying5 Tryd.underlying9
        have hT1 := Lib.hid (hTd.out.below hb1)
        have HB1 := Lib.hid (HBd.out.trans (hb1.mono HBd.out.size))
        clear hb1 hTd HOd HBd
        have C0 := of_any (bs xs) w1 hxl2 hT1
        have C1 := of_any s w1 hs2 hT1
        have C2 := mask_any _ w1 (Sm.add_lt (c := 0) (by omega) s.data.toList)
        have C3 := same_is (bs xs) (Sm.mask (Sm.add 0 s.data.toList)) (decide (xs = s.data.toList)) w1 hxl2 hT1 (mask_dec HE.out)
        have hX := add_dec HE.out
        generalize Sm.mask (Sm.add 0 s.data.toList) = m at *
        generalize hX1 : Sm.add 0 (bs xs).data.toList = X at *
        generalize hY1 : Sm.add 0 s.data.toList = Y at *
        have hq := text_dec xs s
        clear hX1 hY1 HE hxl2 hs2
        generalize decide (xs = s.data.toList) = R at *
        have C0 := Lib.hid C0
        have C1 := Lib.hid C1
        have C2 := Lib.hid C2
        have C3 := Lib.hid C3
        refine hK _ _ ?_; clear hK K
        try simp only [Act.put, List.setIfInBounds_toArray, List.set_cons_zero, List.set_cons_succ]
        refine q_start ?_
        refine q_take (i := 1) (oi := ({ dst := some 64, op := Go.Op.move (Go.Operand.tmp 63), type := 4, pos := "outright.go:54", after := #[{ on := 0, ground := Go.Ground.data }, { on := 0, ground := Go.Ground.chain }], guard := none } : Oper)) (v := ?_) rfl (by kernel_rfl) (by kernel_rfl) (by kernel_rfl) (q_val (by rfl) ?_) ?_
        rotate_left
        · go_simp; (try with_reducible rfl); (try rfl)
        simp only [Act.put, List.setIfInBounds_toArray, List.set_cons_zero, List.set_cons_succ]
        refine q_take (i := 2) (oi := ({ dst := some 65, op := Go.Op.move (Go.Operand.tmp 7), type := 30, pos := "outright.go:54", after := #[{ on := 1, ground := Go.Ground.guard }], guard := some (1, true) } : Oper)) (v := ?_) rfl (by kernel_rfl) (by kernel_rfl) (by kernel_rfl) (q_val (by rfl) ?_) ?_
        rotate_left
        · go_simp; (try with_reducible rfl); (try rfl)
        simp only [Act.put, List.setIfInBounds_toArray, List.set_cons_zero, List.set_cons_succ]
        refine q_take (i := 3) (oi := ({ dst := some 66, op := Go.Op.convert 30 9 (Go.Operand.tmp 65), type := 9, pos := "outright.go:54", after := #[{ on := 2, ground := Go.Ground.data }, { on := 1, ground := Go.Ground.guard }], guard := some (1, true) } : Oper)) (v := ?_) rfl (by kernel_rfl) (by kernel_rfl) (by kernel_rfl) (q_val (by rfl) ?_) ?_
        rotate_left
        · go_simp; (try with_reducible rfl); (try rfl)
        simp only [Act.put, List.setIfInBounds_toArray, List.set_cons_zero, List.set_cons_succ]
        refine q_take (i := 4) (oi := ({ dst := some 67, op := Go.Op.call { callee := Go.Callee.value (Go.Operand.func 13), args := #[Go.Operand.tmp 66], argTypes := #[9] }, type := 22, pos := "outright.go:54", after := #[{ on := 3, ground := Go.Ground.data }, { on := 1, ground := Go.Ground.chain }, { on := 1, ground := Go.Ground.guard }], guard := some (1, true) } : Oper)) (v := _) rfl (by kernel_rfl) (by kernel_rfl) (by kernel_rfl) (q_call (by rfl) ?_ C0.out) ?_
        · go_simp; (try with_reducible rfl); (try rfl)
        simp only [Act.put, List.setIfInBounds_toArray, List.set_cons_zero, List.set_cons_succ]
        refine q_take (i := 5) (oi := ({ dst := some 68, op := Go.Op.move (Go.Operand.tmp 0), type := 9, pos := "outright.go:54", after := #[{ on := 1, ground := Go.Ground.guard }], guard := some (1, true) } : Oper)) (v := ?_) rfl (by kernel_rfl) (by kernel_rfl) (by kernel_rfl) (q_val (by rfl) ?_) ?_
        rotate_left
        · go_simp; (try with_reducible rfl); (try rfl)
        simp only [Act.put, List.setIfInBounds_toArray, List.set_cons_zero, List.set_cons_succ]
        refine q_take (i := 6) (oi := ({ dst := some 69, op := Go.Op.call { callee := Go.Callee.value (Go.Operand.func 13), args := #[Go.Operand.tmp 68], argTypes := #[9] }, type := 22, pos := "outright.go:54", after := #[{ on := 5, ground := Go.Ground.data }, { on := 4, ground := Go.Ground.chain }, { on := 1, ground := Go.Ground.guard }], guard := some (1, true) } : Oper)) (v := _) rfl (by kernel_rfl) (by kernel_rfl) (by kernel_rfl) (q_call (by rfl) ?_ C1.out) ?_
        · go_simp; (try with_reducible rfl); (try rfl)
        simp only [Act.put, List.setIfInBounds_toArray, List.set_cons_zero, List.set_cons_succ]
        refine q_take (i := 7) (oi := ({ dst := some 70, op := Go.Op.binOp Go.BinOp.eql 22 (Go.Operand.tmp 67) (Go.Operand.tmp 69) 22, type := 4, pos := "outright.go:54", after := #[{ on := 4, ground := Go.Ground.data }, { on := 6, ground := Go.Ground.data }, { on := 1, ground := Go.Ground.guard }], guard := some (1, true) } : Oper)) (v := ?_) rfl (by kernel_rfl) (by kernel_rfl) (by kernel_rfl) (q_val (by rfl) ?_) ?_
        rotate_left
        · go_simp; (try with_reducible rfl); (try rfl)
        simp only [Act.put, List.setIfInBounds_toArray, List.set_cons_zero, List.set_cons_succ]
        refine q_take (i := 8) (oi := ({ dst := some 71, op := Go.Op.move (Go.Operand.tmp 7), type := 30, pos := "outright.go:54", after := #[{ on := 1, ground := Go.Ground.guard }], guard := some (1, true) } : Oper)) (v := ?_) rfl (by kernel_rfl) (by kernel_rfl) (by kernel_rfl) (q_val (by rfl) ?_) ?_
        rotate_left
        · go_simp; (try with_reducible rfl); (try rfl)
        simp only [Act.put, List.setIfInBounds_toArray, List.set_cons_zero, List.set_cons_succ]
        refine q_take (i := 9) (oi := ({ dst := some 72, op := Go.Op.convert 30 9 (Go.Operand.tmp 71), type := 9, pos := "outright.go:54", after := #[{ on := 8, ground := Go.Ground.data }, { on := 1, ground := Go.Ground.guard }], guard := some (1, true) } : Oper)) (v := ?_) rfl (by kernel_rfl) (by kernel_rfl) (by kernel_rfl) (q_val (by rfl) ?_) ?_
        rotate_left
        · go_simp; (try with_reducible rfl); (try rfl)
        simp only [Act.put, List.setIfInBounds_toArray, List.set_cons_zero, List.set_cons_succ]
        refine q_take (i := 10) (oi := ({ dst := some 73, op := Go.Op.move (Go.Operand.tmp 0), type := 9, pos := "outright.go:54", after := #[{ on := 1, ground := Go.Ground.guard }], guard := some (1, true) } : Oper)) (v := ?_) rfl (by kernel_rfl) (by kernel_rfl) (by kernel_rfl) (q_val (by rfl) ?_) ?_
        rotate_left
        · go_simp; (try with_reducible rfl); (try rfl)
        simp only [Act.put, List.setIfInBounds_toArray, List.set_cons_zero, List.set_cons_succ]
        refine q_take (i := 11) (oi := ({ dst := some 74, op := Go.Op.binOp Go.BinOp.eql 9 (Go.Operand.tmp 72) (Go.Operand.tmp 73) 9, type := 4, pos := "outright.go:54", after := #[{ on := 9, ground := Go.Ground.data }, { on := 10, ground := Go.Ground.data }, { on := 1, ground := Go.Ground.guard }], guard := some (1, true) } : Oper)) (v := ?_) rfl (by kernel_rfl) (by kernel_rfl) (by kernel_rfl) (q_val (by rfl) ?_) ?_
        rotate_left
        · go_simp; (try with_reducible rfl); (try rfl)
        simp only [Act.put, List.setIfInBounds_toArray, List.set_cons_zero, List.set_cons_succ]
        refine q_take (i := 12) (oi := ({ dst := some 75, op := Go.Op.binOp Go.BinOp.eql 4 (Go.Operand.tmp 70) (Go.Operand.tmp 74) 4, type := 4, pos := "outright.go:54", after := #[{ on := 7, ground := Go.Ground.data }, { on := 11, ground := Go.Ground.data }, { on := 1, ground := Go.Ground.guard }], guard := some (1, true) } : Oper)) (v := ?_) rfl (by kernel_rfl) (by kernel_rfl) (by kernel_rfl) (q_val (by rfl) ?_) ?_
        rotate_left
        · go_simp; (try with_reducible rfl); (try rfl)
        simp only [Act.put, List.setIfInBounds_toArray, List.set_cons_zero, List.set_cons_succ]
        refine q_take (i := 13) (oi := ({ dst := some 76, op := Go.Op.pick (Go.Operand.tmp 64) (Go.Operand.tmp 75) (Go.Operand.const (Go.Value.bool false)), type := 4, pos := "outright.go:54", after := #[{ on := 1, ground := Go.Ground.data }, { on := 12, ground := Go.Ground.data }], guard := none } : Oper)) (v := ?_) rfl (by kernel_rfl) (by kernel_rfl) (by kernel_rfl) (q_val (by rfl) ?_) ?_
        rotate_left
        · go_simp; (try with_reducible rfl); (try rfl)
        simp only [Act.put, List.setIfInBounds_toArray, List.set_cons_zero, List.set_cons_succ]
        refine q_take (i := 14) (oi := ({ dst := some 77, op := Go.Op.move (Go.Operand.tmp 76), type := 4, pos := "outright.go:54", after := #[{ on := 13, ground := Go.Ground.data }, { on := 6, ground := Go.Ground.chain }], guard := none } : Oper)) (v := ?_) rfl (by kernel_rfl) (by kernel_rfl) (by kernel_rfl) (q_val (by rfl) ?_) ?_
        rotate_left
        · go_simp; (try with_reducible rfl); (try rfl)
        simp only [Act.put, List.setIfInBounds_toArray, List.set_cons_zero, List.set_cons_succ]
        refine q_take (i := 15) (oi := ({ dst := some 78, op := Go.Op.move (Go.Operand.tmp 7), type := 30, pos := "outright.go:54", after := #[{ on := 14, ground := Go.Ground.guard }], guard := some (14, true) } : Oper)) (v := ?_) rfl (by kernel_rfl) (by kernel_rfl) (by kernel_rfl) (q_val (by rfl) ?_) ?_
        rotate_left
        · go_simp; (try with_reducible rfl); (try rfl)
        simp only [Act.put, List.setIfInBounds_toArray, List.set_cons_zero, List.set_cons_succ]
        refine q_take (i := 16) (oi := ({ dst := some 79, op := Go.Op.convert 30 9 (Go.Operand.tmp 78), type := 9, pos := "outright.go:54", after := #[{ on := 15, ground := Go.Ground.data }, { on := 14, ground := Go.Ground.guard }], guard := some (14, true) } : Oper)) (v := ?_) rfl (by kernel_rfl) (by kernel_rfl) (by kernel_rfl) (q_val (by rfl) ?_) ?_
        rotate_left
        · go_simp; (try with_reducible rfl); (try rfl)
        simp only [Act.put, List.setIfInBounds_toArray, List.set_cons_zero, List.set_cons_succ]
        refine q_take (i := 17) (oi := ({ dst := some 80, op := Go.Op.move (Go.Operand.tmp 0), type := 9, pos := "outright.go:54", after := #[{ on := 14, ground := Go.Ground.guard }], guard := some (14, true) } : Oper)) (v := ?_) rfl (by kernel_rfl) (by kernel_rfl) (by kernel_rfl) (q_val (by rfl) ?_) ?_
        rotate_left
        · go_simp; (try with_reducible rfl); (try rfl)
        simp only [Act.put, List.setIfInBounds_toArray, List.set_cons_zero, List.set_cons_succ]
        refine q_take (i := 18) (oi := ({ dst := some 81, op := Go.Op.call { callee := Go.Callee.value (Go.Operand.func 13), args := #[Go.Operand.tmp 80], argTypes := #[9] }, type := 22, pos := "outright.go:54", after := #[{ on := 17, ground := Go.Ground.data }, { on := 14, ground := Go.Ground.chain }, { on := 14, ground := Go.Ground.guard }], guard := some (14, true) } : Oper)) (v := _) rfl (by kernel_rfl) (by kernel_rfl) (by kernel_rfl) (q_call (by rfl) ?_ C1.out) ?_
        · go_simp; (try with_reducible rfl); (try rfl)
        simp only [Act.put, List.setIfInBounds_toArray, List.set_cons_zero, List.set_cons_succ]
        refine q_take (i := 19) (oi := ({ dst := some 82, op := Go.Op.call { callee := Go.Callee.value (Go.Operand.func 16), args := #[Go.Operand.tmp 81], argTypes := #[22] }, type := 22, pos := "outright.go:54", after := #[{ on := 18, ground := Go.Ground.data }, { on := 18, ground := Go.Ground.chain }, { on := 14, ground := Go.Ground.guard }], guard := some (14, true) } : Oper)) (v := _) rfl (by kernel_rfl) (by kernel_rfl) (by kernel_rfl) (q_call (by rfl) ?_ C2.out) ?_
        · go_simp; (try with_reducible rfl); (try rfl)
        simp only [Act.put, List.setIfInBounds_toArray, List.set_cons_zero, List.set_cons_succ]
        refine q_take (i := 20) (oi := ({ dst := some 83, op := Go.Op.call { callee := Go.Callee.value (Go.Operand.func 21), args := #[Go.Operand.tmp 79, Go.Operand.tmp 82], argTypes := #[9, 22] }, type := 4, pos := "outright.go:54", after := #[{ on := 16, ground := Go.Ground.data }, { on := 19, ground := Go.Ground.data }, { on := 19, ground := Go.Ground.chain }, { on := 14, ground := Go.Ground.guard }], guard := some (14, true) } : Oper)) (v := _) rfl (by kernel_rfl) (by kernel_rfl) (by kernel_rfl) (q_call (by rfl) ?_ C3.out) ?_
        · go_simp; (try with_reducible rfl); (try rfl)
        simp only [Act.put, List.setIfInBounds_toArray, List.set_cons_zero, List.set_cons_succ]
        refine q_take (i := 21) (oi := ({ dst := some 84, op := Go.Op.move (Go.Operand.tmp 7), type := 30, pos := "outright.go:54", after := #[{ on := 14, ground := Go.Ground.guard }], guard := some (14, true) } : Oper)) (v := ?_) rfl (by kernel_rfl) (by kernel_rfl) (by kernel_rfl) (q_val (by rfl) ?_) ?_
        rotate_left
        · go_simp; (try with_reducible rfl); (try rfl)
        simp only [Act.put, List.setIfInBounds_toArray, List.set_cons_zero, List.set_cons_succ]
        refine q_take (i := 22) (oi := ({ dst := some 85, op := Go.Op.convert 30 9 (Go.Operand.tmp 84), type := 9, pos := "outright.go:54", after := #[{ on := 21, ground := Go.Ground.data }, { on := 14, ground := Go.Ground.guard }], guard := some (14, true) } : Oper)) (v := ?_) rfl (by kernel_rfl) (by kernel_rfl) (by kernel_rfl) (q_val (by rfl) ?_) ?_
        rotate_left
        · go_simp; (try with_reducible rfl); (try rfl)
        simp only [Act.put, List.setIfInBounds_toArray, List.set_cons_zero, List.set_cons_succ]
        refine q_take (i := 23) (oi := ({ dst := some 86, op := Go.Op.move (Go.Operand.tmp 0), type := 9, pos := "outright.go:54", after := #[{ on := 14, ground := Go.Ground.guard }], guard := some (14, true) } : Oper)) (v := ?_) rfl (by kernel_rfl) (by kernel_rfl) (by kernel_rfl) (q_val (by rfl) ?_) ?_
        rotate_left
        · go_simp; (try with_reducible rfl); (try rfl)
        simp only [Act.put, List.setIfInBounds_toArray, List.set_cons_zero, List.set_cons_succ]
        refine q_take (i := 24) (oi := ({ dst := some 87, op := Go.Op.binOp Go.BinOp.eql 9 (Go.Operand.tmp 85) (Go.Operand.tmp 86) 9, type := 4, pos := "outright.go:54", after := #[{ on := 22, ground := Go.Ground.data }, { on := 23, ground := Go.Ground.data }, { on := 14, ground := Go.Ground.guard }], guard := some (14, true) } : Oper)) (v := ?_) rfl (by kernel_rfl) (by kernel_rfl) (by kernel_rfl) (q_val (by rfl) ?_) ?_
        rotate_left
        · go_simp; (try with_reducible rfl); (try rfl)
        simp only [Act.put, List.setIfInBounds_toArray, List.set_cons_zero, List.set_cons_succ]
        refine q_take (i := 25) (oi := ({ dst := some 88, op := Go.Op.binOp Go.BinOp.eql 4 (Go.Operand.tmp 83) (Go.Operand.tmp 87) 4, type := 4, pos := "outright.go:54", after := #[{ on := 20, ground := Go.Ground.data }, { on := 24, ground := Go.Ground.data }, { on := 14, ground := Go.Ground.guard }], guard := some (14, true) } : Oper)) (v := ?_) rfl (by kernel_rfl) (by kernel_rfl) (by kernel_rfl) (q_val (by rfl) ?_) ?_
        rotate_left
        · go_simp; (try with_reducible rfl); (try rfl)
        simp only [Act.put, List.setIfInBounds_toArray, List.set_cons_zero, List.set_cons_succ]
        refine q_take (i := 26) (oi := ({ dst := some 89, op := Go.Op.pick (Go.Operand.tmp 77) (Go.Operand.tmp 88) (Go.Operand.const (Go.Value.bool false)), type := 4, pos := "outright.go:54", after := #[{ on := 14, ground := Go.Ground.data }, { on := 25, ground := Go.Ground.data }], guard := none } : Oper)) (v := ?_) rfl (by kernel_rfl) (by kernel_rfl) (by kernel_rfl) (q_val (by rfl) ?_) ?_
        rotate_left
        · go_simp; (try with_reducible rfl); (try rfl)
        simp only [Act.put, List.setIfInBounds_toArray, List.set_cons_zero, List.set_cons_succ]
        refine q_take (i := 27) (oi := ({ dst := some 6, op := Go.Op.assign (Go.Operand.tmp 89), type := 4, pos := "outright.go:54", after := #[{ on := 26, ground := Go.Ground.data }, { on := 20, ground := Go.Ground.chain }, { on := 0, ground := Go.Ground.phase }, { on := 1, ground := Go.Ground.phase }, { on := 2, ground := Go.Ground.phase }, { on := 3, ground := Go.Ground.phase }, { on := 4, ground := Go.Ground.phase }, { on := 5, ground := Go.Ground.phase }, { on := 6, ground := Go.Ground.phase }, { on := 7, ground := Go.Ground.phase }, { on := 8, ground := Go.Ground.phase }, { on := 9, ground := Go.Ground.phase }, { on := 10, ground := Go.Ground.phase }, { on := 11, ground := Go.Ground.phase }, { on := 12, ground := Go.Ground.phase }, { on := 13, ground := Go.Ground.phase }, { on := 14, ground := Go.Ground.phase }, { on := 15, ground := Go.Ground.phase }, { on := 16, ground := Go.Ground.phase }, { on := 17, ground := Go.Ground.phase }, { on := 18, ground := Go.Ground.phase }, { on := 19, ground := Go.Ground.phase }, { on := 20, ground := Go.Ground.phase }, { on := 21, ground := Go.Ground.phase }, { on := 22, ground := Go.Ground.phase }, { on := 23, ground := Go.Ground.phase }, { on := 24, ground := Go.Ground.phase }, { on := 25, ground := Go.Ground.phase }, { on := 26, ground := Go.Ground.phase }], guard := none } : Oper)) (v := ?_) rfl (by kernel_rfl) (by kernel_rfl) (by kernel_rfl) (q_val (by rfl) ?_) ?_
        rotate_left
        · go_simp; (try with_reducible rfl); (try rfl)
        simp only [Act.put, List.setIfInBounds_toArray, List.set_cons_zero, List.set_cons_succ]
        refine q_done (by kernel_rfl) ?_ _
        go_wp2
        go_ret
        exact ⟨rfl, HB1.out⟩
set_option maxRecDepth 100000 in
set_option maxHeartbeats 1000000 in
theorem long (s : ByteArray) (at' : Int) (n : Int) (h0 : s.size ≤ 9223372036854775807) (h : s.size = 0 ∨ 20000 < s.size) (w : World) (hT : Hid (Tab w)) :
    Calls Tryd.prog 6 #[.string s, .int .i64 at', .int .u32 n] w fun e w' => e = .returned (.bool true) ∧ Below w.heap.size w w' := by
  by_cases hs : s.size = 0
  · have hz : ((s.size : Int) == 0) = true := by rw [beq_iff_eq]; omega
    have HZ := Lib.hid hs
    clear h hs
    go_enter Tryd.func6, Tryd.ntmps6
    go_wp2_with (go_at_call 10; refine (awake_any _ hT).mono ?_; rintro e w1 ⟨rfl, hb1⟩; have HB1 := Lib.hid hb1; clear hb1)
    go_ret
    exact ⟨rfl, HB1.out⟩
  · have hz : ((s.size : Int) == 0) = false := by rw [beq_eq_false_iff_ne]; omega
    have hl : 20000 < s.size := by omega
    clear h hs
    go_enter Tryd.func6, Tryd.ntmps6
    go_wp2_with (go_at_call 10; refine (awake_any _ hT).mono ?_; rintro e w1 ⟨rfl, hb1⟩; have HB1 := Lib.hid hb1; clear hb1)
    go_ret
    exact ⟨rfl, HB1.out⟩
theorem core (s : ByteArray) (a1 a2 : Int) (w0 : s.size ≤ maxLen) (w1 : (Lit.int .i64 a1).wf = true) (w2 : (Lit.int .u32 a2).wf = true) (w : World) (hT : Hid (Tab w)) :
    Calls Tryd.prog 6 #[.string s, .int .i64 a1, .int .u32 a2] w fun e w' => e = .returned (.bool true) ∧ Below w.heap.size w w' := by
  unfold maxLen at w0
  obtain ⟨n0, n1⟩ := bounds_u32 w2
  obtain ⟨n, rfl⟩ := Int.eq_ofNat_of_zero_le n0
  by_cases h : s.size = 0 ∨ 20000 < s.size
  · exact long s a1 n (by omega) h w hT
  · obtain ⟨N, hN⟩ := Int.eq_ofNat_of_zero_le (a := IntKind.u64.wrap a1) (by rw [IntKind.wrap_u64]; omega)
    have hs : 0 < s.size := by omega
    exact main s a1 n N (N % (8 * s.size)) hs (by omega) (by omega) hN (Nat.mod_lt _ (by omega)) (by push_cast; rfl) w hT
set_option maxRecDepth 100000 in
theorem lifted (os : Os) (started : os.Started) (H : Type) (enc : TypeId × Value → H) :
    ReturnsInHanded {} Tryd.checked os 6 .any (fun w args => (Rows.sumBurstSpec.pre enc Tryd.prog Tryd.f6 [] false w args ∧ laidMetH Tryd.prog laid w) ∧ sizedMet enc Tryd.prog Tryd.f6 (OpenSpec.ofChange Rows.sumBurstSpec) false w args)
      (Rows.sumBurstSpec.post enc Tryd.prog Tryd.f6 false true false false) := by
  refine returnsInHanded_of_change_and (C := Tryd.checked) (X := fun w _ => laidMetH Tryd.prog laid w) (fun _ _ _ hh h => h.of_heap hh) own started (by kernel_rfl) Tryd.func6
    (ChangeSpec.witness_shaped (enc := enc) (C := Tryd.checked) (os := os) (X := fun w _ => laidMetH Tryd.prog laid w) false (World.doorLaid Tryd.prog doorSteps os) #[.string ByteArray.empty, .int .i64 0, .int .u32 0] 8 rfl (World.shaped_of_RefB (by kernel_rfl) (by kernel_rfl)) (by kernel_rfl) (by kernel_rfl) (by kernel_rfl) (door_met os _)) ?_
  intro W base args ds gs before hval0 hW hcnd _ hL _
  have hval : ∀ (j : Nat) t v, Tryd.f6.params[j]? = some t → args[j]? = some v → Value.okWide Tryd.prog W .any base t v := hval0
  have hW' := hW
  obtain ⟨p, q, hA0, hV, rfl, hfz, hnd⟩ := hW
  have hA : DataW.TrodAll enc Tryd.prog W 0 (fun _ => true) true Tryd.f6.params.toList args.toList ds p := hA0
  rw [Tryd.params6] at hA hval
  obtain ⟨v0, vs0, d0, ds0, p0, q0, hargs, rfl, rfl, h0, r0⟩ := trodAll_cons hA
  obtain ⟨v1, vs1, d1, ds1, p1, q1, rfl, rfl, rfl, h1, r1⟩ := trodAll_cons r0
  obtain ⟨v2, vs2, d2, ds2, p2, q2, rfl, rfl, rfl, h2, r2⟩ := trodAll_cons r1
  obtain ⟨rfl, rfl, rfl⟩ := trodAll_nil r2
  obtain rfl : args = #[v0, v1, v2] := by cases args; simp_all
  obtain ⟨rfl, rfl⟩ := trodVars_none hV
  have k0 := h0
  have lt0 : ∀ x ∈ p0, x.block < W.heap.size := by obtain ⟨m, hm⟩ := k0; exact DataW.trod_lt m _ _ _ hm
  have k1 := h1
  have lt1 : ∀ x ∈ p1, x.block < W.heap.size := by obtain ⟨m, hm⟩ := k1; exact DataW.trod_lt m _ _ _ hm
  have k2 := h2
  have lt2 : ∀ x ∈ p2, x.block < W.heap.size := by obtain ⟨m, hm⟩ := k2; exact DataW.trod_lt m _ _ _ hm
  obtain ⟨a0, rfl, rfl, rfl, w0⟩ := open_string Tryd.underlying9 (hval 0 9 v0 rfl rfl) h0
  obtain ⟨a1, rfl, rfl, rfl, w1⟩ := open_int Tryd.underlying3 (hval 1 3 v1 rfl rfl) h1
  obtain ⟨a2, rfl, rfl, rfl, w2⟩ := open_int Tryd.underlying22 (hval 2 22 v2 rfl rfl) h2
  clear hA0 hval0
  refine (core a0 a1 a2 w0 w1 w2 W (Lib.hid (of_laid hL))).mono fun e W' ⟨he, bel⟩ => ?_
  subst he
  exact ⟨_, rfl, _, _, _, [], _, [], hW', trodAll_mk1 (shut_bool Tryd.underlying4 _), (trodAll_cons_mk (Below.trod laidOut (by kernel_rfl) (of_decide_eq_true (by kernel_rfl)) k0 bel lt0) (trodAll_cons_mk (Below.trod laidOut (by kernel_rfl) (of_decide_eq_true (by kernel_rfl)) k1 bel lt1) (trodAll_cons_mk (Below.trod laidOut (by kernel_rfl) (of_decide_eq_true (by kernel_rfl)) k2 bel lt2) trodAll_mk0))), rfl, bel.frame _, fun h => by cases h⟩
theorem over : Rows.sumBurstRow.holds Tryd.pinned (OpenSpec.ofChange Rows.sumBurstSpec) :=
  OpenClaim.holds_of_wide 6 Tryd.f6 rfl rfl rfl rfl rfl rfl rfl ⟨rfl, rfl, rfl, rfl, rfl⟩ rfl rfl rfl rfl rfl (by kernel_rfl) Tryd.func6 (by kernel_rfl)
    (of_decide_eq_true (by kernel_rfl)) (by unfold Func.isWrapper; first | (rw [if_pos (by decide +kernel)]; kernel_rfl) | (rw [if_neg (by decide +kernel)]; exact ⟨rfl, rfl⟩))
    (fun os started H enc _ => lifted os started H enc)
theorem proved : Rows.SumBurstCardSaid :=
  Claim7.holds_tied_plain_at .later [] [.data] true (true, "ec012be40840c8b481adfdcd4a219216fde9b8c297530996d1c8b008bc4c498b") false
    over (fun _ h => by cases h) (by kernel_rfl) (fun _ h => by cases h) sumBurst_row_tie rfl ⟨rfl, rfl⟩ (by kernel_rfl) rfl
    (fun f fn hf hfn => by
      obtain rfl : f = 6 := Option.some.inj ((show Tryd.prog.funcNamed "baton/batonlaw02.SumBurst" = some 6 by kernel_rfl).symm.trans hf) |>.symm
      obtain rfl : fn = Tryd.f6 := (Option.some.inj (Tryd.func6.symm.trans hfn)).symm
      exact ⟨by kernel_rfl, fun j t ht => by
        rw [Tryd.params6] at ht
        have hm : t ∈ [9, 3, 22] := by simpa using Array.mem_of_getElem? ht
        have hall : ([9, 3, 22].all fun u => !Tryd.prog.wantsStandIn u) = true := by kernel_rfl
        exact (show Tryd.prog.wantsStandIn t = false by simpa using List.all_eq_true.1 hall t hm)⟩)
    (by kernel_rfl)
end Go.Proofs.YtmbndjdpbpajmaaDoor.sumBurst
