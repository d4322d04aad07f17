/- KeysNames: the law answers true. No condition. -/
import Derived.Test.YtbiokdphjildcaaRows
import Derived.Test.YtbiokdphjildcaaKg
import Derived.BigQuiet
import Derived.Deep.QuietTactic
import Derived.Deep.RegionHeld3
import Derived.Lib.QuietBelow
import Derived.WalkKit
import Derived.ProofKit
import Derived.OpenShut
import Derived.ShutString
namespace Go.Proofs.Ytbiokdphjildcaa.keysNames
open Go.ChangeShapes Go.WideShapes Go.ChangeAt Go.RowKit
open Go.ChangeMaps (open_string shut_string)
open BigFrame
set_option linter.unusedVariables false
def cnt (f : List UInt8 → Bool) : Nat → Nat
  | 0 => 0
  | k + 1 => cnt f k + (if f [UInt8.ofNat k] then 1 else 0)
theorem cnt_le (f : List UInt8 → Bool) (k : Nat) : cnt f k ≤ k := by
  induction k with
  | zero => exact Nat.le_refl _
  | succ k ih => unfold cnt; split <;> omega
theorem cnt_n : cnt nameB 256 = 65 := by decide +kernel
theorem cnt_k : cnt keyB 256 = 66 := by decide +kernel
theorem key_row : ∀ k, k < 256 → prefB [UInt8.ofNat k] = keyB [UInt8.ofNat k] ∧ nameB [UInt8.ofNat k] = (keyB [UInt8.ofNat k] && decide (k ≠ 47)) ∧ (keyB [UInt8.ofNat k] = true → k ≤ 122 ∧ endL [UInt8.ofNat k] = [UInt8.ofNat (k + 1)]) := by decide +kernel
theorem ofn {k : Nat} (h : k < 256) : (k : Int) = ((UInt8.ofNat k).toNat : Int) := by
  rw [UInt8.toNat_ofNat']; omega
theorem below_alloc_trans {w w1 w2 : World} {o : Obj} (h : Below w.heap.size w w1) (k : Below (w1.alloc o).heap.size (w1.alloc o) w2) : Below w.heap.size w w2 :=
  (h.alloc h.size o).trans (k.mono (by simp; exact Nat.le_succ_of_le h.size))
theorem name_v (s : ByteArray) (l : List UInt8) (h : s.data.toList = l) (b : Bool) (hb : nameB l = b) (w : World) : Calls Try.prog 11 #[.string s] w fun e w' => e = .returned (.bool b) ∧ w = w' := by
  rw [← hb, ← h]; exact name_any s w
theorem key_v (s : ByteArray) (l : List UInt8) (h : s.data.toList = l) (b : Bool) (hb : keyB l = b) (w : World) : Calls Try.prog 12 #[.string s] w fun e w' => e = .returned (.bool b) ∧ w = w' := by
  rw [← hb, ← h]; exact key_any s w
theorem end_v (s : ByteArray) (l r : List UInt8) (h : s.data.toList = l) (hb : endL l = r) (w : World) : Calls Try.prog 14 #[.string s] w fun e w' => e = .returned (.string (bs r)) ∧ Below w.heap.size w w' := by
  rw [← hb, ← h]; exact end_any s w
theorem below_dn {B : Nat} {a w : World} (h : Below B a w) (n : Nat) : Below B a (w.drewN n) := ⟨h.os, h.tape, h.output, h.size, h.block⟩
theorem bA {w wr w3 : World} {oA : Obj} (h : Below w.heap.size w wr) (k : Below (wr.alloc oA).drew.heap.size (wr.alloc oA).drew w3) : Below w.heap.size w w3 :=
  ((h.alloc h.size oA).drew).trans (k.mono ((h.alloc h.size oA).drew).size)
theorem bB {w wr w3 : World} {oA oB : Obj} (h : Below w.heap.size w wr) (k : Below ((wr.alloc oA).alloc oB).drew.heap.size ((wr.alloc oA).alloc oB).drew w3) : Below w.heap.size w w3 :=
  bA (h.alloc h.size oA) k
def TC (B : Nat) (W : World) : Prop := ∀ j, j < 18 → ∃ s : ByteArray, W.cell? ⟨B, j, none⟩ = some (.string s) ∧ rd s.data.toList = ([], [], false) ∧ s.size ≤ 1000
theorem TC.below {B : Nat} {W W' : World} (h : TC B W) (hB : B < W.heap.size) (hb : Below W.heap.size W W') : TC B W' := fun j hj => by
  obtain ⟨s, h1, h2⟩ := h j hj
  exact ⟨s, (hb.cell (p := ⟨B, j, none⟩) hB).trans h1, h2⟩
theorem rd_at (s : ByteArray) (l : List UInt8) (h : s.data.toList = l) (hr : rd l = ([], [], false)) (hz : l.length ≤ 1000) : rd s.data.toList = ([], [], false) ∧ s.size ≤ 1000 := by
  rw [Lib.size_eq, h]; exact ⟨hr, hz⟩
set_option maxRecDepth 100000 in
set_option maxHeartbeats 4000000 in
theorem core (w : World) :
    Calls Try.prog 3 #[] w fun e w' => e = .returned (.bool true) ∧ Below w.heap.size w w' := by
  have HAW := Lib.hid awake_any
  have HB0 : Hid (Below w.heap.size w w) := Lib.hid (Below.refl _ _)
  go_enter Try.func3, Try.ntmps3
  go_wp2_with fail
  refine (HAW.out _).mono ?_
  rintro e w1 ⟨rfl, hb⟩
  have HB1 := Lib.hid hb
  clear hb
  go_wp2
  go_loopw [3, 1, 2] (fun i x y wr => ∃ k : Nat, ∃ X Y : Nat, i = .int .i64 k ∧ x = .int .i64 X ∧ y = .int .i64 Y ∧ k ≤ 256 ∧ X ≤ 256 ∧ Y ≤ 256 ∧ Hid (X = cnt nameB k) ∧ Hid (Y = cnt keyB k) ∧ Hid (Below w.heap.size w wr)) (fun i _ _ _ => 256 - (intOf i).toNat)
  case atStart => exact ⟨0, 0, 0, rfl, rfl, rfl, by omega, by omega, by omega, Lib.hid rfl, Lib.hid rfl, HB1⟩
  case round =>
    obtain ⟨k, X, Y, rfl, rfl, rfl, hk, hX, hY, HX, HY, HB⟩ := hrel
    by_cases hlt : k < 256
    · have hr := key_row k hlt
      have hcv := run_string_one (UInt8.ofNat k) k (ofn hlt)
      have e1 : IntKind.u8.wrap (k : Int) = (k : Int) := by rw [wrap_u8]; omega
      have hXk := Lib.hid (cnt_le nameB k)
      have hYk := Lib.hid (cnt_le keyB k)
      have HX2 : Hid (cnt nameB (k + 1) = X + (if nameB [UInt8.ofNat k] then 1 else 0)) := Lib.hid (by rw [HX.out]; rfl)
      have HY2 : Hid (cnt keyB (k + 1) = Y + (if keyB [UInt8.ofNat k] then 1 else 0)) := Lib.hid (by rw [HY.out]; rfl)
      have HXle : Hid (X ≤ k ∧ Y ≤ k) := Lib.hid (by rw [HX.out, HY.out]; exact ⟨hXk.out, hYk.out⟩)
      have HN := Lib.hid (name_at [UInt8.ofNat k] _ rfl)
      have HK := Lib.hid (key_at [UInt8.ofNat k] _ rfl)
      have HP := Lib.hid (prefix_at [UInt8.ofNat k] _ hr.1)
      have HE := Lib.hid (fun h => end_at [UInt8.ofNat k] _ (hr.2.2 h).2)
      have HQ := Lib.hid (fun h => (hr.2.2 h).1)
      rw [hr.2.1] at HN HX2
      have hcv2 := Lib.hid (fun h : k + 1 < 256 => run_string_one (UInt8.ofNat (k + 1)) ((k + 1 : Nat) : Int) (ofn h))
      clear hr hXk hYk
      generalize keyB [UInt8.ofNat k] = q at *
      generalize bs [UInt8.ofNat k] = S at *
      generalize hU : bs [UInt8.ofNat (k + 1)] = U at *
      have eU : (U.toList != U.toList) = false := by simp
      cases q with
      | false =>
        rw [Bool.false_and] at HN HX2
        have HX3 : Hid (X = cnt nameB (k + 1)) := Lib.hid (by rw [HX2.out]; rfl)
        have HY3 : Hid (Y = cnt keyB (k + 1)) := Lib.hid (by rw [HY2.out]; rfl)
        clear HE HQ hcv2 HX2 HY2 hU
        go_wp2_with fail
        refine (HN.out _).mono ?_
        rintro e w2 ⟨rfl, rfl⟩
        go_wp2_with fail
        refine (HK.out _).mono ?_
        rintro e w2 ⟨rfl, rfl⟩
        go_wp2
        go_quiet ((first | (go_at_call 12; exact Calls.quiet_of_same ((HK.out _).mono fun _ _ h => ⟨h.1, h.2.symm⟩)) | (go_at_call 13; exact Calls.quiet_of_same ((HP.out _).mono fun _ _ h => ⟨h.1, h.2.symm⟩)) | (go_at_call 11; exact Calls.quiet_of_same ((HN.out _).mono fun _ _ h => ⟨h.1, h.2.symm⟩))))
        go_wp2
        go_roundw
        case rel => exact ⟨k + 1, _, _, by simp, rfl, rfl, by omega, hX, hY, HX3, HY3, Lib.hid (below_dn (HB.out.alloc HB.out.size _) _)⟩
        case measure => (try simp [intOf]); (try omega)
      | true =>
        have hk122 := HQ.out rfl
        have e2 : IntKind.u8.wrap ((k : Int) + 1) = (k : Int) + 1 := by rw [wrap_u8]; omega
        have hcv3 : ∀ (W : World) (g : Nat), W.cell? ⟨g, 0, none⟩ = some (.int .u8 ((k : Int) + 1)) → Sem.run Try.prog (convert 23 9 (.slice (some ⟨g, 0, none⟩) 1 1)) W = .ok (.string U) W := by
          exact hcv2.out (by omega)
        have HE9 : Hid (∀ w : World, Calls Try.prog 14 #[.string S] w fun e w' => e = .returned (.string U) ∧ Below w.heap.size w w') := Lib.hid (HE.out rfl)
        clear HE
        have e3 : IntKind.u8.wrap (IntKind.i64.wrap ((k : Int) + 1)) = (k : Int) + 1 := by rw [IntKind.wrap_i64 (n := (k : Int) + 1)]; rw [wrap_u8]; omega
        have e47 : ((k : Int) != 47) = decide (k ≠ 47) := by
          rw [Bool.eq_iff_iff]; simp; omega
        clear hU hcv2 HQ
        generalize decide (k ≠ 47) = z at *
        rw [Bool.true_and] at HN HX2
        have HY3 : Hid (Y + 1 = cnt keyB (k + 1)) := Lib.hid (by rw [HY2.out]; rfl)
        have hYle : Y + 1 ≤ 256 := by have := HXle.out; omega
        cases z
        · have HX3 : Hid (X = cnt nameB (k + 1)) := Lib.hid (by rw [HX2.out]; rfl)
          clear HX2 HY2
          go_wp2_with fail
          refine (HN.out _).mono ?_
          rintro e w2 ⟨rfl, rfl⟩
          go_wp2_with fail
          refine (HK.out _).mono ?_
          rintro e w2 ⟨rfl, rfl⟩
          go_wp2_with fail
          refine wp_region_any (by kernel_rfl) ?_
          try (change wpAny _ _ _ _ _ _ _ (World.drew _))
          refine wpAny_take (i := 0) (oi := ({ dst := some 30, op := Go.Op.move (Go.Operand.tmp 4), type := 9, pos := "law.go:41", after := #[], guard := none } : Oper)) (v := ?_) rfl (by kernel_rfl) (by kernel_rfl) (by kernel_rfl) (fun _ _ _ h => h) (Or.inl ⟨by rfl, ?_⟩) ?_
          rotate_left
          · intro _; go_simp; (try with_reducible rfl)
          simp only [Act.put, List.setIfInBounds_toArray, List.set_cons_zero, List.set_cons_succ]
          refine wpAny_take (i := 2) (oi := ({ dst := some 32, op := Go.Op.move (Go.Operand.tmp 4), type := 9, pos := "law.go:41", after := #[], guard := none } : Oper)) (v := ?_) rfl (by kernel_rfl) (by kernel_rfl) (by kernel_rfl) (fun _ _ _ h => h) (Or.inl ⟨by rfl, ?_⟩) ?_
          rotate_left
          · intro _; go_simp; (try with_reducible rfl)
          simp only [Act.put, List.setIfInBounds_toArray, List.set_cons_zero, List.set_cons_succ]
          refine wpAny_ready (rs := [1]) (by kernel_rfl) (by simp) ?_
          refine AllReady.cons (o := ({ dst := some 31, op := Go.Op.call { callee := Go.Callee.value (Go.Operand.func 12), args := #[Go.Operand.tmp 30], argTypes := #[9] }, type := 4, pos := "law.go:41", after := #[{ on := 0, ground := Go.Ground.data }], guard := none } : Oper)) rfl (fun K hK => ?_) AllReady.nil
          go_simp
          refine (HK.out _).mono ?_
          rintro e w2 ⟨rfl, rfl⟩
          try dsimp only
          refine hK _ _ ?_; clear hK K
          try simp only [Act.put, List.setIfInBounds_toArray, List.set_cons_zero, List.set_cons_succ]
          refine wpAny_ready (rs := [3]) (by kernel_rfl) (by simp) ?_
          refine AllReady.cons (o := ({ dst := some 33, op := Go.Op.call { callee := Go.Callee.value (Go.Operand.func 13), args := #[Go.Operand.tmp 32], argTypes := #[9] }, type := 4, pos := "law.go:41", after := #[{ on := 2, ground := Go.Ground.data }, { on := 1, ground := Go.Ground.chain }], guard := none } : Oper)) rfl (fun K hK => ?_) AllReady.nil
          go_simp
          refine (HP.out _).mono ?_
          rintro e w2 ⟨rfl, rfl⟩
          try dsimp only
          refine hK _ _ ?_; clear hK K
          try simp only [Act.put, List.setIfInBounds_toArray, List.set_cons_zero, List.set_cons_succ]
          refine wpAny_take (i := 4) (oi := ({ dst := some 34, op := Go.Op.binOp Go.BinOp.neq 4 (Go.Operand.tmp 31) (Go.Operand.tmp 33) 4, type := 4, pos := "law.go:41", after := #[{ on := 1, ground := Go.Ground.data }, { on := 3, ground := Go.Ground.data }], guard := none } : Oper)) (v := ?_) rfl (by kernel_rfl) (by kernel_rfl) (by kernel_rfl) (fun _ _ _ h => h) (Or.inl ⟨by rfl, ?_⟩) ?_
          rotate_left
          · intro _; go_simp; (try with_reducible rfl)
          simp only [Act.put, List.setIfInBounds_toArray, List.set_cons_zero, List.set_cons_succ]
          refine wpAny_take (i := 5) (oi := ({ dst := some 35, op := Go.Op.move (Go.Operand.tmp 34), type := 4, pos := "law.go:41", after := #[{ on := 4, ground := Go.Ground.data }, { on := 3, ground := Go.Ground.chain }], guard := none } : Oper)) (v := ?_) rfl (by kernel_rfl) (by kernel_rfl) (by kernel_rfl) (fun _ _ _ h => h) (Or.inl ⟨by rfl, ?_⟩) ?_
          rotate_left
          · intro _; go_simp; (try with_reducible rfl)
          simp only [Act.put, List.setIfInBounds_toArray, List.set_cons_zero, List.set_cons_succ]
          refine wpAny_take (i := 6) (oi := ({ dst := some 36, op := Go.Op.move (Go.Operand.tmp 4), type := 9, pos := "law.go:41", after := #[{ on := 5, ground := Go.Ground.guard }], guard := some (5, false) } : Oper)) (v := ?_) rfl (by kernel_rfl) (by kernel_rfl) (by kernel_rfl) (fun _ _ _ h => h) (Or.inl ⟨by rfl, ?_⟩) ?_
          rotate_left
          · intro _; go_simp; (try with_reducible rfl)
          simp only [Act.put, List.setIfInBounds_toArray, List.set_cons_zero, List.set_cons_succ]
          refine wpAny_take (i := 8) (oi := ({ dst := some 38, op := Go.Op.move (Go.Operand.tmp 4), type := 9, pos := "law.go:41", after := #[{ on := 5, ground := Go.Ground.guard }], guard := some (5, false) } : Oper)) (v := ?_) rfl (by kernel_rfl) (by kernel_rfl) (by kernel_rfl) (fun _ _ _ h => h) (Or.inl ⟨by rfl, ?_⟩) ?_
          rotate_left
          · intro _; go_simp; (try with_reducible rfl)
          simp only [Act.put, List.setIfInBounds_toArray, List.set_cons_zero, List.set_cons_succ]
          refine wpAny_ready (rs := [7]) (by kernel_rfl) (by simp) ?_
          refine AllReady.cons (o := ({ dst := some 37, op := Go.Op.call { callee := Go.Callee.value (Go.Operand.func 11), args := #[Go.Operand.tmp 36], argTypes := #[9] }, type := 4, pos := "law.go:41", after := #[{ on := 6, ground := Go.Ground.data }, { on := 5, ground := Go.Ground.chain }, { on := 5, ground := Go.Ground.guard }], guard := some (5, false) } : Oper)) rfl (fun K hK => ?_) AllReady.nil
          go_simp
          refine (HN.out _).mono ?_
          rintro e w2 ⟨rfl, rfl⟩
          try dsimp only
          refine hK _ _ ?_; clear hK K
          try simp only [Act.put, List.setIfInBounds_toArray, List.set_cons_zero, List.set_cons_succ]
          refine wpAny_ready (rs := [9]) (by kernel_rfl) (by simp) ?_
          refine AllReady.cons (o := ({ dst := some 39, op := Go.Op.call { callee := Go.Callee.value (Go.Operand.func 12), args := #[Go.Operand.tmp 38], argTypes := #[9] }, type := 4, pos := "law.go:41", after := #[{ on := 8, ground := Go.Ground.data }, { on := 7, ground := Go.Ground.chain }, { on := 5, ground := Go.Ground.guard }], guard := some (5, false) } : Oper)) rfl (fun K hK => ?_) AllReady.nil
          go_simp
          refine (HK.out _).mono ?_
          rintro e w2 ⟨rfl, rfl⟩
          try dsimp only
          refine hK _ _ ?_; clear hK K
          try simp only [Act.put, List.setIfInBounds_toArray, List.set_cons_zero, List.set_cons_succ]
          refine wpAny_take (i := 10) (oi := ({ dst := some 40, op := Go.Op.move (Go.Operand.tmp 39), type := 4, pos := "law.go:41", after := #[{ on := 9, ground := Go.Ground.data }, { on := 9, ground := Go.Ground.chain }, { on := 5, ground := Go.Ground.guard }], guard := some (5, false) } : Oper)) (v := ?_) rfl (by kernel_rfl) (by kernel_rfl) (by kernel_rfl) (fun _ _ _ h => h) (Or.inl ⟨by rfl, ?_⟩) ?_
          rotate_left
          · intro _; go_simp; (try with_reducible rfl)
          simp only [Act.put, List.setIfInBounds_toArray, List.set_cons_zero, List.set_cons_succ]
          refine wpAny_take (i := 11) (oi := ({ dst := some 41, op := Go.Op.move (Go.Operand.tmp 3), type := 3, pos := "law.go:41", after := #[{ on := 10, ground := Go.Ground.guard }], guard := some (10, true) } : Oper)) (v := ?_) rfl (by kernel_rfl) (by kernel_rfl) (by kernel_rfl) (fun _ _ _ h => h) (Or.inl ⟨by rfl, ?_⟩) ?_
          rotate_left
          · intro _; go_simp; (try with_reducible rfl)
          simp only [Act.put, List.setIfInBounds_toArray, List.set_cons_zero, List.set_cons_succ]
          refine wpAny_take (i := 12) (oi := ({ dst := some 42, op := Go.Op.binOp Go.BinOp.neq 3 (Go.Operand.tmp 41) (Go.Operand.const (Go.Value.int Go.IntKind.i64 47)) 3, type := 4, pos := "law.go:41", after := #[{ on := 11, ground := Go.Ground.data }, { on := 10, ground := Go.Ground.guard }], guard := some (10, true) } : Oper)) (v := ?_) rfl (by kernel_rfl) (by kernel_rfl) (by kernel_rfl) (fun _ _ _ h => h) (Or.inl ⟨by rfl, ?_⟩) ?_
          rotate_left
          · intro _; go_simp; (try with_reducible rfl)
          simp only [Act.put, List.setIfInBounds_toArray, List.set_cons_zero, List.set_cons_succ]
          refine wpAny_take (i := 13) (oi := ({ dst := some 43, op := Go.Op.pick (Go.Operand.tmp 40) (Go.Operand.tmp 42) (Go.Operand.const (Go.Value.bool false)), type := 4, pos := "law.go:41", after := #[{ on := 10, ground := Go.Ground.data }, { on := 12, ground := Go.Ground.data }, { on := 5, ground := Go.Ground.guard }], guard := some (5, false) } : Oper)) (v := ?_) rfl (by kernel_rfl) (by kernel_rfl) (by kernel_rfl) (fun _ _ _ h => h) (Or.inl ⟨by rfl, ?_⟩) ?_
          rotate_left
          · intro _; go_simp; (try with_reducible rfl)
          simp only [Act.put, List.setIfInBounds_toArray, List.set_cons_zero, List.set_cons_succ]
          refine wpAny_take (i := 14) (oi := ({ dst := some 44, op := Go.Op.binOp Go.BinOp.neq 4 (Go.Operand.tmp 37) (Go.Operand.tmp 43) 4, type := 4, pos := "law.go:41", after := #[{ on := 7, ground := Go.Ground.data }, { on := 13, ground := Go.Ground.data }, { on := 5, ground := Go.Ground.guard }], guard := some (5, false) } : Oper)) (v := ?_) rfl (by kernel_rfl) (by kernel_rfl) (by kernel_rfl) (fun _ _ _ h => h) (Or.inl ⟨by rfl, ?_⟩) ?_
          rotate_left
          · intro _; go_simp; (try with_reducible rfl)
          simp only [Act.put, List.setIfInBounds_toArray, List.set_cons_zero, List.set_cons_succ]
          refine wpAny_take (i := 15) (oi := ({ dst := some 45, op := Go.Op.pick (Go.Operand.tmp 35) (Go.Operand.const (Go.Value.bool true)) (Go.Operand.tmp 44), type := 4, pos := "law.go:41", after := #[{ on := 5, ground := Go.Ground.data }, { on := 14, ground := Go.Ground.data }], guard := none } : Oper)) (v := ?_) rfl (by kernel_rfl) (by kernel_rfl) (by kernel_rfl) (fun _ _ _ h => h) (Or.inl ⟨by rfl, ?_⟩) ?_
          rotate_left
          · intro _; go_simp; (try with_reducible rfl)
          simp only [Act.put, List.setIfInBounds_toArray, List.set_cons_zero, List.set_cons_succ]
          refine wpAny_take (i := 16) (oi := ({ dst := some 46, op := Go.Op.move (Go.Operand.tmp 45), type := 4, pos := "law.go:41", after := #[{ on := 15, ground := Go.Ground.data }, { on := 10, ground := Go.Ground.chain }], guard := none } : Oper)) (v := ?_) rfl (by kernel_rfl) (by kernel_rfl) (by kernel_rfl) (fun _ _ _ h => h) (Or.inl ⟨by rfl, ?_⟩) ?_
          rotate_left
          · intro _; go_simp; (try with_reducible rfl)
          simp only [Act.put, List.setIfInBounds_toArray, List.set_cons_zero, List.set_cons_succ]
          refine wpAny_take (i := 17) (oi := ({ dst := some 47, op := Go.Op.move (Go.Operand.tmp 4), type := 9, pos := "law.go:41", after := #[{ on := 16, ground := Go.Ground.guard }], guard := some (16, false) } : Oper)) (v := ?_) rfl (by kernel_rfl) (by kernel_rfl) (by kernel_rfl) (fun _ _ _ h => h) (Or.inl ⟨by rfl, ?_⟩) ?_
          rotate_left
          · intro _; go_simp; (try with_reducible rfl)
          simp only [Act.put, List.setIfInBounds_toArray, List.set_cons_zero, List.set_cons_succ]
          refine wpAny_ready (rs := [18]) (by kernel_rfl) (by simp) ?_
          refine AllReady.cons (o := ({ dst := some 48, op := Go.Op.call { callee := Go.Callee.value (Go.Operand.func 12), args := #[Go.Operand.tmp 47], argTypes := #[9] }, type := 4, pos := "law.go:41", after := #[{ on := 17, ground := Go.Ground.data }, { on := 16, ground := Go.Ground.chain }, { on := 16, ground := Go.Ground.guard }], guard := some (16, false) } : Oper)) rfl (fun K hK => ?_) AllReady.nil
          go_simp
          refine (HK.out _).mono ?_
          rintro e w2 ⟨rfl, rfl⟩
          try dsimp only
          refine hK _ _ ?_; clear hK K
          try simp only [Act.put, List.setIfInBounds_toArray, List.set_cons_zero, List.set_cons_succ]
          refine wpAny_take (i := 19) (oi := ({ dst := some 49, op := Go.Op.move (Go.Operand.tmp 48), type := 4, pos := "law.go:41", after := #[{ on := 18, ground := Go.Ground.data }, { on := 18, ground := Go.Ground.chain }, { on := 16, ground := Go.Ground.guard }], guard := some (16, false) } : Oper)) (v := ?_) rfl (by kernel_rfl) (by kernel_rfl) (by kernel_rfl) (fun _ _ _ h => h) (Or.inl ⟨by rfl, ?_⟩) ?_
          rotate_left
          · intro _; go_simp; (try with_reducible rfl)
          simp only [Act.put, List.setIfInBounds_toArray, List.set_cons_zero, List.set_cons_succ]
          refine wpAny_take (i := 20) (oi := ({ dst := some 50, op := Go.Op.move (Go.Operand.tmp 4), type := 9, pos := "law.go:41", after := #[{ on := 19, ground := Go.Ground.guard }], guard := some (19, true) } : Oper)) (v := ?_) rfl (by kernel_rfl) (by kernel_rfl) (by kernel_rfl) (fun _ _ _ h => h) (Or.inl ⟨by rfl, ?_⟩) ?_
          rotate_left
          · intro _; go_simp; (try with_reducible rfl)
          simp only [Act.put, List.setIfInBounds_toArray, List.set_cons_zero, List.set_cons_succ]
          refine wpAny_take (i := 22) (oi := ({ dst := some 52, op := Go.Op.move (Go.Operand.tmp 3), type := 3, pos := "law.go:41", after := #[{ on := 19, ground := Go.Ground.guard }], guard := some (19, true) } : Oper)) (v := ?_) rfl (by kernel_rfl) (by kernel_rfl) (by kernel_rfl) (fun _ _ _ h => h) (Or.inl ⟨by rfl, ?_⟩) ?_
          rotate_left
          · intro _; go_simp; (try with_reducible rfl)
          simp only [Act.put, List.setIfInBounds_toArray, List.set_cons_zero, List.set_cons_succ]
          refine wpAny_take (i := 23) (oi := ({ dst := some 53, op := Go.Op.binOp Go.BinOp.add 3 (Go.Operand.tmp 52) (Go.Operand.const (Go.Value.int Go.IntKind.i64 1)) 3, type := 3, pos := "law.go:41", after := #[{ on := 22, ground := Go.Ground.data }, { on := 19, ground := Go.Ground.guard }], guard := some (19, true) } : Oper)) (v := ?_) rfl (by kernel_rfl) (by kernel_rfl) (by kernel_rfl) (fun _ _ _ h => h) (Or.inl ⟨by rfl, ?_⟩) ?_
          rotate_left
          · intro _; go_simp; (try with_reducible rfl)
          simp only [Act.put, List.setIfInBounds_toArray, List.set_cons_zero, List.set_cons_succ]
          refine wpAny_take (i := 24) (oi := ({ dst := some 54, op := Go.Op.convert 3 5 (Go.Operand.tmp 53), type := 5, pos := "law.go:41", after := #[{ on := 23, ground := Go.Ground.data }, { on := 19, ground := Go.Ground.guard }], guard := some (19, true) } : Oper)) (v := ?_) rfl (by kernel_rfl) (by kernel_rfl) (by kernel_rfl) (fun _ _ _ h => h) (Or.inl ⟨by rfl, ?_⟩) ?_
          rotate_left
          · intro _; go_simp; (try with_reducible rfl)
          simp only [Act.put, List.setIfInBounds_toArray, List.set_cons_zero, List.set_cons_succ]
          refine wpAny_ready (rs := [21, 25]) (by kernel_rfl) (by simp) ?_
          refine AllReady.cons (o := ({ dst := some 51, op := Go.Op.call { callee := Go.Callee.value (Go.Operand.func 14), args := #[Go.Operand.tmp 50], argTypes := #[9] }, type := 9, pos := "law.go:41", after := #[{ on := 20, ground := Go.Ground.data }, { on := 19, ground := Go.Ground.chain }, { on := 19, ground := Go.Ground.guard }], guard := some (19, true) } : Oper)) rfl (fun K hK => ?_) (AllReady.cons (o := ({ dst := some 55, op := Go.Op.buildSlice 23 1 #[(0, Go.Operand.tmp 54)], type := 23, pos := "law.go:41", after := #[{ on := 24, ground := Go.Ground.data }, { on := 19, ground := Go.Ground.guard }], guard := some (19, true) } : Oper)) rfl (fun K hK => ?_) AllReady.nil)
          · skip
            go_simp
            refine (HE9.out _).mono ?_
            rintro e w3 ⟨rfl, hb⟩
            have hcB := fun hlt => (hb.cell (p := ⟨wr.heap.size + 1, 0, none⟩) hlt)
            have HB3 := Lib.hid hb
            clear hb
            try dsimp only
            refine hK _ _ ?_; clear hK K
            try simp only [Act.put, List.setIfInBounds_toArray, List.set_cons_zero, List.set_cons_succ]
            refine wpAny_ready (rs := [25]) (by kernel_rfl) (by simp) ?_
            refine AllReady.cons (o := ({ dst := some 55, op := Go.Op.buildSlice 23 1 #[(0, Go.Operand.tmp 54)], type := 23, pos := "law.go:41", after := #[{ on := 24, ground := Go.Ground.data }, { on := 19, ground := Go.Ground.guard }], guard := some (19, true) } : Oper)) rfl (fun K hK => ?_) AllReady.nil
            go_simp
            refine hK _ _ ?_; clear hK K
            try simp only [Act.put, List.setIfInBounds_toArray, List.set_cons_zero, List.set_cons_succ]
            refine wpAny_ready (rs := [26]) (by kernel_rfl) (by simp) ?_
            refine AllReady.cons (o := ({ dst := some 56, op := Go.Op.convert 23 9 (Go.Operand.tmp 55), type := 9, pos := "law.go:41", after := #[{ on := 25, ground := Go.Ground.data }, { on := 19, ground := Go.Ground.guard }], guard := some (19, true) } : Oper)) rfl (fun K hK => ?_) AllReady.nil
            go_simp
            refine hK _ _ ?_; clear hK K
            try simp only [Act.put, List.setIfInBounds_toArray, List.set_cons_zero, List.set_cons_succ]
            refine wpAny_take (i := 27) (oi := ({ dst := some 57, op := Go.Op.binOp Go.BinOp.neq 9 (Go.Operand.tmp 51) (Go.Operand.tmp 56) 9, type := 4, pos := "law.go:41", after := #[{ on := 21, ground := Go.Ground.data }, { on := 26, ground := Go.Ground.data }, { on := 19, ground := Go.Ground.guard }], guard := some (19, true) } : Oper)) (v := ?_) rfl (by kernel_rfl) (by kernel_rfl) (by kernel_rfl) (fun _ _ _ h => h) (Or.inl ⟨by rfl, ?_⟩) ?_
            rotate_left
            · intro _; go_simp; (try with_reducible rfl)
            simp only [Act.put, List.setIfInBounds_toArray, List.set_cons_zero, List.set_cons_succ]
            refine wpAny_take (i := 28) (oi := ({ dst := some 58, op := Go.Op.pick (Go.Operand.tmp 49) (Go.Operand.tmp 57) (Go.Operand.const (Go.Value.bool false)), type := 4, pos := "law.go:41", after := #[{ on := 19, ground := Go.Ground.data }, { on := 27, ground := Go.Ground.data }, { on := 16, ground := Go.Ground.guard }], guard := some (16, false) } : Oper)) (v := ?_) rfl (by kernel_rfl) (by kernel_rfl) (by kernel_rfl) (fun _ _ _ h => h) (Or.inl ⟨by rfl, ?_⟩) ?_
            rotate_left
            · intro _; go_simp; (try with_reducible rfl)
            simp only [Act.put, List.setIfInBounds_toArray, List.set_cons_zero, List.set_cons_succ]
            refine wpAny_take (i := 29) (oi := ({ dst := some 59, op := Go.Op.pick (Go.Operand.tmp 46) (Go.Operand.const (Go.Value.bool true)) (Go.Operand.tmp 58), type := 4, pos := "law.go:41", after := #[{ on := 16, ground := Go.Ground.data }, { on := 28, ground := Go.Ground.data }], guard := none } : Oper)) (v := ?_) rfl (by kernel_rfl) (by kernel_rfl) (by kernel_rfl) (fun _ _ _ h => h) (Or.inl ⟨by rfl, ?_⟩) ?_
            rotate_left
            · intro _; go_simp; (try with_reducible rfl)
            simp only [Act.put, List.setIfInBounds_toArray, List.set_cons_zero, List.set_cons_succ]
            refine wpAny_done (by kernel_rfl) ?_ _
            go_wp2
            go_roundw
            case rel => exact ⟨k + 1, X, Y + 1, by simp, by simp, by simp, by omega, by omega, by omega, HX3, HY3, Lib.hid (by first | exact (bA HB.out HB3.out).alloc (bA HB.out HB3.out).size _ | exact bA HB.out HB3.out | exact bB HB.out HB3.out)⟩
            case measure => (try simp [intOf]); (try omega)
          · skip
            go_simp
            refine hK _ _ ?_; clear hK K
            try simp only [Act.put, List.setIfInBounds_toArray, List.set_cons_zero, List.set_cons_succ]
            refine wpAny_ready (rs := [21, 26]) (by kernel_rfl) (by simp) ?_
            refine AllReady.cons (o := ({ dst := some 51, op := Go.Op.call { callee := Go.Callee.value (Go.Operand.func 14), args := #[Go.Operand.tmp 50], argTypes := #[9] }, type := 9, pos := "law.go:41", after := #[{ on := 20, ground := Go.Ground.data }, { on := 19, ground := Go.Ground.chain }, { on := 19, ground := Go.Ground.guard }], guard := some (19, true) } : Oper)) rfl (fun K hK => ?_) (AllReady.cons (o := ({ dst := some 56, op := Go.Op.convert 23 9 (Go.Operand.tmp 55), type := 9, pos := "law.go:41", after := #[{ on := 25, ground := Go.Ground.data }, { on := 19, ground := Go.Ground.guard }], guard := some (19, true) } : Oper)) rfl (fun K hK => ?_) AllReady.nil)
            · skip
              go_simp
              refine (HE9.out _).mono ?_
              rintro e w3 ⟨rfl, hb⟩
              have hcB := fun hlt => (hb.cell (p := ⟨wr.heap.size + 1, 0, none⟩) hlt)
              have HB3 := Lib.hid hb
              clear hb
              try dsimp only
              refine hK _ _ ?_; clear hK K
              try simp only [Act.put, List.setIfInBounds_toArray, List.set_cons_zero, List.set_cons_succ]
              refine wpAny_ready (rs := [26]) (by kernel_rfl) (by simp) ?_
              refine AllReady.cons (o := ({ dst := some 56, op := Go.Op.convert 23 9 (Go.Operand.tmp 55), type := 9, pos := "law.go:41", after := #[{ on := 25, ground := Go.Ground.data }, { on := 19, ground := Go.Ground.guard }], guard := some (19, true) } : Oper)) rfl (fun K hK => ?_) AllReady.nil
              go_simp
              refine hK _ _ ?_; clear hK K
              try simp only [Act.put, List.setIfInBounds_toArray, List.set_cons_zero, List.set_cons_succ]
              refine wpAny_take (i := 27) (oi := ({ dst := some 57, op := Go.Op.binOp Go.BinOp.neq 9 (Go.Operand.tmp 51) (Go.Operand.tmp 56) 9, type := 4, pos := "law.go:41", after := #[{ on := 21, ground := Go.Ground.data }, { on := 26, ground := Go.Ground.data }, { on := 19, ground := Go.Ground.guard }], guard := some (19, true) } : Oper)) (v := ?_) rfl (by kernel_rfl) (by kernel_rfl) (by kernel_rfl) (fun _ _ _ h => h) (Or.inl ⟨by rfl, ?_⟩) ?_
              rotate_left
              · intro _; go_simp; (try with_reducible rfl)
              simp only [Act.put, List.setIfInBounds_toArray, List.set_cons_zero, List.set_cons_succ]
              refine wpAny_take (i := 28) (oi := ({ dst := some 58, op := Go.Op.pick (Go.Operand.tmp 49) (Go.Operand.tmp 57) (Go.Operand.const (Go.Value.bool false)), type := 4, pos := "law.go:41", after := #[{ on := 19, ground := Go.Ground.data }, { on := 27, ground := Go.Ground.data }, { on := 16, ground := Go.Ground.guard }], guard := some (16, false) } : Oper)) (v := ?_) rfl (by kernel_rfl) (by kernel_rfl) (by kernel_rfl) (fun _ _ _ h => h) (Or.inl ⟨by rfl, ?_⟩) ?_
              rotate_left
              · intro _; go_simp; (try with_reducible rfl)
              simp only [Act.put, List.setIfInBounds_toArray, List.set_cons_zero, List.set_cons_succ]
              refine wpAny_take (i := 29) (oi := ({ dst := some 59, op := Go.Op.pick (Go.Operand.tmp 46) (Go.Operand.const (Go.Value.bool true)) (Go.Operand.tmp 58), type := 4, pos := "law.go:41", after := #[{ on := 16, ground := Go.Ground.data }, { on := 28, ground := Go.Ground.data }], guard := none } : Oper)) (v := ?_) rfl (by kernel_rfl) (by kernel_rfl) (by kernel_rfl) (fun _ _ _ h => h) (Or.inl ⟨by rfl, ?_⟩) ?_
              rotate_left
              · intro _; go_simp; (try with_reducible rfl)
              simp only [Act.put, List.setIfInBounds_toArray, List.set_cons_zero, List.set_cons_succ]
              refine wpAny_done (by kernel_rfl) ?_ _
              go_wp2
              go_roundw
              case rel => exact ⟨k + 1, X, Y + 1, by simp, by simp, by simp, by omega, by omega, by omega, HX3, HY3, Lib.hid (by first | exact (bA HB.out HB3.out).alloc (bA HB.out HB3.out).size _ | exact bA HB.out HB3.out | exact bB HB.out HB3.out)⟩
              case measure => (try simp [intOf]); (try omega)
            · skip
              go_simp
              refine hK _ _ ?_; clear hK K
              try simp only [Act.put, List.setIfInBounds_toArray, List.set_cons_zero, List.set_cons_succ]
              refine wpAny_ready (rs := [21]) (by kernel_rfl) (by simp) ?_
              refine AllReady.cons (o := ({ dst := some 51, op := Go.Op.call { callee := Go.Callee.value (Go.Operand.func 14), args := #[Go.Operand.tmp 50], argTypes := #[9] }, type := 9, pos := "law.go:41", after := #[{ on := 20, ground := Go.Ground.data }, { on := 19, ground := Go.Ground.chain }, { on := 19, ground := Go.Ground.guard }], guard := some (19, true) } : Oper)) rfl (fun K hK => ?_) AllReady.nil
              go_simp
              refine (HE9.out _).mono ?_
              rintro e w3 ⟨rfl, hb⟩
              have hcB := fun hlt => (hb.cell (p := ⟨wr.heap.size + 1, 0, none⟩) hlt)
              have HB3 := Lib.hid hb
              clear hb
              try dsimp only
              refine hK _ _ ?_; clear hK K
              try simp only [Act.put, List.setIfInBounds_toArray, List.set_cons_zero, List.set_cons_succ]
              refine wpAny_take (i := 27) (oi := ({ dst := some 57, op := Go.Op.binOp Go.BinOp.neq 9 (Go.Operand.tmp 51) (Go.Operand.tmp 56) 9, type := 4, pos := "law.go:41", after := #[{ on := 21, ground := Go.Ground.data }, { on := 26, ground := Go.Ground.data }, { on := 19, ground := Go.Ground.guard }], guard := some (19, true) } : Oper)) (v := ?_) rfl (by kernel_rfl) (by kernel_rfl) (by kernel_rfl) (fun _ _ _ h => h) (Or.inl ⟨by rfl, ?_⟩) ?_
              rotate_left
              · intro _; go_simp; (try with_reducible rfl)
              simp only [Act.put, List.setIfInBounds_toArray, List.set_cons_zero, List.set_cons_succ]
              refine wpAny_take (i := 28) (oi := ({ dst := some 58, op := Go.Op.pick (Go.Operand.tmp 49) (Go.Operand.tmp 57) (Go.Operand.const (Go.Value.bool false)), type := 4, pos := "law.go:41", after := #[{ on := 19, ground := Go.Ground.data }, { on := 27, ground := Go.Ground.data }, { on := 16, ground := Go.Ground.guard }], guard := some (16, false) } : Oper)) (v := ?_) rfl (by kernel_rfl) (by kernel_rfl) (by kernel_rfl) (fun _ _ _ h => h) (Or.inl ⟨by rfl, ?_⟩) ?_
              rotate_left
              · intro _; go_simp; (try with_reducible rfl)
              simp only [Act.put, List.setIfInBounds_toArray, List.set_cons_zero, List.set_cons_succ]
              refine wpAny_take (i := 29) (oi := ({ dst := some 59, op := Go.Op.pick (Go.Operand.tmp 46) (Go.Operand.const (Go.Value.bool true)) (Go.Operand.tmp 58), type := 4, pos := "law.go:41", after := #[{ on := 16, ground := Go.Ground.data }, { on := 28, ground := Go.Ground.data }], guard := none } : Oper)) (v := ?_) rfl (by kernel_rfl) (by kernel_rfl) (by kernel_rfl) (fun _ _ _ h => h) (Or.inl ⟨by rfl, ?_⟩) ?_
              rotate_left
              · intro _; go_simp; (try with_reducible rfl)
              simp only [Act.put, List.setIfInBounds_toArray, List.set_cons_zero, List.set_cons_succ]
              refine wpAny_done (by kernel_rfl) ?_ _
              go_wp2
              go_roundw
              case rel => exact ⟨k + 1, X, Y + 1, by simp, by simp, by simp, by omega, by omega, by omega, HX3, HY3, Lib.hid (by first | exact (bA HB.out HB3.out).alloc (bA HB.out HB3.out).size _ | exact bA HB.out HB3.out | exact bB HB.out HB3.out)⟩
              case measure => (try simp [intOf]); (try omega)
        · have HX3 : Hid (X + 1 = cnt nameB (k + 1)) := Lib.hid (by rw [HX2.out]; rfl)
          have hXle : X + 1 ≤ 256 := by have := HXle.out; omega
          clear HX2 HY2
          go_wp2_with fail
          refine (HN.out _).mono ?_
          rintro e w2 ⟨rfl, rfl⟩
          go_wp2_with fail
          refine (HK.out _).mono ?_
          rintro e w2 ⟨rfl, rfl⟩
          go_wp2_with fail
          refine wp_region_any (by kernel_rfl) ?_
          try (change wpAny _ _ _ _ _ _ _ (World.drew _))
          refine wpAny_take (i := 0) (oi := ({ dst := some 30, op := Go.Op.move (Go.Operand.tmp 4), type := 9, pos := "law.go:41", after := #[], guard := none } : Oper)) (v := ?_) rfl (by kernel_rfl) (by kernel_rfl) (by kernel_rfl) (fun _ _ _ h => h) (Or.inl ⟨by rfl, ?_⟩) ?_
          rotate_left
          · intro _; go_simp; (try with_reducible rfl)
          simp only [Act.put, List.setIfInBounds_toArray, List.set_cons_zero, List.set_cons_succ]
          refine wpAny_take (i := 2) (oi := ({ dst := some 32, op := Go.Op.move (Go.Operand.tmp 4), type := 9, pos := "law.go:41", after := #[], guard := none } : Oper)) (v := ?_) rfl (by kernel_rfl) (by kernel_rfl) (by kernel_rfl) (fun _ _ _ h => h) (Or.inl ⟨by rfl, ?_⟩) ?_
          rotate_left
          · intro _; go_simp; (try with_reducible rfl)
          simp only [Act.put, List.setIfInBounds_toArray, List.set_cons_zero, List.set_cons_succ]
          refine wpAny_ready (rs := [1]) (by kernel_rfl) (by simp) ?_
          refine AllReady.cons (o := ({ dst := some 31, op := Go.Op.call { callee := Go.Callee.value (Go.Operand.func 12), args := #[Go.Operand.tmp 30], argTypes := #[9] }, type := 4, pos := "law.go:41", after := #[{ on := 0, ground := Go.Ground.data }], guard := none } : Oper)) rfl (fun K hK => ?_) AllReady.nil
          go_simp
          refine (HK.out _).mono ?_
          rintro e w2 ⟨rfl, rfl⟩
          try dsimp only
          refine hK _ _ ?_; clear hK K
          try simp only [Act.put, List.setIfInBounds_toArray, List.set_cons_zero, List.set_cons_succ]
          refine wpAny_ready (rs := [3]) (by kernel_rfl) (by simp) ?_
          refine AllReady.cons (o := ({ dst := some 33, op := Go.Op.call { callee := Go.Callee.value (Go.Operand.func 13), args := #[Go.Operand.tmp 32], argTypes := #[9] }, type := 4, pos := "law.go:41", after := #[{ on := 2, ground := Go.Ground.data }, { on := 1, ground := Go.Ground.chain }], guard := none } : Oper)) rfl (fun K hK => ?_) AllReady.nil
          go_simp
          refine (HP.out _).mono ?_
          rintro e w2 ⟨rfl, rfl⟩
          try dsimp only
          refine hK _ _ ?_; clear hK K
          try simp only [Act.put, List.setIfInBounds_toArray, List.set_cons_zero, List.set_cons_succ]
          refine wpAny_take (i := 4) (oi := ({ dst := some 34, op := Go.Op.binOp Go.BinOp.neq 4 (Go.Operand.tmp 31) (Go.Operand.tmp 33) 4, type := 4, pos := "law.go:41", after := #[{ on := 1, ground := Go.Ground.data }, { on := 3, ground := Go.Ground.data }], guard := none } : Oper)) (v := ?_) rfl (by kernel_rfl) (by kernel_rfl) (by kernel_rfl) (fun _ _ _ h => h) (Or.inl ⟨by rfl, ?_⟩) ?_
          rotate_left
          · intro _; go_simp; (try with_reducible rfl)
          simp only [Act.put, List.setIfInBounds_toArray, List.set_cons_zero, List.set_cons_succ]
          refine wpAny_take (i := 5) (oi := ({ dst := some 35, op := Go.Op.move (Go.Operand.tmp 34), type := 4, pos := "law.go:41", after := #[{ on := 4, ground := Go.Ground.data }, { on := 3, ground := Go.Ground.chain }], guard := none } : Oper)) (v := ?_) rfl (by kernel_rfl) (by kernel_rfl) (by kernel_rfl) (fun _ _ _ h => h) (Or.inl ⟨by rfl, ?_⟩) ?_
          rotate_left
          · intro _; go_simp; (try with_reducible rfl)
          simp only [Act.put, List.setIfInBounds_toArray, List.set_cons_zero, List.set_cons_succ]
          refine wpAny_take (i := 6) (oi := ({ dst := some 36, op := Go.Op.move (Go.Operand.tmp 4), type := 9, pos := "law.go:41", after := #[{ on := 5, ground := Go.Ground.guard }], guard := some (5, false) } : Oper)) (v := ?_) rfl (by kernel_rfl) (by kernel_rfl) (by kernel_rfl) (fun _ _ _ h => h) (Or.inl ⟨by rfl, ?_⟩) ?_
          rotate_left
          · intro _; go_simp; (try with_reducible rfl)
          simp only [Act.put, List.setIfInBounds_toArray, List.set_cons_zero, List.set_cons_succ]
          refine wpAny_take (i := 8) (oi := ({ dst := some 38, op := Go.Op.move (Go.Operand.tmp 4), type := 9, pos := "law.go:41", after := #[{ on := 5, ground := Go.Ground.guard }], guard := some (5, false) } : Oper)) (v := ?_) rfl (by kernel_rfl) (by kernel_rfl) (by kernel_rfl) (fun _ _ _ h => h) (Or.inl ⟨by rfl, ?_⟩) ?_
          rotate_left
          · intro _; go_simp; (try with_reducible rfl)
          simp only [Act.put, List.setIfInBounds_toArray, List.set_cons_zero, List.set_cons_succ]
          refine wpAny_ready (rs := [7]) (by kernel_rfl) (by simp) ?_
          refine AllReady.cons (o := ({ dst := some 37, op := Go.Op.call { callee := Go.Callee.value (Go.Operand.func 11), args := #[Go.Operand.tmp 36], argTypes := #[9] }, type := 4, pos := "law.go:41", after := #[{ on := 6, ground := Go.Ground.data }, { on := 5, ground := Go.Ground.chain }, { on := 5, ground := Go.Ground.guard }], guard := some (5, false) } : Oper)) rfl (fun K hK => ?_) AllReady.nil
          go_simp
          refine (HN.out _).mono ?_
          rintro e w2 ⟨rfl, rfl⟩
          try dsimp only
          refine hK _ _ ?_; clear hK K
          try simp only [Act.put, List.setIfInBounds_toArray, List.set_cons_zero, List.set_cons_succ]
          refine wpAny_ready (rs := [9]) (by kernel_rfl) (by simp) ?_
          refine AllReady.cons (o := ({ dst := some 39, op := Go.Op.call { callee := Go.Callee.value (Go.Operand.func 12), args := #[Go.Operand.tmp 38], argTypes := #[9] }, type := 4, pos := "law.go:41", after := #[{ on := 8, ground := Go.Ground.data }, { on := 7, ground := Go.Ground.chain }, { on := 5, ground := Go.Ground.guard }], guard := some (5, false) } : Oper)) rfl (fun K hK => ?_) AllReady.nil
          go_simp
          refine (HK.out _).mono ?_
          rintro e w2 ⟨rfl, rfl⟩
          try dsimp only
          refine hK _ _ ?_; clear hK K
          try simp only [Act.put, List.setIfInBounds_toArray, List.set_cons_zero, List.set_cons_succ]
          refine wpAny_take (i := 10) (oi := ({ dst := some 40, op := Go.Op.move (Go.Operand.tmp 39), type := 4, pos := "law.go:41", after := #[{ on := 9, ground := Go.Ground.data }, { on := 9, ground := Go.Ground.chain }, { on := 5, ground := Go.Ground.guard }], guard := some (5, false) } : Oper)) (v := ?_) rfl (by kernel_rfl) (by kernel_rfl) (by kernel_rfl) (fun _ _ _ h => h) (Or.inl ⟨by rfl, ?_⟩) ?_
          rotate_left
          · intro _; go_simp; (try with_reducible rfl)
          simp only [Act.put, List.setIfInBounds_toArray, List.set_cons_zero, List.set_cons_succ]
          refine wpAny_take (i := 11) (oi := ({ dst := some 41, op := Go.Op.move (Go.Operand.tmp 3), type := 3, pos := "law.go:41", after := #[{ on := 10, ground := Go.Ground.guard }], guard := some (10, true) } : Oper)) (v := ?_) rfl (by kernel_rfl) (by kernel_rfl) (by kernel_rfl) (fun _ _ _ h => h) (Or.inl ⟨by rfl, ?_⟩) ?_
          rotate_left
          · intro _; go_simp; (try with_reducible rfl)
          simp only [Act.put, List.setIfInBounds_toArray, List.set_cons_zero, List.set_cons_succ]
          refine wpAny_take (i := 12) (oi := ({ dst := some 42, op := Go.Op.binOp Go.BinOp.neq 3 (Go.Operand.tmp 41) (Go.Operand.const (Go.Value.int Go.IntKind.i64 47)) 3, type := 4, pos := "law.go:41", after := #[{ on := 11, ground := Go.Ground.data }, { on := 10, ground := Go.Ground.guard }], guard := some (10, true) } : Oper)) (v := ?_) rfl (by kernel_rfl) (by kernel_rfl) (by kernel_rfl) (fun _ _ _ h => h) (Or.inl ⟨by rfl, ?_⟩) ?_
          rotate_left
          · intro _; go_simp; (try with_reducible rfl)
          simp only [Act.put, List.setIfInBounds_toArray, List.set_cons_zero, List.set_cons_succ]
          refine wpAny_take (i := 13) (oi := ({ dst := some 43, op := Go.Op.pick (Go.Operand.tmp 40) (Go.Operand.tmp 42) (Go.Operand.const (Go.Value.bool false)), type := 4, pos := "law.go:41", after := #[{ on := 10, ground := Go.Ground.data }, { on := 12, ground := Go.Ground.data }, { on := 5, ground := Go.Ground.guard }], guard := some (5, false) } : Oper)) (v := ?_) rfl (by kernel_rfl) (by kernel_rfl) (by kernel_rfl) (fun _ _ _ h => h) (Or.inl ⟨by rfl, ?_⟩) ?_
          rotate_left
          · intro _; go_simp; (try with_reducible rfl)
          simp only [Act.put, List.setIfInBounds_toArray, List.set_cons_zero, List.set_cons_succ]
          refine wpAny_take (i := 14) (oi := ({ dst := some 44, op := Go.Op.binOp Go.BinOp.neq 4 (Go.Operand.tmp 37) (Go.Operand.tmp 43) 4, type := 4, pos := "law.go:41", after := #[{ on := 7, ground := Go.Ground.data }, { on := 13, ground := Go.Ground.data }, { on := 5, ground := Go.Ground.guard }], guard := some (5, false) } : Oper)) (v := ?_) rfl (by kernel_rfl) (by kernel_rfl) (by kernel_rfl) (fun _ _ _ h => h) (Or.inl ⟨by rfl, ?_⟩) ?_
          rotate_left
          · intro _; go_simp; (try with_reducible rfl)
          simp only [Act.put, List.setIfInBounds_toArray, List.set_cons_zero, List.set_cons_succ]
          refine wpAny_take (i := 15) (oi := ({ dst := some 45, op := Go.Op.pick (Go.Operand.tmp 35) (Go.Operand.const (Go.Value.bool true)) (Go.Operand.tmp 44), type := 4, pos := "law.go:41", after := #[{ on := 5, ground := Go.Ground.data }, { on := 14, ground := Go.Ground.data }], guard := none } : Oper)) (v := ?_) rfl (by kernel_rfl) (by kernel_rfl) (by kernel_rfl) (fun _ _ _ h => h) (Or.inl ⟨by rfl, ?_⟩) ?_
          rotate_left
          · intro _; go_simp; (try with_reducible rfl)
          simp only [Act.put, List.setIfInBounds_toArray, List.set_cons_zero, List.set_cons_succ]
          refine wpAny_take (i := 16) (oi := ({ dst := some 46, op := Go.Op.move (Go.Operand.tmp 45), type := 4, pos := "law.go:41", after := #[{ on := 15, ground := Go.Ground.data }, { on := 10, ground := Go.Ground.chain }], guard := none } : Oper)) (v := ?_) rfl (by kernel_rfl) (by kernel_rfl) (by kernel_rfl) (fun _ _ _ h => h) (Or.inl ⟨by rfl, ?_⟩) ?_
          rotate_left
          · intro _; go_simp; (try with_reducible rfl)
          simp only [Act.put, List.setIfInBounds_toArray, List.set_cons_zero, List.set_cons_succ]
          refine wpAny_take (i := 17) (oi := ({ dst := some 47, op := Go.Op.move (Go.Operand.tmp 4), type := 9, pos := "law.go:41", after := #[{ on := 16, ground := Go.Ground.guard }], guard := some (16, false) } : Oper)) (v := ?_) rfl (by kernel_rfl) (by kernel_rfl) (by kernel_rfl) (fun _ _ _ h => h) (Or.inl ⟨by rfl, ?_⟩) ?_
          rotate_left
          · intro _; go_simp; (try with_reducible rfl)
          simp only [Act.put, List.setIfInBounds_toArray, List.set_cons_zero, List.set_cons_succ]
          refine wpAny_ready (rs := [18]) (by kernel_rfl) (by simp) ?_
          refine AllReady.cons (o := ({ dst := some 48, op := Go.Op.call { callee := Go.Callee.value (Go.Operand.func 12), args := #[Go.Operand.tmp 47], argTypes := #[9] }, type := 4, pos := "law.go:41", after := #[{ on := 17, ground := Go.Ground.data }, { on := 16, ground := Go.Ground.chain }, { on := 16, ground := Go.Ground.guard }], guard := some (16, false) } : Oper)) rfl (fun K hK => ?_) AllReady.nil
          go_simp
          refine (HK.out _).mono ?_
          rintro e w2 ⟨rfl, rfl⟩
          try dsimp only
          refine hK _ _ ?_; clear hK K
          try simp only [Act.put, List.setIfInBounds_toArray, List.set_cons_zero, List.set_cons_succ]
          refine wpAny_take (i := 19) (oi := ({ dst := some 49, op := Go.Op.move (Go.Operand.tmp 48), type := 4, pos := "law.go:41", after := #[{ on := 18, ground := Go.Ground.data }, { on := 18, ground := Go.Ground.chain }, { on := 16, ground := Go.Ground.guard }], guard := some (16, false) } : Oper)) (v := ?_) rfl (by kernel_rfl) (by kernel_rfl) (by kernel_rfl) (fun _ _ _ h => h) (Or.inl ⟨by rfl, ?_⟩) ?_
          rotate_left
          · intro _; go_simp; (try with_reducible rfl)
          simp only [Act.put, List.setIfInBounds_toArray, List.set_cons_zero, List.set_cons_succ]
          refine wpAny_take (i := 20) (oi := ({ dst := some 50, op := Go.Op.move (Go.Operand.tmp 4), type := 9, pos := "law.go:41", after := #[{ on := 19, ground := Go.Ground.guard }], guard := some (19, true) } : Oper)) (v := ?_) rfl (by kernel_rfl) (by kernel_rfl) (by kernel_rfl) (fun _ _ _ h => h) (Or.inl ⟨by rfl, ?_⟩) ?_
          rotate_left
          · intro _; go_simp; (try with_reducible rfl)
          simp only [Act.put, List.setIfInBounds_toArray, List.set_cons_zero, List.set_cons_succ]
          refine wpAny_take (i := 22) (oi := ({ dst := some 52, op := Go.Op.move (Go.Operand.tmp 3), type := 3, pos := "law.go:41", after := #[{ on := 19, ground := Go.Ground.guard }], guard := some (19, true) } : Oper)) (v := ?_) rfl (by kernel_rfl) (by kernel_rfl) (by kernel_rfl) (fun _ _ _ h => h) (Or.inl ⟨by rfl, ?_⟩) ?_
          rotate_left
          · intro _; go_simp; (try with_reducible rfl)
          simp only [Act.put, List.setIfInBounds_toArray, List.set_cons_zero, List.set_cons_succ]
          refine wpAny_take (i := 23) (oi := ({ dst := some 53, op := Go.Op.binOp Go.BinOp.add 3 (Go.Operand.tmp 52) (Go.Operand.const (Go.Value.int Go.IntKind.i64 1)) 3, type := 3, pos := "law.go:41", after := #[{ on := 22, ground := Go.Ground.data }, { on := 19, ground := Go.Ground.guard }], guard := some (19, true) } : Oper)) (v := ?_) rfl (by kernel_rfl) (by kernel_rfl) (by kernel_rfl) (fun _ _ _ h => h) (Or.inl ⟨by rfl, ?_⟩) ?_
          rotate_left
          · intro _; go_simp; (try with_reducible rfl)
          simp only [Act.put, List.setIfInBounds_toArray, List.set_cons_zero, List.set_cons_succ]
          refine wpAny_take (i := 24) (oi := ({ dst := some 54, op := Go.Op.convert 3 5 (Go.Operand.tmp 53), type := 5, pos := "law.go:41", after := #[{ on := 23, ground := Go.Ground.data }, { on := 19, ground := Go.Ground.guard }], guard := some (19, true) } : Oper)) (v := ?_) rfl (by kernel_rfl) (by kernel_rfl) (by kernel_rfl) (fun _ _ _ h => h) (Or.inl ⟨by rfl, ?_⟩) ?_
          rotate_left
          · intro _; go_simp; (try with_reducible rfl)
          simp only [Act.put, List.setIfInBounds_toArray, List.set_cons_zero, List.set_cons_succ]
          refine wpAny_ready (rs := [21, 25]) (by kernel_rfl) (by simp) ?_
          refine AllReady.cons (o := ({ dst := some 51, op := Go.Op.call { callee := Go.Callee.value (Go.Operand.func 14), args := #[Go.Operand.tmp 50], argTypes := #[9] }, type := 9, pos := "law.go:41", after := #[{ on := 20, ground := Go.Ground.data }, { on := 19, ground := Go.Ground.chain }, { on := 19, ground := Go.Ground.guard }], guard := some (19, true) } : Oper)) rfl (fun K hK => ?_) (AllReady.cons (o := ({ dst := some 55, op := Go.Op.buildSlice 23 1 #[(0, Go.Operand.tmp 54)], type := 23, pos := "law.go:41", after := #[{ on := 24, ground := Go.Ground.data }, { on := 19, ground := Go.Ground.guard }], guard := some (19, true) } : Oper)) rfl (fun K hK => ?_) AllReady.nil)
          · skip
            go_simp
            refine (HE9.out _).mono ?_
            rintro e w3 ⟨rfl, hb⟩
            have hcB := fun hlt => (hb.cell (p := ⟨wr.heap.size + 1, 0, none⟩) hlt)
            have HB3 := Lib.hid hb
            clear hb
            try dsimp only
            refine hK _ _ ?_; clear hK K
            try simp only [Act.put, List.setIfInBounds_toArray, List.set_cons_zero, List.set_cons_succ]
            refine wpAny_ready (rs := [25]) (by kernel_rfl) (by simp) ?_
            refine AllReady.cons (o := ({ dst := some 55, op := Go.Op.buildSlice 23 1 #[(0, Go.Operand.tmp 54)], type := 23, pos := "law.go:41", after := #[{ on := 24, ground := Go.Ground.data }, { on := 19, ground := Go.Ground.guard }], guard := some (19, true) } : Oper)) rfl (fun K hK => ?_) AllReady.nil
            go_simp
            refine hK _ _ ?_; clear hK K
            try simp only [Act.put, List.setIfInBounds_toArray, List.set_cons_zero, List.set_cons_succ]
            refine wpAny_ready (rs := [26]) (by kernel_rfl) (by simp) ?_
            refine AllReady.cons (o := ({ dst := some 56, op := Go.Op.convert 23 9 (Go.Operand.tmp 55), type := 9, pos := "law.go:41", after := #[{ on := 25, ground := Go.Ground.data }, { on := 19, ground := Go.Ground.guard }], guard := some (19, true) } : Oper)) rfl (fun K hK => ?_) AllReady.nil
            go_simp
            refine hK _ _ ?_; clear hK K
            try simp only [Act.put, List.setIfInBounds_toArray, List.set_cons_zero, List.set_cons_succ]
            refine wpAny_take (i := 27) (oi := ({ dst := some 57, op := Go.Op.binOp Go.BinOp.neq 9 (Go.Operand.tmp 51) (Go.Operand.tmp 56) 9, type := 4, pos := "law.go:41", after := #[{ on := 21, ground := Go.Ground.data }, { on := 26, ground := Go.Ground.data }, { on := 19, ground := Go.Ground.guard }], guard := some (19, true) } : Oper)) (v := ?_) rfl (by kernel_rfl) (by kernel_rfl) (by kernel_rfl) (fun _ _ _ h => h) (Or.inl ⟨by rfl, ?_⟩) ?_
            rotate_left
            · intro _; go_simp; (try with_reducible rfl)
            simp only [Act.put, List.setIfInBounds_toArray, List.set_cons_zero, List.set_cons_succ]
            refine wpAny_take (i := 28) (oi := ({ dst := some 58, op := Go.Op.pick (Go.Operand.tmp 49) (Go.Operand.tmp 57) (Go.Operand.const (Go.Value.bool false)), type := 4, pos := "law.go:41", after := #[{ on := 19, ground := Go.Ground.data }, { on := 27, ground := Go.Ground.data }, { on := 16, ground := Go.Ground.guard }], guard := some (16, false) } : Oper)) (v := ?_) rfl (by kernel_rfl) (by kernel_rfl) (by kernel_rfl) (fun _ _ _ h => h) (Or.inl ⟨by rfl, ?_⟩) ?_
            rotate_left
            · intro _; go_simp; (try with_reducible rfl)
            simp only [Act.put, List.setIfInBounds_toArray, List.set_cons_zero, List.set_cons_succ]
            refine wpAny_take (i := 29) (oi := ({ dst := some 59, op := Go.Op.pick (Go.Operand.tmp 46) (Go.Operand.const (Go.Value.bool true)) (Go.Operand.tmp 58), type := 4, pos := "law.go:41", after := #[{ on := 16, ground := Go.Ground.data }, { on := 28, ground := Go.Ground.data }], guard := none } : Oper)) (v := ?_) rfl (by kernel_rfl) (by kernel_rfl) (by kernel_rfl) (fun _ _ _ h => h) (Or.inl ⟨by rfl, ?_⟩) ?_
            rotate_left
            · intro _; go_simp; (try with_reducible rfl)
            simp only [Act.put, List.setIfInBounds_toArray, List.set_cons_zero, List.set_cons_succ]
            refine wpAny_done (by kernel_rfl) ?_ _
            go_wp2
            go_roundw
            case rel => exact ⟨k + 1, X + 1, Y + 1, by simp, by simp, by simp, by omega, by omega, by omega, HX3, HY3, Lib.hid (by first | exact (bA HB.out HB3.out).alloc (bA HB.out HB3.out).size _ | exact bA HB.out HB3.out | exact bB HB.out HB3.out)⟩
            case measure => (try simp [intOf]); (try omega)
          · skip
            go_simp
            refine hK _ _ ?_; clear hK K
            try simp only [Act.put, List.setIfInBounds_toArray, List.set_cons_zero, List.set_cons_succ]
            refine wpAny_ready (rs := [21, 26]) (by kernel_rfl) (by simp) ?_
            refine AllReady.cons (o := ({ dst := some 51, op := Go.Op.call { callee := Go.Callee.value (Go.Operand.func 14), args := #[Go.Operand.tmp 50], argTypes := #[9] }, type := 9, pos := "law.go:41", after := #[{ on := 20, ground := Go.Ground.data }, { on := 19, ground := Go.Ground.chain }, { on := 19, ground := Go.Ground.guard }], guard := some (19, true) } : Oper)) rfl (fun K hK => ?_) (AllReady.cons (o := ({ dst := some 56, op := Go.Op.convert 23 9 (Go.Operand.tmp 55), type := 9, pos := "law.go:41", after := #[{ on := 25, ground := Go.Ground.data }, { on := 19, ground := Go.Ground.guard }], guard := some (19, true) } : Oper)) rfl (fun K hK => ?_) AllReady.nil)
            · skip
              go_simp
              refine (HE9.out _).mono ?_
              rintro e w3 ⟨rfl, hb⟩
              have hcB := fun hlt => (hb.cell (p := ⟨wr.heap.size + 1, 0, none⟩) hlt)
              have HB3 := Lib.hid hb
              clear hb
              try dsimp only
              refine hK _ _ ?_; clear hK K
              try simp only [Act.put, List.setIfInBounds_toArray, List.set_cons_zero, List.set_cons_succ]
              refine wpAny_ready (rs := [26]) (by kernel_rfl) (by simp) ?_
              refine AllReady.cons (o := ({ dst := some 56, op := Go.Op.convert 23 9 (Go.Operand.tmp 55), type := 9, pos := "law.go:41", after := #[{ on := 25, ground := Go.Ground.data }, { on := 19, ground := Go.Ground.guard }], guard := some (19, true) } : Oper)) rfl (fun K hK => ?_) AllReady.nil
              go_simp
              refine hK _ _ ?_; clear hK K
              try simp only [Act.put, List.setIfInBounds_toArray, List.set_cons_zero, List.set_cons_succ]
              refine wpAny_take (i := 27) (oi := ({ dst := some 57, op := Go.Op.binOp Go.BinOp.neq 9 (Go.Operand.tmp 51) (Go.Operand.tmp 56) 9, type := 4, pos := "law.go:41", after := #[{ on := 21, ground := Go.Ground.data }, { on := 26, ground := Go.Ground.data }, { on := 19, ground := Go.Ground.guard }], guard := some (19, true) } : Oper)) (v := ?_) rfl (by kernel_rfl) (by kernel_rfl) (by kernel_rfl) (fun _ _ _ h => h) (Or.inl ⟨by rfl, ?_⟩) ?_
              rotate_left
              · intro _; go_simp; (try with_reducible rfl)
              simp only [Act.put, List.setIfInBounds_toArray, List.set_cons_zero, List.set_cons_succ]
              refine wpAny_take (i := 28) (oi := ({ dst := some 58, op := Go.Op.pick (Go.Operand.tmp 49) (Go.Operand.tmp 57) (Go.Operand.const (Go.Value.bool false)), type := 4, pos := "law.go:41", after := #[{ on := 19, ground := Go.Ground.data }, { on := 27, ground := Go.Ground.data }, { on := 16, ground := Go.Ground.guard }], guard := some (16, false) } : Oper)) (v := ?_) rfl (by kernel_rfl) (by kernel_rfl) (by kernel_rfl) (fun _ _ _ h => h) (Or.inl ⟨by rfl, ?_⟩) ?_
              rotate_left
              · intro _; go_simp; (try with_reducible rfl)
              simp only [Act.put, List.setIfInBounds_toArray, List.set_cons_zero, List.set_cons_succ]
              refine wpAny_take (i := 29) (oi := ({ dst := some 59, op := Go.Op.pick (Go.Operand.tmp 46) (Go.Operand.const (Go.Value.bool true)) (Go.Operand.tmp 58), type := 4, pos := "law.go:41", after := #[{ on := 16, ground := Go.Ground.data }, { on := 28, ground := Go.Ground.data }], guard := none } : Oper)) (v := ?_) rfl (by kernel_rfl) (by kernel_rfl) (by kernel_rfl) (fun _ _ _ h => h) (Or.inl ⟨by rfl, ?_⟩) ?_
              rotate_left
              · intro _; go_simp; (try with_reducible rfl)
              simp only [Act.put, List.setIfInBounds_toArray, List.set_cons_zero, List.set_cons_succ]
              refine wpAny_done (by kernel_rfl) ?_ _
              go_wp2
              go_roundw
              case rel => exact ⟨k + 1, X + 1, Y + 1, by simp, by simp, by simp, by omega, by omega, by omega, HX3, HY3, Lib.hid (by first | exact (bA HB.out HB3.out).alloc (bA HB.out HB3.out).size _ | exact bA HB.out HB3.out | exact bB HB.out HB3.out)⟩
              case measure => (try simp [intOf]); (try omega)
            · skip
              go_simp
              refine hK _ _ ?_; clear hK K
              try simp only [Act.put, List.setIfInBounds_toArray, List.set_cons_zero, List.set_cons_succ]
              refine wpAny_ready (rs := [21]) (by kernel_rfl) (by simp) ?_
              refine AllReady.cons (o := ({ dst := some 51, op := Go.Op.call { callee := Go.Callee.value (Go.Operand.func 14), args := #[Go.Operand.tmp 50], argTypes := #[9] }, type := 9, pos := "law.go:41", after := #[{ on := 20, ground := Go.Ground.data }, { on := 19, ground := Go.Ground.chain }, { on := 19, ground := Go.Ground.guard }], guard := some (19, true) } : Oper)) rfl (fun K hK => ?_) AllReady.nil
              go_simp
              refine (HE9.out _).mono ?_
              rintro e w3 ⟨rfl, hb⟩
              have hcB := fun hlt => (hb.cell (p := ⟨wr.heap.size + 1, 0, none⟩) hlt)
              have HB3 := Lib.hid hb
              clear hb
              try dsimp only
              refine hK _ _ ?_; clear hK K
              try simp only [Act.put, List.setIfInBounds_toArray, List.set_cons_zero, List.set_cons_succ]
              refine wpAny_take (i := 27) (oi := ({ dst := some 57, op := Go.Op.binOp Go.BinOp.neq 9 (Go.Operand.tmp 51) (Go.Operand.tmp 56) 9, type := 4, pos := "law.go:41", after := #[{ on := 21, ground := Go.Ground.data }, { on := 26, ground := Go.Ground.data }, { on := 19, ground := Go.Ground.guard }], guard := some (19, true) } : Oper)) (v := ?_) rfl (by kernel_rfl) (by kernel_rfl) (by kernel_rfl) (fun _ _ _ h => h) (Or.inl ⟨by rfl, ?_⟩) ?_
              rotate_left
              · intro _; go_simp; (try with_reducible rfl)
              simp only [Act.put, List.setIfInBounds_toArray, List.set_cons_zero, List.set_cons_succ]
              refine wpAny_take (i := 28) (oi := ({ dst := some 58, op := Go.Op.pick (Go.Operand.tmp 49) (Go.Operand.tmp 57) (Go.Operand.const (Go.Value.bool false)), type := 4, pos := "law.go:41", after := #[{ on := 19, ground := Go.Ground.data }, { on := 27, ground := Go.Ground.data }, { on := 16, ground := Go.Ground.guard }], guard := some (16, false) } : Oper)) (v := ?_) rfl (by kernel_rfl) (by kernel_rfl) (by kernel_rfl) (fun _ _ _ h => h) (Or.inl ⟨by rfl, ?_⟩) ?_
              rotate_left
              · intro _; go_simp; (try with_reducible rfl)
              simp only [Act.put, List.setIfInBounds_toArray, List.set_cons_zero, List.set_cons_succ]
              refine wpAny_take (i := 29) (oi := ({ dst := some 59, op := Go.Op.pick (Go.Operand.tmp 46) (Go.Operand.const (Go.Value.bool true)) (Go.Operand.tmp 58), type := 4, pos := "law.go:41", after := #[{ on := 16, ground := Go.Ground.data }, { on := 28, ground := Go.Ground.data }], guard := none } : Oper)) (v := ?_) rfl (by kernel_rfl) (by kernel_rfl) (by kernel_rfl) (fun _ _ _ h => h) (Or.inl ⟨by rfl, ?_⟩) ?_
              rotate_left
              · intro _; go_simp; (try with_reducible rfl)
              simp only [Act.put, List.setIfInBounds_toArray, List.set_cons_zero, List.set_cons_succ]
              refine wpAny_done (by kernel_rfl) ?_ _
              go_wp2
              go_roundw
              case rel => exact ⟨k + 1, X + 1, Y + 1, by simp, by simp, by simp, by omega, by omega, by omega, HX3, HY3, Lib.hid (by first | exact (bA HB.out HB3.out).alloc (bA HB.out HB3.out).size _ | exact bA HB.out HB3.out | exact bB HB.out HB3.out)⟩
              case measure => (try simp [intOf]); (try omega)
    · have hk256 : k = 256 := by omega
      have eX : ((X : Int) != 65) = false := by
        have : X = 65 := by rw [HX.out, hk256]; exact cnt_n
        rw [this]; rfl
      have eY : ((Y : Int) != 66) = false := by
        have : Y = 66 := by rw [HY.out, hk256]; exact cnt_k
        rw [this]; rfl
      have HC := cluster_at [49, 50, 51, 52, 53, 54, 55, 56, 57, 48, 49, 50, 51, 52, 53, 54, 55, 56, 57, 48, 49, 50, 51, 52] [49, 50, 51, 52, 53, 54, 55, 56, 57, 48, 49, 50, 51, 52, 53, 54, 55, 56, 57, 48, 49, 50, 51, 52] [99, 47, 49, 50, 51, 52, 53, 54, 55, 56, 57, 48, 49, 50, 51, 52, 53, 54, 55, 56, 57, 48, 49, 50, 51, 52, 47, 49, 50, 51, 52, 53, 54, 55, 56, 57, 48, 49, 50, 51, 52, 53, 54, 55, 56, 57, 48, 49, 50, 51, 52] (by decide +kernel)
      simp only [bs] at HC
      have HC := Lib.hid HC
      have h51 : (({ data := #[99, 47, 49, 50, 51, 52, 53, 54, 55, 56, 57, 48, 49, 50, 51, 52, 53, 54, 55, 56, 57, 48, 49, 50, 51, 52, 47, 49, 50, 51, 52, 53, 54, 55, 56, 57, 48, 49, 50, 51, 52, 53, 54, 55, 56, 57, 48, 49, 50, 51, 52] } : ByteArray).size : Int) = 51 := rfl
      clear hk256
      go_wp2_with fail
      refine (HC.out _).mono ?_
      rintro e w2 ⟨rfl, rfl⟩
      go_wp2_with fail
      refine (name_v _ [49, 50, 51, 52, 53, 54, 55, 56, 57, 48, 49, 50, 51, 52, 53, 54, 55, 56, 57, 48, 49, 50, 51, 52] (by first | rfl | decide +kernel | simp) true (by decide +kernel) _).mono ?_
      rintro e w2 ⟨rfl, rfl⟩
      go_wp2_with fail
      refine (name_v _ [49, 50, 51, 52, 53, 54, 55, 56, 57, 48, 49, 50, 51, 52, 53, 54, 55, 56, 57, 48, 49, 50, 51, 52, 53] (by first | rfl | decide +kernel | simp) false (by decide +kernel) _).mono ?_
      rintro e w2 ⟨rfl, rfl⟩
      go_wp2_with fail
      refine (key_v _ [99, 47, 49, 50, 51, 52, 53, 54, 55, 56, 57, 48, 49, 50, 51, 52, 53, 54, 55, 56, 57, 48, 49, 50, 51, 52, 47, 49, 50, 51, 52, 53, 54, 55, 56, 57, 48, 49, 50, 51, 52, 53, 54, 55, 56, 57, 48, 49, 50, 51, 52] (by first | rfl | decide +kernel | simp) true (by decide +kernel) _).mono ?_
      rintro e w2 ⟨rfl, rfl⟩
      go_wp2_with fail
      refine (key_v _ [99, 47, 49, 50, 51, 52, 53, 54, 55, 56, 57, 48, 49, 50, 51, 52, 53, 54, 55, 56, 57, 48, 49, 50, 51, 52, 47, 49, 50, 51, 52, 53, 54, 55, 56, 57, 48, 49, 50, 51, 52, 53, 54, 55, 56, 57, 48, 49, 50, 51, 52, 47, 49, 50, 51, 52, 53, 54, 55, 56, 57, 48, 49, 50] (by first | rfl | decide +kernel | simp) true (by decide +kernel) _).mono ?_
      rintro e w2 ⟨rfl, rfl⟩
      go_wp2_with fail
      refine (key_v _ [99, 47, 49, 50, 51, 52, 53, 54, 55, 56, 57, 48, 49, 50, 51, 52, 53, 54, 55, 56, 57, 48, 49, 50, 51, 52, 47, 49, 50, 51, 52, 53, 54, 55, 56, 57, 48, 49, 50, 51, 52, 53, 54, 55, 56, 57, 48, 49, 50, 51, 52, 47, 49, 50, 51, 52, 53, 54, 55, 56, 57, 48, 49, 50, 51] (by first | rfl | decide +kernel | simp) false (by decide +kernel) _).mono ?_
      rintro e w2 ⟨rfl, rfl⟩
      go_wp2_with fail
      refine (end_v _ [99, 47, 49, 50, 51, 52, 53, 54, 55, 56, 57, 48, 49, 50, 51, 52, 53, 54, 55, 56, 57, 48, 49, 50, 51, 52, 47, 49, 50, 51, 52, 53, 54, 55, 56, 57, 48, 49, 50, 51, 52, 53, 54, 55, 56, 57, 48, 49, 50, 51, 52, 47, 49, 50, 51, 52, 53, 54, 55, 56, 57, 48, 49, 50, 51] [] (by first | rfl | decide +kernel | simp) (by decide +kernel) _).mono ?_
      rintro e wE ⟨rfl, hb⟩
      have HBE := Lib.hid (below_trans' HB.out hb)
      clear hb
      try simp only [bs]
      go_wp2
      go_loopw [123] (fun i wq => ∃ j : Nat, i = .int .i64 j ∧ j ≤ 18 ∧ Hid (TC wE.heap.size wq) ∧ Hid (wE.heap.size < wq.heap.size) ∧ Hid (Below w.heap.size w wq)) (fun i _ => 18 - (intOf i).toNat)
      case atStart =>
        refine ⟨0, rfl, by omega, Lib.hid ?_, Lib.hid (by simp), Lib.hid (HBE.out.alloc HBE.out.size _)⟩
        intro j hj
        match j, hj with
        | 0, _ => exact ⟨_, World.cell?_alloc_mark _ _ _ _ 0, rd_at _ [] (by first | rfl | decide +kernel | simp) (by decide +kernel) (by decide)⟩
        | 1, _ => exact ⟨_, World.cell?_alloc_mark _ _ _ _ 1, rd_at _ [99] (by first | rfl | decide +kernel | simp) (by decide +kernel) (by decide)⟩
        | 2, _ => exact ⟨_, World.cell?_alloc_mark _ _ _ _ 2, rd_at _ [116] (by first | rfl | decide +kernel | simp) (by decide +kernel) (by decide)⟩
        | 3, _ => exact ⟨_, World.cell?_alloc_mark _ _ _ _ 3, rd_at _ [99, 47] (by first | rfl | decide +kernel | simp) (by decide +kernel) (by decide)⟩
        | 4, _ => exact ⟨_, World.cell?_alloc_mark _ _ _ _ 4, rd_at _ [116, 47] (by first | rfl | decide +kernel | simp) (by decide +kernel) (by decide)⟩
        | 5, _ => exact ⟨_, World.cell?_alloc_mark _ _ _ _ 5, rd_at _ [99, 47, 47] (by first | rfl | decide +kernel | simp) (by decide +kernel) (by decide)⟩
        | 6, _ => exact ⟨_, World.cell?_alloc_mark _ _ _ _ 6, rd_at _ [99, 47, 47, 97] (by first | rfl | decide +kernel | simp) (by decide +kernel) (by decide)⟩
        | 7, _ => exact ⟨_, World.cell?_alloc_mark _ _ _ _ 7, rd_at _ [99, 47, 97, 47] (by first | rfl | decide +kernel | simp) (by decide +kernel) (by decide)⟩
        | 8, _ => exact ⟨_, World.cell?_alloc_mark _ _ _ _ 8, rd_at _ [99, 47, 97] (by first | rfl | decide +kernel | simp) (by decide +kernel) (by decide)⟩
        | 9, _ => exact ⟨_, World.cell?_alloc_mark _ _ _ _ 9, rd_at _ [116, 47, 97, 47, 98] (by first | rfl | decide +kernel | simp) (by decide +kernel) (by decide)⟩
        | 10, _ => exact ⟨_, World.cell?_alloc_mark _ _ _ _ 10, rd_at _ [120, 47, 97, 47, 98] (by first | rfl | decide +kernel | simp) (by decide +kernel) (by decide)⟩
        | 11, _ => exact ⟨_, World.cell?_alloc_mark _ _ _ _ 11, rd_at _ [99, 47, 97, 47, 98, 47, 99] (by first | rfl | decide +kernel | simp) (by decide +kernel) (by decide)⟩
        | 12, _ => exact ⟨_, World.cell?_alloc_mark _ _ _ _ 12, rd_at _ [67, 47, 97, 47, 98] (by first | rfl | decide +kernel | simp) (by decide +kernel) (by decide)⟩
        | 13, _ => exact ⟨_, World.cell?_alloc_mark _ _ _ _ 13, rd_at _ [116, 47, 49, 50, 51, 52, 53, 54, 55, 56, 57, 48, 49, 50, 51, 52, 53, 54, 55, 56, 57, 48, 49, 50, 51, 52, 53] (by first | rfl | decide +kernel | simp) (by decide +kernel) (by decide)⟩
        | 14, _ => exact ⟨_, World.cell?_alloc_mark _ _ _ _ 14, rd_at _ [99, 47, 97, 47, 49, 50, 51, 52, 53, 54, 55, 56, 57, 48, 49, 50, 51, 52, 53, 54, 55, 56, 57, 48, 49, 50, 51, 52, 53] (by first | rfl | decide +kernel | simp) (by decide +kernel) (by decide)⟩
        | 15, _ => exact ⟨_, World.cell?_alloc_mark _ _ _ _ 15, rd_at _ [32, 116, 47, 97] (by first | rfl | decide +kernel | simp) (by decide +kernel) (by decide)⟩
        | 16, _ => exact ⟨_, World.cell?_alloc_mark _ _ _ _ 16, rd_at _ [116, 47, 97, 32] (by first | rfl | decide +kernel | simp) (by decide +kernel) (by decide)⟩
        | 17, _ => exact ⟨_, World.cell?_alloc_mark _ _ _ _ 17, rd_at _ [99, 47, 97, 32, 98, 47, 99] (by first | rfl | decide +kernel | simp) (by decide +kernel) (by decide)⟩
        | n + 18, h => exact absurd h (by omega)
      case round =>
        obtain ⟨j, rfl, hj, HT, HS, HQ⟩ := hrel
        by_cases hjl : j < 18
        · obtain ⟨s, hc, hrd, hsz⟩ := HT.out j hjl
          have HR := read_any s (by omega)
          rw [hrd] at HR
          simp only [bs] at HR
          have HR := Lib.hid HR
          clear hrd
          go_wp2_with fail
          refine (HR.out _).mono ?_
          rintro e w4 ⟨rfl, hb⟩
          have HB4 := Lib.hid hb
          clear hb hc
          go_wp2
          go_roundw
          case rel => exact ⟨j + 1, by simp, by omega, Lib.hid (HT.out.below HS.out HB4.out), Lib.hid (Nat.lt_of_lt_of_le HS.out HB4.out.size), Lib.hid (below_trans' HQ.out HB4.out)⟩
          case measure => (try simp [intOf]); (try omega)
        · have D1 := Lib.hid (cluster_at [] [97] [] (by decide +kernel))
          have D2 := Lib.hid (cluster_at [97] [] [] (by decide +kernel))
          have D3 := Lib.hid (cluster_at [97, 47, 98] [99] [] (by decide +kernel))
          have D4 := Lib.hid (clusters_at [] [] (by decide +kernel))
          have D5 := Lib.hid (tenant_at [97, 32, 98] [] (by decide +kernel))
          have D6 := Lib.hid (prefix_at [] true (by decide +kernel))
          have D7 := Lib.hid (key_at [] false (by decide +kernel))
          have D8 := Lib.hid (begins_any ⟨#[]⟩ ⟨#[]⟩)
          rw [show Lib.hasPrefix (⟨#[]⟩ : ByteArray).data.toList (⟨#[]⟩ : ByteArray).data.toList = true from rfl] at D8
          simp only [bs] at D1
          simp only [bs] at D2
          simp only [bs] at D3
          simp only [bs] at D4
          simp only [bs] at D5
          simp only [bs] at D6
          simp only [bs] at D7
          go_wp2_with fail
          refine (D1.out _).mono ?_
          rintro e w4 ⟨rfl, rfl⟩
          go_wp2_with fail
          refine (D2.out _).mono ?_
          rintro e w4 ⟨rfl, rfl⟩
          go_wp2_with fail
          refine (D3.out _).mono ?_
          rintro e w4 ⟨rfl, rfl⟩
          go_wp2_with fail
          refine (D4.out _).mono ?_
          rintro e w4 ⟨rfl, rfl⟩
          go_wp2_with fail
          refine (D5.out _).mono ?_
          rintro e w4 ⟨rfl, rfl⟩
          go_wp2_with fail
          refine (D6.out _).mono ?_
          rintro e w4 ⟨rfl, rfl⟩
          go_wp2_with fail
          refine (D7.out _).mono ?_
          rintro e w4 ⟨rfl, rfl⟩
          go_wp2_with fail
          refine (D8.out _).mono ?_
          rintro e w4 ⟨rfl, rfl⟩
          go_wp2
          go_ret
          exact ⟨rfl, HQ.out⟩
theorem own : ownKnob Try.prog.godebug = none := by kernel_rfl
theorem laidOut : laidOutB Try.prog = true := by kernel_rfl
set_option maxRecDepth 100000 in
theorem lifted (os : Os) (started : os.Started) (H : Type) (enc : TypeId × Value → H) :
    ReturnsInHanded {} Try.checked os 3 .any (Rows.keysNamesSpec.pre6 enc Try.prog Try.f3 Rows.keysNamesRow.domain false) (Rows.keysNamesSpec.post enc Try.prog Try.f3 false true false false) := by
  refine returnsInHanded_of_change (C := Try.checked) own started (by kernel_rfl) Try.func3
    (ChangeSpec.witness6 (enc := enc) (C := Try.checked) false ⟨#[], #[], []⟩ 8 (by kernel_rfl) (by kernel_rfl) (by kernel_rfl) (by kernel_rfl)) ?_
  intro W base args ds gs before hval0 hW hcnd _
  have hval : ∀ (j : Nat) t v, Try.f3.params[j]? = some t → args[j]? = some v → Value.okWide Try.prog W .any base t v := hval0
  have hW' := hW
  obtain ⟨p, q, hA0, hV, rfl, hfz, hnd⟩ := hW
  have hA : DataW.TrodAll enc Try.prog W 0 (fun _ => true) true Try.f3.params.toList args.toList ds p := hA0
  rw [Try.params3] at hA hval
  obtain ⟨hargs, rfl, rfl⟩ := trodAll_nil hA
  obtain rfl : args = #[] := by cases args; simp_all
  obtain ⟨rfl, rfl⟩ := trodVars_none hV
  clear hA0 hval0
  refine (core   W ).mono fun e W' ⟨he, bel⟩ => ?_
  subst he
  exact ⟨_, rfl, _, _, _, [], _, [], hW', trodAll_mk1 (shut_bool Try.underlying4 _), trodAll_mk0, rfl, bel.frame _, fun h => by cases h⟩
theorem over : Rows.keysNamesRow.holds Try.pinned (OpenSpec.ofChange Rows.keysNamesSpec) :=
  OpenClaim.holds_of_wide 3 Try.f3 rfl rfl rfl rfl rfl rfl rfl ⟨rfl, rfl, rfl, rfl, rfl⟩ rfl rfl rfl rfl rfl (by kernel_rfl) Try.func3 (by kernel_rfl)
    (of_decide_eq_true (by kernel_rfl)) (by unfold Func.isWrapper; first | (rw [if_pos (by decide +kernel)]; kernel_rfl) | (rw [if_neg (by decide +kernel)]; exact ⟨rfl, rfl⟩))
    (fun os started H enc _ => lifted os started H enc)
theorem proved : Rows.KeysNamesSaid := over
end Go.Proofs.Ytbiokdphjildcaa.keysNames
