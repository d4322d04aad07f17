/- ProtoNames: the closed law answers true. -/
import Derived.Test.YtbckkfoenembmaaRows
import Derived.Test.YtbckkfoenembmaaNm
import Derived.WalkKit
import Derived.ProofKit
import Derived.OpenShut
import Derived.ShutString
namespace Go.Proofs.Ytbckkfoenembmaa.protoNames
open Go.ChangeShapes Go.WideShapes Go.ChangeAt Go.RowKit
open Go.ChangeMaps (open_string shut_string)
set_option linter.unusedVariables false
set_option maxRecDepth 100000 in
set_option maxHeartbeats 8000000 in
theorem core (w : World) : Calls Try.prog 6 #[] w fun e w' => e = .returned (.bool true) ∧ Below w.heap.size w w' := by
  have HS0 := Lib.hid (St.none w)
  have HF4 := Lib.hid (fun W => gat_new W f4 #[.int .i64 1, .iface 80 (.string ⟨#[97]⟩), .int .i64 2, .iface 55 (.int .u64 5), .int .i64 1, .iface 80 (.string ⟨#[98]⟩), .int .i64 3, .nilIface] rfl 4 rfl)
  have HF2 := Lib.hid (fun W => gat_new W [⟨1, .va 1⟩, ⟨2, .no⟩] #[.int .i64 1, .iface 55 (.int .u64 1), .int .i64 2, .nilIface] rfl 2 rfl)
  have HE1 := Lib.hid (fun W => gat_new W [⟨1, .va 1⟩] #[.int .i64 1, .iface 55 (.int .u64 1)] rfl 1 rfl)
  have HE2 := Lib.hid (fun W => gat_new W [⟨1, .ei 1⟩] #[.int .i64 1, .iface 59 (.int .u64 1)] rfl 1 rfl)
  go_enter Try.func6, Try.ntmps6
  go_wp2_with fail
  refine (awake_any _).mono ?_
  rintro e wq1 ⟨rfl, hb⟩
  have HQ1 := Lib.hid ((HS0.out).below hb)
  clear hb HS0
  go_wp2_with fail
  refine (wire0 _).mono ?_
  rintro e wq2 ⟨rfl, hb⟩
  have HQ2 := Lib.hid ((HQ1.out).below hb)
  clear hb HQ1
  go_wp2_with fail
  refine (wire1 _).mono ?_
  rintro e wq3 ⟨rfl, hb⟩
  have HQ3 := Lib.hid ((HQ2.out).below hb)
  clear hb HQ2
  go_wp2_with fail
  refine (wire2 _).mono ?_
  rintro e wq4 ⟨rfl, hb⟩
  have HQ4 := Lib.hid ((HQ3.out).below hb)
  clear hb HQ3
  go_wp2_with fail
  refine (wire5 _).mono ?_
  rintro e wq5 ⟨rfl, hb⟩
  have HQ5 := Lib.hid ((HQ4.out).below hb)
  clear hb HQ4
  go_wp2_with fail
  refine (da _).mono ?_
  rintro e wq6 ⟨rfl, hb⟩
  have HQ6 := Lib.hid ((HQ5.out).below hb)
  clear hb HQ5
  go_wp2_with fail
  refine (db _).mono ?_
  rintro e wq7 ⟨rfl, hb⟩
  have HQ7 := Lib.hid ((HQ6.out).below hb)
  clear hb HQ6
  go_wp2_with fail
  refine (dc _).mono ?_
  rintro e wq8 ⟨rfl, hb⟩
  have HQ8 := Lib.hid ((HQ7.out).below hb)
  clear hb HQ7
  go_wp2_with fail
  refine (dva 0 (by decide) (by decide) (by decide) _).mono ?_
  rintro e wq9 ⟨rfl, hb⟩
  have HQ9 := Lib.hid ((HQ8.out).below hb)
  clear hb HQ8
  go_wp2_with fail
  refine (dva 536870912 (by decide) (by decide) (by decide) _).mono ?_
  rintro e wq10 ⟨rfl, hb⟩
  have HQ10 := Lib.hid ((HQ9.out).below hb)
  clear hb HQ9
  go_wp2_with fail
  refine (dva (-1) (by decide) (by decide) (by decide) _).mono ?_
  rintro e wq11 ⟨rfl, hb⟩
  have HQ11 := Lib.hid ((HQ10.out).below hb)
  clear hb HQ10
  go_wp2_with fail
  refine (dno _).mono ?_
  rintro e wq12 ⟨rfl, hb⟩
  have HQ12 := Lib.hid ((HQ11.out).below hb)
  clear hb HQ11
  go_wp2_with fail
  refine (dan 0 _).mono ?_
  rintro e wq13 ⟨rfl, hb⟩
  have HQ13 := Lib.hid ((HQ12.out).below hb)
  clear hb HQ12
  go_wp2_with fail
  refine (dan 2 _).mono ?_
  rintro e wq14 ⟨rfl, hb⟩
  have HQ14 := Lib.hid ((HQ13.out).below hb)
  clear hb HQ13
  go_wp2_with fail
  refine (ref1 _).mono ?_
  rintro e wq15 ⟨rfl, hb⟩
  have HQ15 := Lib.hid ((HQ14.out).below hb)
  clear hb HQ14
  go_wp2_with fail
  refine (ref2 _).mono ?_
  rintro e wq16 ⟨rfl, hb⟩
  have HQ16 := Lib.hid ((HQ15.out).below hb)
  clear hb HQ15
  go_wp2_with fail
  refine (ref3 _).mono ?_
  rintro e wq17 ⟨rfl, hb⟩
  have HQ17 := Lib.hid ((HQ16.out).below hb)
  clear hb HQ16
  go_wp2_with fail
  refine (ref4 _).mono ?_
  rintro e wq18 ⟨rfl, hb⟩
  have HQ18 := Lib.hid ((HQ17.out).below hb)
  clear hb HQ17
  go_wp2_with fail
  refine (ref5 _).mono ?_
  rintro e wq19 ⟨rfl, hb⟩
  have HQ19 := Lib.hid ((HQ18.out).below hb)
  clear hb HQ18
  go_wp2_with fail
  refine (ref6 _).mono ?_
  rintro e wq20 ⟨rfl, hb⟩
  have HQ20 := Lib.hid ((HQ19.out).below hb)
  clear hb HQ19
  go_wp2_with fail
  refine (ref7 _).mono ?_
  rintro e wq21 ⟨rfl, hb⟩
  have HQ21 := Lib.hid ((HQ20.out).below hb)
  clear hb HQ20
  go_wp2_with fail
  refine (ref8 _).mono ?_
  rintro e wq22 ⟨rfl, hb⟩
  have HQ22 := Lib.hid ((HQ21.out).below hb)
  clear hb HQ21
  go_wp2_with fail
  refine (ref9 _).mono ?_
  rintro e wq23 ⟨rfl, hb⟩
  have HQ23 := Lib.hid ((HQ22.out).below hb)
  clear hb HQ22
  go_wp2_with fail
  refine (ref10 _).mono ?_
  rintro e wq24 ⟨rfl, hb⟩
  have HQ24 := Lib.hid ((HQ23.out).below hb)
  clear hb HQ23
  go_wp2_with fail
  refine (ref11 _).mono ?_
  rintro e wq25 ⟨rfl, hb⟩
  have HQ25 := Lib.hid ((HQ24.out).below hb)
  clear hb HQ24
  go_wp2_with fail
  refine (ref12 _).mono ?_
  rintro e wq26 ⟨rfl, hb⟩
  have HQ26 := Lib.hid ((HQ25.out).below hb)
  clear hb HQ25
  go_wp2_with fail
  refine (ref13 _).mono ?_
  rintro e wq27 ⟨rfl, hb⟩
  have HQ27 := Lib.hid ((HQ26.out).below hb)
  clear hb HQ26
  go_wp2_with fail
  refine (wr2 _ _ (HF2.out _)).mono ?_
  rintro e wq28 ⟨rfl, hb⟩
  have HQ28 := Lib.hid ((HQ27.out.alloc _).below hb)
  clear hb HQ27
  go_wp2_with fail
  refine (rd0 _).mono ?_
  rintro e wq29 ⟨a3, c3, rfl, hb⟩
  have HQ29 := Lib.hid (HQ28.out.below hb)
  clear hb HQ28
  go_wp2_with fail
  refine (wr0 _).mono ?_
  rintro e wq30 ⟨rfl, hb⟩
  have HQ30 := Lib.hid ((HQ29.out).below hb)
  clear hb HQ29
  go_wp2_with fail
  refine (as0 _).mono ?_
  rintro e wq31 ⟨rfl, hb⟩
  have HQ31 := Lib.hid ((HQ30.out).below hb)
  clear hb HQ30
  go_wp2_with fail
  refine (as7 _).mono ?_
  rintro e wq32 ⟨rfl, hb⟩
  have HQ32 := Lib.hid ((HQ31.out).below hb)
  clear hb HQ31
  go_wp2_with fail
  refine (ast _).mono ?_
  rintro e wq33 ⟨rfl, hb⟩
  have HQ33 := Lib.hid ((HQ32.out).below hb)
  clear hb HQ32
  obtain ⟨B, hB⟩ : ∃ B, B = wq33.heap.size := ⟨_, rfl⟩
  have HG := Lib.hid (HF4.out wq33)
  rw [← hB] at HG
  have HBB := Lib.hid hB
  clear hB
  go_wp2_with fail
  refine (al1 _ _ (HF4.out _)).mono ?_
  rintro e wq34 ⟨g14, o14, c14, rfl, hv, hb⟩
  have HQ34 := Lib.hid ((((HQ33.out.alloc _).addG (HF4.out _)).below hb).addV hv)
  rw [← HBB.out] at HQ34
  try rw [← HBB.out]
  clear hb hv HQ33 HG
  go_wp2_with fail
  refine (la1 _ _ HQ34.out.g0).mono ?_
  rintro e wq35 ⟨rfl, hb⟩
  have HQ35 := Lib.hid ((HQ34.out).below hb)
  clear hb HQ34
  go_wp2_with fail
  refine (lv1 _ _ HQ35.out.g0).mono ?_
  rintro e wq36 ⟨rfl, hb⟩
  have HQ36 := Lib.hid ((HQ35.out).below hb)
  clear hb HQ35
  go_wp2_with fail
  refine (lv9 _ _ HQ36.out.g0).mono ?_
  rintro e wq37 ⟨rfl, hb⟩
  have HQ37 := Lib.hid ((HQ36.out).below hb)
  clear hb HQ36
  go_wp2_with fail
  refine (al3 _ _ HQ37.out.g0).mono ?_
  rintro e wq38 ⟨a25, c25, rfl, hb⟩
  have HQ38 := Lib.hid (HQ37.out.below hb)
  clear hb HQ37
  obtain ⟨q0, q1⟩ : wq38.cell? ⟨g14, o14, none⟩ = some (.string ⟨#[97]⟩) ∧ wq38.cell? ⟨g14, o14 + 1, none⟩ = some (.string ⟨#[98]⟩) := by
    rcases HQ38.out.v0 with ⟨h0, _⟩ | ⟨g, og, cg, hg, hcs⟩
    · simp at h0
    · cases hg
      exact ⟨hcs 0 (by decide), hcs 1 (by decide)⟩
  have q0' : wq38.cell? ⟨g14, o14 + 0, none⟩ = some (.string ⟨#[97]⟩) := q0
  go_wp2_with fail
  refine (ot1 _ _ _ (HQ38.out.alloc _).g0 (iat_two _ 1 3)).mono ?_
  rintro e wq39 ⟨g27, o27, c27, rfl, q27, hb⟩
  have HQ39 := Lib.hid ((HQ38.out.alloc _).below hb)
  clear hb HQ38 q0 q1 q0'
  have q27' : wq39.cell? ⟨g27, o27 + 0, none⟩ = some (.int .i64 2) := q27
  go_wp2_with fail
  simp only [List.append_eq, List.cons_append, List.nil_append]
  refine wp_region_any (by kernel_rfl) ?_
  try (change wpAny _ _ _ _ _ _ _ (World.drew _))
  refine wpAny_take (i := 0) (oi := ({ dst := some 300, op := Go.Op.move (Go.Operand.tmp 27), type := 27, pos := "outright.go:57", after := #[], guard := none } : Oper)) (v := ?_) rfl (by kernel_rfl) (by kernel_rfl) (by kernel_rfl) (fun _ _ _ h => h) (Or.inl ⟨by rfl, ?_⟩) ?_
  rotate_left
  · intro _; go_simp; (try with_reducible rfl)
  simp only [Act.put, List.setIfInBounds_toArray, List.set_cons_zero, List.set_cons_succ]
  refine wpAny_take (i := 1) (oi := ({ dst := some 301, op := Go.Op.call { callee := Go.Callee.builtin Go.Builtin.len, args := #[Go.Operand.tmp 300], argTypes := #[27] }, type := 3, pos := "outright.go:57", after := #[{ on := 0, ground := Go.Ground.data }], guard := none } : Oper)) (v := ?_) rfl (by kernel_rfl) (by kernel_rfl) (by kernel_rfl) (fun _ _ _ h => h) (Or.inl ⟨by rfl, ?_⟩) ?_
  rotate_left
  · intro _; go_simp; (try with_reducible rfl)
  simp only [Act.put, List.setIfInBounds_toArray, List.set_cons_zero, List.set_cons_succ]
  refine wpAny_take (i := 2) (oi := ({ dst := some 302, op := Go.Op.binOp Go.BinOp.eql 3 (Go.Operand.tmp 301) (Go.Operand.const (Go.Value.int Go.IntKind.i64 1)) 3, type := 4, pos := "outright.go:57", after := #[{ on := 1, ground := Go.Ground.data }], guard := none } : Oper)) (v := ?_) rfl (by kernel_rfl) (by kernel_rfl) (by kernel_rfl) (fun _ _ _ h => h) (Or.inl ⟨by rfl, ?_⟩) ?_
  rotate_left
  · intro _; go_simp; (try with_reducible rfl)
  simp only [Act.put, List.setIfInBounds_toArray, List.set_cons_zero, List.set_cons_succ]
  refine wpAny_take (i := 3) (oi := ({ dst := some 303, op := Go.Op.move (Go.Operand.tmp 302), type := 4, pos := "outright.go:57", after := #[{ on := 2, ground := Go.Ground.data }], guard := none } : Oper)) (v := ?_) rfl (by kernel_rfl) (by kernel_rfl) (by kernel_rfl) (fun _ _ _ h => h) (Or.inl ⟨by rfl, ?_⟩) ?_
  rotate_left
  · intro _; go_simp; (try with_reducible rfl)
  simp only [Act.put, List.setIfInBounds_toArray, List.set_cons_zero, List.set_cons_succ]
  refine wpAny_take (i := 4) (oi := ({ dst := some 304, op := Go.Op.move (Go.Operand.tmp 27), type := 27, pos := "outright.go:57", after := #[{ on := 3, ground := Go.Ground.guard }], guard := some (3, true) } : Oper)) (v := ?_) rfl (by kernel_rfl) (by kernel_rfl) (by kernel_rfl) (fun _ _ _ h => h) (Or.inl ⟨by rfl, ?_⟩) ?_
  rotate_left
  · intro _; go_simp; (try with_reducible rfl)
  simp only [Act.put, List.setIfInBounds_toArray, List.set_cons_zero, List.set_cons_succ]
  refine wpAny_take (i := 5) (oi := ({ dst := some 305, op := Go.Op.indexAddr 27 (Go.Operand.tmp 304) (Go.Operand.const (Go.Value.int Go.IntKind.i64 0)), type := 0, pos := "outright.go:57", after := #[{ on := 4, ground := Go.Ground.data }, { on := 3, ground := Go.Ground.guard }], guard := some (3, true) } : Oper)) (v := ?_) rfl (by kernel_rfl) (by kernel_rfl) (by kernel_rfl) (fun _ _ _ h => h) (Or.inl ⟨by rfl, ?_⟩) ?_
  rotate_left
  · intro _; go_simp; (try with_reducible rfl)
  simp only [Act.put, List.setIfInBounds_toArray, List.set_cons_zero, List.set_cons_succ]
  refine wpAny_take (i := 6) (oi := ({ dst := some 306, op := Go.Op.fieldAddr 35 (Go.Operand.tmp 305) 0, type := 0, pos := "outright.go:57", after := #[{ on := 5, ground := Go.Ground.data }, { on := 3, ground := Go.Ground.guard }], guard := some (3, true) } : Oper)) (v := ?_) rfl (by kernel_rfl) (by kernel_rfl) (by kernel_rfl) (fun _ _ _ h => h) (Or.inl ⟨by rfl, ?_⟩) ?_
  rotate_left
  · intro _; go_simp; (try with_reducible rfl)
  simp only [Act.put, List.setIfInBounds_toArray, List.set_cons_zero, List.set_cons_succ]
  refine wpAny_ready (rs := [7]) (by kernel_rfl) (by simp) ?_
  refine AllReady.cons (o := ({ dst := some 307, op := Go.Op.load 3 (Go.Operand.tmp 306), type := 3, pos := "outright.go:57", after := #[{ on := 6, ground := Go.Ground.data }, { on := 3, ground := Go.Ground.guard }], guard := some (3, true) } : Oper)) rfl (fun K hK => ?_) AllReady.nil
  go_simp
  refine hK _ _ ?_; clear hK K
  try simp only [Act.put, List.setIfInBounds_toArray, List.set_cons_zero, List.set_cons_succ]
  refine wpAny_take (i := 8) (oi := ({ dst := some 308, op := Go.Op.binOp Go.BinOp.eql 3 (Go.Operand.tmp 307) (Go.Operand.const (Go.Value.int Go.IntKind.i64 2)) 3, type := 4, pos := "outright.go:57", after := #[{ on := 7, ground := Go.Ground.data }, { on := 3, ground := Go.Ground.guard }], guard := some (3, true) } : Oper)) (v := ?_) rfl (by kernel_rfl) (by kernel_rfl) (by kernel_rfl) (fun _ _ _ h => h) (Or.inl ⟨by rfl, ?_⟩) ?_
  rotate_left
  · intro _; go_simp; (try with_reducible rfl)
  simp only [Act.put, List.setIfInBounds_toArray, List.set_cons_zero, List.set_cons_succ]
  refine wpAny_take (i := 9) (oi := ({ dst := some 309, op := Go.Op.pick (Go.Operand.tmp 303) (Go.Operand.tmp 308) (Go.Operand.const (Go.Value.bool false)), type := 4, pos := "outright.go:57", after := #[{ on := 3, ground := Go.Ground.data }, { on := 8, ground := Go.Ground.data }], guard := none } : Oper)) (v := ?_) rfl (by kernel_rfl) (by kernel_rfl) (by kernel_rfl) (fun _ _ _ h => h) (Or.inl ⟨by rfl, ?_⟩) ?_
  rotate_left
  · intro _; go_simp; (try with_reducible rfl)
  simp only [Act.put, List.setIfInBounds_toArray, List.set_cons_zero, List.set_cons_succ]
  refine wpAny_take (i := 10) (oi := ({ dst := some 310, op := Go.Op.move (Go.Operand.tmp 309), type := 4, pos := "outright.go:57", after := #[{ on := 9, ground := Go.Ground.data }, { on := 3, ground := Go.Ground.chain }], guard := none } : Oper)) (v := ?_) rfl (by kernel_rfl) (by kernel_rfl) (by kernel_rfl) (fun _ _ _ h => h) (Or.inl ⟨by rfl, ?_⟩) ?_
  rotate_left
  · intro _; go_simp; (try with_reducible rfl)
  simp only [Act.put, List.setIfInBounds_toArray, List.set_cons_zero, List.set_cons_succ]
  refine wpAny_take (i := 11) (oi := ({ dst := some 311, op := Go.Op.move (Go.Operand.tmp 13), type := 27, pos := "outright.go:57", after := #[{ on := 10, ground := Go.Ground.guard }], guard := some (10, true) } : Oper)) (v := ?_) rfl (by kernel_rfl) (by kernel_rfl) (by kernel_rfl) (fun _ _ _ h => h) (Or.inl ⟨by rfl, ?_⟩) ?_
  rotate_left
  · intro _; go_simp; (try with_reducible rfl)
  simp only [Act.put, List.setIfInBounds_toArray, List.set_cons_zero, List.set_cons_succ]
  refine wpAny_ready (rs := [12]) (by kernel_rfl) (by simp) ?_
  refine AllReady.cons (o := ({ dst := some 312, op := Go.Op.call { callee := Go.Callee.value (Go.Operand.func 36), args := #[Go.Operand.tmp 311, Go.Operand.const (Go.Value.slice none 0 0)], argTypes := #[27, 50] }, type := 27, pos := "outright.go:57", after := #[{ on := 11, ground := Go.Ground.data }, { on := 10, ground := Go.Ground.chain }, { on := 10, ground := Go.Ground.guard }], guard := some (10, true) } : Oper)) rfl (fun K hK => ?_) AllReady.nil
  go_simp
  refine (ot0 _ _ (by exact gsame HQ39.out.g0 rfl)).mono ?_
  rintro e wr1 ⟨a31, c31, rfl, hb⟩
  have HR1 := Lib.hid (HQ39.out.below ⟨hb.os, hb.tape, hb.output, hb.size, hb.block⟩)
  clear hb
  try dsimp only
  refine hK _ _ ?_; clear hK K
  try simp only [Act.put, List.setIfInBounds_toArray, List.set_cons_zero, List.set_cons_succ]
  refine wpAny_take (i := 13) (oi := ({ dst := some 313, op := Go.Op.call { callee := Go.Callee.builtin Go.Builtin.len, args := #[Go.Operand.tmp 312], argTypes := #[27] }, type := 3, pos := "outright.go:57", after := #[{ on := 12, ground := Go.Ground.data }, { on := 10, ground := Go.Ground.guard }], guard := some (10, true) } : Oper)) (v := ?_) rfl (by kernel_rfl) (by kernel_rfl) (by kernel_rfl) (fun _ _ _ h => h) (Or.inl ⟨by rfl, ?_⟩) ?_
  rotate_left
  · intro _; go_simp; (try with_reducible rfl)
  simp only [Act.put, List.setIfInBounds_toArray, List.set_cons_zero, List.set_cons_succ]
  refine wpAny_take (i := 14) (oi := ({ dst := some 314, op := Go.Op.binOp Go.BinOp.eql 3 (Go.Operand.tmp 313) (Go.Operand.const (Go.Value.int Go.IntKind.i64 4)) 3, type := 4, pos := "outright.go:57", after := #[{ on := 13, ground := Go.Ground.data }, { on := 10, ground := Go.Ground.guard }], guard := some (10, true) } : Oper)) (v := ?_) rfl (by kernel_rfl) (by kernel_rfl) (by kernel_rfl) (fun _ _ _ h => h) (Or.inl ⟨by rfl, ?_⟩) ?_
  rotate_left
  · intro _; go_simp; (try with_reducible rfl)
  simp only [Act.put, List.setIfInBounds_toArray, List.set_cons_zero, List.set_cons_succ]
  refine wpAny_take (i := 15) (oi := ({ dst := some 315, op := Go.Op.pick (Go.Operand.tmp 310) (Go.Operand.tmp 314) (Go.Operand.const (Go.Value.bool false)), type := 4, pos := "outright.go:57", after := #[{ on := 10, ground := Go.Ground.data }, { on := 14, ground := Go.Ground.data }], guard := none } : Oper)) (v := ?_) rfl (by kernel_rfl) (by kernel_rfl) (by kernel_rfl) (fun _ _ _ h => h) (Or.inl ⟨by rfl, ?_⟩) ?_
  rotate_left
  · intro _; go_simp; (try with_reducible rfl)
  simp only [Act.put, List.setIfInBounds_toArray, List.set_cons_zero, List.set_cons_succ]
  refine wpAny_take (i := 16) (oi := ({ dst := some 316, op := Go.Op.move (Go.Operand.tmp 315), type := 4, pos := "outright.go:57", after := #[{ on := 15, ground := Go.Ground.data }, { on := 12, ground := Go.Ground.chain }], guard := none } : Oper)) (v := ?_) rfl (by kernel_rfl) (by kernel_rfl) (by kernel_rfl) (fun _ _ _ h => h) (Or.inl ⟨by rfl, ?_⟩) ?_
  rotate_left
  · intro _; go_simp; (try with_reducible rfl)
  simp only [Act.put, List.setIfInBounds_toArray, List.set_cons_zero, List.set_cons_succ]
  refine wpAny_take (i := 17) (oi := ({ dst := some 317, op := Go.Op.move (Go.Operand.tmp 13), type := 27, pos := "outright.go:57", after := #[{ on := 16, ground := Go.Ground.guard }], guard := some (16, true) } : Oper)) (v := ?_) rfl (by kernel_rfl) (by kernel_rfl) (by kernel_rfl) (fun _ _ _ h => h) (Or.inl ⟨by rfl, ?_⟩) ?_
  rotate_left
  · intro _; go_simp; (try with_reducible rfl)
  simp only [Act.put, List.setIfInBounds_toArray, List.set_cons_zero, List.set_cons_succ]
  refine wpAny_take (i := 18) (oi := ({ dst := some 318, op := Go.Op.slice 27 (Go.Operand.tmp 317) none (some (Go.Operand.const (Go.Value.int Go.IntKind.i64 3))) none, type := 27, pos := "outright.go:57", after := #[{ on := 17, ground := Go.Ground.data }, { on := 16, ground := Go.Ground.guard }], guard := some (16, true) } : Oper)) (v := ?_) rfl (by kernel_rfl) (by kernel_rfl) (by kernel_rfl) (fun _ _ _ h => h) (Or.inl ⟨by rfl, ?_⟩) ?_
  rotate_left
  · intro _; go_simp; (try with_reducible rfl)
  simp only [Act.put, List.setIfInBounds_toArray, List.set_cons_zero, List.set_cons_succ]
  refine wpAny_take (i := 19) (oi := ({ dst := some 319, op := Go.Op.move (Go.Operand.tmp 13), type := 27, pos := "outright.go:57", after := #[{ on := 16, ground := Go.Ground.guard }], guard := some (16, true) } : Oper)) (v := ?_) rfl (by kernel_rfl) (by kernel_rfl) (by kernel_rfl) (fun _ _ _ h => h) (Or.inl ⟨by rfl, ?_⟩) ?_
  rotate_left
  · intro _; go_simp; (try with_reducible rfl)
  simp only [Act.put, List.setIfInBounds_toArray, List.set_cons_zero, List.set_cons_succ]
  refine wpAny_take (i := 20) (oi := ({ dst := some 320, op := Go.Op.slice 27 (Go.Operand.tmp 319) none (some (Go.Operand.const (Go.Value.int Go.IntKind.i64 3))) none, type := 27, pos := "outright.go:57", after := #[{ on := 19, ground := Go.Ground.data }, { on := 16, ground := Go.Ground.guard }], guard := some (16, true) } : Oper)) (v := ?_) rfl (by kernel_rfl) (by kernel_rfl) (by kernel_rfl) (fun _ _ _ h => h) (Or.inl ⟨by rfl, ?_⟩) ?_
  rotate_left
  · intro _; go_simp; (try with_reducible rfl)
  simp only [Act.put, List.setIfInBounds_toArray, List.set_cons_zero, List.set_cons_succ]
  refine wpAny_ready (rs := [21]) (by kernel_rfl) (by simp) ?_
  refine AllReady.cons (o := ({ dst := some 321, op := Go.Op.call { callee := Go.Callee.value (Go.Operand.func 38), args := #[Go.Operand.tmp 318, Go.Operand.tmp 320], argTypes := #[27, 27] }, type := 4, pos := "outright.go:57", after := #[{ on := 18, ground := Go.Ground.data }, { on := 20, ground := Go.Ground.data }, { on := 16, ground := Go.Ground.chain }, { on := 16, ground := Go.Ground.guard }], guard := some (16, true) } : Oper)) rfl (fun K hK => ?_) AllReady.nil
  go_simp
  refine (pA _ _ _ (by exact gsame (gat_sub HR1.out.g0 0 3 4 (by decide) (by simp [f4])) rfl) (by exact gsame (gat_sub HR1.out.g0 0 3 4 (by decide) (by simp [f4])) rfl)).mono ?_
  rintro e wr2 ⟨rfl, hb⟩
  have HR2 := Lib.hid (HR1.out.below ⟨hb.os, hb.tape, hb.output, hb.size, hb.block⟩)
  clear hb
  try dsimp only
  refine hK _ _ ?_; clear hK K
  try simp only [Act.put, List.setIfInBounds_toArray, List.set_cons_zero, List.set_cons_succ]
  refine wpAny_take (i := 22) (oi := ({ dst := some 322, op := Go.Op.pick (Go.Operand.tmp 316) (Go.Operand.tmp 321) (Go.Operand.const (Go.Value.bool false)), type := 4, pos := "outright.go:57", after := #[{ on := 16, ground := Go.Ground.data }, { on := 21, ground := Go.Ground.data }], guard := none } : Oper)) (v := ?_) rfl (by kernel_rfl) (by kernel_rfl) (by kernel_rfl) (fun _ _ _ h => h) (Or.inl ⟨by rfl, ?_⟩) ?_
  rotate_left
  · intro _; go_simp; (try with_reducible rfl)
  simp only [Act.put, List.setIfInBounds_toArray, List.set_cons_zero, List.set_cons_succ]
  refine wpAny_take (i := 23) (oi := ({ dst := some 323, op := Go.Op.move (Go.Operand.tmp 322), type := 4, pos := "outright.go:57", after := #[{ on := 22, ground := Go.Ground.data }, { on := 21, ground := Go.Ground.chain }], guard := none } : Oper)) (v := ?_) rfl (by kernel_rfl) (by kernel_rfl) (by kernel_rfl) (fun _ _ _ h => h) (Or.inl ⟨by rfl, ?_⟩) ?_
  rotate_left
  · intro _; go_simp; (try with_reducible rfl)
  simp only [Act.put, List.setIfInBounds_toArray, List.set_cons_zero, List.set_cons_succ]
  refine wpAny_take (i := 24) (oi := ({ dst := some 324, op := Go.Op.move (Go.Operand.tmp 13), type := 27, pos := "outright.go:57", after := #[{ on := 23, ground := Go.Ground.guard }], guard := some (23, true) } : Oper)) (v := ?_) rfl (by kernel_rfl) (by kernel_rfl) (by kernel_rfl) (fun _ _ _ h => h) (Or.inl ⟨by rfl, ?_⟩) ?_
  rotate_left
  · intro _; go_simp; (try with_reducible rfl)
  simp only [Act.put, List.setIfInBounds_toArray, List.set_cons_zero, List.set_cons_succ]
  refine wpAny_take (i := 25) (oi := ({ dst := some 325, op := Go.Op.move (Go.Operand.tmp 13), type := 27, pos := "outright.go:57", after := #[{ on := 23, ground := Go.Ground.guard }], guard := some (23, true) } : Oper)) (v := ?_) rfl (by kernel_rfl) (by kernel_rfl) (by kernel_rfl) (fun _ _ _ h => h) (Or.inl ⟨by rfl, ?_⟩) ?_
  rotate_left
  · intro _; go_simp; (try with_reducible rfl)
  simp only [Act.put, List.setIfInBounds_toArray, List.set_cons_zero, List.set_cons_succ]
  refine wpAny_ready (rs := [26]) (by kernel_rfl) (by simp) ?_
  refine AllReady.cons (o := ({ dst := some 326, op := Go.Op.call { callee := Go.Callee.value (Go.Operand.func 38), args := #[Go.Operand.tmp 324, Go.Operand.tmp 325], argTypes := #[27, 27] }, type := 4, pos := "outright.go:57", after := #[{ on := 24, ground := Go.Ground.data }, { on := 25, ground := Go.Ground.data }, { on := 23, ground := Go.Ground.chain }, { on := 23, ground := Go.Ground.guard }], guard := some (23, true) } : Oper)) rfl (fun K hK => ?_) AllReady.nil
  go_simp
  refine (pB _ _ _ (by exact gsame HR2.out.g0 rfl) (by exact gsame HR2.out.g0 rfl)).mono ?_
  rintro e wr3 ⟨rfl, hb⟩
  have HR3 := Lib.hid (HR2.out.below ⟨hb.os, hb.tape, hb.output, hb.size, hb.block⟩)
  clear hb
  try dsimp only
  refine hK _ _ ?_; clear hK K
  try simp only [Act.put, List.setIfInBounds_toArray, List.set_cons_zero, List.set_cons_succ]
  refine wpAny_take (i := 27) (oi := ({ dst := some 327, op := Go.Op.unOp Go.UnOp.not 4 (Go.Operand.tmp 326), type := 4, pos := "outright.go:57", after := #[{ on := 26, ground := Go.Ground.data }, { on := 23, ground := Go.Ground.guard }], guard := some (23, true) } : Oper)) (v := ?_) rfl (by kernel_rfl) (by kernel_rfl) (by kernel_rfl) (fun _ _ _ h => h) (Or.inl ⟨by rfl, ?_⟩) ?_
  rotate_left
  · intro _; go_simp; (try with_reducible rfl)
  simp only [Act.put, List.setIfInBounds_toArray, List.set_cons_zero, List.set_cons_succ]
  refine wpAny_take (i := 28) (oi := ({ dst := some 328, op := Go.Op.pick (Go.Operand.tmp 323) (Go.Operand.tmp 327) (Go.Operand.const (Go.Value.bool false)), type := 4, pos := "outright.go:57", after := #[{ on := 23, ground := Go.Ground.data }, { on := 27, ground := Go.Ground.data }], guard := none } : Oper)) (v := ?_) rfl (by kernel_rfl) (by kernel_rfl) (by kernel_rfl) (fun _ _ _ h => h) (Or.inl ⟨by rfl, ?_⟩) ?_
  rotate_left
  · intro _; go_simp; (try with_reducible rfl)
  simp only [Act.put, List.setIfInBounds_toArray, List.set_cons_zero, List.set_cons_succ]
  refine wpAny_take (i := 29) (oi := ({ dst := some 329, op := Go.Op.move (Go.Operand.tmp 328), type := 4, pos := "outright.go:57", after := #[{ on := 28, ground := Go.Ground.data }, { on := 26, ground := Go.Ground.chain }], guard := none } : Oper)) (v := ?_) rfl (by kernel_rfl) (by kernel_rfl) (by kernel_rfl) (fun _ _ _ h => h) (Or.inl ⟨by rfl, ?_⟩) ?_
  rotate_left
  · intro _; go_simp; (try with_reducible rfl)
  simp only [Act.put, List.setIfInBounds_toArray, List.set_cons_zero, List.set_cons_succ]
  refine wpAny_take (i := 30) (oi := ({ dst := some 330, op := Go.Op.move (Go.Operand.tmp 13), type := 27, pos := "outright.go:57", after := #[{ on := 29, ground := Go.Ground.guard }], guard := some (29, true) } : Oper)) (v := ?_) rfl (by kernel_rfl) (by kernel_rfl) (by kernel_rfl) (fun _ _ _ h => h) (Or.inl ⟨by rfl, ?_⟩) ?_
  rotate_left
  · intro _; go_simp; (try with_reducible rfl)
  simp only [Act.put, List.setIfInBounds_toArray, List.set_cons_zero, List.set_cons_succ]
  refine wpAny_take (i := 31) (oi := ({ dst := some 331, op := Go.Op.slice 27 (Go.Operand.tmp 330) none (some (Go.Operand.const (Go.Value.int Go.IntKind.i64 1))) none, type := 27, pos := "outright.go:57", after := #[{ on := 30, ground := Go.Ground.data }, { on := 29, ground := Go.Ground.guard }], guard := some (29, true) } : Oper)) (v := ?_) rfl (by kernel_rfl) (by kernel_rfl) (by kernel_rfl) (fun _ _ _ h => h) (Or.inl ⟨by rfl, ?_⟩) ?_
  rotate_left
  · intro _; go_simp; (try with_reducible rfl)
  simp only [Act.put, List.setIfInBounds_toArray, List.set_cons_zero, List.set_cons_succ]
  refine wpAny_take (i := 32) (oi := ({ dst := some 332, op := Go.Op.move (Go.Operand.tmp 13), type := 27, pos := "outright.go:57", after := #[{ on := 29, ground := Go.Ground.guard }], guard := some (29, true) } : Oper)) (v := ?_) rfl (by kernel_rfl) (by kernel_rfl) (by kernel_rfl) (fun _ _ _ h => h) (Or.inl ⟨by rfl, ?_⟩) ?_
  rotate_left
  · intro _; go_simp; (try with_reducible rfl)
  simp only [Act.put, List.setIfInBounds_toArray, List.set_cons_zero, List.set_cons_succ]
  refine wpAny_take (i := 33) (oi := ({ dst := some 333, op := Go.Op.slice 27 (Go.Operand.tmp 332) (some (Go.Operand.const (Go.Value.int Go.IntKind.i64 2))) (some (Go.Operand.const (Go.Value.int Go.IntKind.i64 3))) none, type := 27, pos := "outright.go:57", after := #[{ on := 32, ground := Go.Ground.data }, { on := 29, ground := Go.Ground.guard }], guard := some (29, true) } : Oper)) (v := ?_) rfl (by kernel_rfl) (by kernel_rfl) (by kernel_rfl) (fun _ _ _ h => h) (Or.inl ⟨by rfl, ?_⟩) ?_
  rotate_left
  · intro _; go_simp; (try with_reducible rfl)
  simp only [Act.put, List.setIfInBounds_toArray, List.set_cons_zero, List.set_cons_succ]
  refine wpAny_ready (rs := [34]) (by kernel_rfl) (by simp) ?_
  refine AllReady.cons (o := ({ dst := some 334, op := Go.Op.call { callee := Go.Callee.value (Go.Operand.func 38), args := #[Go.Operand.tmp 331, Go.Operand.tmp 333], argTypes := #[27, 27] }, type := 4, pos := "outright.go:57", after := #[{ on := 31, ground := Go.Ground.data }, { on := 33, ground := Go.Ground.data }, { on := 29, ground := Go.Ground.chain }, { on := 29, ground := Go.Ground.guard }], guard := some (29, true) } : Oper)) rfl (fun K hK => ?_) AllReady.nil
  go_simp
  refine (pC _ _ _ (by exact gsame (gat_sub HR3.out.g0 0 1 4 (by decide) (by simp [f4])) rfl) (by exact gsame (gat_sub HR3.out.g0 2 1 2 (by decide) (by simp [f4])) rfl)).mono ?_
  rintro e wr4 ⟨rfl, hb⟩
  have HR4 := Lib.hid (HR3.out.below ⟨hb.os, hb.tape, hb.output, hb.size, hb.block⟩)
  clear hb
  try dsimp only
  refine hK _ _ ?_; clear hK K
  try simp only [Act.put, List.setIfInBounds_toArray, List.set_cons_zero, List.set_cons_succ]
  refine wpAny_take (i := 35) (oi := ({ dst := some 335, op := Go.Op.unOp Go.UnOp.not 4 (Go.Operand.tmp 334), type := 4, pos := "outright.go:57", after := #[{ on := 34, ground := Go.Ground.data }, { on := 29, ground := Go.Ground.guard }], guard := some (29, true) } : Oper)) (v := ?_) rfl (by kernel_rfl) (by kernel_rfl) (by kernel_rfl) (fun _ _ _ h => h) (Or.inl ⟨by rfl, ?_⟩) ?_
  rotate_left
  · intro _; go_simp; (try with_reducible rfl)
  simp only [Act.put, List.setIfInBounds_toArray, List.set_cons_zero, List.set_cons_succ]
  refine wpAny_take (i := 36) (oi := ({ dst := some 336, op := Go.Op.pick (Go.Operand.tmp 329) (Go.Operand.tmp 335) (Go.Operand.const (Go.Value.bool false)), type := 4, pos := "outright.go:57", after := #[{ on := 29, ground := Go.Ground.data }, { on := 35, ground := Go.Ground.data }], guard := none } : Oper)) (v := ?_) rfl (by kernel_rfl) (by kernel_rfl) (by kernel_rfl) (fun _ _ _ h => h) (Or.inl ⟨by rfl, ?_⟩) ?_
  rotate_left
  · intro _; go_simp; (try with_reducible rfl)
  simp only [Act.put, List.setIfInBounds_toArray, List.set_cons_zero, List.set_cons_succ]
  refine wpAny_take (i := 37) (oi := ({ dst := some 337, op := Go.Op.move (Go.Operand.tmp 336), type := 4, pos := "outright.go:57", after := #[{ on := 36, ground := Go.Ground.data }, { on := 34, ground := Go.Ground.chain }], guard := none } : Oper)) (v := ?_) rfl (by kernel_rfl) (by kernel_rfl) (by kernel_rfl) (fun _ _ _ h => h) (Or.inl ⟨by rfl, ?_⟩) ?_
  rotate_left
  · intro _; go_simp; (try with_reducible rfl)
  simp only [Act.put, List.setIfInBounds_toArray, List.set_cons_zero, List.set_cons_succ]
  refine wpAny_take (i := 38) (oi := ({ dst := some 338, op := Go.Op.move (Go.Operand.tmp 13), type := 27, pos := "outright.go:57", after := #[{ on := 37, ground := Go.Ground.guard }], guard := some (37, true) } : Oper)) (v := ?_) rfl (by kernel_rfl) (by kernel_rfl) (by kernel_rfl) (fun _ _ _ h => h) (Or.inl ⟨by rfl, ?_⟩) ?_
  rotate_left
  · intro _; go_simp; (try with_reducible rfl)
  simp only [Act.put, List.setIfInBounds_toArray, List.set_cons_zero, List.set_cons_succ]
  refine wpAny_take (i := 39) (oi := ({ dst := some 339, op := Go.Op.slice 27 (Go.Operand.tmp 338) none (some (Go.Operand.const (Go.Value.int Go.IntKind.i64 1))) none, type := 27, pos := "outright.go:57", after := #[{ on := 38, ground := Go.Ground.data }, { on := 37, ground := Go.Ground.guard }], guard := some (37, true) } : Oper)) (v := ?_) rfl (by kernel_rfl) (by kernel_rfl) (by kernel_rfl) (fun _ _ _ h => h) (Or.inl ⟨by rfl, ?_⟩) ?_
  rotate_left
  · intro _; go_simp; (try with_reducible rfl)
  simp only [Act.put, List.setIfInBounds_toArray, List.set_cons_zero, List.set_cons_succ]
  refine wpAny_take (i := 40) (oi := ({ dst := some 340, op := Go.Op.move (Go.Operand.tmp 13), type := 27, pos := "outright.go:57", after := #[{ on := 37, ground := Go.Ground.guard }], guard := some (37, true) } : Oper)) (v := ?_) rfl (by kernel_rfl) (by kernel_rfl) (by kernel_rfl) (fun _ _ _ h => h) (Or.inl ⟨by rfl, ?_⟩) ?_
  rotate_left
  · intro _; go_simp; (try with_reducible rfl)
  simp only [Act.put, List.setIfInBounds_toArray, List.set_cons_zero, List.set_cons_succ]
  refine wpAny_take (i := 41) (oi := ({ dst := some 341, op := Go.Op.slice 27 (Go.Operand.tmp 340) none (some (Go.Operand.const (Go.Value.int Go.IntKind.i64 2))) none, type := 27, pos := "outright.go:57", after := #[{ on := 40, ground := Go.Ground.data }, { on := 37, ground := Go.Ground.guard }], guard := some (37, true) } : Oper)) (v := ?_) rfl (by kernel_rfl) (by kernel_rfl) (by kernel_rfl) (fun _ _ _ h => h) (Or.inl ⟨by rfl, ?_⟩) ?_
  rotate_left
  · intro _; go_simp; (try with_reducible rfl)
  simp only [Act.put, List.setIfInBounds_toArray, List.set_cons_zero, List.set_cons_succ]
  refine wpAny_ready (rs := [42]) (by kernel_rfl) (by simp) ?_
  refine AllReady.cons (o := ({ dst := some 342, op := Go.Op.call { callee := Go.Callee.value (Go.Operand.func 38), args := #[Go.Operand.tmp 339, Go.Operand.tmp 341], argTypes := #[27, 27] }, type := 4, pos := "outright.go:57", after := #[{ on := 39, ground := Go.Ground.data }, { on := 41, ground := Go.Ground.data }, { on := 37, ground := Go.Ground.chain }, { on := 37, ground := Go.Ground.guard }], guard := some (37, true) } : Oper)) rfl (fun K hK => ?_) AllReady.nil
  go_simp
  refine (pD _ _ _ (by exact gsame (gat_sub HR4.out.g0 0 1 4 (by decide) (by simp [f4])) rfl) (by exact gsame (gat_sub HR4.out.g0 0 2 4 (by decide) (by simp [f4])) rfl)).mono ?_
  rintro e wr5 ⟨rfl, hb⟩
  have HR5 := Lib.hid (HR4.out.below ⟨hb.os, hb.tape, hb.output, hb.size, hb.block⟩)
  clear hb
  try dsimp only
  refine hK _ _ ?_; clear hK K
  try simp only [Act.put, List.setIfInBounds_toArray, List.set_cons_zero, List.set_cons_succ]
  refine wpAny_take (i := 43) (oi := ({ dst := some 343, op := Go.Op.unOp Go.UnOp.not 4 (Go.Operand.tmp 342), type := 4, pos := "outright.go:57", after := #[{ on := 42, ground := Go.Ground.data }, { on := 37, ground := Go.Ground.guard }], guard := some (37, true) } : Oper)) (v := ?_) rfl (by kernel_rfl) (by kernel_rfl) (by kernel_rfl) (fun _ _ _ h => h) (Or.inl ⟨by rfl, ?_⟩) ?_
  rotate_left
  · intro _; go_simp; (try with_reducible rfl)
  simp only [Act.put, List.setIfInBounds_toArray, List.set_cons_zero, List.set_cons_succ]
  refine wpAny_take (i := 44) (oi := ({ dst := some 344, op := Go.Op.pick (Go.Operand.tmp 337) (Go.Operand.tmp 343) (Go.Operand.const (Go.Value.bool false)), type := 4, pos := "outright.go:57", after := #[{ on := 37, ground := Go.Ground.data }, { on := 43, ground := Go.Ground.data }], guard := none } : Oper)) (v := ?_) rfl (by kernel_rfl) (by kernel_rfl) (by kernel_rfl) (fun _ _ _ h => h) (Or.inl ⟨by rfl, ?_⟩) ?_
  rotate_left
  · intro _; go_simp; (try with_reducible rfl)
  simp only [Act.put, List.setIfInBounds_toArray, List.set_cons_zero, List.set_cons_succ]
  refine wpAny_take (i := 45) (oi := ({ dst := some 345, op := Go.Op.move (Go.Operand.tmp 344), type := 4, pos := "outright.go:57", after := #[{ on := 44, ground := Go.Ground.data }, { on := 42, ground := Go.Ground.chain }], guard := none } : Oper)) (v := ?_) rfl (by kernel_rfl) (by kernel_rfl) (by kernel_rfl) (fun _ _ _ h => h) (Or.inl ⟨by rfl, ?_⟩) ?_
  rotate_left
  · intro _; go_simp; (try with_reducible rfl)
  simp only [Act.put, List.setIfInBounds_toArray, List.set_cons_zero, List.set_cons_succ]
  refine wpAny_take (i := 46) (oi := ({ dst := some 346, op := Go.Op.makeInterface 55 (Go.Operand.const (Go.Value.int Go.IntKind.u64 1)), type := 33, pos := "outright.go:57", after := #[{ on := 45, ground := Go.Ground.guard }], guard := some (45, true) } : Oper)) (v := ?_) rfl (by kernel_rfl) (by kernel_rfl) (by kernel_rfl) (fun _ _ _ h => h) (Or.inl ⟨by rfl, ?_⟩) ?_
  rotate_left
  · intro _; go_simp; (try with_reducible rfl)
  simp only [Act.put, List.setIfInBounds_toArray, List.set_cons_zero, List.set_cons_succ]
  refine wpAny_take (i := 47) (oi := ({ dst := some 347, op := Go.Op.build 35 #[(0, Go.Operand.const (Go.Value.int Go.IntKind.i64 1)), (1, Go.Operand.tmp 346)], type := 35, pos := "outright.go:57", after := #[{ on := 46, ground := Go.Ground.data }, { on := 45, ground := Go.Ground.guard }], guard := some (45, true) } : Oper)) (v := ?_) rfl (by kernel_rfl) (by kernel_rfl) (by kernel_rfl) (fun _ _ _ h => h) (Or.inl ⟨by rfl, ?_⟩) ?_
  rotate_left
  · intro _; go_simp; (try with_reducible rfl)
  simp only [Act.put, List.setIfInBounds_toArray, List.set_cons_zero, List.set_cons_succ]
  refine wpAny_take (i := 49) (oi := ({ dst := some 349, op := Go.Op.makeInterface 59 (Go.Operand.const (Go.Value.int Go.IntKind.u64 1)), type := 33, pos := "outright.go:57", after := #[{ on := 45, ground := Go.Ground.guard }], guard := some (45, true) } : Oper)) (v := ?_) rfl (by kernel_rfl) (by kernel_rfl) (by kernel_rfl) (fun _ _ _ h => h) (Or.inl ⟨by rfl, ?_⟩) ?_
  rotate_left
  · intro _; go_simp; (try with_reducible rfl)
  simp only [Act.put, List.setIfInBounds_toArray, List.set_cons_zero, List.set_cons_succ]
  refine wpAny_take (i := 50) (oi := ({ dst := some 350, op := Go.Op.build 35 #[(0, Go.Operand.const (Go.Value.int Go.IntKind.i64 1)), (1, Go.Operand.tmp 349)], type := 35, pos := "outright.go:57", after := #[{ on := 49, ground := Go.Ground.data }, { on := 45, ground := Go.Ground.guard }], guard := some (45, true) } : Oper)) (v := ?_) rfl (by kernel_rfl) (by kernel_rfl) (by kernel_rfl) (fun _ _ _ h => h) (Or.inl ⟨by rfl, ?_⟩) ?_
  rotate_left
  · intro _; go_simp; (try with_reducible rfl)
  simp only [Act.put, List.setIfInBounds_toArray, List.set_cons_zero, List.set_cons_succ]
  refine wpAny_ready (rs := [48, 51]) (by kernel_rfl) (by simp) ?_
  refine AllReady.cons (o := ({ dst := some 348, op := Go.Op.buildSlice 27 1 #[(0, Go.Operand.tmp 347)], type := 27, pos := "outright.go:57", after := #[{ on := 47, ground := Go.Ground.data }, { on := 45, ground := Go.Ground.guard }], guard := some (45, true) } : Oper)) rfl (fun K hK => ?_) (AllReady.cons (o := ({ dst := some 351, op := Go.Op.buildSlice 27 1 #[(0, Go.Operand.tmp 350)], type := 27, pos := "outright.go:57", after := #[{ on := 50, ground := Go.Ground.data }, { on := 45, ground := Go.Ground.guard }], guard := some (45, true) } : Oper)) rfl (fun K hK => ?_) AllReady.nil)
  · skip
    go_simp
    refine hK _ _ ?_; clear hK K
    try simp only [Act.put, List.setIfInBounds_toArray, List.set_cons_zero, List.set_cons_succ]
    refine wpAny_ready (rs := [51]) (by kernel_rfl) (by simp) ?_
    refine AllReady.cons (o := ({ dst := some 351, op := Go.Op.buildSlice 27 1 #[(0, Go.Operand.tmp 350)], type := 27, pos := "outright.go:57", after := #[{ on := 50, ground := Go.Ground.data }, { on := 45, ground := Go.Ground.guard }], guard := some (45, true) } : Oper)) rfl (fun K hK => ?_) AllReady.nil
    go_simp
    refine hK _ _ ?_; clear hK K
    try simp only [Act.put, List.setIfInBounds_toArray, List.set_cons_zero, List.set_cons_succ]
    refine wpAny_ready (rs := [52]) (by kernel_rfl) (by simp) ?_
    refine AllReady.cons (o := ({ dst := some 352, op := Go.Op.call { callee := Go.Callee.value (Go.Operand.func 38), args := #[Go.Operand.tmp 348, Go.Operand.tmp 351], argTypes := #[27, 27] }, type := 4, pos := "outright.go:57", after := #[{ on := 48, ground := Go.Ground.data }, { on := 51, ground := Go.Ground.data }, { on := 45, ground := Go.Ground.chain }, { on := 45, ground := Go.Ground.guard }], guard := some (45, true) } : Oper)) rfl (fun K hK => ?_) AllReady.nil
    go_simp
    first
      | (refine (pE _ _ _ (by exact gsame (xa wr5) rfl) (by exact gsame (xb wr5) rfl)).mono ?_; rintro e wr6 ⟨rfl, hb⟩; have HR6 := Lib.hid (below_pair HR5.out.b oA oB ⟨hb.os, hb.tape, hb.output, hb.size, hb.block⟩))
      | (refine (pE _ _ _ (by exact gsame (ya wr5) rfl) (by exact gsame (yb wr5) rfl)).mono ?_; rintro e wr6 ⟨rfl, hb⟩; have HR6 := Lib.hid (below_pair HR5.out.b oB oA ⟨hb.os, hb.tape, hb.output, hb.size, hb.block⟩))
    clear hb
    try dsimp only
    refine hK _ _ ?_; clear hK K
    try simp only [Act.put, List.setIfInBounds_toArray, List.set_cons_zero, List.set_cons_succ]
    refine wpAny_take (i := 53) (oi := ({ dst := some 353, op := Go.Op.unOp Go.UnOp.not 4 (Go.Operand.tmp 352), type := 4, pos := "outright.go:57", after := #[{ on := 52, ground := Go.Ground.data }, { on := 45, ground := Go.Ground.guard }], guard := some (45, true) } : Oper)) (v := ?_) rfl (by kernel_rfl) (by kernel_rfl) (by kernel_rfl) (fun _ _ _ h => h) (Or.inl ⟨by rfl, ?_⟩) ?_
    rotate_left
    · intro _; go_simp; (try with_reducible rfl)
    simp only [Act.put, List.setIfInBounds_toArray, List.set_cons_zero, List.set_cons_succ]
    refine wpAny_take (i := 54) (oi := ({ dst := some 354, op := Go.Op.pick (Go.Operand.tmp 345) (Go.Operand.tmp 353) (Go.Operand.const (Go.Value.bool false)), type := 4, pos := "outright.go:57", after := #[{ on := 45, ground := Go.Ground.data }, { on := 53, ground := Go.Ground.data }], guard := none } : Oper)) (v := ?_) rfl (by kernel_rfl) (by kernel_rfl) (by kernel_rfl) (fun _ _ _ h => h) (Or.inl ⟨by rfl, ?_⟩) ?_
    rotate_left
    · intro _; go_simp; (try with_reducible rfl)
    simp only [Act.put, List.setIfInBounds_toArray, List.set_cons_zero, List.set_cons_succ]
    refine wpAny_take (i := 55) (oi := ({ dst := some 355, op := Go.Op.move (Go.Operand.tmp 354), type := 4, pos := "outright.go:57", after := #[{ on := 54, ground := Go.Ground.data }, { on := 52, ground := Go.Ground.chain }], guard := none } : Oper)) (v := ?_) rfl (by kernel_rfl) (by kernel_rfl) (by kernel_rfl) (fun _ _ _ h => h) (Or.inl ⟨by rfl, ?_⟩) ?_
    rotate_left
    · intro _; go_simp; (try with_reducible rfl)
    simp only [Act.put, List.setIfInBounds_toArray, List.set_cons_zero, List.set_cons_succ]
    refine wpAny_take (i := 56) (oi := ({ dst := some 356, op := Go.Op.build 35 #[], type := 35, pos := "outright.go:57", after := #[{ on := 55, ground := Go.Ground.guard }], guard := some (55, true) } : Oper)) (v := ?_) rfl (by kernel_rfl) (by kernel_rfl) (by kernel_rfl) (fun _ _ _ h => h) (Or.inl ⟨by rfl, ?_⟩) ?_
    rotate_left
    · intro _; go_simp; (try with_reducible rfl)
    simp only [Act.put, List.setIfInBounds_toArray, List.set_cons_zero, List.set_cons_succ]
    refine wpAny_ready (rs := [57]) (by kernel_rfl) (by simp) ?_
    refine AllReady.cons (o := ({ dst := some 357, op := Go.Op.call { callee := Go.Callee.value (Go.Operand.func 22), args := #[Go.Operand.tmp 356], argTypes := #[35] }, type := 4, pos := "outright.go:57", after := #[{ on := 56, ground := Go.Ground.data }, { on := 55, ground := Go.Ground.chain }, { on := 55, ground := Go.Ground.guard }], guard := some (55, true) } : Oper)) rfl (fun K hK => ?_) AllReady.nil
    go_simp
    refine (ma0 _).mono ?_
    rintro e wr7 ⟨rfl, hb⟩
    have HR7 := Lib.hid (below_trans' HR6.out ⟨hb.os, hb.tape, hb.output, hb.size, hb.block⟩)
    clear hb
    try dsimp only
    refine hK _ _ ?_; clear hK K
    try simp only [Act.put, List.setIfInBounds_toArray, List.set_cons_zero, List.set_cons_succ]
    refine wpAny_take (i := 58) (oi := ({ dst := some 358, op := Go.Op.unOp Go.UnOp.not 4 (Go.Operand.tmp 357), type := 4, pos := "outright.go:57", after := #[{ on := 57, ground := Go.Ground.data }, { on := 55, ground := Go.Ground.guard }], guard := some (55, true) } : Oper)) (v := ?_) rfl (by kernel_rfl) (by kernel_rfl) (by kernel_rfl) (fun _ _ _ h => h) (Or.inl ⟨by rfl, ?_⟩) ?_
    rotate_left
    · intro _; go_simp; (try with_reducible rfl)
    simp only [Act.put, List.setIfInBounds_toArray, List.set_cons_zero, List.set_cons_succ]
    refine wpAny_take (i := 59) (oi := ({ dst := some 359, op := Go.Op.pick (Go.Operand.tmp 355) (Go.Operand.tmp 358) (Go.Operand.const (Go.Value.bool false)), type := 4, pos := "outright.go:57", after := #[{ on := 55, ground := Go.Ground.data }, { on := 58, ground := Go.Ground.data }], guard := none } : Oper)) (v := ?_) rfl (by kernel_rfl) (by kernel_rfl) (by kernel_rfl) (fun _ _ _ h => h) (Or.inl ⟨by rfl, ?_⟩) ?_
    rotate_left
    · intro _; go_simp; (try with_reducible rfl)
    simp only [Act.put, List.setIfInBounds_toArray, List.set_cons_zero, List.set_cons_succ]
    refine wpAny_take (i := 60) (oi := ({ dst := some 360, op := Go.Op.move (Go.Operand.tmp 359), type := 4, pos := "outright.go:57", after := #[{ on := 59, ground := Go.Ground.data }, { on := 57, ground := Go.Ground.chain }], guard := none } : Oper)) (v := ?_) rfl (by kernel_rfl) (by kernel_rfl) (by kernel_rfl) (fun _ _ _ h => h) (Or.inl ⟨by rfl, ?_⟩) ?_
    rotate_left
    · intro _; go_simp; (try with_reducible rfl)
    simp only [Act.put, List.setIfInBounds_toArray, List.set_cons_zero, List.set_cons_succ]
    refine wpAny_take (i := 61) (oi := ({ dst := some 361, op := Go.Op.build 35 #[], type := 35, pos := "outright.go:57", after := #[{ on := 60, ground := Go.Ground.guard }], guard := some (60, true) } : Oper)) (v := ?_) rfl (by kernel_rfl) (by kernel_rfl) (by kernel_rfl) (fun _ _ _ h => h) (Or.inl ⟨by rfl, ?_⟩) ?_
    rotate_left
    · intro _; go_simp; (try with_reducible rfl)
    simp only [Act.put, List.setIfInBounds_toArray, List.set_cons_zero, List.set_cons_succ]
    refine wpAny_ready (rs := [62]) (by kernel_rfl) (by simp) ?_
    refine AllReady.cons (o := ({ dst := some 362, op := Go.Op.call { callee := Go.Callee.value (Go.Operand.func 24), args := #[Go.Operand.tmp 361], argTypes := #[35] }, type := 3, pos := "outright.go:57", after := #[{ on := 61, ground := Go.Ground.data }, { on := 60, ground := Go.Ground.chain }, { on := 60, ground := Go.Ground.guard }], guard := some (60, true) } : Oper)) rfl (fun K hK => ?_) AllReady.nil
    go_simp
    refine (sz0 _).mono ?_
    rintro e wr8 ⟨rfl, hb⟩
    have HR8 := Lib.hid (below_trans' HR7.out ⟨hb.os, hb.tape, hb.output, hb.size, hb.block⟩)
    clear hb
    try dsimp only
    refine hK _ _ ?_; clear hK K
    try simp only [Act.put, List.setIfInBounds_toArray, List.set_cons_zero, List.set_cons_succ]
    refine wpAny_take (i := 63) (oi := ({ dst := some 363, op := Go.Op.binOp Go.BinOp.eql 3 (Go.Operand.tmp 362) (Go.Operand.const (Go.Value.int Go.IntKind.i64 0)) 3, type := 4, pos := "outright.go:57", after := #[{ on := 62, ground := Go.Ground.data }, { on := 60, ground := Go.Ground.guard }], guard := some (60, true) } : Oper)) (v := ?_) rfl (by kernel_rfl) (by kernel_rfl) (by kernel_rfl) (fun _ _ _ h => h) (Or.inl ⟨by rfl, ?_⟩) ?_
    rotate_left
    · intro _; go_simp; (try with_reducible rfl)
    simp only [Act.put, List.setIfInBounds_toArray, List.set_cons_zero, List.set_cons_succ]
    refine wpAny_take (i := 64) (oi := ({ dst := some 364, op := Go.Op.pick (Go.Operand.tmp 360) (Go.Operand.tmp 363) (Go.Operand.const (Go.Value.bool false)), type := 4, pos := "outright.go:57", after := #[{ on := 60, ground := Go.Ground.data }, { on := 63, ground := Go.Ground.data }], guard := none } : Oper)) (v := ?_) rfl (by kernel_rfl) (by kernel_rfl) (by kernel_rfl) (fun _ _ _ h => h) (Or.inl ⟨by rfl, ?_⟩) ?_
    rotate_left
    · intro _; go_simp; (try with_reducible rfl)
    simp only [Act.put, List.setIfInBounds_toArray, List.set_cons_zero, List.set_cons_succ]
    refine wpAny_take (i := 65) (oi := ({ dst := some 365, op := Go.Op.move (Go.Operand.tmp 364), type := 4, pos := "outright.go:57", after := #[{ on := 64, ground := Go.Ground.data }, { on := 62, ground := Go.Ground.chain }], guard := none } : Oper)) (v := ?_) rfl (by kernel_rfl) (by kernel_rfl) (by kernel_rfl) (fun _ _ _ h => h) (Or.inl ⟨by rfl, ?_⟩) ?_
    rotate_left
    · intro _; go_simp; (try with_reducible rfl)
    simp only [Act.put, List.setIfInBounds_toArray, List.set_cons_zero, List.set_cons_succ]
    refine wpAny_take (i := 66) (oi := ({ dst := some 366, op := Go.Op.makeInterface 80 (Go.Operand.const (Go.Value.string { data := #[97, 98, 99] })), type := 33, pos := "outright.go:57", after := #[{ on := 65, ground := Go.Ground.guard }], guard := some (65, true) } : Oper)) (v := ?_) rfl (by kernel_rfl) (by kernel_rfl) (by kernel_rfl) (fun _ _ _ h => h) (Or.inl ⟨by rfl, ?_⟩) ?_
    rotate_left
    · intro _; go_simp; (try with_reducible rfl)
    simp only [Act.put, List.setIfInBounds_toArray, List.set_cons_zero, List.set_cons_succ]
    refine wpAny_take (i := 67) (oi := ({ dst := some 367, op := Go.Op.build 35 #[(0, Go.Operand.const (Go.Value.int Go.IntKind.i64 1)), (1, Go.Operand.tmp 366)], type := 35, pos := "outright.go:57", after := #[{ on := 66, ground := Go.Ground.data }, { on := 65, ground := Go.Ground.guard }], guard := some (65, true) } : Oper)) (v := ?_) rfl (by kernel_rfl) (by kernel_rfl) (by kernel_rfl) (fun _ _ _ h => h) (Or.inl ⟨by rfl, ?_⟩) ?_
    rotate_left
    · intro _; go_simp; (try with_reducible rfl)
    simp only [Act.put, List.setIfInBounds_toArray, List.set_cons_zero, List.set_cons_succ]
    refine wpAny_ready (rs := [68]) (by kernel_rfl) (by simp) ?_
    refine AllReady.cons (o := ({ dst := some 368, op := Go.Op.call { callee := Go.Callee.value (Go.Operand.func 24), args := #[Go.Operand.tmp 367], argTypes := #[35] }, type := 3, pos := "outright.go:57", after := #[{ on := 67, ground := Go.Ground.data }, { on := 65, ground := Go.Ground.chain }, { on := 65, ground := Go.Ground.guard }], guard := some (65, true) } : Oper)) rfl (fun K hK => ?_) AllReady.nil
    go_simp
    refine (sz5 _).mono ?_
    rintro e wr9 ⟨rfl, hb⟩
    have HR9 := Lib.hid (below_trans' HR8.out ⟨hb.os, hb.tape, hb.output, hb.size, hb.block⟩)
    clear hb
    try dsimp only
    refine hK _ _ ?_; clear hK K
    try simp only [Act.put, List.setIfInBounds_toArray, List.set_cons_zero, List.set_cons_succ]
    refine wpAny_take (i := 69) (oi := ({ dst := some 369, op := Go.Op.binOp Go.BinOp.eql 3 (Go.Operand.tmp 368) (Go.Operand.const (Go.Value.int Go.IntKind.i64 5)) 3, type := 4, pos := "outright.go:57", after := #[{ on := 68, ground := Go.Ground.data }, { on := 65, ground := Go.Ground.guard }], guard := some (65, true) } : Oper)) (v := ?_) rfl (by kernel_rfl) (by kernel_rfl) (by kernel_rfl) (fun _ _ _ h => h) (Or.inl ⟨by rfl, ?_⟩) ?_
    rotate_left
    · intro _; go_simp; (try with_reducible rfl)
    simp only [Act.put, List.setIfInBounds_toArray, List.set_cons_zero, List.set_cons_succ]
    refine wpAny_take (i := 70) (oi := ({ dst := some 370, op := Go.Op.pick (Go.Operand.tmp 365) (Go.Operand.tmp 369) (Go.Operand.const (Go.Value.bool false)), type := 4, pos := "outright.go:57", after := #[{ on := 65, ground := Go.Ground.data }, { on := 69, ground := Go.Ground.data }], guard := none } : Oper)) (v := ?_) rfl (by kernel_rfl) (by kernel_rfl) (by kernel_rfl) (fun _ _ _ h => h) (Or.inl ⟨by rfl, ?_⟩) ?_
    rotate_left
    · intro _; go_simp; (try with_reducible rfl)
    simp only [Act.put, List.setIfInBounds_toArray, List.set_cons_zero, List.set_cons_succ]
    refine wpAny_take (i := 71) (oi := ({ dst := some 0, op := Go.Op.assign (Go.Operand.tmp 370), type := 4, pos := "outright.go:57", after := #[{ on := 70, ground := Go.Ground.data }, { on := 68, ground := Go.Ground.chain }, { on := 0, ground := Go.Ground.phase }, { on := 1, ground := Go.Ground.phase }, { on := 2, ground := Go.Ground.phase }, { on := 3, ground := Go.Ground.phase }, { on := 4, ground := Go.Ground.phase }, { on := 5, ground := Go.Ground.phase }, { on := 6, ground := Go.Ground.phase }, { on := 7, ground := Go.Ground.phase }, { on := 8, ground := Go.Ground.phase }, { on := 9, ground := Go.Ground.phase }, { on := 10, ground := Go.Ground.phase }, { on := 11, ground := Go.Ground.phase }, { on := 12, ground := Go.Ground.phase }, { on := 13, ground := Go.Ground.phase }, { on := 14, ground := Go.Ground.phase }, { on := 15, ground := Go.Ground.phase }, { on := 16, ground := Go.Ground.phase }, { on := 17, ground := Go.Ground.phase }, { on := 18, ground := Go.Ground.phase }, { on := 19, ground := Go.Ground.phase }, { on := 20, ground := Go.Ground.phase }, { on := 21, ground := Go.Ground.phase }, { on := 22, ground := Go.Ground.phase }, { on := 23, ground := Go.Ground.phase }, { on := 24, ground := Go.Ground.phase }, { on := 25, ground := Go.Ground.phase }, { on := 26, ground := Go.Ground.phase }, { on := 27, ground := Go.Ground.phase }, { on := 28, ground := Go.Ground.phase }, { on := 29, ground := Go.Ground.phase }, { on := 30, ground := Go.Ground.phase }, { on := 31, ground := Go.Ground.phase }, { on := 32, ground := Go.Ground.phase }, { on := 33, ground := Go.Ground.phase }, { on := 34, ground := Go.Ground.phase }, { on := 35, ground := Go.Ground.phase }, { on := 36, ground := Go.Ground.phase }, { on := 37, ground := Go.Ground.phase }, { on := 38, ground := Go.Ground.phase }, { on := 39, ground := Go.Ground.phase }, { on := 40, ground := Go.Ground.phase }, { on := 41, ground := Go.Ground.phase }, { on := 42, ground := Go.Ground.phase }, { on := 43, ground := Go.Ground.phase }, { on := 44, ground := Go.Ground.phase }, { on := 45, ground := Go.Ground.phase }, { on := 46, ground := Go.Ground.phase }, { on := 47, ground := Go.Ground.phase }, { on := 48, ground := Go.Ground.phase }, { on := 49, ground := Go.Ground.phase }, { on := 50, ground := Go.Ground.phase }, { on := 51, ground := Go.Ground.phase }, { on := 52, ground := Go.Ground.phase }, { on := 53, ground := Go.Ground.phase }, { on := 54, ground := Go.Ground.phase }, { on := 55, ground := Go.Ground.phase }, { on := 56, ground := Go.Ground.phase }, { on := 57, ground := Go.Ground.phase }, { on := 58, ground := Go.Ground.phase }, { on := 59, ground := Go.Ground.phase }, { on := 60, ground := Go.Ground.phase }, { on := 61, ground := Go.Ground.phase }, { on := 62, ground := Go.Ground.phase }, { on := 63, ground := Go.Ground.phase }, { on := 64, ground := Go.Ground.phase }, { on := 65, ground := Go.Ground.phase }, { on := 66, ground := Go.Ground.phase }, { on := 67, ground := Go.Ground.phase }, { on := 68, ground := Go.Ground.phase }, { on := 69, ground := Go.Ground.phase }, { on := 70, ground := Go.Ground.phase }], guard := none } : Oper)) (v := ?_) rfl (by kernel_rfl) (by kernel_rfl) (by kernel_rfl) (fun _ _ _ h => h) (Or.inl ⟨by rfl, ?_⟩) ?_
    rotate_left
    · intro _; go_simp; (try with_reducible rfl)
    simp only [Act.put, List.setIfInBounds_toArray, List.set_cons_zero]
    refine wpAny_done (by kernel_rfl) ?_ _
    go_wp2
    go_ret
    exact ⟨rfl, HR9.out⟩
  · skip
    go_simp
    refine hK _ _ ?_; clear hK K
    try simp only [Act.put, List.setIfInBounds_toArray, List.set_cons_zero, List.set_cons_succ]
    refine wpAny_ready (rs := [48]) (by kernel_rfl) (by simp) ?_
    refine AllReady.cons (o := ({ dst := some 348, op := Go.Op.buildSlice 27 1 #[(0, Go.Operand.tmp 347)], type := 27, pos := "outright.go:57", after := #[{ on := 47, ground := Go.Ground.data }, { on := 45, ground := Go.Ground.guard }], guard := some (45, true) } : Oper)) rfl (fun K hK => ?_) AllReady.nil
    go_simp
    refine hK _ _ ?_; clear hK K
    try simp only [Act.put, List.setIfInBounds_toArray, List.set_cons_zero, List.set_cons_succ]
    refine wpAny_ready (rs := [52]) (by kernel_rfl) (by simp) ?_
    refine AllReady.cons (o := ({ dst := some 352, op := Go.Op.call { callee := Go.Callee.value (Go.Operand.func 38), args := #[Go.Operand.tmp 348, Go.Operand.tmp 351], argTypes := #[27, 27] }, type := 4, pos := "outright.go:57", after := #[{ on := 48, ground := Go.Ground.data }, { on := 51, ground := Go.Ground.data }, { on := 45, ground := Go.Ground.chain }, { on := 45, ground := Go.Ground.guard }], guard := some (45, true) } : Oper)) rfl (fun K hK => ?_) AllReady.nil
    go_simp
    first
      | (refine (pE _ _ _ (by exact gsame (xa wr5) rfl) (by exact gsame (xb wr5) rfl)).mono ?_; rintro e wr6 ⟨rfl, hb⟩; have HR6 := Lib.hid (below_pair HR5.out.b oA oB ⟨hb.os, hb.tape, hb.output, hb.size, hb.block⟩))
      | (refine (pE _ _ _ (by exact gsame (ya wr5) rfl) (by exact gsame (yb wr5) rfl)).mono ?_; rintro e wr6 ⟨rfl, hb⟩; have HR6 := Lib.hid (below_pair HR5.out.b oB oA ⟨hb.os, hb.tape, hb.output, hb.size, hb.block⟩))
    clear hb
    try dsimp only
    refine hK _ _ ?_; clear hK K
    try simp only [Act.put, List.setIfInBounds_toArray, List.set_cons_zero, List.set_cons_succ]
    refine wpAny_take (i := 53) (oi := ({ dst := some 353, op := Go.Op.unOp Go.UnOp.not 4 (Go.Operand.tmp 352), type := 4, pos := "outright.go:57", after := #[{ on := 52, ground := Go.Ground.data }, { on := 45, ground := Go.Ground.guard }], guard := some (45, true) } : Oper)) (v := ?_) rfl (by kernel_rfl) (by kernel_rfl) (by kernel_rfl) (fun _ _ _ h => h) (Or.inl ⟨by rfl, ?_⟩) ?_
    rotate_left
    · intro _; go_simp; (try with_reducible rfl)
    simp only [Act.put, List.setIfInBounds_toArray, List.set_cons_zero, List.set_cons_succ]
    refine wpAny_take (i := 54) (oi := ({ dst := some 354, op := Go.Op.pick (Go.Operand.tmp 345) (Go.Operand.tmp 353) (Go.Operand.const (Go.Value.bool false)), type := 4, pos := "outright.go:57", after := #[{ on := 45, ground := Go.Ground.data }, { on := 53, ground := Go.Ground.data }], guard := none } : Oper)) (v := ?_) rfl (by kernel_rfl) (by kernel_rfl) (by kernel_rfl) (fun _ _ _ h => h) (Or.inl ⟨by rfl, ?_⟩) ?_
    rotate_left
    · intro _; go_simp; (try with_reducible rfl)
    simp only [Act.put, List.setIfInBounds_toArray, List.set_cons_zero, List.set_cons_succ]
    refine wpAny_take (i := 55) (oi := ({ dst := some 355, op := Go.Op.move (Go.Operand.tmp 354), type := 4, pos := "outright.go:57", after := #[{ on := 54, ground := Go.Ground.data }, { on := 52, ground := Go.Ground.chain }], guard := none } : Oper)) (v := ?_) rfl (by kernel_rfl) (by kernel_rfl) (by kernel_rfl) (fun _ _ _ h => h) (Or.inl ⟨by rfl, ?_⟩) ?_
    rotate_left
    · intro _; go_simp; (try with_reducible rfl)
    simp only [Act.put, List.setIfInBounds_toArray, List.set_cons_zero, List.set_cons_succ]
    refine wpAny_take (i := 56) (oi := ({ dst := some 356, op := Go.Op.build 35 #[], type := 35, pos := "outright.go:57", after := #[{ on := 55, ground := Go.Ground.guard }], guard := some (55, true) } : Oper)) (v := ?_) rfl (by kernel_rfl) (by kernel_rfl) (by kernel_rfl) (fun _ _ _ h => h) (Or.inl ⟨by rfl, ?_⟩) ?_
    rotate_left
    · intro _; go_simp; (try with_reducible rfl)
    simp only [Act.put, List.setIfInBounds_toArray, List.set_cons_zero, List.set_cons_succ]
    refine wpAny_ready (rs := [57]) (by kernel_rfl) (by simp) ?_
    refine AllReady.cons (o := ({ dst := some 357, op := Go.Op.call { callee := Go.Callee.value (Go.Operand.func 22), args := #[Go.Operand.tmp 356], argTypes := #[35] }, type := 4, pos := "outright.go:57", after := #[{ on := 56, ground := Go.Ground.data }, { on := 55, ground := Go.Ground.chain }, { on := 55, ground := Go.Ground.guard }], guard := some (55, true) } : Oper)) rfl (fun K hK => ?_) AllReady.nil
    go_simp
    refine (ma0 _).mono ?_
    rintro e wr7 ⟨rfl, hb⟩
    have HR7 := Lib.hid (below_trans' HR6.out ⟨hb.os, hb.tape, hb.output, hb.size, hb.block⟩)
    clear hb
    try dsimp only
    refine hK _ _ ?_; clear hK K
    try simp only [Act.put, List.setIfInBounds_toArray, List.set_cons_zero, List.set_cons_succ]
    refine wpAny_take (i := 58) (oi := ({ dst := some 358, op := Go.Op.unOp Go.UnOp.not 4 (Go.Operand.tmp 357), type := 4, pos := "outright.go:57", after := #[{ on := 57, ground := Go.Ground.data }, { on := 55, ground := Go.Ground.guard }], guard := some (55, true) } : Oper)) (v := ?_) rfl (by kernel_rfl) (by kernel_rfl) (by kernel_rfl) (fun _ _ _ h => h) (Or.inl ⟨by rfl, ?_⟩) ?_
    rotate_left
    · intro _; go_simp; (try with_reducible rfl)
    simp only [Act.put, List.setIfInBounds_toArray, List.set_cons_zero, List.set_cons_succ]
    refine wpAny_take (i := 59) (oi := ({ dst := some 359, op := Go.Op.pick (Go.Operand.tmp 355) (Go.Operand.tmp 358) (Go.Operand.const (Go.Value.bool false)), type := 4, pos := "outright.go:57", after := #[{ on := 55, ground := Go.Ground.data }, { on := 58, ground := Go.Ground.data }], guard := none } : Oper)) (v := ?_) rfl (by kernel_rfl) (by kernel_rfl) (by kernel_rfl) (fun _ _ _ h => h) (Or.inl ⟨by rfl, ?_⟩) ?_
    rotate_left
    · intro _; go_simp; (try with_reducible rfl)
    simp only [Act.put, List.setIfInBounds_toArray, List.set_cons_zero, List.set_cons_succ]
    refine wpAny_take (i := 60) (oi := ({ dst := some 360, op := Go.Op.move (Go.Operand.tmp 359), type := 4, pos := "outright.go:57", after := #[{ on := 59, ground := Go.Ground.data }, { on := 57, ground := Go.Ground.chain }], guard := none } : Oper)) (v := ?_) rfl (by kernel_rfl) (by kernel_rfl) (by kernel_rfl) (fun _ _ _ h => h) (Or.inl ⟨by rfl, ?_⟩) ?_
    rotate_left
    · intro _; go_simp; (try with_reducible rfl)
    simp only [Act.put, List.setIfInBounds_toArray, List.set_cons_zero, List.set_cons_succ]
    refine wpAny_take (i := 61) (oi := ({ dst := some 361, op := Go.Op.build 35 #[], type := 35, pos := "outright.go:57", after := #[{ on := 60, ground := Go.Ground.guard }], guard := some (60, true) } : Oper)) (v := ?_) rfl (by kernel_rfl) (by kernel_rfl) (by kernel_rfl) (fun _ _ _ h => h) (Or.inl ⟨by rfl, ?_⟩) ?_
    rotate_left
    · intro _; go_simp; (try with_reducible rfl)
    simp only [Act.put, List.setIfInBounds_toArray, List.set_cons_zero, List.set_cons_succ]
    refine wpAny_ready (rs := [62]) (by kernel_rfl) (by simp) ?_
    refine AllReady.cons (o := ({ dst := some 362, op := Go.Op.call { callee := Go.Callee.value (Go.Operand.func 24), args := #[Go.Operand.tmp 361], argTypes := #[35] }, type := 3, pos := "outright.go:57", after := #[{ on := 61, ground := Go.Ground.data }, { on := 60, ground := Go.Ground.chain }, { on := 60, ground := Go.Ground.guard }], guard := some (60, true) } : Oper)) rfl (fun K hK => ?_) AllReady.nil
    go_simp
    refine (sz0 _).mono ?_
    rintro e wr8 ⟨rfl, hb⟩
    have HR8 := Lib.hid (below_trans' HR7.out ⟨hb.os, hb.tape, hb.output, hb.size, hb.block⟩)
    clear hb
    try dsimp only
    refine hK _ _ ?_; clear hK K
    try simp only [Act.put, List.setIfInBounds_toArray, List.set_cons_zero, List.set_cons_succ]
    refine wpAny_take (i := 63) (oi := ({ dst := some 363, op := Go.Op.binOp Go.BinOp.eql 3 (Go.Operand.tmp 362) (Go.Operand.const (Go.Value.int Go.IntKind.i64 0)) 3, type := 4, pos := "outright.go:57", after := #[{ on := 62, ground := Go.Ground.data }, { on := 60, ground := Go.Ground.guard }], guard := some (60, true) } : Oper)) (v := ?_) rfl (by kernel_rfl) (by kernel_rfl) (by kernel_rfl) (fun _ _ _ h => h) (Or.inl ⟨by rfl, ?_⟩) ?_
    rotate_left
    · intro _; go_simp; (try with_reducible rfl)
    simp only [Act.put, List.setIfInBounds_toArray, List.set_cons_zero, List.set_cons_succ]
    refine wpAny_take (i := 64) (oi := ({ dst := some 364, op := Go.Op.pick (Go.Operand.tmp 360) (Go.Operand.tmp 363) (Go.Operand.const (Go.Value.bool false)), type := 4, pos := "outright.go:57", after := #[{ on := 60, ground := Go.Ground.data }, { on := 63, ground := Go.Ground.data }], guard := none } : Oper)) (v := ?_) rfl (by kernel_rfl) (by kernel_rfl) (by kernel_rfl) (fun _ _ _ h => h) (Or.inl ⟨by rfl, ?_⟩) ?_
    rotate_left
    · intro _; go_simp; (try with_reducible rfl)
    simp only [Act.put, List.setIfInBounds_toArray, List.set_cons_zero, List.set_cons_succ]
    refine wpAny_take (i := 65) (oi := ({ dst := some 365, op := Go.Op.move (Go.Operand.tmp 364), type := 4, pos := "outright.go:57", after := #[{ on := 64, ground := Go.Ground.data }, { on := 62, ground := Go.Ground.chain }], guard := none } : Oper)) (v := ?_) rfl (by kernel_rfl) (by kernel_rfl) (by kernel_rfl) (fun _ _ _ h => h) (Or.inl ⟨by rfl, ?_⟩) ?_
    rotate_left
    · intro _; go_simp; (try with_reducible rfl)
    simp only [Act.put, List.setIfInBounds_toArray, List.set_cons_zero, List.set_cons_succ]
    refine wpAny_take (i := 66) (oi := ({ dst := some 366, op := Go.Op.makeInterface 80 (Go.Operand.const (Go.Value.string { data := #[97, 98, 99] })), type := 33, pos := "outright.go:57", after := #[{ on := 65, ground := Go.Ground.guard }], guard := some (65, true) } : Oper)) (v := ?_) rfl (by kernel_rfl) (by kernel_rfl) (by kernel_rfl) (fun _ _ _ h => h) (Or.inl ⟨by rfl, ?_⟩) ?_
    rotate_left
    · intro _; go_simp; (try with_reducible rfl)
    simp only [Act.put, List.setIfInBounds_toArray, List.set_cons_zero, List.set_cons_succ]
    refine wpAny_take (i := 67) (oi := ({ dst := some 367, op := Go.Op.build 35 #[(0, Go.Operand.const (Go.Value.int Go.IntKind.i64 1)), (1, Go.Operand.tmp 366)], type := 35, pos := "outright.go:57", after := #[{ on := 66, ground := Go.Ground.data }, { on := 65, ground := Go.Ground.guard }], guard := some (65, true) } : Oper)) (v := ?_) rfl (by kernel_rfl) (by kernel_rfl) (by kernel_rfl) (fun _ _ _ h => h) (Or.inl ⟨by rfl, ?_⟩) ?_
    rotate_left
    · intro _; go_simp; (try with_reducible rfl)
    simp only [Act.put, List.setIfInBounds_toArray, List.set_cons_zero, List.set_cons_succ]
    refine wpAny_ready (rs := [68]) (by kernel_rfl) (by simp) ?_
    refine AllReady.cons (o := ({ dst := some 368, op := Go.Op.call { callee := Go.Callee.value (Go.Operand.func 24), args := #[Go.Operand.tmp 367], argTypes := #[35] }, type := 3, pos := "outright.go:57", after := #[{ on := 67, ground := Go.Ground.data }, { on := 65, ground := Go.Ground.chain }, { on := 65, ground := Go.Ground.guard }], guard := some (65, true) } : Oper)) rfl (fun K hK => ?_) AllReady.nil
    go_simp
    refine (sz5 _).mono ?_
    rintro e wr9 ⟨rfl, hb⟩
    have HR9 := Lib.hid (below_trans' HR8.out ⟨hb.os, hb.tape, hb.output, hb.size, hb.block⟩)
    clear hb
    try dsimp only
    refine hK _ _ ?_; clear hK K
    try simp only [Act.put, List.setIfInBounds_toArray, List.set_cons_zero, List.set_cons_succ]
    refine wpAny_take (i := 69) (oi := ({ dst := some 369, op := Go.Op.binOp Go.BinOp.eql 3 (Go.Operand.tmp 368) (Go.Operand.const (Go.Value.int Go.IntKind.i64 5)) 3, type := 4, pos := "outright.go:57", after := #[{ on := 68, ground := Go.Ground.data }, { on := 65, ground := Go.Ground.guard }], guard := some (65, true) } : Oper)) (v := ?_) rfl (by kernel_rfl) (by kernel_rfl) (by kernel_rfl) (fun _ _ _ h => h) (Or.inl ⟨by rfl, ?_⟩) ?_
    rotate_left
    · intro _; go_simp; (try with_reducible rfl)
    simp only [Act.put, List.setIfInBounds_toArray, List.set_cons_zero, List.set_cons_succ]
    refine wpAny_take (i := 70) (oi := ({ dst := some 370, op := Go.Op.pick (Go.Operand.tmp 365) (Go.Operand.tmp 369) (Go.Operand.const (Go.Value.bool false)), type := 4, pos := "outright.go:57", after := #[{ on := 65, ground := Go.Ground.data }, { on := 69, ground := Go.Ground.data }], guard := none } : Oper)) (v := ?_) rfl (by kernel_rfl) (by kernel_rfl) (by kernel_rfl) (fun _ _ _ h => h) (Or.inl ⟨by rfl, ?_⟩) ?_
    rotate_left
    · intro _; go_simp; (try with_reducible rfl)
    simp only [Act.put, List.setIfInBounds_toArray, List.set_cons_zero, List.set_cons_succ]
    refine wpAny_take (i := 71) (oi := ({ dst := some 0, op := Go.Op.assign (Go.Operand.tmp 370), type := 4, pos := "outright.go:57", after := #[{ on := 70, ground := Go.Ground.data }, { on := 68, ground := Go.Ground.chain }, { on := 0, ground := Go.Ground.phase }, { on := 1, ground := Go.Ground.phase }, { on := 2, ground := Go.Ground.phase }, { on := 3, ground := Go.Ground.phase }, { on := 4, ground := Go.Ground.phase }, { on := 5, ground := Go.Ground.phase }, { on := 6, ground := Go.Ground.phase }, { on := 7, ground := Go.Ground.phase }, { on := 8, ground := Go.Ground.phase }, { on := 9, ground := Go.Ground.phase }, { on := 10, ground := Go.Ground.phase }, { on := 11, ground := Go.Ground.phase }, { on := 12, ground := Go.Ground.phase }, { on := 13, ground := Go.Ground.phase }, { on := 14, ground := Go.Ground.phase }, { on := 15, ground := Go.Ground.phase }, { on := 16, ground := Go.Ground.phase }, { on := 17, ground := Go.Ground.phase }, { on := 18, ground := Go.Ground.phase }, { on := 19, ground := Go.Ground.phase }, { on := 20, ground := Go.Ground.phase }, { on := 21, ground := Go.Ground.phase }, { on := 22, ground := Go.Ground.phase }, { on := 23, ground := Go.Ground.phase }, { on := 24, ground := Go.Ground.phase }, { on := 25, ground := Go.Ground.phase }, { on := 26, ground := Go.Ground.phase }, { on := 27, ground := Go.Ground.phase }, { on := 28, ground := Go.Ground.phase }, { on := 29, ground := Go.Ground.phase }, { on := 30, ground := Go.Ground.phase }, { on := 31, ground := Go.Ground.phase }, { on := 32, ground := Go.Ground.phase }, { on := 33, ground := Go.Ground.phase }, { on := 34, ground := Go.Ground.phase }, { on := 35, ground := Go.Ground.phase }, { on := 36, ground := Go.Ground.phase }, { on := 37, ground := Go.Ground.phase }, { on := 38, ground := Go.Ground.phase }, { on := 39, ground := Go.Ground.phase }, { on := 40, ground := Go.Ground.phase }, { on := 41, ground := Go.Ground.phase }, { on := 42, ground := Go.Ground.phase }, { on := 43, ground := Go.Ground.phase }, { on := 44, ground := Go.Ground.phase }, { on := 45, ground := Go.Ground.phase }, { on := 46, ground := Go.Ground.phase }, { on := 47, ground := Go.Ground.phase }, { on := 48, ground := Go.Ground.phase }, { on := 49, ground := Go.Ground.phase }, { on := 50, ground := Go.Ground.phase }, { on := 51, ground := Go.Ground.phase }, { on := 52, ground := Go.Ground.phase }, { on := 53, ground := Go.Ground.phase }, { on := 54, ground := Go.Ground.phase }, { on := 55, ground := Go.Ground.phase }, { on := 56, ground := Go.Ground.phase }, { on := 57, ground := Go.Ground.phase }, { on := 58, ground := Go.Ground.phase }, { on := 59, ground := Go.Ground.phase }, { on := 60, ground := Go.Ground.phase }, { on := 61, ground := Go.Ground.phase }, { on := 62, ground := Go.Ground.phase }, { on := 63, ground := Go.Ground.phase }, { on := 64, ground := Go.Ground.phase }, { on := 65, ground := Go.Ground.phase }, { on := 66, ground := Go.Ground.phase }, { on := 67, ground := Go.Ground.phase }, { on := 68, ground := Go.Ground.phase }, { on := 69, ground := Go.Ground.phase }, { on := 70, ground := Go.Ground.phase }], guard := none } : Oper)) (v := ?_) rfl (by kernel_rfl) (by kernel_rfl) (by kernel_rfl) (fun _ _ _ h => h) (Or.inl ⟨by rfl, ?_⟩) ?_
    rotate_left
    · intro _; go_simp; (try with_reducible rfl)
    simp only [Act.put, List.setIfInBounds_toArray, List.set_cons_zero]
    refine wpAny_done (by kernel_rfl) ?_ _
    go_wp2
    go_ret
    exact ⟨rfl, HR9.out⟩
theorem own : ownKnob Try.prog.godebug = none := by kernel_rfl
theorem laidOut : laidOutB Try.prog = true := by kernel_rfl
set_option maxRecDepth 100000 in
theorem lifted (os : Os) (started : os.Started) (H : Type) (enc : TypeId × Value → H) :
    ReturnsInHanded {} Try.checked os 6 .any (Rows.protoNamesSpec.pre6 enc Try.prog Try.f6 Rows.protoNamesRow.domain false) (Rows.protoNamesSpec.post enc Try.prog Try.f6 false true false false) := by
  refine returnsInHanded_of_change (C := Try.checked) own started (by kernel_rfl) Try.func6
    (ChangeSpec.witness6 (enc := enc) (C := Try.checked) false ⟨#[], #[], []⟩ 8 (by kernel_rfl) (by kernel_rfl) (by kernel_rfl) (by kernel_rfl)) ?_
  intro W base args ds gs before hval0 hW hcnd _
  have hval : ∀ (j : Nat) t v, Try.f6.params[j]? = some t → args[j]? = some v → Value.okWide Try.prog W .any base t v := hval0
  have hW' := hW
  obtain ⟨p, q, hA0, hV, rfl, hfz, hnd⟩ := hW
  have hA : DataW.TrodAll enc Try.prog W 0 (fun _ => true) true Try.f6.params.toList args.toList ds p := hA0
  rw [Try.params6] at hA hval
  obtain ⟨hargs, rfl, rfl⟩ := trodAll_nil hA
  obtain rfl : args = #[] := by cases args; simp_all
  obtain ⟨rfl, rfl⟩ := trodVars_none hV
  clear hA0 hval0
  refine (core   W ).mono fun e W' ⟨he, bel⟩ => ?_
  subst he
  exact ⟨_, rfl, _, _, _, [], _, [], hW', trodAll_mk1 (shut_bool Try.underlying4 _), trodAll_mk0, rfl, bel.frame _, fun h => by cases h⟩
theorem over : Rows.protoNamesRow.holds Try.pinned (OpenSpec.ofChange Rows.protoNamesSpec) :=
  OpenClaim.holds_of_wide 6 Try.f6 rfl rfl rfl rfl rfl rfl rfl ⟨rfl, rfl, rfl, rfl, rfl⟩ rfl rfl rfl rfl rfl (by kernel_rfl) Try.func6 (by kernel_rfl)
    (of_decide_eq_true (by kernel_rfl)) (by unfold Func.isWrapper; first | (rw [if_pos (by decide +kernel)]; kernel_rfl) | (rw [if_neg (by decide +kernel)]; exact ⟨rfl, rfl⟩))
    (fun os started H enc _ => lifted os started H enc)
theorem proved : Rows.ProtoNamesSaid := over
end Go.Proofs.Ytbckkfoenembmaa.protoNames
