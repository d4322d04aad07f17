/- Same. -/
import Derived.Test.YtbfkgbickjfcjaaUa
import Derived.Test.YtbfkgbickjfcjaaTy
namespace Go.Proofs.Ytbfkgbickjfcjaa
set_option linter.unusedVariables false
set_option linter.unusedSimpArgs false
open Go Go.RowKit
set_option maxRecDepth 100000
def sameS (s t : St) : Bool := s.rev == t.rev && (s.low == t.low && (rowEq eqE (listE ⟨#[]⟩ s) (listE ⟨#[]⟩ t) && rowEq eqV (sinceL ⟨#[]⟩ s.low s) (sinceL ⟨#[]⟩ t.low t)))
theorem listE_len (pf : ByteArray) (s : St) : (listE pf s).length ≤ s.L.length := by
  unfold listE
  exact List.length_filter_le _ _
set_option maxHeartbeats 4000000 in
theorem same_any (b c : Nat) (s t : St) (w : World) (hs : TrAt w b s) (ht : TrAt w c t) (hl : s.L.length ≤ 150000) (hm : t.L.length ≤ 150000) (fs : Few s) (ft : Few t) :
    Calls Try.prog 23 #[.pointer (some ⟨b, 0, none⟩), .pointer (some ⟨c, 0, none⟩)] w fun e w' => e = .returned (.bool (sameS s t)) ∧ Below w.heap.size w w' := by
  have HL1 : Hid (∀ W [Bl w W], Calls Try.prog 34 #[.pointer (some ⟨b, 0, none⟩), .string ⟨#[]⟩] W fun e w' => (∃ v, e = .returned v ∧ Ow 57 4 encE w' W.heap.size v (listE ⟨#[]⟩ s)) ∧ Below W.heap.size W w') := Lib.hid fun W i => list_any _ s ⟨#[]⟩ W (.inl ⟨b, rfl, hs.below i.h⟩) hl
  have HL2 : Hid (∀ W [Bl w W], Calls Try.prog 34 #[.pointer (some ⟨c, 0, none⟩), .string ⟨#[]⟩] W fun e w' => (∃ v, e = .returned v ∧ Ow 57 4 encE w' W.heap.size v (listE ⟨#[]⟩ t)) ∧ Below W.heap.size W w') := Lib.hid fun W i => list_any _ t ⟨#[]⟩ W (.inl ⟨c, rfl, ht.below i.h⟩) hm
  have HV1 : Hid (∀ W [Bl w W], Calls Try.prog 65 #[.pointer (some ⟨b, 0, none⟩), .string ⟨#[]⟩, .int .i64 s.low] W fun e w' => (∃ v, e = .returned v ∧ Ow 44 4 encV w' W.heap.size v (sinceL ⟨#[]⟩ s.low s)) ∧ Below W.heap.size W w') := Lib.hid fun W i => since_any b s ⟨#[]⟩ s.low W (hs.below i.h) (fs.all _ _) fs.each
  have HV2 : Hid (∀ W [Bl w W], Calls Try.prog 65 #[.pointer (some ⟨c, 0, none⟩), .string ⟨#[]⟩, .int .i64 t.low] W fun e w' => (∃ v, e = .returned v ∧ Ow 44 4 encV w' W.heap.size v (sinceL ⟨#[]⟩ t.low t)) ∧ Below W.heap.size W w') := Lib.hid fun W i => since_any c t ⟨#[]⟩ t.low W (ht.below i.h) (ft.all _ _) ft.each
  have k1 := Nat.le_trans (listE_len ⟨#[]⟩ s) hl
  have k2 := Nat.le_trans (listE_len ⟨#[]⟩ t) hm
  have k3 := fs.all ⟨#[]⟩ s.low
  have k4 := ft.all ⟨#[]⟩ t.low
  have HE := Lib.hid fun (W : World) (u v : Value) (hu : RAt encE W u (listE ⟨#[]⟩ s)) (hv : RAt encE W v (listE ⟨#[]⟩ t)) => equalE_any _ _ u v W hu hv (by omega) (by omega)
  have HQ := Lib.hid fun (W : World) (u v : Value) (hu : RAt encV W u (sinceL ⟨#[]⟩ s.low s)) (hv : RAt encV W v (sinceL ⟨#[]⟩ t.low t)) => equalV_any _ _ u v W hu hv (by omega) (by omega)
  obtain ⟨pe, pv, te, tv, hS⟩ := hs
  obtain ⟨pe', pv', te', tv', hT⟩ := ht
  have HSS : Hid (∀ W [Bl w W], W.cell? ⟨b, 2, none⟩ = some (.int .i64 s.rev) ∧ W.cell? ⟨b, 3, none⟩ = some (.int .i64 s.low) ∧ W.cell? ⟨c, 2, none⟩ = some (.int .i64 t.rev) ∧ W.cell? ⟨c, 3, none⟩ = some (.int .i64 t.low)) := Lib.hid fun W i => by
    obtain ⟨⟨-, -, a1, a2⟩, -⟩ := (hS.stay (Stay.below i.h) (i.h.block b (Array.getElem?_eq_some_iff.1 hS.blk).1)).cells
    obtain ⟨⟨-, -, a3, a4⟩, -⟩ := (hT.stay (Stay.below i.h) (i.h.block c (Array.getElem?_eq_some_iff.1 hT.blk).1)).cells
    exact ⟨a1, a2, a3, a4⟩
  obtain ⟨a1, a2, a3, a4⟩ := HSS.out w
  obtain ⟨r, hr⟩ : ∃ r, sameS s t = r := ⟨_, rfl⟩
  rw [hr]
  unfold sameS at hr
  generalize listE ⟨#[]⟩ s = l1 at *
  generalize listE ⟨#[]⟩ t = l2 at *
  generalize sinceL ⟨#[]⟩ s.low s = v1 at *
  generalize sinceL ⟨#[]⟩ t.low t = v2 at *
  clear hS hT k1 k2 k3 k4 fs ft hl hm
  cases h1 : s.rev == t.rev
  · rw [h1] at hr
    obtain rfl : r = false := by rw [← hr]; rfl
    clear hr HL1 HL2 HV1 HV2 HE HQ
    go_enter Try.func23, Try.ntmps23
    go_wp2_with fail
    go_big_quiet (fail)
    go_wp2
    go_ret
    exact ⟨rfl, below_drewN' (Below.refl _ _) _⟩
  rw [h1] at hr
  cases h2 : s.low == t.low
  · rw [h2] at hr
    obtain rfl : r = false := by rw [← hr]; rfl
    clear hr HL1 HL2 HV1 HV2 HE HQ
    go_enter Try.func23, Try.ntmps23
    go_wp2_with fail
    go_big_quiet (fail)
    go_wp2
    go_ret
    exact ⟨rfl, below_drewN' (Below.refl _ _) _⟩
  rw [h2] at hr
  cases h3 : rowEq eqE l1 l2
  · rw [h3] at hr HE
    obtain rfl : r = false := by rw [← hr]; rfl
    clear hr HV1 HV2 HQ
    have e1 : s.rev = t.rev := by simpa using h1
    have e2 : s.low = t.low := by simpa using h2
    generalize s.rev = sr at *
    generalize s.low = sl at *
    generalize t.rev = tr at *
    generalize t.low = tl at *
    subst e1 e2
    have h1 : (sr == sr) = true := by simp
    have h2 : (sl == sl) = true := by simp
    have i0 : Bl w w.drew := inferInstance
    go_enter Try.func23, Try.ntmps23
    go_wp2_with fail
    refine wp_region_held_drew (S := (fun w' => w'.cell? ⟨b, 2, none⟩ = some (.int .i64 sr) ∧ w'.cell? ⟨b, 3, none⟩ = some (.int .i64 sl) ∧ w'.cell? ⟨c, 2, none⟩ = some (.int .i64 sr) ∧ w'.cell? ⟨c, 3, none⟩ = some (.int .i64 sl))) (by kernel_rfl) (HSS.out _) (fun hHeld => ?_)
    refine wpAnyH_take (i := 0) (oi := ({ dst := some 14, op := Go.Op.move (Go.Operand.tmp 0), type := 25, pos := "tree.go:180", after := #[], guard := none } : Oper)) (v := .pointer (some ⟨b, 0, none⟩)) rfl (by kernel_rfl) (by kernel_rfl) (by kernel_rfl) (fun _ _ _ h => h) (Or.inl ⟨by rfl, fun _ _ => rfl⟩) (HSS.out _) ?_
    try simp only [Act.put, List.setIfInBounds_toArray, List.set_cons_zero, List.set_cons_succ]
    refine wpAnyH_take (i := 1) (oi := ({ dst := some 15, op := Go.Op.nilCheck (Go.Operand.tmp 14), type := 0, pos := "tree.go:180", after := #[{ on := 0, ground := Go.Ground.data }], guard := none } : Oper)) (v := .pointer (some ⟨b, 0, none⟩)) rfl (by kernel_rfl) (by kernel_rfl) (by kernel_rfl) (fun _ _ _ h => h) (Or.inl ⟨by rfl, fun _ _ => rfl⟩) (HSS.out _) ?_
    try simp only [Act.put, List.setIfInBounds_toArray, List.set_cons_zero, List.set_cons_succ]
    refine wpAnyH_take (i := 2) (oi := ({ dst := some 16, op := Go.Op.fieldAddr 94 (Go.Operand.tmp 15) 2, type := 0, pos := "tree.go:180", after := #[{ on := 1, ground := Go.Ground.data }], guard := none } : Oper)) (v := .pointer (some ⟨b, 2, none⟩)) rfl (by kernel_rfl) (by kernel_rfl) (by kernel_rfl) (fun _ _ _ h => h) (Or.inl ⟨by rfl, fun _ _ => rfl⟩) (HSS.out _) ?_
    try simp only [Act.put, List.setIfInBounds_toArray, List.set_cons_zero, List.set_cons_succ]
    refine wpAnyH_take (i := 3) (oi := ({ dst := some 17, op := Go.Op.load 2 (Go.Operand.tmp 16), type := 2, pos := "tree.go:180", after := #[{ on := 2, ground := Go.Ground.data }], guard := none } : Oper)) (v := .int .i64 sr) rfl (by kernel_rfl) (by kernel_rfl) (by kernel_rfl) (fun _ _ _ h => h) (Or.inl ⟨by rfl, fun w' hS => by (try dsimp only at hS); go_simp⟩) (HSS.out _) ?_
    try simp only [Act.put, List.setIfInBounds_toArray, List.set_cons_zero, List.set_cons_succ]
    refine wpAnyH_take (i := 4) (oi := ({ dst := some 18, op := Go.Op.move (Go.Operand.tmp 1), type := 25, pos := "tree.go:180", after := #[], guard := none } : Oper)) (v := .pointer (some ⟨c, 0, none⟩)) rfl (by kernel_rfl) (by kernel_rfl) (by kernel_rfl) (fun _ _ _ h => h) (Or.inl ⟨by rfl, fun _ _ => rfl⟩) (HSS.out _) ?_
    try simp only [Act.put, List.setIfInBounds_toArray, List.set_cons_zero, List.set_cons_succ]
    refine wpAnyH_take (i := 5) (oi := ({ dst := some 19, op := Go.Op.nilCheck (Go.Operand.tmp 18), type := 0, pos := "tree.go:180", after := #[{ on := 4, ground := Go.Ground.data }], guard := none } : Oper)) (v := .pointer (some ⟨c, 0, none⟩)) rfl (by kernel_rfl) (by kernel_rfl) (by kernel_rfl) (fun _ _ _ h => h) (Or.inl ⟨by rfl, fun _ _ => rfl⟩) (HSS.out _) ?_
    try simp only [Act.put, List.setIfInBounds_toArray, List.set_cons_zero, List.set_cons_succ]
    refine wpAnyH_take (i := 6) (oi := ({ dst := some 20, op := Go.Op.fieldAddr 94 (Go.Operand.tmp 19) 2, type := 0, pos := "tree.go:180", after := #[{ on := 5, ground := Go.Ground.data }], guard := none } : Oper)) (v := .pointer (some ⟨c, 2, none⟩)) rfl (by kernel_rfl) (by kernel_rfl) (by kernel_rfl) (fun _ _ _ h => h) (Or.inl ⟨by rfl, fun _ _ => rfl⟩) (HSS.out _) ?_
    try simp only [Act.put, List.setIfInBounds_toArray, List.set_cons_zero, List.set_cons_succ]
    refine wpAnyH_take (i := 7) (oi := ({ dst := some 21, op := Go.Op.load 2 (Go.Operand.tmp 20), type := 2, pos := "tree.go:180", after := #[{ on := 6, ground := Go.Ground.data }], guard := none } : Oper)) (v := .int .i64 sr) rfl (by kernel_rfl) (by kernel_rfl) (by kernel_rfl) (fun _ _ _ h => h) (Or.inl ⟨by rfl, fun w' hS => by (try dsimp only at hS); go_simp⟩) (HSS.out _) ?_
    try simp only [Act.put, List.setIfInBounds_toArray, List.set_cons_zero, List.set_cons_succ]
    refine wpAnyH_take (i := 8) (oi := ({ dst := some 22, op := Go.Op.binOp Go.BinOp.eql 2 (Go.Operand.tmp 17) (Go.Operand.tmp 21) 2, type := 4, pos := "tree.go:180", after := #[{ on := 3, ground := Go.Ground.data }, { on := 7, ground := Go.Ground.data }], guard := none } : Oper)) (v := .bool true) rfl (by kernel_rfl) (by kernel_rfl) (by kernel_rfl) (fun _ _ _ h => h) (Or.inl ⟨by rfl, fun w' hS => by (try dsimp only at hS); go_simp⟩) (HSS.out _) ?_
    try simp only [Act.put, List.setIfInBounds_toArray, List.set_cons_zero, List.set_cons_succ]
    refine wpAnyH_take (i := 9) (oi := ({ dst := some 23, op := Go.Op.move (Go.Operand.tmp 22), type := 4, pos := "tree.go:180", after := #[{ on := 8, ground := Go.Ground.data }], guard := none } : Oper)) (v := .bool true) rfl (by kernel_rfl) (by kernel_rfl) (by kernel_rfl) (fun _ _ _ h => h) (Or.inl ⟨by rfl, fun _ _ => rfl⟩) (HSS.out _) ?_
    try simp only [Act.put, List.setIfInBounds_toArray, List.set_cons_zero, List.set_cons_succ]
    refine wpAnyH_take (i := 10) (oi := ({ dst := some 24, op := Go.Op.move (Go.Operand.tmp 0), type := 25, pos := "tree.go:180", after := #[{ on := 9, ground := Go.Ground.guard }], guard := some (9, true) } : Oper)) (v := .pointer (some ⟨b, 0, none⟩)) rfl (by kernel_rfl) (by kernel_rfl) (by kernel_rfl) (fun _ _ _ h => h) (Or.inl ⟨by rfl, fun _ _ => rfl⟩) (HSS.out _) ?_
    try simp only [Act.put, List.setIfInBounds_toArray, List.set_cons_zero, List.set_cons_succ]
    refine wpAnyH_take (i := 11) (oi := ({ dst := some 25, op := Go.Op.nilCheck (Go.Operand.tmp 24), type := 0, pos := "tree.go:180", after := #[{ on := 10, ground := Go.Ground.data }, { on := 9, ground := Go.Ground.guard }], guard := some (9, true) } : Oper)) (v := .pointer (some ⟨b, 0, none⟩)) rfl (by kernel_rfl) (by kernel_rfl) (by kernel_rfl) (fun _ _ _ h => h) (Or.inl ⟨by rfl, fun _ _ => rfl⟩) (HSS.out _) ?_
    try simp only [Act.put, List.setIfInBounds_toArray, List.set_cons_zero, List.set_cons_succ]
    refine wpAnyH_take (i := 12) (oi := ({ dst := some 26, op := Go.Op.fieldAddr 94 (Go.Operand.tmp 25) 3, type := 0, pos := "tree.go:180", after := #[{ on := 11, ground := Go.Ground.data }, { on := 9, ground := Go.Ground.guard }], guard := some (9, true) } : Oper)) (v := .pointer (some ⟨b, 3, none⟩)) rfl (by kernel_rfl) (by kernel_rfl) (by kernel_rfl) (fun _ _ _ h => h) (Or.inl ⟨by rfl, fun _ _ => rfl⟩) (HSS.out _) ?_
    try simp only [Act.put, List.setIfInBounds_toArray, List.set_cons_zero, List.set_cons_succ]
    refine wpAnyH_take (i := 13) (oi := ({ dst := some 27, op := Go.Op.load 2 (Go.Operand.tmp 26), type := 2, pos := "tree.go:180", after := #[{ on := 12, ground := Go.Ground.data }, { on := 9, ground := Go.Ground.guard }], guard := some (9, true) } : Oper)) (v := .int .i64 sl) rfl (by kernel_rfl) (by kernel_rfl) (by kernel_rfl) (fun _ _ _ h => h) (Or.inl ⟨by rfl, fun w' hS => by (try dsimp only at hS); go_simp⟩) (HSS.out _) ?_
    try simp only [Act.put, List.setIfInBounds_toArray, List.set_cons_zero, List.set_cons_succ]
    refine wpAnyH_take (i := 14) (oi := ({ dst := some 28, op := Go.Op.move (Go.Operand.tmp 1), type := 25, pos := "tree.go:180", after := #[{ on := 9, ground := Go.Ground.guard }], guard := some (9, true) } : Oper)) (v := .pointer (some ⟨c, 0, none⟩)) rfl (by kernel_rfl) (by kernel_rfl) (by kernel_rfl) (fun _ _ _ h => h) (Or.inl ⟨by rfl, fun _ _ => rfl⟩) (HSS.out _) ?_
    try simp only [Act.put, List.setIfInBounds_toArray, List.set_cons_zero, List.set_cons_succ]
    refine wpAnyH_take (i := 15) (oi := ({ dst := some 29, op := Go.Op.nilCheck (Go.Operand.tmp 28), type := 0, pos := "tree.go:180", after := #[{ on := 14, ground := Go.Ground.data }, { on := 9, ground := Go.Ground.guard }], guard := some (9, true) } : Oper)) (v := .pointer (some ⟨c, 0, none⟩)) rfl (by kernel_rfl) (by kernel_rfl) (by kernel_rfl) (fun _ _ _ h => h) (Or.inl ⟨by rfl, fun _ _ => rfl⟩) (HSS.out _) ?_
    try simp only [Act.put, List.setIfInBounds_toArray, List.set_cons_zero, List.set_cons_succ]
    refine wpAnyH_take (i := 16) (oi := ({ dst := some 30, op := Go.Op.fieldAddr 94 (Go.Operand.tmp 29) 3, type := 0, pos := "tree.go:180", after := #[{ on := 15, ground := Go.Ground.data }, { on := 9, ground := Go.Ground.guard }], guard := some (9, true) } : Oper)) (v := .pointer (some ⟨c, 3, none⟩)) rfl (by kernel_rfl) (by kernel_rfl) (by kernel_rfl) (fun _ _ _ h => h) (Or.inl ⟨by rfl, fun _ _ => rfl⟩) (HSS.out _) ?_
    try simp only [Act.put, List.setIfInBounds_toArray, List.set_cons_zero, List.set_cons_succ]
    refine wpAnyH_take (i := 17) (oi := ({ dst := some 31, op := Go.Op.load 2 (Go.Operand.tmp 30), type := 2, pos := "tree.go:180", after := #[{ on := 16, ground := Go.Ground.data }, { on := 9, ground := Go.Ground.guard }], guard := some (9, true) } : Oper)) (v := .int .i64 sl) rfl (by kernel_rfl) (by kernel_rfl) (by kernel_rfl) (fun _ _ _ h => h) (Or.inl ⟨by rfl, fun w' hS => by (try dsimp only at hS); go_simp⟩) (HSS.out _) ?_
    try simp only [Act.put, List.setIfInBounds_toArray, List.set_cons_zero, List.set_cons_succ]
    refine wpAnyH_take (i := 18) (oi := ({ dst := some 32, op := Go.Op.binOp Go.BinOp.eql 2 (Go.Operand.tmp 27) (Go.Operand.tmp 31) 2, type := 4, pos := "tree.go:180", after := #[{ on := 13, ground := Go.Ground.data }, { on := 17, ground := Go.Ground.data }, { on := 9, ground := Go.Ground.guard }], guard := some (9, true) } : Oper)) (v := .bool true) rfl (by kernel_rfl) (by kernel_rfl) (by kernel_rfl) (fun _ _ _ h => h) (Or.inl ⟨by rfl, fun w' hS => by (try dsimp only at hS); go_simp⟩) (HSS.out _) ?_
    try simp only [Act.put, List.setIfInBounds_toArray, List.set_cons_zero, List.set_cons_succ]
    refine wpAnyH_take (i := 19) (oi := ({ dst := some 33, op := Go.Op.pick (Go.Operand.tmp 23) (Go.Operand.tmp 32) (Go.Operand.const (Go.Value.bool false)), type := 4, pos := "tree.go:180", after := #[{ on := 9, ground := Go.Ground.data }, { on := 18, ground := Go.Ground.data }], guard := none } : Oper)) (v := .bool true) rfl (by kernel_rfl) (by kernel_rfl) (by kernel_rfl) (fun _ _ _ h => h) (Or.inl ⟨by rfl, fun _ _ => rfl⟩) (HSS.out _) ?_
    try simp only [Act.put, List.setIfInBounds_toArray, List.set_cons_zero, List.set_cons_succ]
    refine wpAnyH_take (i := 20) (oi := ({ dst := some 34, op := Go.Op.move (Go.Operand.tmp 33), type := 4, pos := "tree.go:180", after := #[{ on := 19, ground := Go.Ground.data }, { on := 9, ground := Go.Ground.chain }], guard := none } : Oper)) (v := .bool true) rfl (by kernel_rfl) (by kernel_rfl) (by kernel_rfl) (fun _ _ _ h => h) (Or.inl ⟨by rfl, fun _ _ => rfl⟩) (HSS.out _) ?_
    try simp only [Act.put, List.setIfInBounds_toArray, List.set_cons_zero, List.set_cons_succ]
    refine wpAnyH_take (i := 21) (oi := ({ dst := some 35, op := Go.Op.move (Go.Operand.tmp 0), type := 25, pos := "tree.go:180", after := #[{ on := 20, ground := Go.Ground.guard }], guard := some (20, true) } : Oper)) (v := .pointer (some ⟨b, 0, none⟩)) rfl (by kernel_rfl) (by kernel_rfl) (by kernel_rfl) (fun _ _ _ h => h) (Or.inl ⟨by rfl, fun _ _ => rfl⟩) (HSS.out _) ?_
    try simp only [Act.put, List.setIfInBounds_toArray, List.set_cons_zero, List.set_cons_succ]
    refine wpAnyH_take (i := 23) (oi := ({ dst := some 37, op := Go.Op.move (Go.Operand.tmp 1), type := 25, pos := "tree.go:180", after := #[{ on := 20, ground := Go.Ground.guard }], guard := some (20, true) } : Oper)) (v := .pointer (some ⟨c, 0, none⟩)) rfl (by kernel_rfl) (by kernel_rfl) (by kernel_rfl) (fun _ _ _ h => h) (Or.inl ⟨by rfl, fun _ _ => rfl⟩) (HSS.out _) ?_
    try simp only [Act.put, List.setIfInBounds_toArray, List.set_cons_zero, List.set_cons_succ]
    refine wpAnyH_ready (rs := [22]) (by kernel_rfl) (by simp) (AllReadyH.cons (o := ({ dst := some 36, op := Go.Op.call { callee := Go.Callee.value (Go.Operand.func 34), args := #[Go.Operand.tmp 35, Go.Operand.const (Go.Value.string { data := #[] })], argTypes := #[25, 9] }, type := 28, pos := "tree.go:180", after := #[{ on := 21, ground := Go.Ground.data }, { on := 20, ground := Go.Ground.chain }, { on := 20, ground := Go.Ground.guard }], guard := some (20, true) } : Oper)) rfl (fun K hK => ?_) AllReadyH.nil)
    go_simp
    refine (HL1.out _).mono ?_
    rintro e w1 ⟨⟨u1, rfl, h1⟩, hb1⟩
    have i1 : Bl w w1 := Bl.tr inferInstance hb1
    have H1 := Lib.hid h1.at
    clear h1 hb1
    refine hK.out _ _ (HSS.out _) (fun hHeld => ?_)
    clear hK K hHeld
    try simp only [Act.put, List.setIfInBounds_toArray, List.set_cons_zero, List.set_cons_succ]
    refine wpAnyH_ready (rs := [24]) (by kernel_rfl) (by simp) (AllReadyH.cons (o := ({ dst := some 38, op := Go.Op.call { callee := Go.Callee.value (Go.Operand.func 34), args := #[Go.Operand.tmp 37, Go.Operand.const (Go.Value.string { data := #[] })], argTypes := #[25, 9] }, type := 28, pos := "tree.go:180", after := #[{ on := 23, ground := Go.Ground.data }, { on := 22, ground := Go.Ground.chain }, { on := 20, ground := Go.Ground.guard }], guard := some (20, true) } : Oper)) rfl (fun K hK => ?_) AllReadyH.nil)
    go_simp
    refine (HL2.out _).mono ?_
    rintro e w2 ⟨⟨u2, rfl, h2⟩, hb2⟩
    have i2 : Bl w w2 := Bl.tr inferInstance hb2
    have G1 := Lib.hid (H1.out.below hb2)
    have H2 := Lib.hid h2.at
    clear h2 hb2
    refine hK.out _ _ (HSS.out _) (fun hHeld => ?_)
    clear hK K hHeld
    try simp only [Act.put, List.setIfInBounds_toArray, List.set_cons_zero, List.set_cons_succ]
    refine wpAnyH_ready (rs := [25]) (by kernel_rfl) (by simp) (AllReadyH.cons (o := ({ dst := some 39, op := Go.Op.call { callee := Go.Callee.value (Go.Operand.func 63), args := #[Go.Operand.tmp 36, Go.Operand.tmp 38], argTypes := #[28, 28] }, type := 4, pos := "tree.go:180", after := #[{ on := 22, ground := Go.Ground.data }, { on := 24, ground := Go.Ground.data }, { on := 24, ground := Go.Ground.chain }, { on := 20, ground := Go.Ground.guard }], guard := some (20, true) } : Oper)) rfl (fun K hK => ?_) AllReadyH.nil)
    go_simp
    refine (HE.out _ _ _ G1.out H2.out).mono ?_
    rintro e w3 ⟨rfl, hb3⟩
    have i3 : Bl w w3 := Bl.tr inferInstance hb3
    clear hb3
    refine hK.out _ _ (HSS.out _) (fun hHeld => ?_)
    clear hK K hHeld
    try simp only [Act.put, List.setIfInBounds_toArray, List.set_cons_zero, List.set_cons_succ]
    refine wpAnyH_take (i := 26) (oi := ({ dst := some 40, op := Go.Op.pick (Go.Operand.tmp 34) (Go.Operand.tmp 39) (Go.Operand.const (Go.Value.bool false)), type := 4, pos := "tree.go:180", after := #[{ on := 20, ground := Go.Ground.data }, { on := 25, ground := Go.Ground.data }], guard := none } : Oper)) (v := .bool false) rfl (by kernel_rfl) (by kernel_rfl) (by kernel_rfl) (fun _ _ _ h => h) (Or.inl ⟨by rfl, fun _ _ => rfl⟩) (HSS.out _) ?_
    try simp only [Act.put, List.setIfInBounds_toArray, List.set_cons_zero, List.set_cons_succ]
    refine wpAnyH_take (i := 27) (oi := ({ dst := some 41, op := Go.Op.move (Go.Operand.tmp 40), type := 4, pos := "tree.go:180", after := #[{ on := 26, ground := Go.Ground.data }, { on := 25, ground := Go.Ground.chain }], guard := none } : Oper)) (v := .bool false) rfl (by kernel_rfl) (by kernel_rfl) (by kernel_rfl) (fun _ _ _ h => h) (Or.inl ⟨by rfl, fun _ _ => rfl⟩) (HSS.out _) ?_
    try simp only [Act.put, List.setIfInBounds_toArray, List.set_cons_zero, List.set_cons_succ]
    refine wpAnyH_take (i := 28) (oi := ({ dst := some 42, op := Go.Op.move (Go.Operand.tmp 0), type := 25, pos := "tree.go:180", after := #[{ on := 27, ground := Go.Ground.guard }], guard := some (27, true) } : Oper)) (v := undef) rfl (by kernel_rfl) (by kernel_rfl) (by kernel_rfl) (fun _ _ _ h => h) (Or.inr ⟨by rfl, rfl⟩) (HSS.out _) ?_
    try simp only [Act.put, List.setIfInBounds_toArray, List.set_cons_zero, List.set_cons_succ]
    refine wpAnyH_take (i := 29) (oi := ({ dst := some 43, op := Go.Op.move (Go.Operand.tmp 0), type := 25, pos := "tree.go:180", after := #[{ on := 27, ground := Go.Ground.guard }], guard := some (27, true) } : Oper)) (v := undef) rfl (by kernel_rfl) (by kernel_rfl) (by kernel_rfl) (fun _ _ _ h => h) (Or.inr ⟨by rfl, rfl⟩) (HSS.out _) ?_
    try simp only [Act.put, List.setIfInBounds_toArray, List.set_cons_zero, List.set_cons_succ]
    refine wpAnyH_take (i := 30) (oi := ({ dst := some 44, op := Go.Op.nilCheck (Go.Operand.tmp 43), type := 0, pos := "tree.go:180", after := #[{ on := 29, ground := Go.Ground.data }, { on := 27, ground := Go.Ground.guard }], guard := some (27, true) } : Oper)) (v := undef) rfl (by kernel_rfl) (by kernel_rfl) (by kernel_rfl) (fun _ _ _ h => h) (Or.inr ⟨by rfl, rfl⟩) (HSS.out _) ?_
    try simp only [Act.put, List.setIfInBounds_toArray, List.set_cons_zero, List.set_cons_succ]
    refine wpAnyH_take (i := 31) (oi := ({ dst := some 45, op := Go.Op.fieldAddr 94 (Go.Operand.tmp 44) 3, type := 0, pos := "tree.go:180", after := #[{ on := 30, ground := Go.Ground.data }, { on := 27, ground := Go.Ground.guard }], guard := some (27, true) } : Oper)) (v := undef) rfl (by kernel_rfl) (by kernel_rfl) (by kernel_rfl) (fun _ _ _ h => h) (Or.inr ⟨by rfl, rfl⟩) (HSS.out _) ?_
    try simp only [Act.put, List.setIfInBounds_toArray, List.set_cons_zero, List.set_cons_succ]
    refine wpAnyH_take (i := 32) (oi := ({ dst := some 46, op := Go.Op.load 2 (Go.Operand.tmp 45), type := 2, pos := "tree.go:180", after := #[{ on := 31, ground := Go.Ground.data }, { on := 27, ground := Go.Ground.guard }], guard := some (27, true) } : Oper)) (v := undef) rfl (by kernel_rfl) (by kernel_rfl) (by kernel_rfl) (fun _ _ _ h => h) (Or.inr ⟨by rfl, rfl⟩) (HSS.out _) ?_
    try simp only [Act.put, List.setIfInBounds_toArray, List.set_cons_zero, List.set_cons_succ]
    refine wpAnyH_take (i := 33) (oi := ({ dst := some 47, op := Go.Op.call { callee := Go.Callee.value (Go.Operand.func 65), args := #[Go.Operand.tmp 42, Go.Operand.const (Go.Value.string { data := #[] }), Go.Operand.tmp 46], argTypes := #[25, 9, 2] }, type := 29, pos := "tree.go:180", after := #[{ on := 28, ground := Go.Ground.data }, { on := 32, ground := Go.Ground.data }, { on := 27, ground := Go.Ground.chain }, { on := 27, ground := Go.Ground.guard }], guard := some (27, true) } : Oper)) (v := undef) rfl (by kernel_rfl) (by kernel_rfl) (by kernel_rfl) (fun _ _ _ h => h) (Or.inr ⟨by rfl, rfl⟩) (HSS.out _) ?_
    try simp only [Act.put, List.setIfInBounds_toArray, List.set_cons_zero, List.set_cons_succ]
    refine wpAnyH_take (i := 34) (oi := ({ dst := some 48, op := Go.Op.move (Go.Operand.tmp 1), type := 25, pos := "tree.go:180", after := #[{ on := 27, ground := Go.Ground.guard }], guard := some (27, true) } : Oper)) (v := undef) rfl (by kernel_rfl) (by kernel_rfl) (by kernel_rfl) (fun _ _ _ h => h) (Or.inr ⟨by rfl, rfl⟩) (HSS.out _) ?_
    try simp only [Act.put, List.setIfInBounds_toArray, List.set_cons_zero, List.set_cons_succ]
    refine wpAnyH_take (i := 35) (oi := ({ dst := some 49, op := Go.Op.move (Go.Operand.tmp 1), type := 25, pos := "tree.go:180", after := #[{ on := 27, ground := Go.Ground.guard }], guard := some (27, true) } : Oper)) (v := undef) rfl (by kernel_rfl) (by kernel_rfl) (by kernel_rfl) (fun _ _ _ h => h) (Or.inr ⟨by rfl, rfl⟩) (HSS.out _) ?_
    try simp only [Act.put, List.setIfInBounds_toArray, List.set_cons_zero, List.set_cons_succ]
    refine wpAnyH_take (i := 36) (oi := ({ dst := some 50, op := Go.Op.nilCheck (Go.Operand.tmp 49), type := 0, pos := "tree.go:180", after := #[{ on := 35, ground := Go.Ground.data }, { on := 27, ground := Go.Ground.guard }], guard := some (27, true) } : Oper)) (v := undef) rfl (by kernel_rfl) (by kernel_rfl) (by kernel_rfl) (fun _ _ _ h => h) (Or.inr ⟨by rfl, rfl⟩) (HSS.out _) ?_
    try simp only [Act.put, List.setIfInBounds_toArray, List.set_cons_zero, List.set_cons_succ]
    refine wpAnyH_take (i := 37) (oi := ({ dst := some 51, op := Go.Op.fieldAddr 94 (Go.Operand.tmp 50) 3, type := 0, pos := "tree.go:180", after := #[{ on := 36, ground := Go.Ground.data }, { on := 27, ground := Go.Ground.guard }], guard := some (27, true) } : Oper)) (v := undef) rfl (by kernel_rfl) (by kernel_rfl) (by kernel_rfl) (fun _ _ _ h => h) (Or.inr ⟨by rfl, rfl⟩) (HSS.out _) ?_
    try simp only [Act.put, List.setIfInBounds_toArray, List.set_cons_zero, List.set_cons_succ]
    refine wpAnyH_take (i := 38) (oi := ({ dst := some 52, op := Go.Op.load 2 (Go.Operand.tmp 51), type := 2, pos := "tree.go:180", after := #[{ on := 37, ground := Go.Ground.data }, { on := 27, ground := Go.Ground.guard }], guard := some (27, true) } : Oper)) (v := undef) rfl (by kernel_rfl) (by kernel_rfl) (by kernel_rfl) (fun _ _ _ h => h) (Or.inr ⟨by rfl, rfl⟩) (HSS.out _) ?_
    try simp only [Act.put, List.setIfInBounds_toArray, List.set_cons_zero, List.set_cons_succ]
    refine wpAnyH_take (i := 39) (oi := ({ dst := some 53, op := Go.Op.call { callee := Go.Callee.value (Go.Operand.func 65), args := #[Go.Operand.tmp 48, Go.Operand.const (Go.Value.string { data := #[] }), Go.Operand.tmp 52], argTypes := #[25, 9, 2] }, type := 29, pos := "tree.go:180", after := #[{ on := 34, ground := Go.Ground.data }, { on := 38, ground := Go.Ground.data }, { on := 33, ground := Go.Ground.chain }, { on := 27, ground := Go.Ground.guard }], guard := some (27, true) } : Oper)) (v := undef) rfl (by kernel_rfl) (by kernel_rfl) (by kernel_rfl) (fun _ _ _ h => h) (Or.inr ⟨by rfl, rfl⟩) (HSS.out _) ?_
    try simp only [Act.put, List.setIfInBounds_toArray, List.set_cons_zero, List.set_cons_succ]
    refine wpAnyH_take (i := 40) (oi := ({ dst := some 54, op := Go.Op.call { callee := Go.Callee.value (Go.Operand.func 64), args := #[Go.Operand.tmp 47, Go.Operand.tmp 53], argTypes := #[29, 29] }, type := 4, pos := "tree.go:180", after := #[{ on := 33, ground := Go.Ground.data }, { on := 39, ground := Go.Ground.data }, { on := 39, ground := Go.Ground.chain }, { on := 27, ground := Go.Ground.guard }], guard := some (27, true) } : Oper)) (v := undef) rfl (by kernel_rfl) (by kernel_rfl) (by kernel_rfl) (fun _ _ _ h => h) (Or.inr ⟨by rfl, rfl⟩) (HSS.out _) ?_
    try simp only [Act.put, List.setIfInBounds_toArray, List.set_cons_zero, List.set_cons_succ]
    refine wpAnyH_take (i := 41) (oi := ({ dst := some 55, op := Go.Op.pick (Go.Operand.tmp 41) (Go.Operand.tmp 54) (Go.Operand.const (Go.Value.bool false)), type := 4, pos := "tree.go:180", after := #[{ on := 27, ground := Go.Ground.data }, { on := 40, ground := Go.Ground.data }], guard := none } : Oper)) (v := .bool false) rfl (by kernel_rfl) (by kernel_rfl) (by kernel_rfl) (fun _ _ _ h => h) (Or.inl ⟨by rfl, fun _ _ => rfl⟩) (HSS.out _) ?_
    try simp only [Act.put, List.setIfInBounds_toArray, List.set_cons_zero, List.set_cons_succ]
    refine wpAnyH_take (i := 42) (oi := ({ dst := some 4, op := Go.Op.assign (Go.Operand.tmp 55), type := 4, pos := "tree.go:180", after := #[{ on := 41, ground := Go.Ground.data }, { on := 40, ground := Go.Ground.chain }, { on := 0, ground := Go.Ground.phase }, { on := 1, ground := Go.Ground.phase }, { on := 2, ground := Go.Ground.phase }, { on := 3, ground := Go.Ground.phase }, { on := 4, ground := Go.Ground.phase }, { on := 5, ground := Go.Ground.phase }, { on := 6, ground := Go.Ground.phase }, { on := 7, ground := Go.Ground.phase }, { on := 8, ground := Go.Ground.phase }, { on := 9, ground := Go.Ground.phase }, { on := 10, ground := Go.Ground.phase }, { on := 11, ground := Go.Ground.phase }, { on := 12, ground := Go.Ground.phase }, { on := 13, ground := Go.Ground.phase }, { on := 14, ground := Go.Ground.phase }, { on := 15, ground := Go.Ground.phase }, { on := 16, ground := Go.Ground.phase }, { on := 17, ground := Go.Ground.phase }, { on := 18, ground := Go.Ground.phase }, { on := 19, ground := Go.Ground.phase }, { on := 20, ground := Go.Ground.phase }, { on := 21, ground := Go.Ground.phase }, { on := 22, ground := Go.Ground.phase }, { on := 23, ground := Go.Ground.phase }, { on := 24, ground := Go.Ground.phase }, { on := 25, ground := Go.Ground.phase }, { on := 26, ground := Go.Ground.phase }, { on := 27, ground := Go.Ground.phase }, { on := 28, ground := Go.Ground.phase }, { on := 29, ground := Go.Ground.phase }, { on := 30, ground := Go.Ground.phase }, { on := 31, ground := Go.Ground.phase }, { on := 32, ground := Go.Ground.phase }, { on := 33, ground := Go.Ground.phase }, { on := 34, ground := Go.Ground.phase }, { on := 35, ground := Go.Ground.phase }, { on := 36, ground := Go.Ground.phase }, { on := 37, ground := Go.Ground.phase }, { on := 38, ground := Go.Ground.phase }, { on := 39, ground := Go.Ground.phase }, { on := 40, ground := Go.Ground.phase }, { on := 41, ground := Go.Ground.phase }], guard := none } : Oper)) (v := .bool false) rfl (by kernel_rfl) (by kernel_rfl) (by kernel_rfl) (fun _ _ _ h => h) (Or.inl ⟨by rfl, fun _ _ => rfl⟩) (HSS.out _) ?_
    try simp only [Act.put, List.setIfInBounds_toArray, List.set_cons_zero, List.set_cons_succ]
    refine wpAnyH_done (by kernel_rfl) ?_ _
    go_wp2
    go_ret
    exact ⟨rfl, (inferInstance : Bl w _).h⟩
  rw [h3] at hr HE
  have hr : rowEq eqV v1 v2 = r := hr
  rw [hr] at HQ
  clear hr
  go_enter Try.func23, Try.ntmps23
  go_wp2_with fail
  go_region_held3 (fun w' => w'.cell? ⟨b, 2, none⟩ = some (.int .i64 s.rev) ∧ w'.cell? ⟨b, 3, none⟩ = some (.int .i64 s.low) ∧ w'.cell? ⟨c, 2, none⟩ = some (.int .i64 t.rev) ∧ w'.cell? ⟨c, 3, none⟩ = some (.int .i64 t.low)) (first | exact HSS.out _ | fail) (first
    | (go_at_call 34; ((with_reducible refine (HL1.out _).mono ?_); rintro e w1 ⟨⟨u1, rfl, h1⟩, hb1⟩; have i1 : Bl w w1 := Bl.tr inferInstance hb1; (first | have G2 := Lib.hid (H2.out.below hb1) | skip); have H1 := Lib.hid h1.at; clear h1 hb1))
    | (go_at_call 34; ((with_reducible refine (HL2.out _).mono ?_); rintro e w2 ⟨⟨u2, rfl, h2⟩, hb2⟩; have i2 : Bl w w2 := Bl.tr inferInstance hb2; (first | have G1 := Lib.hid (H1.out.below hb2) | skip); have H2 := Lib.hid h2.at; clear h2 hb2))
    | (go_at_call 63; ((first | (with_reducible refine (HE.out _ _ _ G1.out H2.out).mono ?_) | (with_reducible refine (HE.out _ _ _ H1.out G2.out).mono ?_)); rintro e w3 ⟨rfl, hb3⟩; have i3 : Bl w w3 := Bl.tr inferInstance hb3; clear hb3))
    | (go_at_call 65; ((with_reducible refine (HV1.out _).mono ?_); rintro e w4 ⟨⟨u4, rfl, h4⟩, hb4⟩; have i4 : Bl w w4 := Bl.tr inferInstance hb4; (first | have G5 := Lib.hid (H5.out.below hb4) | skip); have H4 := Lib.hid h4.at; clear h4 hb4))
    | (go_at_call 65; ((with_reducible refine (HV2.out _).mono ?_); rintro e w5 ⟨⟨u5, rfl, h5⟩, hb5⟩; have i5 : Bl w w5 := Bl.tr inferInstance hb5; (first | have G4 := Lib.hid (H4.out.below hb5) | skip); have H5 := Lib.hid h5.at; clear h5 hb5))
    | (go_at_call 64; ((first | (with_reducible refine (HQ.out _ _ _ G4.out H5.out).mono ?_) | (with_reducible refine (HQ.out _ _ _ H4.out G5.out).mono ?_)); rintro e w6 ⟨rfl, hb6⟩; have i6 : Bl w w6 := Bl.tr inferInstance hb6; clear hb6))
    | fail)
  all_goals
    go_wp2
    go_ret
    exact ⟨rfl, (inferInstance : Bl w _).h⟩
end Go.Proofs.Ytbfkgbickjfcjaa
