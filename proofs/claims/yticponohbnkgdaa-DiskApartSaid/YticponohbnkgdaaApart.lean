/- DiskApart: for any capacity, any tapes, any acts, one more the law answers true. No condition. -/
import Derived.Test.YticponohbnkgdaaRows
import Derived.Test.YticponohbnkgdaaDx
import Derived.Deep.RegionHeld3
import Derived.Deep.CutRange
import Derived.Deep.DeepMust
import Derived.WalkKit
import Derived.ProofKit
import Derived.OpenShut
import Derived.ShutString
namespace Go.Proofs.Yticponohbnkgdaa.diskApart
open Go.ChangeShapes Go.WideShapes Go.ChangeAt Go.RowKit
set_option linter.unusedVariables false
set_option maxRecDepth 100000 in
set_option maxHeartbeats 4000000 in
theorem core (cap : Int) (v : Value) (ts : List Tq) (u : Value) (acs : List Ac) (a : Ac) (wc : (Lit.int .i64 cap).wf = true) (w : World) (ht : Tps w v ts) (ha : Acs w u acs ∧ acs.length * 64 ≤ 140737488351232) (hf : a.fit w) :
    Calls Try.prog 7 #[.int .i64 cap, v, u, acV a] w fun e w' => e = .returned (.bool true) ∧ Below w.heap.size w w' := by
  obtain ⟨ha, hal64⟩ := ha
  have HMD := Lib.hid (fun W (hW : Below w.heap.size w W) => have h := ht.below hW (Nat.le_refl _); made_any cap ts v acs u W h.at' wc h.len h.wide (ha.below hW (Nat.le_refl _)))
  have HAT := Lib.hid (fun W (hW : Below w.heap.size w W) => ha.at'.below hW (Nat.le_refl _))
  have HLG := Lib.hid (fun (W : World) (V : Value) (hW : Below w.heap.size w W) (h5 : At5 W V (acs ++ [a])) => long_det (acs ++ [a]) ts V v W h5 (fun b hb => by
    have hfb : b.fit w := by
      rcases List.mem_append.1 hb with h | h
      · exact ha.fit b h
      · rw [List.mem_singleton.1 h]; exact hf
    have := hfb.below hW (Nat.le_refl _)
    exact ⟨this.at', this.s, this.len⟩) (ht.below hW (Nat.le_refl _)).at' ht.wide (by rw [List.length_append]; show acs.length + 1 ≤ _; omega) ht.len)
  have HON1 : Hid (∀ b ∈ acs, b.v.oneCell' = true) := Lib.hid (fun b hb => (ha.fit b hb).one)
  have HON2 : Hid (∀ b ∈ [a], b.v.oneCell' = true) := Lib.hid (fun b hb => by rw [List.mem_singleton.1 hb]; exact hf.one)
  obtain ⟨va, vc, hv2⟩ := At2.slice ht.at'
  rw [List.length_map] at hv2
  obtain ⟨ua, uc, hu2⟩ := ha.at'.slice
  have hal := ha.len
  have HF := Lib.hid hf
  have HONE : Hid (∀ W : World, At5 (W.alloc (.cells #[.int .u8 (a.what : Int), .int .i64 a.t, .int .i64 a.n, .string a.s, a.v] 51)) (.slice (some ⟨W.heap.size, 0, none⟩) 1 1) [a]) := Lib.hid (fun W => one5 W a)
  clear ha ht hf
  unfold acV
  generalize hLa : acs.length = La at *
  have HLa := Lib.hid hLa
  clear hLa
  generalize ts.length = Ll at *
  subst hv2 hu2
  have HB0 : Hid (Below w.heap.size w (w.alloc (.cells #[.int .u8 (a.what : Int), .int .i64 a.t, .int .i64 a.n, .string a.s, a.v] 51))) := Lib.hid ((Below.refl _ _).alloc (Nat.le_refl _) _)
  have hbx := heap_alloc_new w (.cells #[.int .u8 (a.what : Int), .int .i64 a.t, .int .i64 a.n, .string a.s, a.v] 51)
  have HBX := Lib.hid hbx
  have HS0 : Hid ((w.alloc (.cells #[.int .u8 (a.what : Int), .int .i64 a.t, .int .i64 a.n, .string a.s, a.v] 51)).heap.size = w.heap.size + 1) := Lib.hid (by simp)
  clear hbx
  go_enter Try.func7, Try.ntmps7
  go_wp2_with fail
  generalize hW0 : w.alloc (.cells #[.int .u8 (a.what : Int), .int .i64 a.t, .int .i64 a.n, .string a.s, a.v] 51) = W0 at *
  clear hW0
  have c0 : W0.cell? ⟨w.heap.size, 0, none⟩ = some (.int .u8 (a.what : Int)) := (cell_of_row W0 w.heap.size 0 _ _ _ HBX.out)
  have c1 : W0.cell? ⟨w.heap.size, 1, none⟩ = some (.int .i64 a.t) := (cell_of_row W0 w.heap.size 1 _ _ _ HBX.out)
  have c2 : W0.cell? ⟨w.heap.size, 2, none⟩ = some (.int .i64 a.n) := (cell_of_row W0 w.heap.size 2 _ _ _ HBX.out)
  have c3 : W0.cell? ⟨w.heap.size, 3, none⟩ = some (.string a.s) := (cell_of_row W0 w.heap.size 3 _ _ _ HBX.out)
  have c4 : W0.cell? ⟨w.heap.size, 4, none⟩ = some a.v := (cell_of_row W0 w.heap.size 4 _ _ _ HBX.out)
  have HSS : Hid (∀ W', Below W0.heap.size W0 W' → (W'.cell? ⟨w.heap.size, 0, none⟩ = some (.int .u8 (a.what : Int)) ∧ W'.cell? ⟨w.heap.size, 1, none⟩ = some (.int .i64 a.t) ∧ W'.cell? ⟨w.heap.size, 2, none⟩ = some (.int .i64 a.n) ∧ W'.cell? ⟨w.heap.size, 3, none⟩ = some (.string a.s) ∧ W'.cell? ⟨w.heap.size, 4, none⟩ = some a.v)) := Lib.hid (fun W' h => by
    have hl : w.heap.size < W0.heap.size := by rw [HS0.out]; omega
    exact ⟨(h.cell hl).trans c0, (h.cell hl).trans c1, (h.cell hl).trans c2, (h.cell hl).trans c3, (h.cell hl).trans c4⟩)
  have HAT2 : Hid (∀ W', Below W0.heap.size W0 W' → At5 W' (.slice ua La uc) acs) := Lib.hid (fun W' h => HAT.out W' (HB0.out.trans (h.mono HB0.out.size)))
  have HLG2 : Hid (∀ (W' : World) (V : Value), Below W0.heap.size W0 W' → At5 W' V (acs ++ [a]) → Calls Try.prog 26 #[V, .slice va Ll vc] W' fun e w' => e = .returned (.bool (decide (20000 ≤ longN (acs ++ [a]) ts))) ∧ Below W'.heap.size W' w') := Lib.hid (fun W' V h h5 => HLG.out W' V (HB0.out.trans (h.mono HB0.out.size)) h5)
  have hl1 : (([] : List Ac).length + acs.length) * 64 ≤ 140737488355328 := by have := HLa.out; simp; omega
  have hl2 : (([] ++ acs : List Ac).length + [a].length) * 64 ≤ 140737488355328 := by have := HLa.out; simp; omega
  clear HLG HAT
  generalize decide (20000 ≤ longN (acs ++ [a]) ts) = LB at *
  have HONB : Hid (At5 ((W0.alloc (.cells #[] 51)).alloc (.cells #[.int .u8 (a.what : Int), .int .i64 a.t, .int .i64 a.n, .string a.s, a.v] 51)) (.slice (some ⟨W0.heap.size + 1, 0, none⟩) 1 1) [a]) := Lib.hid (by have := HONE.out (W0.alloc (.cells #[] 51)); rw [World.size_alloc] at this; exact this)
  go_cut [31] from 15 to 31 (fun y wx => ∃ bb, y = .bool bb ∧ Hid (Below W0.heap.size W0 wx))
  case first =>
    have hn : ∀ W : World, Below W0.heap.size W0 W → Below W0.heap.size W0 W.drew := fun W h => h.drew
    cases LB
    · by_cases h200 : 200 < La
      · have hd2 : decide ((200 : Int) < (La : Int)) = true := decide_eq_true (by omega)
        refine wp_region_held_drew (S := (fun w' => w'.cell? ⟨w.heap.size, 0, none⟩ = some (.int .u8 (a.what : Int)) ∧ w'.cell? ⟨w.heap.size, 1, none⟩ = some (.int .i64 a.t) ∧ w'.cell? ⟨w.heap.size, 2, none⟩ = some (.int .i64 a.n) ∧ w'.cell? ⟨w.heap.size, 3, none⟩ = some (.string a.s) ∧ w'.cell? ⟨w.heap.size, 4, none⟩ = some a.v)) (by kernel_rfl) ?_ (fun hHeld => ?_)
        · (try dsimp only); (first | exact ⟨c0, c1, c2, c3, c4⟩ | exact HSS.out _ KK.out | exact HSS.out _ (KK.out.alloc KK.out.size _) | exact HSS.out _ (Below.drew (KK.out.alloc KK.out.size _)) | exact HSS.out _ (Below.drew KK.out) | exact HSS.out _ ((Below.refl _ _).alloc (Nat.le_refl _) _) | exact HSS.out _ (Below.drew ((Below.refl _ _).alloc (Nat.le_refl _) _)) | exact HSS.out _ (((Below.refl _ _).alloc (Nat.le_refl _) _).alloc (by simp) _) | exact HSS.out _ (Below.drew (((Below.refl _ _).alloc (Nat.le_refl _) _).alloc (by simp) _)))
        refine wpAnyH_take (i := 1) (oi := ({ dst := some 16, op := Go.Op.move (Go.Operand.tmp 2), type := 42, pos := "outright.go:113", after := #[], guard := none } : Oper)) (v := ?_) rfl (by kernel_rfl) (by kernel_rfl) (by kernel_rfl) (fun _ _ _ h => h) (Or.inl ⟨by rfl, ?_⟩) (by assumption) ?_
        rotate_left
        · intro w hSw; (try dsimp only at hSw); go_simp; (try with_reducible rfl)
        try simp only [Act.put, List.setIfInBounds_toArray, List.set_cons_zero, List.set_cons_succ]
        refine wpAnyH_take (i := 3) (oi := ({ dst := some 18, op := Go.Op.load 51 (Go.Operand.tmp 7), type := 51, pos := "outright.go:113", after := #[], guard := none } : Oper)) (v := ?_) rfl (by kernel_rfl) (by kernel_rfl) (by kernel_rfl) (fun _ _ _ h => h) (Or.inl ⟨by rfl, ?_⟩) (by assumption) ?_
        rotate_left
        · intro w hSw; (try dsimp only at hSw); go_simp; (try with_reducible rfl)
        try simp only [Act.put, List.setIfInBounds_toArray, List.set_cons_zero, List.set_cons_succ]
        refine wpAnyH_take (i := 6) (oi := ({ dst := some 21, op := Go.Op.move (Go.Operand.tmp 1), type := 28, pos := "outright.go:113", after := #[], guard := none } : Oper)) (v := ?_) rfl (by kernel_rfl) (by kernel_rfl) (by kernel_rfl) (fun _ _ _ h => h) (Or.inl ⟨by rfl, ?_⟩) (by assumption) ?_
        rotate_left
        · intro w hSw; (try dsimp only at hSw); go_simp; (try with_reducible rfl)
        try simp only [Act.put, List.setIfInBounds_toArray, List.set_cons_zero, List.set_cons_succ]
        refine wpAnyH_ready (rs := [0, 4]) (by kernel_rfl) (by simp) ?_
        refine AllReadyH.cons (o := ({ dst := some 15, op := Go.Op.buildSlice 42 0 #[], type := 42, pos := "outright.go:113", after := #[], guard := none } : Oper)) rfl (fun K hK => ?_) (AllReadyH.cons (o := ({ dst := some 19, op := Go.Op.buildSlice 42 1 #[(0, Go.Operand.tmp 18)], type := 42, pos := "outright.go:113", after := #[{ on := 3, ground := Go.Ground.data }], guard := none } : Oper)) rfl (fun K hK => ?_) AllReadyH.nil)
        · skip
          go_simp
          refine hK.out _ _ ?_ (fun hHeld => ?_)
          · (try dsimp only); (first | exact ⟨c0, c1, c2, c3, c4⟩ | exact HSS.out _ KK.out | exact HSS.out _ (KK.out.alloc KK.out.size _) | exact HSS.out _ (Below.drew (KK.out.alloc KK.out.size _)) | exact HSS.out _ (Below.drew KK.out) | exact HSS.out _ ((Below.refl _ _).alloc (Nat.le_refl _) _) | exact HSS.out _ (Below.drew ((Below.refl _ _).alloc (Nat.le_refl _) _)) | exact HSS.out _ (((Below.refl _ _).alloc (Nat.le_refl _) _).alloc (by simp) _) | exact HSS.out _ (Below.drew (((Below.refl _ _).alloc (Nat.le_refl _) _).alloc (by simp) _)))
          clear hK K; try simp only [Act.put, List.setIfInBounds_toArray, List.set_cons_zero, List.set_cons_succ]
          refine wpAnyH_ready (rs := [2, 4]) (by kernel_rfl) (by simp) ?_
          refine AllReadyH.cons (o := ({ dst := some 17, op := Go.Op.call { callee := Go.Callee.builtin Go.Builtin.append, args := #[Go.Operand.tmp 15, Go.Operand.tmp 16], argTypes := #[42, 42] }, type := 42, pos := "outright.go:113", after := #[{ on := 0, ground := Go.Ground.data }, { on := 1, ground := Go.Ground.data }], guard := none } : Oper)) rfl (fun K hK => ?_) (AllReadyH.cons (o := ({ dst := some 19, op := Go.Op.buildSlice 42 1 #[(0, Go.Operand.tmp 18)], type := 42, pos := "outright.go:113", after := #[{ on := 3, ground := Go.Ground.data }], guard := none } : Oper)) rfl (fun K hK => ?_) AllReadyH.nil)
          · skip
            have hB : Below W0.heap.size W0 (W0.alloc (.cells #[] 51)) := (Below.refl _ _).alloc (Nat.le_refl _) _; have ho := O5.empty W0 W0.heap.size (Nat.le_refl _); refine step_append5 (by rfl) (.tmp 15) (.tmp 16) (by rfl) W0.heap.size _ [] (by rfl) (O5.drew ho) _ acs (by rfl) (HAT2.out _ hB.drew) HON1.out hl1 hB.size ?_; intro vA wA hoA hgA; have KK := Lib.hid (hB.drew.grown hgA hB.size (fun k hk => (ho.base k hk).1)); have HOA := Lib.hid hoA; clear hoA hgA ho hB
            refine hK.out _ _ ?_ (fun hHeld => ?_)
            · (try dsimp only); (first | exact ⟨c0, c1, c2, c3, c4⟩ | exact HSS.out _ KK.out | exact HSS.out _ (KK.out.alloc KK.out.size _) | exact HSS.out _ (Below.drew (KK.out.alloc KK.out.size _)) | exact HSS.out _ (Below.drew KK.out) | exact HSS.out _ ((Below.refl _ _).alloc (Nat.le_refl _) _) | exact HSS.out _ (Below.drew ((Below.refl _ _).alloc (Nat.le_refl _) _)) | exact HSS.out _ (((Below.refl _ _).alloc (Nat.le_refl _) _).alloc (by simp) _) | exact HSS.out _ (Below.drew (((Below.refl _ _).alloc (Nat.le_refl _) _).alloc (by simp) _)))
            clear hK K; try simp only [Act.put, List.setIfInBounds_toArray, List.set_cons_zero, List.set_cons_succ]
            refine wpAnyH_ready (rs := [4]) (by kernel_rfl) (by simp) ?_
            refine AllReadyH.cons (o := ({ dst := some 19, op := Go.Op.buildSlice 42 1 #[(0, Go.Operand.tmp 18)], type := 42, pos := "outright.go:113", after := #[{ on := 3, ground := Go.Ground.data }], guard := none } : Oper)) rfl (fun K hK => ?_) AllReadyH.nil
            go_simp
            refine hK.out _ _ ?_ (fun hHeld => ?_)
            · (try dsimp only); (first | exact ⟨c0, c1, c2, c3, c4⟩ | exact HSS.out _ KK.out | exact HSS.out _ (KK.out.alloc KK.out.size _) | exact HSS.out _ (Below.drew (KK.out.alloc KK.out.size _)) | exact HSS.out _ (Below.drew KK.out) | exact HSS.out _ ((Below.refl _ _).alloc (Nat.le_refl _) _) | exact HSS.out _ (Below.drew ((Below.refl _ _).alloc (Nat.le_refl _) _)) | exact HSS.out _ (((Below.refl _ _).alloc (Nat.le_refl _) _).alloc (by simp) _) | exact HSS.out _ (Below.drew (((Below.refl _ _).alloc (Nat.le_refl _) _).alloc (by simp) _)))
            clear hK K; try simp only [Act.put, List.setIfInBounds_toArray, List.set_cons_zero, List.set_cons_succ]
            refine wpAnyH_ready (rs := [5]) (by kernel_rfl) (by simp) ?_
            refine AllReadyH.cons (o := ({ dst := some 20, op := Go.Op.call { callee := Go.Callee.builtin Go.Builtin.append, args := #[Go.Operand.tmp 17, Go.Operand.tmp 19], argTypes := #[42, 42] }, type := 42, pos := "outright.go:113", after := #[{ on := 2, ground := Go.Ground.data }, { on := 4, ground := Go.Ground.data }, { on := 2, ground := Go.Ground.chain }], guard := none } : Oper)) rfl (fun K hK => ?_) AllReadyH.nil
            have hx := HOA; clear hx; refine step_append5 (by rfl) (.tmp 17) (.tmp 19) (by rfl) W0.heap.size _ ([] ++ acs) (by rfl) (HOA.out.below ((Below.refl _ _).alloc (Nat.le_refl _) _) (Nat.le_refl _)) _ [a] (by rfl) (HONE.out wA) HON2.out hl2 (KK.out.alloc KK.out.size _).size ?_; intro vB wB hoB hgB; have KK := Lib.hid ((KK.out.alloc KK.out.size _).grown hgB (KK.out.alloc KK.out.size _).size (fun k hk => (HOA.out.base k hk).1)); have HOB := Lib.hid hoB; clear hoB hgB
            refine hK.out _ _ ?_ (fun hHeld => ?_)
            · (try dsimp only); (first | exact ⟨c0, c1, c2, c3, c4⟩ | exact HSS.out _ KK.out | exact HSS.out _ (KK.out.alloc KK.out.size _) | exact HSS.out _ (Below.drew (KK.out.alloc KK.out.size _)) | exact HSS.out _ (Below.drew KK.out) | exact HSS.out _ ((Below.refl _ _).alloc (Nat.le_refl _) _) | exact HSS.out _ (Below.drew ((Below.refl _ _).alloc (Nat.le_refl _) _)) | exact HSS.out _ (((Below.refl _ _).alloc (Nat.le_refl _) _).alloc (by simp) _) | exact HSS.out _ (Below.drew (((Below.refl _ _).alloc (Nat.le_refl _) _).alloc (by simp) _)))
            clear hK K; try simp only [Act.put, List.setIfInBounds_toArray, List.set_cons_zero, List.set_cons_succ]
            refine wpAnyH_ready (rs := [7]) (by kernel_rfl) (by simp) ?_
            refine AllReadyH.cons (o := ({ dst := some 22, op := Go.Op.call { callee := Go.Callee.value (Go.Operand.func 26), args := #[Go.Operand.tmp 20, Go.Operand.tmp 21], argTypes := #[42, 28] }, type := 4, pos := "outright.go:113", after := #[{ on := 5, ground := Go.Ground.data }, { on := 6, ground := Go.Ground.data }, { on := 5, ground := Go.Ground.chain }], guard := none } : Oper)) rfl (fun K hK => ?_) AllReadyH.nil
            go_simp
            have hx := HOB; clear hx; go_at_call 26; go_must (refine (HLG2.out _ _ KK.out HOB.out.at).mono ?_; rintro e wL ⟨rfl, hbL⟩); have KK := Lib.hid (KK.out.trans (hbL.mono KK.out.size)); clear hbL
            try go_wp2_with fail
            refine hK.out _ _ ?_ (fun hHeld => ?_)
            · (try dsimp only); (first | exact ⟨c0, c1, c2, c3, c4⟩ | exact HSS.out _ KK.out | exact HSS.out _ (KK.out.alloc KK.out.size _) | exact HSS.out _ (Below.drew (KK.out.alloc KK.out.size _)) | exact HSS.out _ (Below.drew KK.out) | exact HSS.out _ ((Below.refl _ _).alloc (Nat.le_refl _) _) | exact HSS.out _ (Below.drew ((Below.refl _ _).alloc (Nat.le_refl _) _)) | exact HSS.out _ (((Below.refl _ _).alloc (Nat.le_refl _) _).alloc (by simp) _) | exact HSS.out _ (Below.drew (((Below.refl _ _).alloc (Nat.le_refl _) _).alloc (by simp) _)))
            clear hK K; try simp only [Act.put, List.setIfInBounds_toArray, List.set_cons_zero, List.set_cons_succ]
            refine wpAnyH_take (i := 8) (oi := ({ dst := some 23, op := Go.Op.move (Go.Operand.tmp 22), type := 4, pos := "outright.go:113", after := #[{ on := 7, ground := Go.Ground.data }, { on := 7, ground := Go.Ground.chain }], guard := none } : Oper)) (v := ?_) rfl (by kernel_rfl) (by kernel_rfl) (by kernel_rfl) (fun _ _ _ h => h) (Or.inl ⟨by rfl, ?_⟩) (by assumption) ?_
            rotate_left
            · intro w hSw; (try dsimp only at hSw); go_simp; (try with_reducible rfl)
            try simp only [Act.put, List.setIfInBounds_toArray, List.set_cons_zero, List.set_cons_succ]
            refine wpAnyH_take (i := 9) (oi := ({ dst := some 24, op := Go.Op.move (Go.Operand.tmp 2), type := 42, pos := "outright.go:113", after := #[{ on := 8, ground := Go.Ground.guard }], guard := some (8, false) } : Oper)) (v := ?_) rfl (by kernel_rfl) (by kernel_rfl) (by kernel_rfl) (fun _ _ _ h => h) (Or.inl ⟨by rfl, ?_⟩) (by assumption) ?_
            rotate_left
            · intro w hSw; (try dsimp only at hSw); go_simp; (try with_reducible rfl)
            try simp only [Act.put, List.setIfInBounds_toArray, List.set_cons_zero, List.set_cons_succ]
            refine wpAnyH_take (i := 10) (oi := ({ dst := some 25, op := Go.Op.call { callee := Go.Callee.builtin Go.Builtin.len, args := #[Go.Operand.tmp 24], argTypes := #[42] }, type := 3, pos := "outright.go:113", after := #[{ on := 9, ground := Go.Ground.data }, { on := 8, ground := Go.Ground.guard }], guard := some (8, false) } : Oper)) (v := ?_) rfl (by kernel_rfl) (by kernel_rfl) (by kernel_rfl) (fun _ _ _ h => h) (Or.inl ⟨by rfl, ?_⟩) (by assumption) ?_
            rotate_left
            · intro w hSw; (try dsimp only at hSw); go_simp; (try with_reducible rfl)
            try simp only [Act.put, List.setIfInBounds_toArray, List.set_cons_zero, List.set_cons_succ]
            refine wpAnyH_take (i := 11) (oi := ({ dst := some 26, op := Go.Op.binOp Go.BinOp.gtr 3 (Go.Operand.tmp 25) (Go.Operand.const (Go.Value.int Go.IntKind.i64 200)) 3, type := 4, pos := "outright.go:113", after := #[{ on := 10, ground := Go.Ground.data }, { on := 8, ground := Go.Ground.guard }], guard := some (8, false) } : Oper)) (v := ?_) rfl (by kernel_rfl) (by kernel_rfl) (by kernel_rfl) (fun _ _ _ h => h) (Or.inl ⟨by rfl, ?_⟩) (by assumption) ?_
            rotate_left
            · intro w hSw; (try dsimp only at hSw); go_simp; (try with_reducible rfl)
            try simp only [Act.put, List.setIfInBounds_toArray, List.set_cons_zero, List.set_cons_succ]
            refine wpAnyH_take (i := 12) (oi := ({ dst := some 27, op := Go.Op.pick (Go.Operand.tmp 23) (Go.Operand.const (Go.Value.bool true)) (Go.Operand.tmp 26), type := 4, pos := "outright.go:113", after := #[{ on := 8, ground := Go.Ground.data }, { on := 11, ground := Go.Ground.data }], guard := none } : Oper)) (v := ?_) rfl (by kernel_rfl) (by kernel_rfl) (by kernel_rfl) (fun _ _ _ h => h) (Or.inl ⟨by rfl, ?_⟩) (by assumption) ?_
            rotate_left
            · intro w hSw; (try dsimp only at hSw); go_simp; (try with_reducible rfl)
            try simp only [Act.put, List.setIfInBounds_toArray, List.set_cons_zero, List.set_cons_succ]
            refine wpAnyH_take (i := 13) (oi := ({ dst := some 28, op := Go.Op.move (Go.Operand.tmp 27), type := 4, pos := "outright.go:113", after := #[{ on := 12, ground := Go.Ground.data }, { on := 8, ground := Go.Ground.chain }], guard := none } : Oper)) (v := ?_) rfl (by kernel_rfl) (by kernel_rfl) (by kernel_rfl) (fun _ _ _ h => h) (Or.inl ⟨by rfl, ?_⟩) (by assumption) ?_
            rotate_left
            · intro w hSw; (try dsimp only at hSw); go_simp; (try with_reducible rfl)
            try simp only [Act.put, List.setIfInBounds_toArray, List.set_cons_zero, List.set_cons_succ]
            refine wpAnyH_take (i := 14) (oi := ({ dst := some 29, op := Go.Op.call { callee := Go.Callee.value (Go.Operand.func 10), args := #[], argTypes := #[] }, type := 4, pos := "outright.go:113", after := #[{ on := 13, ground := Go.Ground.chain }, { on := 13, ground := Go.Ground.guard }], guard := some (13, false) } : Oper)) (v := undef) rfl (by kernel_rfl) (by kernel_rfl) (by kernel_rfl) (fun _ _ _ h => h) (Or.inr ⟨by rfl, rfl⟩) (by assumption) ?_
            try simp only [Act.put, List.setIfInBounds_toArray, List.set_cons_zero, List.set_cons_succ]
            refine wpAnyH_take (i := 15) (oi := ({ dst := some 30, op := Go.Op.unOp Go.UnOp.not 4 (Go.Operand.tmp 29), type := 4, pos := "outright.go:113", after := #[{ on := 14, ground := Go.Ground.data }, { on := 13, ground := Go.Ground.guard }], guard := some (13, false) } : Oper)) (v := undef) rfl (by kernel_rfl) (by kernel_rfl) (by kernel_rfl) (fun _ _ _ h => h) (Or.inr ⟨by rfl, rfl⟩) (by assumption) ?_
            try simp only [Act.put, List.setIfInBounds_toArray, List.set_cons_zero, List.set_cons_succ]
            refine wpAnyH_take (i := 16) (oi := ({ dst := some 31, op := Go.Op.pick (Go.Operand.tmp 28) (Go.Operand.const (Go.Value.bool true)) (Go.Operand.tmp 30), type := 4, pos := "outright.go:113", after := #[{ on := 13, ground := Go.Ground.data }, { on := 15, ground := Go.Ground.data }], guard := none } : Oper)) (v := ?_) rfl (by kernel_rfl) (by kernel_rfl) (by kernel_rfl) (fun _ _ _ h => h) (Or.inl ⟨by rfl, ?_⟩) (by assumption) ?_
            rotate_left
            · intro w hSw; (try dsimp only at hSw); go_simp; (try with_reducible rfl)
            try simp only [Act.put, List.setIfInBounds_toArray, List.set_cons_zero, List.set_cons_succ]
            refine wpAnyH_done (by kernel_rfl) ?_ _
            (go_wp2_with fail; go_meet; exact ⟨_, rfl, Lib.hid (by first | exact KK.out | exact Below.drew KK.out)⟩)
          · skip
            go_simp
            refine hK.out _ _ ?_ (fun hHeld => ?_)
            · (try dsimp only); (first | exact ⟨c0, c1, c2, c3, c4⟩ | exact HSS.out _ KK.out | exact HSS.out _ (KK.out.alloc KK.out.size _) | exact HSS.out _ (Below.drew (KK.out.alloc KK.out.size _)) | exact HSS.out _ (Below.drew KK.out) | exact HSS.out _ ((Below.refl _ _).alloc (Nat.le_refl _) _) | exact HSS.out _ (Below.drew ((Below.refl _ _).alloc (Nat.le_refl _) _)) | exact HSS.out _ (((Below.refl _ _).alloc (Nat.le_refl _) _).alloc (by simp) _) | exact HSS.out _ (Below.drew (((Below.refl _ _).alloc (Nat.le_refl _) _).alloc (by simp) _)))
            clear hK K; try simp only [Act.put, List.setIfInBounds_toArray, List.set_cons_zero, List.set_cons_succ]
            refine wpAnyH_ready (rs := [2]) (by kernel_rfl) (by simp) ?_
            refine AllReadyH.cons (o := ({ dst := some 17, op := Go.Op.call { callee := Go.Callee.builtin Go.Builtin.append, args := #[Go.Operand.tmp 15, Go.Operand.tmp 16], argTypes := #[42, 42] }, type := 42, pos := "outright.go:113", after := #[{ on := 0, ground := Go.Ground.data }, { on := 1, ground := Go.Ground.data }], guard := none } : Oper)) rfl (fun K hK => ?_) AllReadyH.nil
            have hB : Below W0.heap.size W0 ((W0.alloc (.cells #[] 51)).alloc (.cells #[.int .u8 (a.what : Int), .int .i64 a.t, .int .i64 a.n, .string a.s, a.v] 51)) := ((Below.refl _ _).alloc (Nat.le_refl _) _).alloc (by simp) _; have ho := (O5.empty W0 W0.heap.size (Nat.le_refl _)).below (w' := ((W0.alloc (.cells #[] 51)).alloc (.cells #[.int .u8 (a.what : Int), .int .i64 a.t, .int .i64 a.n, .string a.s, a.v] 51))) ((Below.refl _ _).alloc (Nat.le_refl _) _) (Nat.le_refl _); refine step_append5 (by rfl) (.tmp 15) (.tmp 16) (by rfl) W0.heap.size _ [] (by rfl) (O5.drew ho) _ acs (by rfl) (HAT2.out _ hB.drew) HON1.out hl1 hB.size ?_; intro vA wA hoA hgA; have KK := Lib.hid (hB.drew.grown hgA hB.size (fun k hk => (ho.base k hk).1)); have HOA := Lib.hid hoA; have HX1 := Lib.hid (HONB.out.same (fun g hg h => hgA.block g hg (by rw [← h]; simp [Value.ownBlock]))); clear hoA hgA ho hB
            refine hK.out _ _ ?_ (fun hHeld => ?_)
            · (try dsimp only); (first | exact ⟨c0, c1, c2, c3, c4⟩ | exact HSS.out _ KK.out | exact HSS.out _ (KK.out.alloc KK.out.size _) | exact HSS.out _ (Below.drew (KK.out.alloc KK.out.size _)) | exact HSS.out _ (Below.drew KK.out) | exact HSS.out _ ((Below.refl _ _).alloc (Nat.le_refl _) _) | exact HSS.out _ (Below.drew ((Below.refl _ _).alloc (Nat.le_refl _) _)) | exact HSS.out _ (((Below.refl _ _).alloc (Nat.le_refl _) _).alloc (by simp) _) | exact HSS.out _ (Below.drew (((Below.refl _ _).alloc (Nat.le_refl _) _).alloc (by simp) _)))
            clear hK K; try simp only [Act.put, List.setIfInBounds_toArray, List.set_cons_zero, List.set_cons_succ]
            refine wpAnyH_ready (rs := [5]) (by kernel_rfl) (by simp) ?_
            refine AllReadyH.cons (o := ({ dst := some 20, op := Go.Op.call { callee := Go.Callee.builtin Go.Builtin.append, args := #[Go.Operand.tmp 17, Go.Operand.tmp 19], argTypes := #[42, 42] }, type := 42, pos := "outright.go:113", after := #[{ on := 2, ground := Go.Ground.data }, { on := 4, ground := Go.Ground.data }, { on := 2, ground := Go.Ground.chain }], guard := none } : Oper)) rfl (fun K hK => ?_) AllReadyH.nil
            have hx := HX1; clear hx; refine step_append5 (by rfl) (.tmp 17) (.tmp 19) (by rfl) W0.heap.size _ ([] ++ acs) (by rfl) HOA.out _ [a] (by rfl) HX1.out HON2.out hl2 KK.out.size ?_; intro vB wB hoB hgB; have KK := Lib.hid (KK.out.grown hgB KK.out.size (fun k hk => (HOA.out.base k hk).1)); have HOB := Lib.hid hoB; clear hoB hgB
            refine hK.out _ _ ?_ (fun hHeld => ?_)
            · (try dsimp only); (first | exact ⟨c0, c1, c2, c3, c4⟩ | exact HSS.out _ KK.out | exact HSS.out _ (KK.out.alloc KK.out.size _) | exact HSS.out _ (Below.drew (KK.out.alloc KK.out.size _)) | exact HSS.out _ (Below.drew KK.out) | exact HSS.out _ ((Below.refl _ _).alloc (Nat.le_refl _) _) | exact HSS.out _ (Below.drew ((Below.refl _ _).alloc (Nat.le_refl _) _)) | exact HSS.out _ (((Below.refl _ _).alloc (Nat.le_refl _) _).alloc (by simp) _) | exact HSS.out _ (Below.drew (((Below.refl _ _).alloc (Nat.le_refl _) _).alloc (by simp) _)))
            clear hK K; try simp only [Act.put, List.setIfInBounds_toArray, List.set_cons_zero, List.set_cons_succ]
            refine wpAnyH_ready (rs := [7]) (by kernel_rfl) (by simp) ?_
            refine AllReadyH.cons (o := ({ dst := some 22, op := Go.Op.call { callee := Go.Callee.value (Go.Operand.func 26), args := #[Go.Operand.tmp 20, Go.Operand.tmp 21], argTypes := #[42, 28] }, type := 4, pos := "outright.go:113", after := #[{ on := 5, ground := Go.Ground.data }, { on := 6, ground := Go.Ground.data }, { on := 5, ground := Go.Ground.chain }], guard := none } : Oper)) rfl (fun K hK => ?_) AllReadyH.nil
            go_simp
            have hx := HOB; clear hx; go_at_call 26; go_must (refine (HLG2.out _ _ KK.out HOB.out.at).mono ?_; rintro e wL ⟨rfl, hbL⟩); have KK := Lib.hid (KK.out.trans (hbL.mono KK.out.size)); clear hbL
            try go_wp2_with fail
            refine hK.out _ _ ?_ (fun hHeld => ?_)
            · (try dsimp only); (first | exact ⟨c0, c1, c2, c3, c4⟩ | exact HSS.out _ KK.out | exact HSS.out _ (KK.out.alloc KK.out.size _) | exact HSS.out _ (Below.drew (KK.out.alloc KK.out.size _)) | exact HSS.out _ (Below.drew KK.out) | exact HSS.out _ ((Below.refl _ _).alloc (Nat.le_refl _) _) | exact HSS.out _ (Below.drew ((Below.refl _ _).alloc (Nat.le_refl _) _)) | exact HSS.out _ (((Below.refl _ _).alloc (Nat.le_refl _) _).alloc (by simp) _) | exact HSS.out _ (Below.drew (((Below.refl _ _).alloc (Nat.le_refl _) _).alloc (by simp) _)))
            clear hK K; try simp only [Act.put, List.setIfInBounds_toArray, List.set_cons_zero, List.set_cons_succ]
            refine wpAnyH_take (i := 8) (oi := ({ dst := some 23, op := Go.Op.move (Go.Operand.tmp 22), type := 4, pos := "outright.go:113", after := #[{ on := 7, ground := Go.Ground.data }, { on := 7, ground := Go.Ground.chain }], guard := none } : Oper)) (v := ?_) rfl (by kernel_rfl) (by kernel_rfl) (by kernel_rfl) (fun _ _ _ h => h) (Or.inl ⟨by rfl, ?_⟩) (by assumption) ?_
            rotate_left
            · intro w hSw; (try dsimp only at hSw); go_simp; (try with_reducible rfl)
            try simp only [Act.put, List.setIfInBounds_toArray, List.set_cons_zero, List.set_cons_succ]
            refine wpAnyH_take (i := 9) (oi := ({ dst := some 24, op := Go.Op.move (Go.Operand.tmp 2), type := 42, pos := "outright.go:113", after := #[{ on := 8, ground := Go.Ground.guard }], guard := some (8, false) } : Oper)) (v := ?_) rfl (by kernel_rfl) (by kernel_rfl) (by kernel_rfl) (fun _ _ _ h => h) (Or.inl ⟨by rfl, ?_⟩) (by assumption) ?_
            rotate_left
            · intro w hSw; (try dsimp only at hSw); go_simp; (try with_reducible rfl)
            try simp only [Act.put, List.setIfInBounds_toArray, List.set_cons_zero, List.set_cons_succ]
            refine wpAnyH_take (i := 10) (oi := ({ dst := some 25, op := Go.Op.call { callee := Go.Callee.builtin Go.Builtin.len, args := #[Go.Operand.tmp 24], argTypes := #[42] }, type := 3, pos := "outright.go:113", after := #[{ on := 9, ground := Go.Ground.data }, { on := 8, ground := Go.Ground.guard }], guard := some (8, false) } : Oper)) (v := ?_) rfl (by kernel_rfl) (by kernel_rfl) (by kernel_rfl) (fun _ _ _ h => h) (Or.inl ⟨by rfl, ?_⟩) (by assumption) ?_
            rotate_left
            · intro w hSw; (try dsimp only at hSw); go_simp; (try with_reducible rfl)
            try simp only [Act.put, List.setIfInBounds_toArray, List.set_cons_zero, List.set_cons_succ]
            refine wpAnyH_take (i := 11) (oi := ({ dst := some 26, op := Go.Op.binOp Go.BinOp.gtr 3 (Go.Operand.tmp 25) (Go.Operand.const (Go.Value.int Go.IntKind.i64 200)) 3, type := 4, pos := "outright.go:113", after := #[{ on := 10, ground := Go.Ground.data }, { on := 8, ground := Go.Ground.guard }], guard := some (8, false) } : Oper)) (v := ?_) rfl (by kernel_rfl) (by kernel_rfl) (by kernel_rfl) (fun _ _ _ h => h) (Or.inl ⟨by rfl, ?_⟩) (by assumption) ?_
            rotate_left
            · intro w hSw; (try dsimp only at hSw); go_simp; (try with_reducible rfl)
            try simp only [Act.put, List.setIfInBounds_toArray, List.set_cons_zero, List.set_cons_succ]
            refine wpAnyH_take (i := 12) (oi := ({ dst := some 27, op := Go.Op.pick (Go.Operand.tmp 23) (Go.Operand.const (Go.Value.bool true)) (Go.Operand.tmp 26), type := 4, pos := "outright.go:113", after := #[{ on := 8, ground := Go.Ground.data }, { on := 11, ground := Go.Ground.data }], guard := none } : Oper)) (v := ?_) rfl (by kernel_rfl) (by kernel_rfl) (by kernel_rfl) (fun _ _ _ h => h) (Or.inl ⟨by rfl, ?_⟩) (by assumption) ?_
            rotate_left
            · intro w hSw; (try dsimp only at hSw); go_simp; (try with_reducible rfl)
            try simp only [Act.put, List.setIfInBounds_toArray, List.set_cons_zero, List.set_cons_succ]
            refine wpAnyH_take (i := 13) (oi := ({ dst := some 28, op := Go.Op.move (Go.Operand.tmp 27), type := 4, pos := "outright.go:113", after := #[{ on := 12, ground := Go.Ground.data }, { on := 8, ground := Go.Ground.chain }], guard := none } : Oper)) (v := ?_) rfl (by kernel_rfl) (by kernel_rfl) (by kernel_rfl) (fun _ _ _ h => h) (Or.inl ⟨by rfl, ?_⟩) (by assumption) ?_
            rotate_left
            · intro w hSw; (try dsimp only at hSw); go_simp; (try with_reducible rfl)
            try simp only [Act.put, List.setIfInBounds_toArray, List.set_cons_zero, List.set_cons_succ]
            refine wpAnyH_take (i := 14) (oi := ({ dst := some 29, op := Go.Op.call { callee := Go.Callee.value (Go.Operand.func 10), args := #[], argTypes := #[] }, type := 4, pos := "outright.go:113", after := #[{ on := 13, ground := Go.Ground.chain }, { on := 13, ground := Go.Ground.guard }], guard := some (13, false) } : Oper)) (v := undef) rfl (by kernel_rfl) (by kernel_rfl) (by kernel_rfl) (fun _ _ _ h => h) (Or.inr ⟨by rfl, rfl⟩) (by assumption) ?_
            try simp only [Act.put, List.setIfInBounds_toArray, List.set_cons_zero, List.set_cons_succ]
            refine wpAnyH_take (i := 15) (oi := ({ dst := some 30, op := Go.Op.unOp Go.UnOp.not 4 (Go.Operand.tmp 29), type := 4, pos := "outright.go:113", after := #[{ on := 14, ground := Go.Ground.data }, { on := 13, ground := Go.Ground.guard }], guard := some (13, false) } : Oper)) (v := undef) rfl (by kernel_rfl) (by kernel_rfl) (by kernel_rfl) (fun _ _ _ h => h) (Or.inr ⟨by rfl, rfl⟩) (by assumption) ?_
            try simp only [Act.put, List.setIfInBounds_toArray, List.set_cons_zero, List.set_cons_succ]
            refine wpAnyH_take (i := 16) (oi := ({ dst := some 31, op := Go.Op.pick (Go.Operand.tmp 28) (Go.Operand.const (Go.Value.bool true)) (Go.Operand.tmp 30), type := 4, pos := "outright.go:113", after := #[{ on := 13, ground := Go.Ground.data }, { on := 15, ground := Go.Ground.data }], guard := none } : Oper)) (v := ?_) rfl (by kernel_rfl) (by kernel_rfl) (by kernel_rfl) (fun _ _ _ h => h) (Or.inl ⟨by rfl, ?_⟩) (by assumption) ?_
            rotate_left
            · intro w hSw; (try dsimp only at hSw); go_simp; (try with_reducible rfl)
            try simp only [Act.put, List.setIfInBounds_toArray, List.set_cons_zero, List.set_cons_succ]
            refine wpAnyH_done (by kernel_rfl) ?_ _
            (go_wp2_with fail; go_meet; exact ⟨_, rfl, Lib.hid (by first | exact KK.out | exact Below.drew KK.out)⟩)
        · skip
          go_simp
          refine hK.out _ _ ?_ (fun hHeld => ?_)
          · (try dsimp only); (first | exact ⟨c0, c1, c2, c3, c4⟩ | exact HSS.out _ KK.out | exact HSS.out _ (KK.out.alloc KK.out.size _) | exact HSS.out _ (Below.drew (KK.out.alloc KK.out.size _)) | exact HSS.out _ (Below.drew KK.out) | exact HSS.out _ ((Below.refl _ _).alloc (Nat.le_refl _) _) | exact HSS.out _ (Below.drew ((Below.refl _ _).alloc (Nat.le_refl _) _)) | exact HSS.out _ (((Below.refl _ _).alloc (Nat.le_refl _) _).alloc (by simp) _) | exact HSS.out _ (Below.drew (((Below.refl _ _).alloc (Nat.le_refl _) _).alloc (by simp) _)))
          clear hK K; try simp only [Act.put, List.setIfInBounds_toArray, List.set_cons_zero, List.set_cons_succ]
          refine wpAnyH_ready (rs := [0]) (by kernel_rfl) (by simp) ?_
          refine AllReadyH.cons (o := ({ dst := some 15, op := Go.Op.buildSlice 42 0 #[], type := 42, pos := "outright.go:113", after := #[], guard := none } : Oper)) rfl (fun K hK => ?_) AllReadyH.nil
          go_simp
          refine hK.out _ _ ?_ (fun hHeld => ?_)
          · (try dsimp only); (first | exact ⟨c0, c1, c2, c3, c4⟩ | exact HSS.out _ KK.out | exact HSS.out _ (KK.out.alloc KK.out.size _) | exact HSS.out _ (Below.drew (KK.out.alloc KK.out.size _)) | exact HSS.out _ (Below.drew KK.out) | exact HSS.out _ ((Below.refl _ _).alloc (Nat.le_refl _) _) | exact HSS.out _ (Below.drew ((Below.refl _ _).alloc (Nat.le_refl _) _)) | exact HSS.out _ (((Below.refl _ _).alloc (Nat.le_refl _) _).alloc (by simp) _) | exact HSS.out _ (Below.drew (((Below.refl _ _).alloc (Nat.le_refl _) _).alloc (by simp) _)))
          clear hK K; try simp only [Act.put, List.setIfInBounds_toArray, List.set_cons_zero, List.set_cons_succ]
          refine wpAnyH_ready (rs := [2]) (by kernel_rfl) (by simp) ?_
          refine AllReadyH.cons (o := ({ dst := some 17, op := Go.Op.call { callee := Go.Callee.builtin Go.Builtin.append, args := #[Go.Operand.tmp 15, Go.Operand.tmp 16], argTypes := #[42, 42] }, type := 42, pos := "outright.go:113", after := #[{ on := 0, ground := Go.Ground.data }, { on := 1, ground := Go.Ground.data }], guard := none } : Oper)) rfl (fun K hK => ?_) AllReadyH.nil
          have hB : Below W0.heap.size W0 ((W0.alloc (.cells #[.int .u8 (a.what : Int), .int .i64 a.t, .int .i64 a.n, .string a.s, a.v] 51)).alloc (.cells #[] 51)) := ((Below.refl _ _).alloc (Nat.le_refl _) _).alloc (by simp) _; have ho := (show O5 ((W0.alloc (.cells #[.int .u8 (a.what : Int), .int .i64 a.t, .int .i64 a.n, .string a.s, a.v] 51)).alloc (.cells #[] 51)) W0.heap.size (.slice (some ⟨W0.heap.size + 1, 0, none⟩) 0 0) [] by have := O5.empty (W0.alloc (.cells #[.int .u8 (a.what : Int), .int .i64 a.t, .int .i64 a.n, .string a.s, a.v] 51)) W0.heap.size (by simp); rw [World.size_alloc] at this; exact this); refine step_append5 (by rfl) (.tmp 15) (.tmp 16) (by rfl) W0.heap.size _ [] (by rfl) (O5.drew ho) _ acs (by rfl) (HAT2.out _ hB.drew) HON1.out hl1 hB.size ?_; intro vA wA hoA hgA; have KK := Lib.hid (hB.drew.grown hgA hB.size (fun k hk => (ho.base k hk).1)); have HOA := Lib.hid hoA; have HX1 := Lib.hid (((HONE.out W0).below ((Below.refl _ _).alloc (Nat.le_refl _) (.cells #[] 51)) (Nat.le_refl _)).same (fun g hg h => hgA.block g hg (by rw [← h]; simp [Value.ownBlock]))); clear hoA hgA ho hB
          refine hK.out _ _ ?_ (fun hHeld => ?_)
          · (try dsimp only); (first | exact ⟨c0, c1, c2, c3, c4⟩ | exact HSS.out _ KK.out | exact HSS.out _ (KK.out.alloc KK.out.size _) | exact HSS.out _ (Below.drew (KK.out.alloc KK.out.size _)) | exact HSS.out _ (Below.drew KK.out) | exact HSS.out _ ((Below.refl _ _).alloc (Nat.le_refl _) _) | exact HSS.out _ (Below.drew ((Below.refl _ _).alloc (Nat.le_refl _) _)) | exact HSS.out _ (((Below.refl _ _).alloc (Nat.le_refl _) _).alloc (by simp) _) | exact HSS.out _ (Below.drew (((Below.refl _ _).alloc (Nat.le_refl _) _).alloc (by simp) _)))
          clear hK K; try simp only [Act.put, List.setIfInBounds_toArray, List.set_cons_zero, List.set_cons_succ]
          refine wpAnyH_ready (rs := [5]) (by kernel_rfl) (by simp) ?_
          refine AllReadyH.cons (o := ({ dst := some 20, op := Go.Op.call { callee := Go.Callee.builtin Go.Builtin.append, args := #[Go.Operand.tmp 17, Go.Operand.tmp 19], argTypes := #[42, 42] }, type := 42, pos := "outright.go:113", after := #[{ on := 2, ground := Go.Ground.data }, { on := 4, ground := Go.Ground.data }, { on := 2, ground := Go.Ground.chain }], guard := none } : Oper)) rfl (fun K hK => ?_) AllReadyH.nil
          have hx := HX1; clear hx; refine step_append5 (by rfl) (.tmp 17) (.tmp 19) (by rfl) W0.heap.size _ ([] ++ acs) (by rfl) HOA.out _ [a] (by rfl) HX1.out HON2.out hl2 KK.out.size ?_; intro vB wB hoB hgB; have KK := Lib.hid (KK.out.grown hgB KK.out.size (fun k hk => (HOA.out.base k hk).1)); have HOB := Lib.hid hoB; clear hoB hgB
          refine hK.out _ _ ?_ (fun hHeld => ?_)
          · (try dsimp only); (first | exact ⟨c0, c1, c2, c3, c4⟩ | exact HSS.out _ KK.out | exact HSS.out _ (KK.out.alloc KK.out.size _) | exact HSS.out _ (Below.drew (KK.out.alloc KK.out.size _)) | exact HSS.out _ (Below.drew KK.out) | exact HSS.out _ ((Below.refl _ _).alloc (Nat.le_refl _) _) | exact HSS.out _ (Below.drew ((Below.refl _ _).alloc (Nat.le_refl _) _)) | exact HSS.out _ (((Below.refl _ _).alloc (Nat.le_refl _) _).alloc (by simp) _) | exact HSS.out _ (Below.drew (((Below.refl _ _).alloc (Nat.le_refl _) _).alloc (by simp) _)))
          clear hK K; try simp only [Act.put, List.setIfInBounds_toArray, List.set_cons_zero, List.set_cons_succ]
          refine wpAnyH_ready (rs := [7]) (by kernel_rfl) (by simp) ?_
          refine AllReadyH.cons (o := ({ dst := some 22, op := Go.Op.call { callee := Go.Callee.value (Go.Operand.func 26), args := #[Go.Operand.tmp 20, Go.Operand.tmp 21], argTypes := #[42, 28] }, type := 4, pos := "outright.go:113", after := #[{ on := 5, ground := Go.Ground.data }, { on := 6, ground := Go.Ground.data }, { on := 5, ground := Go.Ground.chain }], guard := none } : Oper)) rfl (fun K hK => ?_) AllReadyH.nil
          go_simp
          have hx := HOB; clear hx; go_at_call 26; go_must (refine (HLG2.out _ _ KK.out HOB.out.at).mono ?_; rintro e wL ⟨rfl, hbL⟩); have KK := Lib.hid (KK.out.trans (hbL.mono KK.out.size)); clear hbL
          try go_wp2_with fail
          refine hK.out _ _ ?_ (fun hHeld => ?_)
          · (try dsimp only); (first | exact ⟨c0, c1, c2, c3, c4⟩ | exact HSS.out _ KK.out | exact HSS.out _ (KK.out.alloc KK.out.size _) | exact HSS.out _ (Below.drew (KK.out.alloc KK.out.size _)) | exact HSS.out _ (Below.drew KK.out) | exact HSS.out _ ((Below.refl _ _).alloc (Nat.le_refl _) _) | exact HSS.out _ (Below.drew ((Below.refl _ _).alloc (Nat.le_refl _) _)) | exact HSS.out _ (((Below.refl _ _).alloc (Nat.le_refl _) _).alloc (by simp) _) | exact HSS.out _ (Below.drew (((Below.refl _ _).alloc (Nat.le_refl _) _).alloc (by simp) _)))
          clear hK K; try simp only [Act.put, List.setIfInBounds_toArray, List.set_cons_zero, List.set_cons_succ]
          refine wpAnyH_take (i := 8) (oi := ({ dst := some 23, op := Go.Op.move (Go.Operand.tmp 22), type := 4, pos := "outright.go:113", after := #[{ on := 7, ground := Go.Ground.data }, { on := 7, ground := Go.Ground.chain }], guard := none } : Oper)) (v := ?_) rfl (by kernel_rfl) (by kernel_rfl) (by kernel_rfl) (fun _ _ _ h => h) (Or.inl ⟨by rfl, ?_⟩) (by assumption) ?_
          rotate_left
          · intro w hSw; (try dsimp only at hSw); go_simp; (try with_reducible rfl)
          try simp only [Act.put, List.setIfInBounds_toArray, List.set_cons_zero, List.set_cons_succ]
          refine wpAnyH_take (i := 9) (oi := ({ dst := some 24, op := Go.Op.move (Go.Operand.tmp 2), type := 42, pos := "outright.go:113", after := #[{ on := 8, ground := Go.Ground.guard }], guard := some (8, false) } : Oper)) (v := ?_) rfl (by kernel_rfl) (by kernel_rfl) (by kernel_rfl) (fun _ _ _ h => h) (Or.inl ⟨by rfl, ?_⟩) (by assumption) ?_
          rotate_left
          · intro w hSw; (try dsimp only at hSw); go_simp; (try with_reducible rfl)
          try simp only [Act.put, List.setIfInBounds_toArray, List.set_cons_zero, List.set_cons_succ]
          refine wpAnyH_take (i := 10) (oi := ({ dst := some 25, op := Go.Op.call { callee := Go.Callee.builtin Go.Builtin.len, args := #[Go.Operand.tmp 24], argTypes := #[42] }, type := 3, pos := "outright.go:113", after := #[{ on := 9, ground := Go.Ground.data }, { on := 8, ground := Go.Ground.guard }], guard := some (8, false) } : Oper)) (v := ?_) rfl (by kernel_rfl) (by kernel_rfl) (by kernel_rfl) (fun _ _ _ h => h) (Or.inl ⟨by rfl, ?_⟩) (by assumption) ?_
          rotate_left
          · intro w hSw; (try dsimp only at hSw); go_simp; (try with_reducible rfl)
          try simp only [Act.put, List.setIfInBounds_toArray, List.set_cons_zero, List.set_cons_succ]
          refine wpAnyH_take (i := 11) (oi := ({ dst := some 26, op := Go.Op.binOp Go.BinOp.gtr 3 (Go.Operand.tmp 25) (Go.Operand.const (Go.Value.int Go.IntKind.i64 200)) 3, type := 4, pos := "outright.go:113", after := #[{ on := 10, ground := Go.Ground.data }, { on := 8, ground := Go.Ground.guard }], guard := some (8, false) } : Oper)) (v := ?_) rfl (by kernel_rfl) (by kernel_rfl) (by kernel_rfl) (fun _ _ _ h => h) (Or.inl ⟨by rfl, ?_⟩) (by assumption) ?_
          rotate_left
          · intro w hSw; (try dsimp only at hSw); go_simp; (try with_reducible rfl)
          try simp only [Act.put, List.setIfInBounds_toArray, List.set_cons_zero, List.set_cons_succ]
          refine wpAnyH_take (i := 12) (oi := ({ dst := some 27, op := Go.Op.pick (Go.Operand.tmp 23) (Go.Operand.const (Go.Value.bool true)) (Go.Operand.tmp 26), type := 4, pos := "outright.go:113", after := #[{ on := 8, ground := Go.Ground.data }, { on := 11, ground := Go.Ground.data }], guard := none } : Oper)) (v := ?_) rfl (by kernel_rfl) (by kernel_rfl) (by kernel_rfl) (fun _ _ _ h => h) (Or.inl ⟨by rfl, ?_⟩) (by assumption) ?_
          rotate_left
          · intro w hSw; (try dsimp only at hSw); go_simp; (try with_reducible rfl)
          try simp only [Act.put, List.setIfInBounds_toArray, List.set_cons_zero, List.set_cons_succ]
          refine wpAnyH_take (i := 13) (oi := ({ dst := some 28, op := Go.Op.move (Go.Operand.tmp 27), type := 4, pos := "outright.go:113", after := #[{ on := 12, ground := Go.Ground.data }, { on := 8, ground := Go.Ground.chain }], guard := none } : Oper)) (v := ?_) rfl (by kernel_rfl) (by kernel_rfl) (by kernel_rfl) (fun _ _ _ h => h) (Or.inl ⟨by rfl, ?_⟩) (by assumption) ?_
          rotate_left
          · intro w hSw; (try dsimp only at hSw); go_simp; (try with_reducible rfl)
          try simp only [Act.put, List.setIfInBounds_toArray, List.set_cons_zero, List.set_cons_succ]
          refine wpAnyH_take (i := 14) (oi := ({ dst := some 29, op := Go.Op.call { callee := Go.Callee.value (Go.Operand.func 10), args := #[], argTypes := #[] }, type := 4, pos := "outright.go:113", after := #[{ on := 13, ground := Go.Ground.chain }, { on := 13, ground := Go.Ground.guard }], guard := some (13, false) } : Oper)) (v := undef) rfl (by kernel_rfl) (by kernel_rfl) (by kernel_rfl) (fun _ _ _ h => h) (Or.inr ⟨by rfl, rfl⟩) (by assumption) ?_
          try simp only [Act.put, List.setIfInBounds_toArray, List.set_cons_zero, List.set_cons_succ]
          refine wpAnyH_take (i := 15) (oi := ({ dst := some 30, op := Go.Op.unOp Go.UnOp.not 4 (Go.Operand.tmp 29), type := 4, pos := "outright.go:113", after := #[{ on := 14, ground := Go.Ground.data }, { on := 13, ground := Go.Ground.guard }], guard := some (13, false) } : Oper)) (v := undef) rfl (by kernel_rfl) (by kernel_rfl) (by kernel_rfl) (fun _ _ _ h => h) (Or.inr ⟨by rfl, rfl⟩) (by assumption) ?_
          try simp only [Act.put, List.setIfInBounds_toArray, List.set_cons_zero, List.set_cons_succ]
          refine wpAnyH_take (i := 16) (oi := ({ dst := some 31, op := Go.Op.pick (Go.Operand.tmp 28) (Go.Operand.const (Go.Value.bool true)) (Go.Operand.tmp 30), type := 4, pos := "outright.go:113", after := #[{ on := 13, ground := Go.Ground.data }, { on := 15, ground := Go.Ground.data }], guard := none } : Oper)) (v := ?_) rfl (by kernel_rfl) (by kernel_rfl) (by kernel_rfl) (fun _ _ _ h => h) (Or.inl ⟨by rfl, ?_⟩) (by assumption) ?_
          rotate_left
          · intro w hSw; (try dsimp only at hSw); go_simp; (try with_reducible rfl)
          try simp only [Act.put, List.setIfInBounds_toArray, List.set_cons_zero, List.set_cons_succ]
          refine wpAnyH_done (by kernel_rfl) ?_ _
          (go_wp2_with fail; go_meet; exact ⟨_, rfl, Lib.hid (by first | exact KK.out | exact Below.drew KK.out)⟩)
      · have hd2 : decide ((200 : Int) < (La : Int)) = false := decide_eq_false (by omega)
        refine wp_region_held_drew (S := (fun w' => w'.cell? ⟨w.heap.size, 0, none⟩ = some (.int .u8 (a.what : Int)) ∧ w'.cell? ⟨w.heap.size, 1, none⟩ = some (.int .i64 a.t) ∧ w'.cell? ⟨w.heap.size, 2, none⟩ = some (.int .i64 a.n) ∧ w'.cell? ⟨w.heap.size, 3, none⟩ = some (.string a.s) ∧ w'.cell? ⟨w.heap.size, 4, none⟩ = some a.v)) (by kernel_rfl) ?_ (fun hHeld => ?_)
        · (try dsimp only); (first | exact ⟨c0, c1, c2, c3, c4⟩ | exact HSS.out _ KK.out | exact HSS.out _ (KK.out.alloc KK.out.size _) | exact HSS.out _ (Below.drew (KK.out.alloc KK.out.size _)) | exact HSS.out _ (Below.drew KK.out) | exact HSS.out _ ((Below.refl _ _).alloc (Nat.le_refl _) _) | exact HSS.out _ (Below.drew ((Below.refl _ _).alloc (Nat.le_refl _) _)) | exact HSS.out _ (((Below.refl _ _).alloc (Nat.le_refl _) _).alloc (by simp) _) | exact HSS.out _ (Below.drew (((Below.refl _ _).alloc (Nat.le_refl _) _).alloc (by simp) _)))
        refine wpAnyH_take (i := 1) (oi := ({ dst := some 16, op := Go.Op.move (Go.Operand.tmp 2), type := 42, pos := "outright.go:113", after := #[], guard := none } : Oper)) (v := ?_) rfl (by kernel_rfl) (by kernel_rfl) (by kernel_rfl) (fun _ _ _ h => h) (Or.inl ⟨by rfl, ?_⟩) (by assumption) ?_
        rotate_left
        · intro w hSw; (try dsimp only at hSw); go_simp; (try with_reducible rfl)
        try simp only [Act.put, List.setIfInBounds_toArray, List.set_cons_zero, List.set_cons_succ]
        refine wpAnyH_take (i := 3) (oi := ({ dst := some 18, op := Go.Op.load 51 (Go.Operand.tmp 7), type := 51, pos := "outright.go:113", after := #[], guard := none } : Oper)) (v := ?_) rfl (by kernel_rfl) (by kernel_rfl) (by kernel_rfl) (fun _ _ _ h => h) (Or.inl ⟨by rfl, ?_⟩) (by assumption) ?_
        rotate_left
        · intro w hSw; (try dsimp only at hSw); go_simp; (try with_reducible rfl)
        try simp only [Act.put, List.setIfInBounds_toArray, List.set_cons_zero, List.set_cons_succ]
        refine wpAnyH_take (i := 6) (oi := ({ dst := some 21, op := Go.Op.move (Go.Operand.tmp 1), type := 28, pos := "outright.go:113", after := #[], guard := none } : Oper)) (v := ?_) rfl (by kernel_rfl) (by kernel_rfl) (by kernel_rfl) (fun _ _ _ h => h) (Or.inl ⟨by rfl, ?_⟩) (by assumption) ?_
        rotate_left
        · intro w hSw; (try dsimp only at hSw); go_simp; (try with_reducible rfl)
        try simp only [Act.put, List.setIfInBounds_toArray, List.set_cons_zero, List.set_cons_succ]
        refine wpAnyH_ready (rs := [0, 4]) (by kernel_rfl) (by simp) ?_
        refine AllReadyH.cons (o := ({ dst := some 15, op := Go.Op.buildSlice 42 0 #[], type := 42, pos := "outright.go:113", after := #[], guard := none } : Oper)) rfl (fun K hK => ?_) (AllReadyH.cons (o := ({ dst := some 19, op := Go.Op.buildSlice 42 1 #[(0, Go.Operand.tmp 18)], type := 42, pos := "outright.go:113", after := #[{ on := 3, ground := Go.Ground.data }], guard := none } : Oper)) rfl (fun K hK => ?_) AllReadyH.nil)
        · skip
          go_simp
          refine hK.out _ _ ?_ (fun hHeld => ?_)
          · (try dsimp only); (first | exact ⟨c0, c1, c2, c3, c4⟩ | exact HSS.out _ KK.out | exact HSS.out _ (KK.out.alloc KK.out.size _) | exact HSS.out _ (Below.drew (KK.out.alloc KK.out.size _)) | exact HSS.out _ (Below.drew KK.out) | exact HSS.out _ ((Below.refl _ _).alloc (Nat.le_refl _) _) | exact HSS.out _ (Below.drew ((Below.refl _ _).alloc (Nat.le_refl _) _)) | exact HSS.out _ (((Below.refl _ _).alloc (Nat.le_refl _) _).alloc (by simp) _) | exact HSS.out _ (Below.drew (((Below.refl _ _).alloc (Nat.le_refl _) _).alloc (by simp) _)))
          clear hK K; try simp only [Act.put, List.setIfInBounds_toArray, List.set_cons_zero, List.set_cons_succ]
          refine wpAnyH_ready (rs := [2, 4]) (by kernel_rfl) (by simp) ?_
          refine AllReadyH.cons (o := ({ dst := some 17, op := Go.Op.call { callee := Go.Callee.builtin Go.Builtin.append, args := #[Go.Operand.tmp 15, Go.Operand.tmp 16], argTypes := #[42, 42] }, type := 42, pos := "outright.go:113", after := #[{ on := 0, ground := Go.Ground.data }, { on := 1, ground := Go.Ground.data }], guard := none } : Oper)) rfl (fun K hK => ?_) (AllReadyH.cons (o := ({ dst := some 19, op := Go.Op.buildSlice 42 1 #[(0, Go.Operand.tmp 18)], type := 42, pos := "outright.go:113", after := #[{ on := 3, ground := Go.Ground.data }], guard := none } : Oper)) rfl (fun K hK => ?_) AllReadyH.nil)
          · skip
            have hB : Below W0.heap.size W0 (W0.alloc (.cells #[] 51)) := (Below.refl _ _).alloc (Nat.le_refl _) _; have ho := O5.empty W0 W0.heap.size (Nat.le_refl _); refine step_append5 (by rfl) (.tmp 15) (.tmp 16) (by rfl) W0.heap.size _ [] (by rfl) (O5.drew ho) _ acs (by rfl) (HAT2.out _ hB.drew) HON1.out hl1 hB.size ?_; intro vA wA hoA hgA; have KK := Lib.hid (hB.drew.grown hgA hB.size (fun k hk => (ho.base k hk).1)); have HOA := Lib.hid hoA; clear hoA hgA ho hB
            refine hK.out _ _ ?_ (fun hHeld => ?_)
            · (try dsimp only); (first | exact ⟨c0, c1, c2, c3, c4⟩ | exact HSS.out _ KK.out | exact HSS.out _ (KK.out.alloc KK.out.size _) | exact HSS.out _ (Below.drew (KK.out.alloc KK.out.size _)) | exact HSS.out _ (Below.drew KK.out) | exact HSS.out _ ((Below.refl _ _).alloc (Nat.le_refl _) _) | exact HSS.out _ (Below.drew ((Below.refl _ _).alloc (Nat.le_refl _) _)) | exact HSS.out _ (((Below.refl _ _).alloc (Nat.le_refl _) _).alloc (by simp) _) | exact HSS.out _ (Below.drew (((Below.refl _ _).alloc (Nat.le_refl _) _).alloc (by simp) _)))
            clear hK K; try simp only [Act.put, List.setIfInBounds_toArray, List.set_cons_zero, List.set_cons_succ]
            refine wpAnyH_ready (rs := [4]) (by kernel_rfl) (by simp) ?_
            refine AllReadyH.cons (o := ({ dst := some 19, op := Go.Op.buildSlice 42 1 #[(0, Go.Operand.tmp 18)], type := 42, pos := "outright.go:113", after := #[{ on := 3, ground := Go.Ground.data }], guard := none } : Oper)) rfl (fun K hK => ?_) AllReadyH.nil
            go_simp
            refine hK.out _ _ ?_ (fun hHeld => ?_)
            · (try dsimp only); (first | exact ⟨c0, c1, c2, c3, c4⟩ | exact HSS.out _ KK.out | exact HSS.out _ (KK.out.alloc KK.out.size _) | exact HSS.out _ (Below.drew (KK.out.alloc KK.out.size _)) | exact HSS.out _ (Below.drew KK.out) | exact HSS.out _ ((Below.refl _ _).alloc (Nat.le_refl _) _) | exact HSS.out _ (Below.drew ((Below.refl _ _).alloc (Nat.le_refl _) _)) | exact HSS.out _ (((Below.refl _ _).alloc (Nat.le_refl _) _).alloc (by simp) _) | exact HSS.out _ (Below.drew (((Below.refl _ _).alloc (Nat.le_refl _) _).alloc (by simp) _)))
            clear hK K; try simp only [Act.put, List.setIfInBounds_toArray, List.set_cons_zero, List.set_cons_succ]
            refine wpAnyH_ready (rs := [5]) (by kernel_rfl) (by simp) ?_
            refine AllReadyH.cons (o := ({ dst := some 20, op := Go.Op.call { callee := Go.Callee.builtin Go.Builtin.append, args := #[Go.Operand.tmp 17, Go.Operand.tmp 19], argTypes := #[42, 42] }, type := 42, pos := "outright.go:113", after := #[{ on := 2, ground := Go.Ground.data }, { on := 4, ground := Go.Ground.data }, { on := 2, ground := Go.Ground.chain }], guard := none } : Oper)) rfl (fun K hK => ?_) AllReadyH.nil
            have hx := HOA; clear hx; refine step_append5 (by rfl) (.tmp 17) (.tmp 19) (by rfl) W0.heap.size _ ([] ++ acs) (by rfl) (HOA.out.below ((Below.refl _ _).alloc (Nat.le_refl _) _) (Nat.le_refl _)) _ [a] (by rfl) (HONE.out wA) HON2.out hl2 (KK.out.alloc KK.out.size _).size ?_; intro vB wB hoB hgB; have KK := Lib.hid ((KK.out.alloc KK.out.size _).grown hgB (KK.out.alloc KK.out.size _).size (fun k hk => (HOA.out.base k hk).1)); have HOB := Lib.hid hoB; clear hoB hgB
            refine hK.out _ _ ?_ (fun hHeld => ?_)
            · (try dsimp only); (first | exact ⟨c0, c1, c2, c3, c4⟩ | exact HSS.out _ KK.out | exact HSS.out _ (KK.out.alloc KK.out.size _) | exact HSS.out _ (Below.drew (KK.out.alloc KK.out.size _)) | exact HSS.out _ (Below.drew KK.out) | exact HSS.out _ ((Below.refl _ _).alloc (Nat.le_refl _) _) | exact HSS.out _ (Below.drew ((Below.refl _ _).alloc (Nat.le_refl _) _)) | exact HSS.out _ (((Below.refl _ _).alloc (Nat.le_refl _) _).alloc (by simp) _) | exact HSS.out _ (Below.drew (((Below.refl _ _).alloc (Nat.le_refl _) _).alloc (by simp) _)))
            clear hK K; try simp only [Act.put, List.setIfInBounds_toArray, List.set_cons_zero, List.set_cons_succ]
            refine wpAnyH_ready (rs := [7]) (by kernel_rfl) (by simp) ?_
            refine AllReadyH.cons (o := ({ dst := some 22, op := Go.Op.call { callee := Go.Callee.value (Go.Operand.func 26), args := #[Go.Operand.tmp 20, Go.Operand.tmp 21], argTypes := #[42, 28] }, type := 4, pos := "outright.go:113", after := #[{ on := 5, ground := Go.Ground.data }, { on := 6, ground := Go.Ground.data }, { on := 5, ground := Go.Ground.chain }], guard := none } : Oper)) rfl (fun K hK => ?_) AllReadyH.nil
            go_simp
            have hx := HOB; clear hx; go_at_call 26; go_must (refine (HLG2.out _ _ KK.out HOB.out.at).mono ?_; rintro e wL ⟨rfl, hbL⟩); have KK := Lib.hid (KK.out.trans (hbL.mono KK.out.size)); clear hbL
            try go_wp2_with fail
            refine hK.out _ _ ?_ (fun hHeld => ?_)
            · (try dsimp only); (first | exact ⟨c0, c1, c2, c3, c4⟩ | exact HSS.out _ KK.out | exact HSS.out _ (KK.out.alloc KK.out.size _) | exact HSS.out _ (Below.drew (KK.out.alloc KK.out.size _)) | exact HSS.out _ (Below.drew KK.out) | exact HSS.out _ ((Below.refl _ _).alloc (Nat.le_refl _) _) | exact HSS.out _ (Below.drew ((Below.refl _ _).alloc (Nat.le_refl _) _)) | exact HSS.out _ (((Below.refl _ _).alloc (Nat.le_refl _) _).alloc (by simp) _) | exact HSS.out _ (Below.drew (((Below.refl _ _).alloc (Nat.le_refl _) _).alloc (by simp) _)))
            clear hK K; try simp only [Act.put, List.setIfInBounds_toArray, List.set_cons_zero, List.set_cons_succ]
            refine wpAnyH_take (i := 8) (oi := ({ dst := some 23, op := Go.Op.move (Go.Operand.tmp 22), type := 4, pos := "outright.go:113", after := #[{ on := 7, ground := Go.Ground.data }, { on := 7, ground := Go.Ground.chain }], guard := none } : Oper)) (v := ?_) rfl (by kernel_rfl) (by kernel_rfl) (by kernel_rfl) (fun _ _ _ h => h) (Or.inl ⟨by rfl, ?_⟩) (by assumption) ?_
            rotate_left
            · intro w hSw; (try dsimp only at hSw); go_simp; (try with_reducible rfl)
            try simp only [Act.put, List.setIfInBounds_toArray, List.set_cons_zero, List.set_cons_succ]
            refine wpAnyH_take (i := 9) (oi := ({ dst := some 24, op := Go.Op.move (Go.Operand.tmp 2), type := 42, pos := "outright.go:113", after := #[{ on := 8, ground := Go.Ground.guard }], guard := some (8, false) } : Oper)) (v := ?_) rfl (by kernel_rfl) (by kernel_rfl) (by kernel_rfl) (fun _ _ _ h => h) (Or.inl ⟨by rfl, ?_⟩) (by assumption) ?_
            rotate_left
            · intro w hSw; (try dsimp only at hSw); go_simp; (try with_reducible rfl)
            try simp only [Act.put, List.setIfInBounds_toArray, List.set_cons_zero, List.set_cons_succ]
            refine wpAnyH_take (i := 10) (oi := ({ dst := some 25, op := Go.Op.call { callee := Go.Callee.builtin Go.Builtin.len, args := #[Go.Operand.tmp 24], argTypes := #[42] }, type := 3, pos := "outright.go:113", after := #[{ on := 9, ground := Go.Ground.data }, { on := 8, ground := Go.Ground.guard }], guard := some (8, false) } : Oper)) (v := ?_) rfl (by kernel_rfl) (by kernel_rfl) (by kernel_rfl) (fun _ _ _ h => h) (Or.inl ⟨by rfl, ?_⟩) (by assumption) ?_
            rotate_left
            · intro w hSw; (try dsimp only at hSw); go_simp; (try with_reducible rfl)
            try simp only [Act.put, List.setIfInBounds_toArray, List.set_cons_zero, List.set_cons_succ]
            refine wpAnyH_take (i := 11) (oi := ({ dst := some 26, op := Go.Op.binOp Go.BinOp.gtr 3 (Go.Operand.tmp 25) (Go.Operand.const (Go.Value.int Go.IntKind.i64 200)) 3, type := 4, pos := "outright.go:113", after := #[{ on := 10, ground := Go.Ground.data }, { on := 8, ground := Go.Ground.guard }], guard := some (8, false) } : Oper)) (v := ?_) rfl (by kernel_rfl) (by kernel_rfl) (by kernel_rfl) (fun _ _ _ h => h) (Or.inl ⟨by rfl, ?_⟩) (by assumption) ?_
            rotate_left
            · intro w hSw; (try dsimp only at hSw); go_simp; (try with_reducible rfl)
            try simp only [Act.put, List.setIfInBounds_toArray, List.set_cons_zero, List.set_cons_succ]
            refine wpAnyH_take (i := 12) (oi := ({ dst := some 27, op := Go.Op.pick (Go.Operand.tmp 23) (Go.Operand.const (Go.Value.bool true)) (Go.Operand.tmp 26), type := 4, pos := "outright.go:113", after := #[{ on := 8, ground := Go.Ground.data }, { on := 11, ground := Go.Ground.data }], guard := none } : Oper)) (v := ?_) rfl (by kernel_rfl) (by kernel_rfl) (by kernel_rfl) (fun _ _ _ h => h) (Or.inl ⟨by rfl, ?_⟩) (by assumption) ?_
            rotate_left
            · intro w hSw; (try dsimp only at hSw); go_simp; (try with_reducible rfl)
            try simp only [Act.put, List.setIfInBounds_toArray, List.set_cons_zero, List.set_cons_succ]
            refine wpAnyH_take (i := 13) (oi := ({ dst := some 28, op := Go.Op.move (Go.Operand.tmp 27), type := 4, pos := "outright.go:113", after := #[{ on := 12, ground := Go.Ground.data }, { on := 8, ground := Go.Ground.chain }], guard := none } : Oper)) (v := ?_) rfl (by kernel_rfl) (by kernel_rfl) (by kernel_rfl) (fun _ _ _ h => h) (Or.inl ⟨by rfl, ?_⟩) (by assumption) ?_
            rotate_left
            · intro w hSw; (try dsimp only at hSw); go_simp; (try with_reducible rfl)
            try simp only [Act.put, List.setIfInBounds_toArray, List.set_cons_zero, List.set_cons_succ]
            refine wpAnyH_ready (rs := [14]) (by kernel_rfl) (by simp) ?_
            refine AllReadyH.cons (o := ({ dst := some 29, op := Go.Op.call { callee := Go.Callee.value (Go.Operand.func 10), args := #[], argTypes := #[] }, type := 4, pos := "outright.go:113", after := #[{ on := 13, ground := Go.Ground.chain }, { on := 13, ground := Go.Ground.guard }], guard := some (13, false) } : Oper)) rfl (fun K hK => ?_) AllReadyH.nil
            go_simp
            have hx := HOB; clear hx; go_at_call 10; refine (awake_any _).mono ?_; rintro e wK ⟨rfl, hbK⟩; have KK := Lib.hid (KK.out.trans (hbK.mono KK.out.size)); clear hbK
            try go_wp2_with fail
            refine hK.out _ _ ?_ (fun hHeld => ?_)
            · (try dsimp only); (first | exact ⟨c0, c1, c2, c3, c4⟩ | exact HSS.out _ KK.out | exact HSS.out _ (KK.out.alloc KK.out.size _) | exact HSS.out _ (Below.drew (KK.out.alloc KK.out.size _)) | exact HSS.out _ (Below.drew KK.out) | exact HSS.out _ ((Below.refl _ _).alloc (Nat.le_refl _) _) | exact HSS.out _ (Below.drew ((Below.refl _ _).alloc (Nat.le_refl _) _)) | exact HSS.out _ (((Below.refl _ _).alloc (Nat.le_refl _) _).alloc (by simp) _) | exact HSS.out _ (Below.drew (((Below.refl _ _).alloc (Nat.le_refl _) _).alloc (by simp) _)))
            clear hK K; try simp only [Act.put, List.setIfInBounds_toArray, List.set_cons_zero, List.set_cons_succ]
            refine wpAnyH_take (i := 15) (oi := ({ dst := some 30, op := Go.Op.unOp Go.UnOp.not 4 (Go.Operand.tmp 29), type := 4, pos := "outright.go:113", after := #[{ on := 14, ground := Go.Ground.data }, { on := 13, ground := Go.Ground.guard }], guard := some (13, false) } : Oper)) (v := ?_) rfl (by kernel_rfl) (by kernel_rfl) (by kernel_rfl) (fun _ _ _ h => h) (Or.inl ⟨by rfl, ?_⟩) (by assumption) ?_
            rotate_left
            · intro w hSw; (try dsimp only at hSw); go_simp; (try with_reducible rfl)
            try simp only [Act.put, List.setIfInBounds_toArray, List.set_cons_zero, List.set_cons_succ]
            refine wpAnyH_take (i := 16) (oi := ({ dst := some 31, op := Go.Op.pick (Go.Operand.tmp 28) (Go.Operand.const (Go.Value.bool true)) (Go.Operand.tmp 30), type := 4, pos := "outright.go:113", after := #[{ on := 13, ground := Go.Ground.data }, { on := 15, ground := Go.Ground.data }], guard := none } : Oper)) (v := ?_) rfl (by kernel_rfl) (by kernel_rfl) (by kernel_rfl) (fun _ _ _ h => h) (Or.inl ⟨by rfl, ?_⟩) (by assumption) ?_
            rotate_left
            · intro w hSw; (try dsimp only at hSw); go_simp; (try with_reducible rfl)
            try simp only [Act.put, List.setIfInBounds_toArray, List.set_cons_zero, List.set_cons_succ]
            refine wpAnyH_done (by kernel_rfl) ?_ _
            (go_wp2_with fail; go_meet; exact ⟨_, rfl, Lib.hid (by first | exact KK.out | exact Below.drew KK.out)⟩)
          · skip
            go_simp
            refine hK.out _ _ ?_ (fun hHeld => ?_)
            · (try dsimp only); (first | exact ⟨c0, c1, c2, c3, c4⟩ | exact HSS.out _ KK.out | exact HSS.out _ (KK.out.alloc KK.out.size _) | exact HSS.out _ (Below.drew (KK.out.alloc KK.out.size _)) | exact HSS.out _ (Below.drew KK.out) | exact HSS.out _ ((Below.refl _ _).alloc (Nat.le_refl _) _) | exact HSS.out _ (Below.drew ((Below.refl _ _).alloc (Nat.le_refl _) _)) | exact HSS.out _ (((Below.refl _ _).alloc (Nat.le_refl _) _).alloc (by simp) _) | exact HSS.out _ (Below.drew (((Below.refl _ _).alloc (Nat.le_refl _) _).alloc (by simp) _)))
            clear hK K; try simp only [Act.put, List.setIfInBounds_toArray, List.set_cons_zero, List.set_cons_succ]
            refine wpAnyH_ready (rs := [2]) (by kernel_rfl) (by simp) ?_
            refine AllReadyH.cons (o := ({ dst := some 17, op := Go.Op.call { callee := Go.Callee.builtin Go.Builtin.append, args := #[Go.Operand.tmp 15, Go.Operand.tmp 16], argTypes := #[42, 42] }, type := 42, pos := "outright.go:113", after := #[{ on := 0, ground := Go.Ground.data }, { on := 1, ground := Go.Ground.data }], guard := none } : Oper)) rfl (fun K hK => ?_) AllReadyH.nil
            have hB : Below W0.heap.size W0 ((W0.alloc (.cells #[] 51)).alloc (.cells #[.int .u8 (a.what : Int), .int .i64 a.t, .int .i64 a.n, .string a.s, a.v] 51)) := ((Below.refl _ _).alloc (Nat.le_refl _) _).alloc (by simp) _; have ho := (O5.empty W0 W0.heap.size (Nat.le_refl _)).below (w' := ((W0.alloc (.cells #[] 51)).alloc (.cells #[.int .u8 (a.what : Int), .int .i64 a.t, .int .i64 a.n, .string a.s, a.v] 51))) ((Below.refl _ _).alloc (Nat.le_refl _) _) (Nat.le_refl _); refine step_append5 (by rfl) (.tmp 15) (.tmp 16) (by rfl) W0.heap.size _ [] (by rfl) (O5.drew ho) _ acs (by rfl) (HAT2.out _ hB.drew) HON1.out hl1 hB.size ?_; intro vA wA hoA hgA; have KK := Lib.hid (hB.drew.grown hgA hB.size (fun k hk => (ho.base k hk).1)); have HOA := Lib.hid hoA; have HX1 := Lib.hid (HONB.out.same (fun g hg h => hgA.block g hg (by rw [← h]; simp [Value.ownBlock]))); clear hoA hgA ho hB
            refine hK.out _ _ ?_ (fun hHeld => ?_)
            · (try dsimp only); (first | exact ⟨c0, c1, c2, c3, c4⟩ | exact HSS.out _ KK.out | exact HSS.out _ (KK.out.alloc KK.out.size _) | exact HSS.out _ (Below.drew (KK.out.alloc KK.out.size _)) | exact HSS.out _ (Below.drew KK.out) | exact HSS.out _ ((Below.refl _ _).alloc (Nat.le_refl _) _) | exact HSS.out _ (Below.drew ((Below.refl _ _).alloc (Nat.le_refl _) _)) | exact HSS.out _ (((Below.refl _ _).alloc (Nat.le_refl _) _).alloc (by simp) _) | exact HSS.out _ (Below.drew (((Below.refl _ _).alloc (Nat.le_refl _) _).alloc (by simp) _)))
            clear hK K; try simp only [Act.put, List.setIfInBounds_toArray, List.set_cons_zero, List.set_cons_succ]
            refine wpAnyH_ready (rs := [5]) (by kernel_rfl) (by simp) ?_
            refine AllReadyH.cons (o := ({ dst := some 20, op := Go.Op.call { callee := Go.Callee.builtin Go.Builtin.append, args := #[Go.Operand.tmp 17, Go.Operand.tmp 19], argTypes := #[42, 42] }, type := 42, pos := "outright.go:113", after := #[{ on := 2, ground := Go.Ground.data }, { on := 4, ground := Go.Ground.data }, { on := 2, ground := Go.Ground.chain }], guard := none } : Oper)) rfl (fun K hK => ?_) AllReadyH.nil
            have hx := HX1; clear hx; refine step_append5 (by rfl) (.tmp 17) (.tmp 19) (by rfl) W0.heap.size _ ([] ++ acs) (by rfl) HOA.out _ [a] (by rfl) HX1.out HON2.out hl2 KK.out.size ?_; intro vB wB hoB hgB; have KK := Lib.hid (KK.out.grown hgB KK.out.size (fun k hk => (HOA.out.base k hk).1)); have HOB := Lib.hid hoB; clear hoB hgB
            refine hK.out _ _ ?_ (fun hHeld => ?_)
            · (try dsimp only); (first | exact ⟨c0, c1, c2, c3, c4⟩ | exact HSS.out _ KK.out | exact HSS.out _ (KK.out.alloc KK.out.size _) | exact HSS.out _ (Below.drew (KK.out.alloc KK.out.size _)) | exact HSS.out _ (Below.drew KK.out) | exact HSS.out _ ((Below.refl _ _).alloc (Nat.le_refl _) _) | exact HSS.out _ (Below.drew ((Below.refl _ _).alloc (Nat.le_refl _) _)) | exact HSS.out _ (((Below.refl _ _).alloc (Nat.le_refl _) _).alloc (by simp) _) | exact HSS.out _ (Below.drew (((Below.refl _ _).alloc (Nat.le_refl _) _).alloc (by simp) _)))
            clear hK K; try simp only [Act.put, List.setIfInBounds_toArray, List.set_cons_zero, List.set_cons_succ]
            refine wpAnyH_ready (rs := [7]) (by kernel_rfl) (by simp) ?_
            refine AllReadyH.cons (o := ({ dst := some 22, op := Go.Op.call { callee := Go.Callee.value (Go.Operand.func 26), args := #[Go.Operand.tmp 20, Go.Operand.tmp 21], argTypes := #[42, 28] }, type := 4, pos := "outright.go:113", after := #[{ on := 5, ground := Go.Ground.data }, { on := 6, ground := Go.Ground.data }, { on := 5, ground := Go.Ground.chain }], guard := none } : Oper)) rfl (fun K hK => ?_) AllReadyH.nil
            go_simp
            have hx := HOB; clear hx; go_at_call 26; go_must (refine (HLG2.out _ _ KK.out HOB.out.at).mono ?_; rintro e wL ⟨rfl, hbL⟩); have KK := Lib.hid (KK.out.trans (hbL.mono KK.out.size)); clear hbL
            try go_wp2_with fail
            refine hK.out _ _ ?_ (fun hHeld => ?_)
            · (try dsimp only); (first | exact ⟨c0, c1, c2, c3, c4⟩ | exact HSS.out _ KK.out | exact HSS.out _ (KK.out.alloc KK.out.size _) | exact HSS.out _ (Below.drew (KK.out.alloc KK.out.size _)) | exact HSS.out _ (Below.drew KK.out) | exact HSS.out _ ((Below.refl _ _).alloc (Nat.le_refl _) _) | exact HSS.out _ (Below.drew ((Below.refl _ _).alloc (Nat.le_refl _) _)) | exact HSS.out _ (((Below.refl _ _).alloc (Nat.le_refl _) _).alloc (by simp) _) | exact HSS.out _ (Below.drew (((Below.refl _ _).alloc (Nat.le_refl _) _).alloc (by simp) _)))
            clear hK K; try simp only [Act.put, List.setIfInBounds_toArray, List.set_cons_zero, List.set_cons_succ]
            refine wpAnyH_take (i := 8) (oi := ({ dst := some 23, op := Go.Op.move (Go.Operand.tmp 22), type := 4, pos := "outright.go:113", after := #[{ on := 7, ground := Go.Ground.data }, { on := 7, ground := Go.Ground.chain }], guard := none } : Oper)) (v := ?_) rfl (by kernel_rfl) (by kernel_rfl) (by kernel_rfl) (fun _ _ _ h => h) (Or.inl ⟨by rfl, ?_⟩) (by assumption) ?_
            rotate_left
            · intro w hSw; (try dsimp only at hSw); go_simp; (try with_reducible rfl)
            try simp only [Act.put, List.setIfInBounds_toArray, List.set_cons_zero, List.set_cons_succ]
            refine wpAnyH_take (i := 9) (oi := ({ dst := some 24, op := Go.Op.move (Go.Operand.tmp 2), type := 42, pos := "outright.go:113", after := #[{ on := 8, ground := Go.Ground.guard }], guard := some (8, false) } : Oper)) (v := ?_) rfl (by kernel_rfl) (by kernel_rfl) (by kernel_rfl) (fun _ _ _ h => h) (Or.inl ⟨by rfl, ?_⟩) (by assumption) ?_
            rotate_left
            · intro w hSw; (try dsimp only at hSw); go_simp; (try with_reducible rfl)
            try simp only [Act.put, List.setIfInBounds_toArray, List.set_cons_zero, List.set_cons_succ]
            refine wpAnyH_take (i := 10) (oi := ({ dst := some 25, op := Go.Op.call { callee := Go.Callee.builtin Go.Builtin.len, args := #[Go.Operand.tmp 24], argTypes := #[42] }, type := 3, pos := "outright.go:113", after := #[{ on := 9, ground := Go.Ground.data }, { on := 8, ground := Go.Ground.guard }], guard := some (8, false) } : Oper)) (v := ?_) rfl (by kernel_rfl) (by kernel_rfl) (by kernel_rfl) (fun _ _ _ h => h) (Or.inl ⟨by rfl, ?_⟩) (by assumption) ?_
            rotate_left
            · intro w hSw; (try dsimp only at hSw); go_simp; (try with_reducible rfl)
            try simp only [Act.put, List.setIfInBounds_toArray, List.set_cons_zero, List.set_cons_succ]
            refine wpAnyH_take (i := 11) (oi := ({ dst := some 26, op := Go.Op.binOp Go.BinOp.gtr 3 (Go.Operand.tmp 25) (Go.Operand.const (Go.Value.int Go.IntKind.i64 200)) 3, type := 4, pos := "outright.go:113", after := #[{ on := 10, ground := Go.Ground.data }, { on := 8, ground := Go.Ground.guard }], guard := some (8, false) } : Oper)) (v := ?_) rfl (by kernel_rfl) (by kernel_rfl) (by kernel_rfl) (fun _ _ _ h => h) (Or.inl ⟨by rfl, ?_⟩) (by assumption) ?_
            rotate_left
            · intro w hSw; (try dsimp only at hSw); go_simp; (try with_reducible rfl)
            try simp only [Act.put, List.setIfInBounds_toArray, List.set_cons_zero, List.set_cons_succ]
            refine wpAnyH_take (i := 12) (oi := ({ dst := some 27, op := Go.Op.pick (Go.Operand.tmp 23) (Go.Operand.const (Go.Value.bool true)) (Go.Operand.tmp 26), type := 4, pos := "outright.go:113", after := #[{ on := 8, ground := Go.Ground.data }, { on := 11, ground := Go.Ground.data }], guard := none } : Oper)) (v := ?_) rfl (by kernel_rfl) (by kernel_rfl) (by kernel_rfl) (fun _ _ _ h => h) (Or.inl ⟨by rfl, ?_⟩) (by assumption) ?_
            rotate_left
            · intro w hSw; (try dsimp only at hSw); go_simp; (try with_reducible rfl)
            try simp only [Act.put, List.setIfInBounds_toArray, List.set_cons_zero, List.set_cons_succ]
            refine wpAnyH_take (i := 13) (oi := ({ dst := some 28, op := Go.Op.move (Go.Operand.tmp 27), type := 4, pos := "outright.go:113", after := #[{ on := 12, ground := Go.Ground.data }, { on := 8, ground := Go.Ground.chain }], guard := none } : Oper)) (v := ?_) rfl (by kernel_rfl) (by kernel_rfl) (by kernel_rfl) (fun _ _ _ h => h) (Or.inl ⟨by rfl, ?_⟩) (by assumption) ?_
            rotate_left
            · intro w hSw; (try dsimp only at hSw); go_simp; (try with_reducible rfl)
            try simp only [Act.put, List.setIfInBounds_toArray, List.set_cons_zero, List.set_cons_succ]
            refine wpAnyH_ready (rs := [14]) (by kernel_rfl) (by simp) ?_
            refine AllReadyH.cons (o := ({ dst := some 29, op := Go.Op.call { callee := Go.Callee.value (Go.Operand.func 10), args := #[], argTypes := #[] }, type := 4, pos := "outright.go:113", after := #[{ on := 13, ground := Go.Ground.chain }, { on := 13, ground := Go.Ground.guard }], guard := some (13, false) } : Oper)) rfl (fun K hK => ?_) AllReadyH.nil
            go_simp
            have hx := HOB; clear hx; go_at_call 10; refine (awake_any _).mono ?_; rintro e wK ⟨rfl, hbK⟩; have KK := Lib.hid (KK.out.trans (hbK.mono KK.out.size)); clear hbK
            try go_wp2_with fail
            refine hK.out _ _ ?_ (fun hHeld => ?_)
            · (try dsimp only); (first | exact ⟨c0, c1, c2, c3, c4⟩ | exact HSS.out _ KK.out | exact HSS.out _ (KK.out.alloc KK.out.size _) | exact HSS.out _ (Below.drew (KK.out.alloc KK.out.size _)) | exact HSS.out _ (Below.drew KK.out) | exact HSS.out _ ((Below.refl _ _).alloc (Nat.le_refl _) _) | exact HSS.out _ (Below.drew ((Below.refl _ _).alloc (Nat.le_refl _) _)) | exact HSS.out _ (((Below.refl _ _).alloc (Nat.le_refl _) _).alloc (by simp) _) | exact HSS.out _ (Below.drew (((Below.refl _ _).alloc (Nat.le_refl _) _).alloc (by simp) _)))
            clear hK K; try simp only [Act.put, List.setIfInBounds_toArray, List.set_cons_zero, List.set_cons_succ]
            refine wpAnyH_take (i := 15) (oi := ({ dst := some 30, op := Go.Op.unOp Go.UnOp.not 4 (Go.Operand.tmp 29), type := 4, pos := "outright.go:113", after := #[{ on := 14, ground := Go.Ground.data }, { on := 13, ground := Go.Ground.guard }], guard := some (13, false) } : Oper)) (v := ?_) rfl (by kernel_rfl) (by kernel_rfl) (by kernel_rfl) (fun _ _ _ h => h) (Or.inl ⟨by rfl, ?_⟩) (by assumption) ?_
            rotate_left
            · intro w hSw; (try dsimp only at hSw); go_simp; (try with_reducible rfl)
            try simp only [Act.put, List.setIfInBounds_toArray, List.set_cons_zero, List.set_cons_succ]
            refine wpAnyH_take (i := 16) (oi := ({ dst := some 31, op := Go.Op.pick (Go.Operand.tmp 28) (Go.Operand.const (Go.Value.bool true)) (Go.Operand.tmp 30), type := 4, pos := "outright.go:113", after := #[{ on := 13, ground := Go.Ground.data }, { on := 15, ground := Go.Ground.data }], guard := none } : Oper)) (v := ?_) rfl (by kernel_rfl) (by kernel_rfl) (by kernel_rfl) (fun _ _ _ h => h) (Or.inl ⟨by rfl, ?_⟩) (by assumption) ?_
            rotate_left
            · intro w hSw; (try dsimp only at hSw); go_simp; (try with_reducible rfl)
            try simp only [Act.put, List.setIfInBounds_toArray, List.set_cons_zero, List.set_cons_succ]
            refine wpAnyH_done (by kernel_rfl) ?_ _
            (go_wp2_with fail; go_meet; exact ⟨_, rfl, Lib.hid (by first | exact KK.out | exact Below.drew KK.out)⟩)
        · skip
          go_simp
          refine hK.out _ _ ?_ (fun hHeld => ?_)
          · (try dsimp only); (first | exact ⟨c0, c1, c2, c3, c4⟩ | exact HSS.out _ KK.out | exact HSS.out _ (KK.out.alloc KK.out.size _) | exact HSS.out _ (Below.drew (KK.out.alloc KK.out.size _)) | exact HSS.out _ (Below.drew KK.out) | exact HSS.out _ ((Below.refl _ _).alloc (Nat.le_refl _) _) | exact HSS.out _ (Below.drew ((Below.refl _ _).alloc (Nat.le_refl _) _)) | exact HSS.out _ (((Below.refl _ _).alloc (Nat.le_refl _) _).alloc (by simp) _) | exact HSS.out _ (Below.drew (((Below.refl _ _).alloc (Nat.le_refl _) _).alloc (by simp) _)))
          clear hK K; try simp only [Act.put, List.setIfInBounds_toArray, List.set_cons_zero, List.set_cons_succ]
          refine wpAnyH_ready (rs := [0]) (by kernel_rfl) (by simp) ?_
          refine AllReadyH.cons (o := ({ dst := some 15, op := Go.Op.buildSlice 42 0 #[], type := 42, pos := "outright.go:113", after := #[], guard := none } : Oper)) rfl (fun K hK => ?_) AllReadyH.nil
          go_simp
          refine hK.out _ _ ?_ (fun hHeld => ?_)
          · (try dsimp only); (first | exact ⟨c0, c1, c2, c3, c4⟩ | exact HSS.out _ KK.out | exact HSS.out _ (KK.out.alloc KK.out.size _) | exact HSS.out _ (Below.drew (KK.out.alloc KK.out.size _)) | exact HSS.out _ (Below.drew KK.out) | exact HSS.out _ ((Below.refl _ _).alloc (Nat.le_refl _) _) | exact HSS.out _ (Below.drew ((Below.refl _ _).alloc (Nat.le_refl _) _)) | exact HSS.out _ (((Below.refl _ _).alloc (Nat.le_refl _) _).alloc (by simp) _) | exact HSS.out _ (Below.drew (((Below.refl _ _).alloc (Nat.le_refl _) _).alloc (by simp) _)))
          clear hK K; try simp only [Act.put, List.setIfInBounds_toArray, List.set_cons_zero, List.set_cons_succ]
          refine wpAnyH_ready (rs := [2]) (by kernel_rfl) (by simp) ?_
          refine AllReadyH.cons (o := ({ dst := some 17, op := Go.Op.call { callee := Go.Callee.builtin Go.Builtin.append, args := #[Go.Operand.tmp 15, Go.Operand.tmp 16], argTypes := #[42, 42] }, type := 42, pos := "outright.go:113", after := #[{ on := 0, ground := Go.Ground.data }, { on := 1, ground := Go.Ground.data }], guard := none } : Oper)) rfl (fun K hK => ?_) AllReadyH.nil
          have hB : Below W0.heap.size W0 ((W0.alloc (.cells #[.int .u8 (a.what : Int), .int .i64 a.t, .int .i64 a.n, .string a.s, a.v] 51)).alloc (.cells #[] 51)) := ((Below.refl _ _).alloc (Nat.le_refl _) _).alloc (by simp) _; have ho := (show O5 ((W0.alloc (.cells #[.int .u8 (a.what : Int), .int .i64 a.t, .int .i64 a.n, .string a.s, a.v] 51)).alloc (.cells #[] 51)) W0.heap.size (.slice (some ⟨W0.heap.size + 1, 0, none⟩) 0 0) [] by have := O5.empty (W0.alloc (.cells #[.int .u8 (a.what : Int), .int .i64 a.t, .int .i64 a.n, .string a.s, a.v] 51)) W0.heap.size (by simp); rw [World.size_alloc] at this; exact this); refine step_append5 (by rfl) (.tmp 15) (.tmp 16) (by rfl) W0.heap.size _ [] (by rfl) (O5.drew ho) _ acs (by rfl) (HAT2.out _ hB.drew) HON1.out hl1 hB.size ?_; intro vA wA hoA hgA; have KK := Lib.hid (hB.drew.grown hgA hB.size (fun k hk => (ho.base k hk).1)); have HOA := Lib.hid hoA; have HX1 := Lib.hid (((HONE.out W0).below ((Below.refl _ _).alloc (Nat.le_refl _) (.cells #[] 51)) (Nat.le_refl _)).same (fun g hg h => hgA.block g hg (by rw [← h]; simp [Value.ownBlock]))); clear hoA hgA ho hB
          refine hK.out _ _ ?_ (fun hHeld => ?_)
          · (try dsimp only); (first | exact ⟨c0, c1, c2, c3, c4⟩ | exact HSS.out _ KK.out | exact HSS.out _ (KK.out.alloc KK.out.size _) | exact HSS.out _ (Below.drew (KK.out.alloc KK.out.size _)) | exact HSS.out _ (Below.drew KK.out) | exact HSS.out _ ((Below.refl _ _).alloc (Nat.le_refl _) _) | exact HSS.out _ (Below.drew ((Below.refl _ _).alloc (Nat.le_refl _) _)) | exact HSS.out _ (((Below.refl _ _).alloc (Nat.le_refl _) _).alloc (by simp) _) | exact HSS.out _ (Below.drew (((Below.refl _ _).alloc (Nat.le_refl _) _).alloc (by simp) _)))
          clear hK K; try simp only [Act.put, List.setIfInBounds_toArray, List.set_cons_zero, List.set_cons_succ]
          refine wpAnyH_ready (rs := [5]) (by kernel_rfl) (by simp) ?_
          refine AllReadyH.cons (o := ({ dst := some 20, op := Go.Op.call { callee := Go.Callee.builtin Go.Builtin.append, args := #[Go.Operand.tmp 17, Go.Operand.tmp 19], argTypes := #[42, 42] }, type := 42, pos := "outright.go:113", after := #[{ on := 2, ground := Go.Ground.data }, { on := 4, ground := Go.Ground.data }, { on := 2, ground := Go.Ground.chain }], guard := none } : Oper)) rfl (fun K hK => ?_) AllReadyH.nil
          have hx := HX1; clear hx; refine step_append5 (by rfl) (.tmp 17) (.tmp 19) (by rfl) W0.heap.size _ ([] ++ acs) (by rfl) HOA.out _ [a] (by rfl) HX1.out HON2.out hl2 KK.out.size ?_; intro vB wB hoB hgB; have KK := Lib.hid (KK.out.grown hgB KK.out.size (fun k hk => (HOA.out.base k hk).1)); have HOB := Lib.hid hoB; clear hoB hgB
          refine hK.out _ _ ?_ (fun hHeld => ?_)
          · (try dsimp only); (first | exact ⟨c0, c1, c2, c3, c4⟩ | exact HSS.out _ KK.out | exact HSS.out _ (KK.out.alloc KK.out.size _) | exact HSS.out _ (Below.drew (KK.out.alloc KK.out.size _)) | exact HSS.out _ (Below.drew KK.out) | exact HSS.out _ ((Below.refl _ _).alloc (Nat.le_refl _) _) | exact HSS.out _ (Below.drew ((Below.refl _ _).alloc (Nat.le_refl _) _)) | exact HSS.out _ (((Below.refl _ _).alloc (Nat.le_refl _) _).alloc (by simp) _) | exact HSS.out _ (Below.drew (((Below.refl _ _).alloc (Nat.le_refl _) _).alloc (by simp) _)))
          clear hK K; try simp only [Act.put, List.setIfInBounds_toArray, List.set_cons_zero, List.set_cons_succ]
          refine wpAnyH_ready (rs := [7]) (by kernel_rfl) (by simp) ?_
          refine AllReadyH.cons (o := ({ dst := some 22, op := Go.Op.call { callee := Go.Callee.value (Go.Operand.func 26), args := #[Go.Operand.tmp 20, Go.Operand.tmp 21], argTypes := #[42, 28] }, type := 4, pos := "outright.go:113", after := #[{ on := 5, ground := Go.Ground.data }, { on := 6, ground := Go.Ground.data }, { on := 5, ground := Go.Ground.chain }], guard := none } : Oper)) rfl (fun K hK => ?_) AllReadyH.nil
          go_simp
          have hx := HOB; clear hx; go_at_call 26; go_must (refine (HLG2.out _ _ KK.out HOB.out.at).mono ?_; rintro e wL ⟨rfl, hbL⟩); have KK := Lib.hid (KK.out.trans (hbL.mono KK.out.size)); clear hbL
          try go_wp2_with fail
          refine hK.out _ _ ?_ (fun hHeld => ?_)
          · (try dsimp only); (first | exact ⟨c0, c1, c2, c3, c4⟩ | exact HSS.out _ KK.out | exact HSS.out _ (KK.out.alloc KK.out.size _) | exact HSS.out _ (Below.drew (KK.out.alloc KK.out.size _)) | exact HSS.out _ (Below.drew KK.out) | exact HSS.out _ ((Below.refl _ _).alloc (Nat.le_refl _) _) | exact HSS.out _ (Below.drew ((Below.refl _ _).alloc (Nat.le_refl _) _)) | exact HSS.out _ (((Below.refl _ _).alloc (Nat.le_refl _) _).alloc (by simp) _) | exact HSS.out _ (Below.drew (((Below.refl _ _).alloc (Nat.le_refl _) _).alloc (by simp) _)))
          clear hK K; try simp only [Act.put, List.setIfInBounds_toArray, List.set_cons_zero, List.set_cons_succ]
          refine wpAnyH_take (i := 8) (oi := ({ dst := some 23, op := Go.Op.move (Go.Operand.tmp 22), type := 4, pos := "outright.go:113", after := #[{ on := 7, ground := Go.Ground.data }, { on := 7, ground := Go.Ground.chain }], guard := none } : Oper)) (v := ?_) rfl (by kernel_rfl) (by kernel_rfl) (by kernel_rfl) (fun _ _ _ h => h) (Or.inl ⟨by rfl, ?_⟩) (by assumption) ?_
          rotate_left
          · intro w hSw; (try dsimp only at hSw); go_simp; (try with_reducible rfl)
          try simp only [Act.put, List.setIfInBounds_toArray, List.set_cons_zero, List.set_cons_succ]
          refine wpAnyH_take (i := 9) (oi := ({ dst := some 24, op := Go.Op.move (Go.Operand.tmp 2), type := 42, pos := "outright.go:113", after := #[{ on := 8, ground := Go.Ground.guard }], guard := some (8, false) } : Oper)) (v := ?_) rfl (by kernel_rfl) (by kernel_rfl) (by kernel_rfl) (fun _ _ _ h => h) (Or.inl ⟨by rfl, ?_⟩) (by assumption) ?_
          rotate_left
          · intro w hSw; (try dsimp only at hSw); go_simp; (try with_reducible rfl)
          try simp only [Act.put, List.setIfInBounds_toArray, List.set_cons_zero, List.set_cons_succ]
          refine wpAnyH_take (i := 10) (oi := ({ dst := some 25, op := Go.Op.call { callee := Go.Callee.builtin Go.Builtin.len, args := #[Go.Operand.tmp 24], argTypes := #[42] }, type := 3, pos := "outright.go:113", after := #[{ on := 9, ground := Go.Ground.data }, { on := 8, ground := Go.Ground.guard }], guard := some (8, false) } : Oper)) (v := ?_) rfl (by kernel_rfl) (by kernel_rfl) (by kernel_rfl) (fun _ _ _ h => h) (Or.inl ⟨by rfl, ?_⟩) (by assumption) ?_
          rotate_left
          · intro w hSw; (try dsimp only at hSw); go_simp; (try with_reducible rfl)
          try simp only [Act.put, List.setIfInBounds_toArray, List.set_cons_zero, List.set_cons_succ]
          refine wpAnyH_take (i := 11) (oi := ({ dst := some 26, op := Go.Op.binOp Go.BinOp.gtr 3 (Go.Operand.tmp 25) (Go.Operand.const (Go.Value.int Go.IntKind.i64 200)) 3, type := 4, pos := "outright.go:113", after := #[{ on := 10, ground := Go.Ground.data }, { on := 8, ground := Go.Ground.guard }], guard := some (8, false) } : Oper)) (v := ?_) rfl (by kernel_rfl) (by kernel_rfl) (by kernel_rfl) (fun _ _ _ h => h) (Or.inl ⟨by rfl, ?_⟩) (by assumption) ?_
          rotate_left
          · intro w hSw; (try dsimp only at hSw); go_simp; (try with_reducible rfl)
          try simp only [Act.put, List.setIfInBounds_toArray, List.set_cons_zero, List.set_cons_succ]
          refine wpAnyH_take (i := 12) (oi := ({ dst := some 27, op := Go.Op.pick (Go.Operand.tmp 23) (Go.Operand.const (Go.Value.bool true)) (Go.Operand.tmp 26), type := 4, pos := "outright.go:113", after := #[{ on := 8, ground := Go.Ground.data }, { on := 11, ground := Go.Ground.data }], guard := none } : Oper)) (v := ?_) rfl (by kernel_rfl) (by kernel_rfl) (by kernel_rfl) (fun _ _ _ h => h) (Or.inl ⟨by rfl, ?_⟩) (by assumption) ?_
          rotate_left
          · intro w hSw; (try dsimp only at hSw); go_simp; (try with_reducible rfl)
          try simp only [Act.put, List.setIfInBounds_toArray, List.set_cons_zero, List.set_cons_succ]
          refine wpAnyH_take (i := 13) (oi := ({ dst := some 28, op := Go.Op.move (Go.Operand.tmp 27), type := 4, pos := "outright.go:113", after := #[{ on := 12, ground := Go.Ground.data }, { on := 8, ground := Go.Ground.chain }], guard := none } : Oper)) (v := ?_) rfl (by kernel_rfl) (by kernel_rfl) (by kernel_rfl) (fun _ _ _ h => h) (Or.inl ⟨by rfl, ?_⟩) (by assumption) ?_
          rotate_left
          · intro w hSw; (try dsimp only at hSw); go_simp; (try with_reducible rfl)
          try simp only [Act.put, List.setIfInBounds_toArray, List.set_cons_zero, List.set_cons_succ]
          refine wpAnyH_ready (rs := [14]) (by kernel_rfl) (by simp) ?_
          refine AllReadyH.cons (o := ({ dst := some 29, op := Go.Op.call { callee := Go.Callee.value (Go.Operand.func 10), args := #[], argTypes := #[] }, type := 4, pos := "outright.go:113", after := #[{ on := 13, ground := Go.Ground.chain }, { on := 13, ground := Go.Ground.guard }], guard := some (13, false) } : Oper)) rfl (fun K hK => ?_) AllReadyH.nil
          go_simp
          have hx := HOB; clear hx; go_at_call 10; refine (awake_any _).mono ?_; rintro e wK ⟨rfl, hbK⟩; have KK := Lib.hid (KK.out.trans (hbK.mono KK.out.size)); clear hbK
          try go_wp2_with fail
          refine hK.out _ _ ?_ (fun hHeld => ?_)
          · (try dsimp only); (first | exact ⟨c0, c1, c2, c3, c4⟩ | exact HSS.out _ KK.out | exact HSS.out _ (KK.out.alloc KK.out.size _) | exact HSS.out _ (Below.drew (KK.out.alloc KK.out.size _)) | exact HSS.out _ (Below.drew KK.out) | exact HSS.out _ ((Below.refl _ _).alloc (Nat.le_refl _) _) | exact HSS.out _ (Below.drew ((Below.refl _ _).alloc (Nat.le_refl _) _)) | exact HSS.out _ (((Below.refl _ _).alloc (Nat.le_refl _) _).alloc (by simp) _) | exact HSS.out _ (Below.drew (((Below.refl _ _).alloc (Nat.le_refl _) _).alloc (by simp) _)))
          clear hK K; try simp only [Act.put, List.setIfInBounds_toArray, List.set_cons_zero, List.set_cons_succ]
          refine wpAnyH_take (i := 15) (oi := ({ dst := some 30, op := Go.Op.unOp Go.UnOp.not 4 (Go.Operand.tmp 29), type := 4, pos := "outright.go:113", after := #[{ on := 14, ground := Go.Ground.data }, { on := 13, ground := Go.Ground.guard }], guard := some (13, false) } : Oper)) (v := ?_) rfl (by kernel_rfl) (by kernel_rfl) (by kernel_rfl) (fun _ _ _ h => h) (Or.inl ⟨by rfl, ?_⟩) (by assumption) ?_
          rotate_left
          · intro w hSw; (try dsimp only at hSw); go_simp; (try with_reducible rfl)
          try simp only [Act.put, List.setIfInBounds_toArray, List.set_cons_zero, List.set_cons_succ]
          refine wpAnyH_take (i := 16) (oi := ({ dst := some 31, op := Go.Op.pick (Go.Operand.tmp 28) (Go.Operand.const (Go.Value.bool true)) (Go.Operand.tmp 30), type := 4, pos := "outright.go:113", after := #[{ on := 13, ground := Go.Ground.data }, { on := 15, ground := Go.Ground.data }], guard := none } : Oper)) (v := ?_) rfl (by kernel_rfl) (by kernel_rfl) (by kernel_rfl) (fun _ _ _ h => h) (Or.inl ⟨by rfl, ?_⟩) (by assumption) ?_
          rotate_left
          · intro w hSw; (try dsimp only at hSw); go_simp; (try with_reducible rfl)
          try simp only [Act.put, List.setIfInBounds_toArray, List.set_cons_zero, List.set_cons_succ]
          refine wpAnyH_done (by kernel_rfl) ?_ _
          (go_wp2_with fail; go_meet; exact ⟨_, rfl, Lib.hid (by first | exact KK.out | exact Below.drew KK.out)⟩)
    · skip
      refine wp_region_held_drew (S := (fun w' => w'.cell? ⟨w.heap.size, 0, none⟩ = some (.int .u8 (a.what : Int)) ∧ w'.cell? ⟨w.heap.size, 1, none⟩ = some (.int .i64 a.t) ∧ w'.cell? ⟨w.heap.size, 2, none⟩ = some (.int .i64 a.n) ∧ w'.cell? ⟨w.heap.size, 3, none⟩ = some (.string a.s) ∧ w'.cell? ⟨w.heap.size, 4, none⟩ = some a.v)) (by kernel_rfl) ?_ (fun hHeld => ?_)
      · (try dsimp only); (first | exact ⟨c0, c1, c2, c3, c4⟩ | exact HSS.out _ KK.out | exact HSS.out _ (KK.out.alloc KK.out.size _) | exact HSS.out _ (Below.drew (KK.out.alloc KK.out.size _)) | exact HSS.out _ (Below.drew KK.out) | exact HSS.out _ ((Below.refl _ _).alloc (Nat.le_refl _) _) | exact HSS.out _ (Below.drew ((Below.refl _ _).alloc (Nat.le_refl _) _)) | exact HSS.out _ (((Below.refl _ _).alloc (Nat.le_refl _) _).alloc (by simp) _) | exact HSS.out _ (Below.drew (((Below.refl _ _).alloc (Nat.le_refl _) _).alloc (by simp) _)))
      refine wpAnyH_take (i := 1) (oi := ({ dst := some 16, op := Go.Op.move (Go.Operand.tmp 2), type := 42, pos := "outright.go:113", after := #[], guard := none } : Oper)) (v := ?_) rfl (by kernel_rfl) (by kernel_rfl) (by kernel_rfl) (fun _ _ _ h => h) (Or.inl ⟨by rfl, ?_⟩) (by assumption) ?_
      rotate_left
      · intro w hSw; (try dsimp only at hSw); go_simp; (try with_reducible rfl)
      try simp only [Act.put, List.setIfInBounds_toArray, List.set_cons_zero, List.set_cons_succ]
      refine wpAnyH_take (i := 3) (oi := ({ dst := some 18, op := Go.Op.load 51 (Go.Operand.tmp 7), type := 51, pos := "outright.go:113", after := #[], guard := none } : Oper)) (v := ?_) rfl (by kernel_rfl) (by kernel_rfl) (by kernel_rfl) (fun _ _ _ h => h) (Or.inl ⟨by rfl, ?_⟩) (by assumption) ?_
      rotate_left
      · intro w hSw; (try dsimp only at hSw); go_simp; (try with_reducible rfl)
      try simp only [Act.put, List.setIfInBounds_toArray, List.set_cons_zero, List.set_cons_succ]
      refine wpAnyH_take (i := 6) (oi := ({ dst := some 21, op := Go.Op.move (Go.Operand.tmp 1), type := 28, pos := "outright.go:113", after := #[], guard := none } : Oper)) (v := ?_) rfl (by kernel_rfl) (by kernel_rfl) (by kernel_rfl) (fun _ _ _ h => h) (Or.inl ⟨by rfl, ?_⟩) (by assumption) ?_
      rotate_left
      · intro w hSw; (try dsimp only at hSw); go_simp; (try with_reducible rfl)
      try simp only [Act.put, List.setIfInBounds_toArray, List.set_cons_zero, List.set_cons_succ]
      refine wpAnyH_ready (rs := [0, 4]) (by kernel_rfl) (by simp) ?_
      refine AllReadyH.cons (o := ({ dst := some 15, op := Go.Op.buildSlice 42 0 #[], type := 42, pos := "outright.go:113", after := #[], guard := none } : Oper)) rfl (fun K hK => ?_) (AllReadyH.cons (o := ({ dst := some 19, op := Go.Op.buildSlice 42 1 #[(0, Go.Operand.tmp 18)], type := 42, pos := "outright.go:113", after := #[{ on := 3, ground := Go.Ground.data }], guard := none } : Oper)) rfl (fun K hK => ?_) AllReadyH.nil)
      · skip
        go_simp
        refine hK.out _ _ ?_ (fun hHeld => ?_)
        · (try dsimp only); (first | exact ⟨c0, c1, c2, c3, c4⟩ | exact HSS.out _ KK.out | exact HSS.out _ (KK.out.alloc KK.out.size _) | exact HSS.out _ (Below.drew (KK.out.alloc KK.out.size _)) | exact HSS.out _ (Below.drew KK.out) | exact HSS.out _ ((Below.refl _ _).alloc (Nat.le_refl _) _) | exact HSS.out _ (Below.drew ((Below.refl _ _).alloc (Nat.le_refl _) _)) | exact HSS.out _ (((Below.refl _ _).alloc (Nat.le_refl _) _).alloc (by simp) _) | exact HSS.out _ (Below.drew (((Below.refl _ _).alloc (Nat.le_refl _) _).alloc (by simp) _)))
        clear hK K; try simp only [Act.put, List.setIfInBounds_toArray, List.set_cons_zero, List.set_cons_succ]
        refine wpAnyH_ready (rs := [2, 4]) (by kernel_rfl) (by simp) ?_
        refine AllReadyH.cons (o := ({ dst := some 17, op := Go.Op.call { callee := Go.Callee.builtin Go.Builtin.append, args := #[Go.Operand.tmp 15, Go.Operand.tmp 16], argTypes := #[42, 42] }, type := 42, pos := "outright.go:113", after := #[{ on := 0, ground := Go.Ground.data }, { on := 1, ground := Go.Ground.data }], guard := none } : Oper)) rfl (fun K hK => ?_) (AllReadyH.cons (o := ({ dst := some 19, op := Go.Op.buildSlice 42 1 #[(0, Go.Operand.tmp 18)], type := 42, pos := "outright.go:113", after := #[{ on := 3, ground := Go.Ground.data }], guard := none } : Oper)) rfl (fun K hK => ?_) AllReadyH.nil)
        · skip
          have hB : Below W0.heap.size W0 (W0.alloc (.cells #[] 51)) := (Below.refl _ _).alloc (Nat.le_refl _) _; have ho := O5.empty W0 W0.heap.size (Nat.le_refl _); refine step_append5 (by rfl) (.tmp 15) (.tmp 16) (by rfl) W0.heap.size _ [] (by rfl) (O5.drew ho) _ acs (by rfl) (HAT2.out _ hB.drew) HON1.out hl1 hB.size ?_; intro vA wA hoA hgA; have KK := Lib.hid (hB.drew.grown hgA hB.size (fun k hk => (ho.base k hk).1)); have HOA := Lib.hid hoA; clear hoA hgA ho hB
          refine hK.out _ _ ?_ (fun hHeld => ?_)
          · (try dsimp only); (first | exact ⟨c0, c1, c2, c3, c4⟩ | exact HSS.out _ KK.out | exact HSS.out _ (KK.out.alloc KK.out.size _) | exact HSS.out _ (Below.drew (KK.out.alloc KK.out.size _)) | exact HSS.out _ (Below.drew KK.out) | exact HSS.out _ ((Below.refl _ _).alloc (Nat.le_refl _) _) | exact HSS.out _ (Below.drew ((Below.refl _ _).alloc (Nat.le_refl _) _)) | exact HSS.out _ (((Below.refl _ _).alloc (Nat.le_refl _) _).alloc (by simp) _) | exact HSS.out _ (Below.drew (((Below.refl _ _).alloc (Nat.le_refl _) _).alloc (by simp) _)))
          clear hK K; try simp only [Act.put, List.setIfInBounds_toArray, List.set_cons_zero, List.set_cons_succ]
          refine wpAnyH_ready (rs := [4]) (by kernel_rfl) (by simp) ?_
          refine AllReadyH.cons (o := ({ dst := some 19, op := Go.Op.buildSlice 42 1 #[(0, Go.Operand.tmp 18)], type := 42, pos := "outright.go:113", after := #[{ on := 3, ground := Go.Ground.data }], guard := none } : Oper)) rfl (fun K hK => ?_) AllReadyH.nil
          go_simp
          refine hK.out _ _ ?_ (fun hHeld => ?_)
          · (try dsimp only); (first | exact ⟨c0, c1, c2, c3, c4⟩ | exact HSS.out _ KK.out | exact HSS.out _ (KK.out.alloc KK.out.size _) | exact HSS.out _ (Below.drew (KK.out.alloc KK.out.size _)) | exact HSS.out _ (Below.drew KK.out) | exact HSS.out _ ((Below.refl _ _).alloc (Nat.le_refl _) _) | exact HSS.out _ (Below.drew ((Below.refl _ _).alloc (Nat.le_refl _) _)) | exact HSS.out _ (((Below.refl _ _).alloc (Nat.le_refl _) _).alloc (by simp) _) | exact HSS.out _ (Below.drew (((Below.refl _ _).alloc (Nat.le_refl _) _).alloc (by simp) _)))
          clear hK K; try simp only [Act.put, List.setIfInBounds_toArray, List.set_cons_zero, List.set_cons_succ]
          refine wpAnyH_ready (rs := [5]) (by kernel_rfl) (by simp) ?_
          refine AllReadyH.cons (o := ({ dst := some 20, op := Go.Op.call { callee := Go.Callee.builtin Go.Builtin.append, args := #[Go.Operand.tmp 17, Go.Operand.tmp 19], argTypes := #[42, 42] }, type := 42, pos := "outright.go:113", after := #[{ on := 2, ground := Go.Ground.data }, { on := 4, ground := Go.Ground.data }, { on := 2, ground := Go.Ground.chain }], guard := none } : Oper)) rfl (fun K hK => ?_) AllReadyH.nil
          have hx := HOA; clear hx; refine step_append5 (by rfl) (.tmp 17) (.tmp 19) (by rfl) W0.heap.size _ ([] ++ acs) (by rfl) (HOA.out.below ((Below.refl _ _).alloc (Nat.le_refl _) _) (Nat.le_refl _)) _ [a] (by rfl) (HONE.out wA) HON2.out hl2 (KK.out.alloc KK.out.size _).size ?_; intro vB wB hoB hgB; have KK := Lib.hid ((KK.out.alloc KK.out.size _).grown hgB (KK.out.alloc KK.out.size _).size (fun k hk => (HOA.out.base k hk).1)); have HOB := Lib.hid hoB; clear hoB hgB
          refine hK.out _ _ ?_ (fun hHeld => ?_)
          · (try dsimp only); (first | exact ⟨c0, c1, c2, c3, c4⟩ | exact HSS.out _ KK.out | exact HSS.out _ (KK.out.alloc KK.out.size _) | exact HSS.out _ (Below.drew (KK.out.alloc KK.out.size _)) | exact HSS.out _ (Below.drew KK.out) | exact HSS.out _ ((Below.refl _ _).alloc (Nat.le_refl _) _) | exact HSS.out _ (Below.drew ((Below.refl _ _).alloc (Nat.le_refl _) _)) | exact HSS.out _ (((Below.refl _ _).alloc (Nat.le_refl _) _).alloc (by simp) _) | exact HSS.out _ (Below.drew (((Below.refl _ _).alloc (Nat.le_refl _) _).alloc (by simp) _)))
          clear hK K; try simp only [Act.put, List.setIfInBounds_toArray, List.set_cons_zero, List.set_cons_succ]
          refine wpAnyH_ready (rs := [7]) (by kernel_rfl) (by simp) ?_
          refine AllReadyH.cons (o := ({ dst := some 22, op := Go.Op.call { callee := Go.Callee.value (Go.Operand.func 26), args := #[Go.Operand.tmp 20, Go.Operand.tmp 21], argTypes := #[42, 28] }, type := 4, pos := "outright.go:113", after := #[{ on := 5, ground := Go.Ground.data }, { on := 6, ground := Go.Ground.data }, { on := 5, ground := Go.Ground.chain }], guard := none } : Oper)) rfl (fun K hK => ?_) AllReadyH.nil
          go_simp
          have hx := HOB; clear hx; go_at_call 26; go_must (refine (HLG2.out _ _ KK.out HOB.out.at).mono ?_; rintro e wL ⟨rfl, hbL⟩); have KK := Lib.hid (KK.out.trans (hbL.mono KK.out.size)); clear hbL
          try go_wp2_with fail
          refine hK.out _ _ ?_ (fun hHeld => ?_)
          · (try dsimp only); (first | exact ⟨c0, c1, c2, c3, c4⟩ | exact HSS.out _ KK.out | exact HSS.out _ (KK.out.alloc KK.out.size _) | exact HSS.out _ (Below.drew (KK.out.alloc KK.out.size _)) | exact HSS.out _ (Below.drew KK.out) | exact HSS.out _ ((Below.refl _ _).alloc (Nat.le_refl _) _) | exact HSS.out _ (Below.drew ((Below.refl _ _).alloc (Nat.le_refl _) _)) | exact HSS.out _ (((Below.refl _ _).alloc (Nat.le_refl _) _).alloc (by simp) _) | exact HSS.out _ (Below.drew (((Below.refl _ _).alloc (Nat.le_refl _) _).alloc (by simp) _)))
          clear hK K; try simp only [Act.put, List.setIfInBounds_toArray, List.set_cons_zero, List.set_cons_succ]
          refine wpAnyH_take (i := 8) (oi := ({ dst := some 23, op := Go.Op.move (Go.Operand.tmp 22), type := 4, pos := "outright.go:113", after := #[{ on := 7, ground := Go.Ground.data }, { on := 7, ground := Go.Ground.chain }], guard := none } : Oper)) (v := ?_) rfl (by kernel_rfl) (by kernel_rfl) (by kernel_rfl) (fun _ _ _ h => h) (Or.inl ⟨by rfl, ?_⟩) (by assumption) ?_
          rotate_left
          · intro w hSw; (try dsimp only at hSw); go_simp; (try with_reducible rfl)
          try simp only [Act.put, List.setIfInBounds_toArray, List.set_cons_zero, List.set_cons_succ]
          refine wpAnyH_take (i := 9) (oi := ({ dst := some 24, op := Go.Op.move (Go.Operand.tmp 2), type := 42, pos := "outright.go:113", after := #[{ on := 8, ground := Go.Ground.guard }], guard := some (8, false) } : Oper)) (v := undef) rfl (by kernel_rfl) (by kernel_rfl) (by kernel_rfl) (fun _ _ _ h => h) (Or.inr ⟨by rfl, rfl⟩) (by assumption) ?_
          try simp only [Act.put, List.setIfInBounds_toArray, List.set_cons_zero, List.set_cons_succ]
          refine wpAnyH_take (i := 10) (oi := ({ dst := some 25, op := Go.Op.call { callee := Go.Callee.builtin Go.Builtin.len, args := #[Go.Operand.tmp 24], argTypes := #[42] }, type := 3, pos := "outright.go:113", after := #[{ on := 9, ground := Go.Ground.data }, { on := 8, ground := Go.Ground.guard }], guard := some (8, false) } : Oper)) (v := undef) rfl (by kernel_rfl) (by kernel_rfl) (by kernel_rfl) (fun _ _ _ h => h) (Or.inr ⟨by rfl, rfl⟩) (by assumption) ?_
          try simp only [Act.put, List.setIfInBounds_toArray, List.set_cons_zero, List.set_cons_succ]
          refine wpAnyH_take (i := 11) (oi := ({ dst := some 26, op := Go.Op.binOp Go.BinOp.gtr 3 (Go.Operand.tmp 25) (Go.Operand.const (Go.Value.int Go.IntKind.i64 200)) 3, type := 4, pos := "outright.go:113", after := #[{ on := 10, ground := Go.Ground.data }, { on := 8, ground := Go.Ground.guard }], guard := some (8, false) } : Oper)) (v := undef) rfl (by kernel_rfl) (by kernel_rfl) (by kernel_rfl) (fun _ _ _ h => h) (Or.inr ⟨by rfl, rfl⟩) (by assumption) ?_
          try simp only [Act.put, List.setIfInBounds_toArray, List.set_cons_zero, List.set_cons_succ]
          refine wpAnyH_take (i := 12) (oi := ({ dst := some 27, op := Go.Op.pick (Go.Operand.tmp 23) (Go.Operand.const (Go.Value.bool true)) (Go.Operand.tmp 26), type := 4, pos := "outright.go:113", after := #[{ on := 8, ground := Go.Ground.data }, { on := 11, ground := Go.Ground.data }], guard := none } : Oper)) (v := ?_) rfl (by kernel_rfl) (by kernel_rfl) (by kernel_rfl) (fun _ _ _ h => h) (Or.inl ⟨by rfl, ?_⟩) (by assumption) ?_
          rotate_left
          · intro w hSw; (try dsimp only at hSw); go_simp; (try with_reducible rfl)
          try simp only [Act.put, List.setIfInBounds_toArray, List.set_cons_zero, List.set_cons_succ]
          refine wpAnyH_take (i := 13) (oi := ({ dst := some 28, op := Go.Op.move (Go.Operand.tmp 27), type := 4, pos := "outright.go:113", after := #[{ on := 12, ground := Go.Ground.data }, { on := 8, ground := Go.Ground.chain }], guard := none } : Oper)) (v := ?_) rfl (by kernel_rfl) (by kernel_rfl) (by kernel_rfl) (fun _ _ _ h => h) (Or.inl ⟨by rfl, ?_⟩) (by assumption) ?_
          rotate_left
          · intro w hSw; (try dsimp only at hSw); go_simp; (try with_reducible rfl)
          try simp only [Act.put, List.setIfInBounds_toArray, List.set_cons_zero, List.set_cons_succ]
          refine wpAnyH_take (i := 14) (oi := ({ dst := some 29, op := Go.Op.call { callee := Go.Callee.value (Go.Operand.func 10), args := #[], argTypes := #[] }, type := 4, pos := "outright.go:113", after := #[{ on := 13, ground := Go.Ground.chain }, { on := 13, ground := Go.Ground.guard }], guard := some (13, false) } : Oper)) (v := undef) rfl (by kernel_rfl) (by kernel_rfl) (by kernel_rfl) (fun _ _ _ h => h) (Or.inr ⟨by rfl, rfl⟩) (by assumption) ?_
          try simp only [Act.put, List.setIfInBounds_toArray, List.set_cons_zero, List.set_cons_succ]
          refine wpAnyH_take (i := 15) (oi := ({ dst := some 30, op := Go.Op.unOp Go.UnOp.not 4 (Go.Operand.tmp 29), type := 4, pos := "outright.go:113", after := #[{ on := 14, ground := Go.Ground.data }, { on := 13, ground := Go.Ground.guard }], guard := some (13, false) } : Oper)) (v := undef) rfl (by kernel_rfl) (by kernel_rfl) (by kernel_rfl) (fun _ _ _ h => h) (Or.inr ⟨by rfl, rfl⟩) (by assumption) ?_
          try simp only [Act.put, List.setIfInBounds_toArray, List.set_cons_zero, List.set_cons_succ]
          refine wpAnyH_take (i := 16) (oi := ({ dst := some 31, op := Go.Op.pick (Go.Operand.tmp 28) (Go.Operand.const (Go.Value.bool true)) (Go.Operand.tmp 30), type := 4, pos := "outright.go:113", after := #[{ on := 13, ground := Go.Ground.data }, { on := 15, ground := Go.Ground.data }], guard := none } : Oper)) (v := ?_) rfl (by kernel_rfl) (by kernel_rfl) (by kernel_rfl) (fun _ _ _ h => h) (Or.inl ⟨by rfl, ?_⟩) (by assumption) ?_
          rotate_left
          · intro w hSw; (try dsimp only at hSw); go_simp; (try with_reducible rfl)
          try simp only [Act.put, List.setIfInBounds_toArray, List.set_cons_zero, List.set_cons_succ]
          refine wpAnyH_done (by kernel_rfl) ?_ _
          (go_wp2_with fail; go_meet; exact ⟨_, rfl, Lib.hid (by first | exact KK.out | exact Below.drew KK.out)⟩)
        · skip
          go_simp
          refine hK.out _ _ ?_ (fun hHeld => ?_)
          · (try dsimp only); (first | exact ⟨c0, c1, c2, c3, c4⟩ | exact HSS.out _ KK.out | exact HSS.out _ (KK.out.alloc KK.out.size _) | exact HSS.out _ (Below.drew (KK.out.alloc KK.out.size _)) | exact HSS.out _ (Below.drew KK.out) | exact HSS.out _ ((Below.refl _ _).alloc (Nat.le_refl _) _) | exact HSS.out _ (Below.drew ((Below.refl _ _).alloc (Nat.le_refl _) _)) | exact HSS.out _ (((Below.refl _ _).alloc (Nat.le_refl _) _).alloc (by simp) _) | exact HSS.out _ (Below.drew (((Below.refl _ _).alloc (Nat.le_refl _) _).alloc (by simp) _)))
          clear hK K; try simp only [Act.put, List.setIfInBounds_toArray, List.set_cons_zero, List.set_cons_succ]
          refine wpAnyH_ready (rs := [2]) (by kernel_rfl) (by simp) ?_
          refine AllReadyH.cons (o := ({ dst := some 17, op := Go.Op.call { callee := Go.Callee.builtin Go.Builtin.append, args := #[Go.Operand.tmp 15, Go.Operand.tmp 16], argTypes := #[42, 42] }, type := 42, pos := "outright.go:113", after := #[{ on := 0, ground := Go.Ground.data }, { on := 1, ground := Go.Ground.data }], guard := none } : Oper)) rfl (fun K hK => ?_) AllReadyH.nil
          have hB : Below W0.heap.size W0 ((W0.alloc (.cells #[] 51)).alloc (.cells #[.int .u8 (a.what : Int), .int .i64 a.t, .int .i64 a.n, .string a.s, a.v] 51)) := ((Below.refl _ _).alloc (Nat.le_refl _) _).alloc (by simp) _; have ho := (O5.empty W0 W0.heap.size (Nat.le_refl _)).below (w' := ((W0.alloc (.cells #[] 51)).alloc (.cells #[.int .u8 (a.what : Int), .int .i64 a.t, .int .i64 a.n, .string a.s, a.v] 51))) ((Below.refl _ _).alloc (Nat.le_refl _) _) (Nat.le_refl _); refine step_append5 (by rfl) (.tmp 15) (.tmp 16) (by rfl) W0.heap.size _ [] (by rfl) (O5.drew ho) _ acs (by rfl) (HAT2.out _ hB.drew) HON1.out hl1 hB.size ?_; intro vA wA hoA hgA; have KK := Lib.hid (hB.drew.grown hgA hB.size (fun k hk => (ho.base k hk).1)); have HOA := Lib.hid hoA; have HX1 := Lib.hid (HONB.out.same (fun g hg h => hgA.block g hg (by rw [← h]; simp [Value.ownBlock]))); clear hoA hgA ho hB
          refine hK.out _ _ ?_ (fun hHeld => ?_)
          · (try dsimp only); (first | exact ⟨c0, c1, c2, c3, c4⟩ | exact HSS.out _ KK.out | exact HSS.out _ (KK.out.alloc KK.out.size _) | exact HSS.out _ (Below.drew (KK.out.alloc KK.out.size _)) | exact HSS.out _ (Below.drew KK.out) | exact HSS.out _ ((Below.refl _ _).alloc (Nat.le_refl _) _) | exact HSS.out _ (Below.drew ((Below.refl _ _).alloc (Nat.le_refl _) _)) | exact HSS.out _ (((Below.refl _ _).alloc (Nat.le_refl _) _).alloc (by simp) _) | exact HSS.out _ (Below.drew (((Below.refl _ _).alloc (Nat.le_refl _) _).alloc (by simp) _)))
          clear hK K; try simp only [Act.put, List.setIfInBounds_toArray, List.set_cons_zero, List.set_cons_succ]
          refine wpAnyH_ready (rs := [5]) (by kernel_rfl) (by simp) ?_
          refine AllReadyH.cons (o := ({ dst := some 20, op := Go.Op.call { callee := Go.Callee.builtin Go.Builtin.append, args := #[Go.Operand.tmp 17, Go.Operand.tmp 19], argTypes := #[42, 42] }, type := 42, pos := "outright.go:113", after := #[{ on := 2, ground := Go.Ground.data }, { on := 4, ground := Go.Ground.data }, { on := 2, ground := Go.Ground.chain }], guard := none } : Oper)) rfl (fun K hK => ?_) AllReadyH.nil
          have hx := HX1; clear hx; refine step_append5 (by rfl) (.tmp 17) (.tmp 19) (by rfl) W0.heap.size _ ([] ++ acs) (by rfl) HOA.out _ [a] (by rfl) HX1.out HON2.out hl2 KK.out.size ?_; intro vB wB hoB hgB; have KK := Lib.hid (KK.out.grown hgB KK.out.size (fun k hk => (HOA.out.base k hk).1)); have HOB := Lib.hid hoB; clear hoB hgB
          refine hK.out _ _ ?_ (fun hHeld => ?_)
          · (try dsimp only); (first | exact ⟨c0, c1, c2, c3, c4⟩ | exact HSS.out _ KK.out | exact HSS.out _ (KK.out.alloc KK.out.size _) | exact HSS.out _ (Below.drew (KK.out.alloc KK.out.size _)) | exact HSS.out _ (Below.drew KK.out) | exact HSS.out _ ((Below.refl _ _).alloc (Nat.le_refl _) _) | exact HSS.out _ (Below.drew ((Below.refl _ _).alloc (Nat.le_refl _) _)) | exact HSS.out _ (((Below.refl _ _).alloc (Nat.le_refl _) _).alloc (by simp) _) | exact HSS.out _ (Below.drew (((Below.refl _ _).alloc (Nat.le_refl _) _).alloc (by simp) _)))
          clear hK K; try simp only [Act.put, List.setIfInBounds_toArray, List.set_cons_zero, List.set_cons_succ]
          refine wpAnyH_ready (rs := [7]) (by kernel_rfl) (by simp) ?_
          refine AllReadyH.cons (o := ({ dst := some 22, op := Go.Op.call { callee := Go.Callee.value (Go.Operand.func 26), args := #[Go.Operand.tmp 20, Go.Operand.tmp 21], argTypes := #[42, 28] }, type := 4, pos := "outright.go:113", after := #[{ on := 5, ground := Go.Ground.data }, { on := 6, ground := Go.Ground.data }, { on := 5, ground := Go.Ground.chain }], guard := none } : Oper)) rfl (fun K hK => ?_) AllReadyH.nil
          go_simp
          have hx := HOB; clear hx; go_at_call 26; go_must (refine (HLG2.out _ _ KK.out HOB.out.at).mono ?_; rintro e wL ⟨rfl, hbL⟩); have KK := Lib.hid (KK.out.trans (hbL.mono KK.out.size)); clear hbL
          try go_wp2_with fail
          refine hK.out _ _ ?_ (fun hHeld => ?_)
          · (try dsimp only); (first | exact ⟨c0, c1, c2, c3, c4⟩ | exact HSS.out _ KK.out | exact HSS.out _ (KK.out.alloc KK.out.size _) | exact HSS.out _ (Below.drew (KK.out.alloc KK.out.size _)) | exact HSS.out _ (Below.drew KK.out) | exact HSS.out _ ((Below.refl _ _).alloc (Nat.le_refl _) _) | exact HSS.out _ (Below.drew ((Below.refl _ _).alloc (Nat.le_refl _) _)) | exact HSS.out _ (((Below.refl _ _).alloc (Nat.le_refl _) _).alloc (by simp) _) | exact HSS.out _ (Below.drew (((Below.refl _ _).alloc (Nat.le_refl _) _).alloc (by simp) _)))
          clear hK K; try simp only [Act.put, List.setIfInBounds_toArray, List.set_cons_zero, List.set_cons_succ]
          refine wpAnyH_take (i := 8) (oi := ({ dst := some 23, op := Go.Op.move (Go.Operand.tmp 22), type := 4, pos := "outright.go:113", after := #[{ on := 7, ground := Go.Ground.data }, { on := 7, ground := Go.Ground.chain }], guard := none } : Oper)) (v := ?_) rfl (by kernel_rfl) (by kernel_rfl) (by kernel_rfl) (fun _ _ _ h => h) (Or.inl ⟨by rfl, ?_⟩) (by assumption) ?_
          rotate_left
          · intro w hSw; (try dsimp only at hSw); go_simp; (try with_reducible rfl)
          try simp only [Act.put, List.setIfInBounds_toArray, List.set_cons_zero, List.set_cons_succ]
          refine wpAnyH_take (i := 9) (oi := ({ dst := some 24, op := Go.Op.move (Go.Operand.tmp 2), type := 42, pos := "outright.go:113", after := #[{ on := 8, ground := Go.Ground.guard }], guard := some (8, false) } : Oper)) (v := undef) rfl (by kernel_rfl) (by kernel_rfl) (by kernel_rfl) (fun _ _ _ h => h) (Or.inr ⟨by rfl, rfl⟩) (by assumption) ?_
          try simp only [Act.put, List.setIfInBounds_toArray, List.set_cons_zero, List.set_cons_succ]
          refine wpAnyH_take (i := 10) (oi := ({ dst := some 25, op := Go.Op.call { callee := Go.Callee.builtin Go.Builtin.len, args := #[Go.Operand.tmp 24], argTypes := #[42] }, type := 3, pos := "outright.go:113", after := #[{ on := 9, ground := Go.Ground.data }, { on := 8, ground := Go.Ground.guard }], guard := some (8, false) } : Oper)) (v := undef) rfl (by kernel_rfl) (by kernel_rfl) (by kernel_rfl) (fun _ _ _ h => h) (Or.inr ⟨by rfl, rfl⟩) (by assumption) ?_
          try simp only [Act.put, List.setIfInBounds_toArray, List.set_cons_zero, List.set_cons_succ]
          refine wpAnyH_take (i := 11) (oi := ({ dst := some 26, op := Go.Op.binOp Go.BinOp.gtr 3 (Go.Operand.tmp 25) (Go.Operand.const (Go.Value.int Go.IntKind.i64 200)) 3, type := 4, pos := "outright.go:113", after := #[{ on := 10, ground := Go.Ground.data }, { on := 8, ground := Go.Ground.guard }], guard := some (8, false) } : Oper)) (v := undef) rfl (by kernel_rfl) (by kernel_rfl) (by kernel_rfl) (fun _ _ _ h => h) (Or.inr ⟨by rfl, rfl⟩) (by assumption) ?_
          try simp only [Act.put, List.setIfInBounds_toArray, List.set_cons_zero, List.set_cons_succ]
          refine wpAnyH_take (i := 12) (oi := ({ dst := some 27, op := Go.Op.pick (Go.Operand.tmp 23) (Go.Operand.const (Go.Value.bool true)) (Go.Operand.tmp 26), type := 4, pos := "outright.go:113", after := #[{ on := 8, ground := Go.Ground.data }, { on := 11, ground := Go.Ground.data }], guard := none } : Oper)) (v := ?_) rfl (by kernel_rfl) (by kernel_rfl) (by kernel_rfl) (fun _ _ _ h => h) (Or.inl ⟨by rfl, ?_⟩) (by assumption) ?_
          rotate_left
          · intro w hSw; (try dsimp only at hSw); go_simp; (try with_reducible rfl)
          try simp only [Act.put, List.setIfInBounds_toArray, List.set_cons_zero, List.set_cons_succ]
          refine wpAnyH_take (i := 13) (oi := ({ dst := some 28, op := Go.Op.move (Go.Operand.tmp 27), type := 4, pos := "outright.go:113", after := #[{ on := 12, ground := Go.Ground.data }, { on := 8, ground := Go.Ground.chain }], guard := none } : Oper)) (v := ?_) rfl (by kernel_rfl) (by kernel_rfl) (by kernel_rfl) (fun _ _ _ h => h) (Or.inl ⟨by rfl, ?_⟩) (by assumption) ?_
          rotate_left
          · intro w hSw; (try dsimp only at hSw); go_simp; (try with_reducible rfl)
          try simp only [Act.put, List.setIfInBounds_toArray, List.set_cons_zero, List.set_cons_succ]
          refine wpAnyH_take (i := 14) (oi := ({ dst := some 29, op := Go.Op.call { callee := Go.Callee.value (Go.Operand.func 10), args := #[], argTypes := #[] }, type := 4, pos := "outright.go:113", after := #[{ on := 13, ground := Go.Ground.chain }, { on := 13, ground := Go.Ground.guard }], guard := some (13, false) } : Oper)) (v := undef) rfl (by kernel_rfl) (by kernel_rfl) (by kernel_rfl) (fun _ _ _ h => h) (Or.inr ⟨by rfl, rfl⟩) (by assumption) ?_
          try simp only [Act.put, List.setIfInBounds_toArray, List.set_cons_zero, List.set_cons_succ]
          refine wpAnyH_take (i := 15) (oi := ({ dst := some 30, op := Go.Op.unOp Go.UnOp.not 4 (Go.Operand.tmp 29), type := 4, pos := "outright.go:113", after := #[{ on := 14, ground := Go.Ground.data }, { on := 13, ground := Go.Ground.guard }], guard := some (13, false) } : Oper)) (v := undef) rfl (by kernel_rfl) (by kernel_rfl) (by kernel_rfl) (fun _ _ _ h => h) (Or.inr ⟨by rfl, rfl⟩) (by assumption) ?_
          try simp only [Act.put, List.setIfInBounds_toArray, List.set_cons_zero, List.set_cons_succ]
          refine wpAnyH_take (i := 16) (oi := ({ dst := some 31, op := Go.Op.pick (Go.Operand.tmp 28) (Go.Operand.const (Go.Value.bool true)) (Go.Operand.tmp 30), type := 4, pos := "outright.go:113", after := #[{ on := 13, ground := Go.Ground.data }, { on := 15, ground := Go.Ground.data }], guard := none } : Oper)) (v := ?_) rfl (by kernel_rfl) (by kernel_rfl) (by kernel_rfl) (fun _ _ _ h => h) (Or.inl ⟨by rfl, ?_⟩) (by assumption) ?_
          rotate_left
          · intro w hSw; (try dsimp only at hSw); go_simp; (try with_reducible rfl)
          try simp only [Act.put, List.setIfInBounds_toArray, List.set_cons_zero, List.set_cons_succ]
          refine wpAnyH_done (by kernel_rfl) ?_ _
          (go_wp2_with fail; go_meet; exact ⟨_, rfl, Lib.hid (by first | exact KK.out | exact Below.drew KK.out)⟩)
      · skip
        go_simp
        refine hK.out _ _ ?_ (fun hHeld => ?_)
        · (try dsimp only); (first | exact ⟨c0, c1, c2, c3, c4⟩ | exact HSS.out _ KK.out | exact HSS.out _ (KK.out.alloc KK.out.size _) | exact HSS.out _ (Below.drew (KK.out.alloc KK.out.size _)) | exact HSS.out _ (Below.drew KK.out) | exact HSS.out _ ((Below.refl _ _).alloc (Nat.le_refl _) _) | exact HSS.out _ (Below.drew ((Below.refl _ _).alloc (Nat.le_refl _) _)) | exact HSS.out _ (((Below.refl _ _).alloc (Nat.le_refl _) _).alloc (by simp) _) | exact HSS.out _ (Below.drew (((Below.refl _ _).alloc (Nat.le_refl _) _).alloc (by simp) _)))
        clear hK K; try simp only [Act.put, List.setIfInBounds_toArray, List.set_cons_zero, List.set_cons_succ]
        refine wpAnyH_ready (rs := [0]) (by kernel_rfl) (by simp) ?_
        refine AllReadyH.cons (o := ({ dst := some 15, op := Go.Op.buildSlice 42 0 #[], type := 42, pos := "outright.go:113", after := #[], guard := none } : Oper)) rfl (fun K hK => ?_) AllReadyH.nil
        go_simp
        refine hK.out _ _ ?_ (fun hHeld => ?_)
        · (try dsimp only); (first | exact ⟨c0, c1, c2, c3, c4⟩ | exact HSS.out _ KK.out | exact HSS.out _ (KK.out.alloc KK.out.size _) | exact HSS.out _ (Below.drew (KK.out.alloc KK.out.size _)) | exact HSS.out _ (Below.drew KK.out) | exact HSS.out _ ((Below.refl _ _).alloc (Nat.le_refl _) _) | exact HSS.out _ (Below.drew ((Below.refl _ _).alloc (Nat.le_refl _) _)) | exact HSS.out _ (((Below.refl _ _).alloc (Nat.le_refl _) _).alloc (by simp) _) | exact HSS.out _ (Below.drew (((Below.refl _ _).alloc (Nat.le_refl _) _).alloc (by simp) _)))
        clear hK K; try simp only [Act.put, List.setIfInBounds_toArray, List.set_cons_zero, List.set_cons_succ]
        refine wpAnyH_ready (rs := [2]) (by kernel_rfl) (by simp) ?_
        refine AllReadyH.cons (o := ({ dst := some 17, op := Go.Op.call { callee := Go.Callee.builtin Go.Builtin.append, args := #[Go.Operand.tmp 15, Go.Operand.tmp 16], argTypes := #[42, 42] }, type := 42, pos := "outright.go:113", after := #[{ on := 0, ground := Go.Ground.data }, { on := 1, ground := Go.Ground.data }], guard := none } : Oper)) rfl (fun K hK => ?_) AllReadyH.nil
        have hB : Below W0.heap.size W0 ((W0.alloc (.cells #[.int .u8 (a.what : Int), .int .i64 a.t, .int .i64 a.n, .string a.s, a.v] 51)).alloc (.cells #[] 51)) := ((Below.refl _ _).alloc (Nat.le_refl _) _).alloc (by simp) _; have ho := (show O5 ((W0.alloc (.cells #[.int .u8 (a.what : Int), .int .i64 a.t, .int .i64 a.n, .string a.s, a.v] 51)).alloc (.cells #[] 51)) W0.heap.size (.slice (some ⟨W0.heap.size + 1, 0, none⟩) 0 0) [] by have := O5.empty (W0.alloc (.cells #[.int .u8 (a.what : Int), .int .i64 a.t, .int .i64 a.n, .string a.s, a.v] 51)) W0.heap.size (by simp); rw [World.size_alloc] at this; exact this); refine step_append5 (by rfl) (.tmp 15) (.tmp 16) (by rfl) W0.heap.size _ [] (by rfl) (O5.drew ho) _ acs (by rfl) (HAT2.out _ hB.drew) HON1.out hl1 hB.size ?_; intro vA wA hoA hgA; have KK := Lib.hid (hB.drew.grown hgA hB.size (fun k hk => (ho.base k hk).1)); have HOA := Lib.hid hoA; have HX1 := Lib.hid (((HONE.out W0).below ((Below.refl _ _).alloc (Nat.le_refl _) (.cells #[] 51)) (Nat.le_refl _)).same (fun g hg h => hgA.block g hg (by rw [← h]; simp [Value.ownBlock]))); clear hoA hgA ho hB
        refine hK.out _ _ ?_ (fun hHeld => ?_)
        · (try dsimp only); (first | exact ⟨c0, c1, c2, c3, c4⟩ | exact HSS.out _ KK.out | exact HSS.out _ (KK.out.alloc KK.out.size _) | exact HSS.out _ (Below.drew (KK.out.alloc KK.out.size _)) | exact HSS.out _ (Below.drew KK.out) | exact HSS.out _ ((Below.refl _ _).alloc (Nat.le_refl _) _) | exact HSS.out _ (Below.drew ((Below.refl _ _).alloc (Nat.le_refl _) _)) | exact HSS.out _ (((Below.refl _ _).alloc (Nat.le_refl _) _).alloc (by simp) _) | exact HSS.out _ (Below.drew (((Below.refl _ _).alloc (Nat.le_refl _) _).alloc (by simp) _)))
        clear hK K; try simp only [Act.put, List.setIfInBounds_toArray, List.set_cons_zero, List.set_cons_succ]
        refine wpAnyH_ready (rs := [5]) (by kernel_rfl) (by simp) ?_
        refine AllReadyH.cons (o := ({ dst := some 20, op := Go.Op.call { callee := Go.Callee.builtin Go.Builtin.append, args := #[Go.Operand.tmp 17, Go.Operand.tmp 19], argTypes := #[42, 42] }, type := 42, pos := "outright.go:113", after := #[{ on := 2, ground := Go.Ground.data }, { on := 4, ground := Go.Ground.data }, { on := 2, ground := Go.Ground.chain }], guard := none } : Oper)) rfl (fun K hK => ?_) AllReadyH.nil
        have hx := HX1; clear hx; refine step_append5 (by rfl) (.tmp 17) (.tmp 19) (by rfl) W0.heap.size _ ([] ++ acs) (by rfl) HOA.out _ [a] (by rfl) HX1.out HON2.out hl2 KK.out.size ?_; intro vB wB hoB hgB; have KK := Lib.hid (KK.out.grown hgB KK.out.size (fun k hk => (HOA.out.base k hk).1)); have HOB := Lib.hid hoB; clear hoB hgB
        refine hK.out _ _ ?_ (fun hHeld => ?_)
        · (try dsimp only); (first | exact ⟨c0, c1, c2, c3, c4⟩ | exact HSS.out _ KK.out | exact HSS.out _ (KK.out.alloc KK.out.size _) | exact HSS.out _ (Below.drew (KK.out.alloc KK.out.size _)) | exact HSS.out _ (Below.drew KK.out) | exact HSS.out _ ((Below.refl _ _).alloc (Nat.le_refl _) _) | exact HSS.out _ (Below.drew ((Below.refl _ _).alloc (Nat.le_refl _) _)) | exact HSS.out _ (((Below.refl _ _).alloc (Nat.le_refl _) _).alloc (by simp) _) | exact HSS.out _ (Below.drew (((Below.refl _ _).alloc (Nat.le_refl _) _).alloc (by simp) _)))
        clear hK K; try simp only [Act.put, List.setIfInBounds_toArray, List.set_cons_zero, List.set_cons_succ]
        refine wpAnyH_ready (rs := [7]) (by kernel_rfl) (by simp) ?_
        refine AllReadyH.cons (o := ({ dst := some 22, op := Go.Op.call { callee := Go.Callee.value (Go.Operand.func 26), args := #[Go.Operand.tmp 20, Go.Operand.tmp 21], argTypes := #[42, 28] }, type := 4, pos := "outright.go:113", after := #[{ on := 5, ground := Go.Ground.data }, { on := 6, ground := Go.Ground.data }, { on := 5, ground := Go.Ground.chain }], guard := none } : Oper)) rfl (fun K hK => ?_) AllReadyH.nil
        go_simp
        have hx := HOB; clear hx; go_at_call 26; go_must (refine (HLG2.out _ _ KK.out HOB.out.at).mono ?_; rintro e wL ⟨rfl, hbL⟩); have KK := Lib.hid (KK.out.trans (hbL.mono KK.out.size)); clear hbL
        try go_wp2_with fail
        refine hK.out _ _ ?_ (fun hHeld => ?_)
        · (try dsimp only); (first | exact ⟨c0, c1, c2, c3, c4⟩ | exact HSS.out _ KK.out | exact HSS.out _ (KK.out.alloc KK.out.size _) | exact HSS.out _ (Below.drew (KK.out.alloc KK.out.size _)) | exact HSS.out _ (Below.drew KK.out) | exact HSS.out _ ((Below.refl _ _).alloc (Nat.le_refl _) _) | exact HSS.out _ (Below.drew ((Below.refl _ _).alloc (Nat.le_refl _) _)) | exact HSS.out _ (((Below.refl _ _).alloc (Nat.le_refl _) _).alloc (by simp) _) | exact HSS.out _ (Below.drew (((Below.refl _ _).alloc (Nat.le_refl _) _).alloc (by simp) _)))
        clear hK K; try simp only [Act.put, List.setIfInBounds_toArray, List.set_cons_zero, List.set_cons_succ]
        refine wpAnyH_take (i := 8) (oi := ({ dst := some 23, op := Go.Op.move (Go.Operand.tmp 22), type := 4, pos := "outright.go:113", after := #[{ on := 7, ground := Go.Ground.data }, { on := 7, ground := Go.Ground.chain }], guard := none } : Oper)) (v := ?_) rfl (by kernel_rfl) (by kernel_rfl) (by kernel_rfl) (fun _ _ _ h => h) (Or.inl ⟨by rfl, ?_⟩) (by assumption) ?_
        rotate_left
        · intro w hSw; (try dsimp only at hSw); go_simp; (try with_reducible rfl)
        try simp only [Act.put, List.setIfInBounds_toArray, List.set_cons_zero, List.set_cons_succ]
        refine wpAnyH_take (i := 9) (oi := ({ dst := some 24, op := Go.Op.move (Go.Operand.tmp 2), type := 42, pos := "outright.go:113", after := #[{ on := 8, ground := Go.Ground.guard }], guard := some (8, false) } : Oper)) (v := undef) rfl (by kernel_rfl) (by kernel_rfl) (by kernel_rfl) (fun _ _ _ h => h) (Or.inr ⟨by rfl, rfl⟩) (by assumption) ?_
        try simp only [Act.put, List.setIfInBounds_toArray, List.set_cons_zero, List.set_cons_succ]
        refine wpAnyH_take (i := 10) (oi := ({ dst := some 25, op := Go.Op.call { callee := Go.Callee.builtin Go.Builtin.len, args := #[Go.Operand.tmp 24], argTypes := #[42] }, type := 3, pos := "outright.go:113", after := #[{ on := 9, ground := Go.Ground.data }, { on := 8, ground := Go.Ground.guard }], guard := some (8, false) } : Oper)) (v := undef) rfl (by kernel_rfl) (by kernel_rfl) (by kernel_rfl) (fun _ _ _ h => h) (Or.inr ⟨by rfl, rfl⟩) (by assumption) ?_
        try simp only [Act.put, List.setIfInBounds_toArray, List.set_cons_zero, List.set_cons_succ]
        refine wpAnyH_take (i := 11) (oi := ({ dst := some 26, op := Go.Op.binOp Go.BinOp.gtr 3 (Go.Operand.tmp 25) (Go.Operand.const (Go.Value.int Go.IntKind.i64 200)) 3, type := 4, pos := "outright.go:113", after := #[{ on := 10, ground := Go.Ground.data }, { on := 8, ground := Go.Ground.guard }], guard := some (8, false) } : Oper)) (v := undef) rfl (by kernel_rfl) (by kernel_rfl) (by kernel_rfl) (fun _ _ _ h => h) (Or.inr ⟨by rfl, rfl⟩) (by assumption) ?_
        try simp only [Act.put, List.setIfInBounds_toArray, List.set_cons_zero, List.set_cons_succ]
        refine wpAnyH_take (i := 12) (oi := ({ dst := some 27, op := Go.Op.pick (Go.Operand.tmp 23) (Go.Operand.const (Go.Value.bool true)) (Go.Operand.tmp 26), type := 4, pos := "outright.go:113", after := #[{ on := 8, ground := Go.Ground.data }, { on := 11, ground := Go.Ground.data }], guard := none } : Oper)) (v := ?_) rfl (by kernel_rfl) (by kernel_rfl) (by kernel_rfl) (fun _ _ _ h => h) (Or.inl ⟨by rfl, ?_⟩) (by assumption) ?_
        rotate_left
        · intro w hSw; (try dsimp only at hSw); go_simp; (try with_reducible rfl)
        try simp only [Act.put, List.setIfInBounds_toArray, List.set_cons_zero, List.set_cons_succ]
        refine wpAnyH_take (i := 13) (oi := ({ dst := some 28, op := Go.Op.move (Go.Operand.tmp 27), type := 4, pos := "outright.go:113", after := #[{ on := 12, ground := Go.Ground.data }, { on := 8, ground := Go.Ground.chain }], guard := none } : Oper)) (v := ?_) rfl (by kernel_rfl) (by kernel_rfl) (by kernel_rfl) (fun _ _ _ h => h) (Or.inl ⟨by rfl, ?_⟩) (by assumption) ?_
        rotate_left
        · intro w hSw; (try dsimp only at hSw); go_simp; (try with_reducible rfl)
        try simp only [Act.put, List.setIfInBounds_toArray, List.set_cons_zero, List.set_cons_succ]
        refine wpAnyH_take (i := 14) (oi := ({ dst := some 29, op := Go.Op.call { callee := Go.Callee.value (Go.Operand.func 10), args := #[], argTypes := #[] }, type := 4, pos := "outright.go:113", after := #[{ on := 13, ground := Go.Ground.chain }, { on := 13, ground := Go.Ground.guard }], guard := some (13, false) } : Oper)) (v := undef) rfl (by kernel_rfl) (by kernel_rfl) (by kernel_rfl) (fun _ _ _ h => h) (Or.inr ⟨by rfl, rfl⟩) (by assumption) ?_
        try simp only [Act.put, List.setIfInBounds_toArray, List.set_cons_zero, List.set_cons_succ]
        refine wpAnyH_take (i := 15) (oi := ({ dst := some 30, op := Go.Op.unOp Go.UnOp.not 4 (Go.Operand.tmp 29), type := 4, pos := "outright.go:113", after := #[{ on := 14, ground := Go.Ground.data }, { on := 13, ground := Go.Ground.guard }], guard := some (13, false) } : Oper)) (v := undef) rfl (by kernel_rfl) (by kernel_rfl) (by kernel_rfl) (fun _ _ _ h => h) (Or.inr ⟨by rfl, rfl⟩) (by assumption) ?_
        try simp only [Act.put, List.setIfInBounds_toArray, List.set_cons_zero, List.set_cons_succ]
        refine wpAnyH_take (i := 16) (oi := ({ dst := some 31, op := Go.Op.pick (Go.Operand.tmp 28) (Go.Operand.const (Go.Value.bool true)) (Go.Operand.tmp 30), type := 4, pos := "outright.go:113", after := #[{ on := 13, ground := Go.Ground.data }, { on := 15, ground := Go.Ground.data }], guard := none } : Oper)) (v := ?_) rfl (by kernel_rfl) (by kernel_rfl) (by kernel_rfl) (fun _ _ _ h => h) (Or.inl ⟨by rfl, ?_⟩) (by assumption) ?_
        rotate_left
        · intro w hSw; (try dsimp only at hSw); go_simp; (try with_reducible rfl)
        try simp only [Act.put, List.setIfInBounds_toArray, List.set_cons_zero, List.set_cons_succ]
        refine wpAnyH_done (by kernel_rfl) ?_ _
        (go_wp2_with fail; go_meet; exact ⟨_, rfl, Lib.hid (by first | exact KK.out | exact Below.drew KK.out)⟩)
  case rest =>
    obtain ⟨bb, rfl, HX⟩ := hcut
    have HWX : Hid (Below w.heap.size w wc) := Lib.hid (HB0.out.trans (HX.out.mono HB0.out.size))
    have HW8 : Hid (Below W0.heap.size W0 wc) := Lib.hid HX.out
    have HL0 : Hid (w.heap.size < W0.heap.size) := Lib.hid (by rw [HS0.out]; omega)
    clear HAT2 HLG2 HON1 HON2 HONE HONB hl1 hl2 HX HBX c0 c1 c2 c3 c4 LB
    cases bb
    case true =>
      go_wp2_with fail
      refine (awake_any _).mono ?_
      rintro e w2 ⟨rfl, hb⟩
      have HB2 := Lib.hid (below_trans' HWX.out hb)
      clear hb
      go_wp2
      go_ret
      exact ⟨rfl, HB2.out⟩
    go_wp2_with fail
    refine (HMD.out _ HWX.out).mono ?_
    rintro e w3 ⟨hb3, ⟨h0, rfl⟩ | ⟨h0, c, rfl, B, hB, rfl, hd, hok⟩⟩
    · have HB3 := Lib.hid (below_trans' HWX.out hb3)
      clear hb3 h0 HMD
      go_wp2
      go_ret
      exact ⟨rfl, HB3.out⟩
    · have HB3 := Lib.hid (below_trans' HWX.out hb3)
      have HK3 := Lib.hid (below_trans' HW8.out hb3)
      have HBB : Hid (W0.heap.size ≤ B) := Lib.hid (Nat.le_trans HW8.out.size hB)
      have HBw : Hid (w.heap.size ≤ B) := Lib.hid (by have := HBB.out; have := HL0.out; omega)
      have HD3 := Lib.hid (And.intro hd hok)
      clear hb3 hB hd hok h0 HMD HWX HW8
      generalize actsD (made0 c ts) acs = D at *
      have HFN : Hid (a.ks ≠ [] → a.v.ownBlock ≠ some B) := Lib.hid (fun h0 e => by have := HF.out.at'.lt h0 B e; have := HBw.out; omega)
      have CT := Lib.hid (fun W h => tapes_any B D W h HD3.out.2.t)
      have CA := Lib.hid (fun W (h : DAt W B D) (hW : Below w.heap.size w W) => act_any B D a W h HD3.out.2 (HF.out.below hW (Nat.le_refl _)) HFN.out)
      have HOK := Lib.hid (actD_ok HD3.out.2 a HF.out.n)
      have CT2 := Lib.hid (fun W h => tapes_any B (actD D a).2 W h HOK.out.t)
      have HTT : Hid (a.what ≤ 4 → ∀ j : Nat, (actD D a).2.T j = D.T j ∨ ((j : Int) = a.t ∧ a.what ≠ 4 ∧ ((actD D a).1.2 = 0 ∨ ((actD D a).1.2 = 45 ∧ a.what = 0)))) := Lib.hid (fun h j => act_T D a j h)
      have HWT : a.what < 256 := HF.out.what
      unfold acV at CA
      generalize actD D a = X at *
      obtain ⟨⟨XS, E⟩, D5⟩ := X
      dsimp only at *
      obtain ⟨c0, c1, c2, c3, c4⟩ := HSS.out _ HK3.out
      by_cases h4 : 4 < a.what
      · have hd4 : decide ((4 : Int) < (a.what : Int)) = true := decide_eq_true (by omega)
        have hd4' : decide (4 < a.what) = true := decide_eq_true h4
        go_wp2
        go_ret
        exact ⟨rfl, HB3.out⟩
      have hd4 : decide ((4 : Int) < (a.what : Int)) = false := decide_eq_false (by omega)
      have hd4' : decide (4 < a.what) = false := decide_eq_false h4
      go_wp2_with fail
      refine (CT.out _ HD3.out.1).mono ?_
      rintro e w4 ⟨rfl, hr⟩
      have HB4 := Lib.hid (HB3.out.trans (hr.below.mono HB3.out.size))
      have HK4 := Lib.hid (HK3.out.trans (hr.below.mono HK3.out.size))
      have HD4 := Lib.hid (HD3.out.1.below hr.below HD3.out.1.lt)
      have HR4 := Lib.hid hr.told
      have HN4 : Hid (w3.heap.size ≠ B) := Lib.hid (by have := HD3.out.1.lt; omega)
      clear hr CT HB3 HK3 c0 c1 c2 c3 c4
      generalize w3.heap.size = G1 at *
      obtain ⟨c0, c1, c2, c3, c4⟩ := HSS.out _ HK4.out
      go_wp2_with fail
      refine (CA.out _ HD4.out HB4.out).mono ?_
      rintro e w5 ⟨rfl, hd, hg⟩
      have HB5 := Lib.hid (below_grown HB4.out hg HB4.out.size HBw.out)
      have HK5 := Lib.hid (below_grown HK4.out hg HK4.out.size HBB.out)
      have HD5 := Lib.hid hd
      have HR5 := Lib.hid (HR4.out.grown hg HN4.out)
      clear hd hg CA HR4 HD4 HB4 HK4 c0 c1 c2 c3 c4
      go_wp2_with fail
      refine (CT2.out _ HD5.out).mono ?_
      rintro e w6 ⟨rfl, hr⟩
      have HB6 := Lib.hid (HB5.out.trans (hr.below.mono HB5.out.size))
      have HK6 := Lib.hid (HK5.out.trans (hr.below.mono HK5.out.size))
      have HR6 := Lib.hid (HR5.out.below hr.below HR5.out.lt)
      have HQ6 := Lib.hid hr.told
      clear hr CT2 HR5 HD5 HB5 HK5
      generalize w5.heap.size = G2 at *
      go_wp2
      go_loopw [14] (fun i wl => ∃ k : Nat, i = .int .i64 (k : Int) ∧ k ≤ 32 ∧ Hid (Told wl G1 D.T) ∧ Hid (Told wl G2 D5.T) ∧ Hid (Below W0.heap.size W0 wl) ∧ Hid (Below w.heap.size w wl)) (fun i _ => 32 - (intOf i).toNat)
      case atStart => exact ⟨0, rfl, by omega, HR6, HQ6, HK6, HB6⟩
      case round =>
        clear HR6 HQ6 HK6 HB6
        obtain ⟨k, rfl, hk, HR, HQ, HK, HB⟩ := hrel
        obtain ⟨wl, hwl⟩ : ∃ wl, wl = wr := ⟨_, rfl⟩
        subst hwl
        by_cases hlt : k < 32
        · have hlt2 : (k : Int) < 32 := by omega
          have r0 := HR.out.a k hlt
          have r1 := HR.out.b k hlt
          have s0 := HQ.out.a k hlt
          have s1 := HQ.out.b k hlt
          obtain ⟨c0, c1, c2, c3, c4⟩ := HSS.out _ HK.out
          have HT := HTT.out (by omega) k
          have hsame : D5.T k = D.T k → (qT (D5.T k)).a = (qT (D.T k)).a ∧ (qT (D5.T k)).b = (qT (D.T k)).b := fun h => by rw [h]; exact ⟨rfl, rfl⟩
          have HT' : ((qT (D5.T k)).a = (qT (D.T k)).a ∧ (qT (D5.T k)).b = (qT (D.T k)).b) ∨ ((k : Int) = a.t ∧ a.what ≠ 4 ∧ (E = 0 ∨ (E = 45 ∧ a.what = 0))) := HT.imp hsame id
          clear HT hsame
          generalize (qT (D.T k)).a = a1 at *
          generalize (qT (D.T k)).b = b1 at *
          generalize (qT (D5.T k)).a = a2 at *
          generalize (qT (D5.T k)).b = b2 at *
          by_cases heq : a2 = a1 ∧ b2 = b1
          · obtain ⟨rfl, rfl⟩ := heq
            go_wp2_with fail
            go_big_quiet (fail)
            go_wp2
            go_roundw
            case rel => exact ⟨k + 1, by go_num, by omega, Lib.hid (HR.out.congr rfl), Lib.hid (HQ.out.congr rfl), Lib.hid (below_drewN HK.out _), Lib.hid (below_drewN HB.out _)⟩
            case measure => simp [intOf]; omega
          · have HTC := Lib.hid (HT'.resolve_left heq)
            clear HT'
            obtain ⟨hkt, hw4, hE⟩ := HTC.out
            clear HTC
            have nt : ((k : Int) != a.t) = false := by rw [bne_eq_false_iff_eq]; exact hkt
            have n4 : ((a.what : Int) == 4) = false := by rw [beq_eq_false_iff_ne]; omega
            clear hkt hw4
            have tl : ∀ x y : ByteArray, x ≠ y → (x.toList == y.toList) = false := fun x y h => by rw [beq_eq_false_iff_ne]; intro e; exact h (ByteArray.ext (Array.ext' (by rw [← Go.ByteArray.toList_eq, ← Go.ByteArray.toList_eq, e])))
            by_cases ha : a1 = a2
            · subst ha
              have hne : (b1.toList == b2.toList) = false := tl _ _ (fun e => heq ⟨rfl, e.symm⟩)
              clear heq tl
              rcases hE with hE | ⟨hE, hw⟩
              · have e0 : ((E : Int) != 0) = false := by rw [bne_eq_false_iff_eq]; omega
                go_wp2_with fail
                go_big_quiet (fail)
                go_wp2
                go_roundw
                case rel => exact ⟨k + 1, by go_num, by omega, Lib.hid (HR.out.congr rfl), Lib.hid (HQ.out.congr rfl), Lib.hid (below_drewN HK.out _), Lib.hid (below_drewN HB.out _)⟩
                case measure => simp [intOf]; omega
              · have e0 : ((E : Int) != 0) = true := by rw [bne_iff_ne]; omega
                have e5 : ((E : Int) != 45) = false := by rw [bne_eq_false_iff_eq]; omega
                have w0 : ((a.what : Int) != 0) = false := by rw [bne_eq_false_iff_eq]; omega
                go_wp2_with fail
                go_big_quiet (fail)
                go_wp2
                go_roundw
                case rel => exact ⟨k + 1, by go_num, by omega, Lib.hid (HR.out.congr rfl), Lib.hid (HQ.out.congr rfl), Lib.hid (below_drewN HK.out _), Lib.hid (below_drewN HB.out _)⟩
                case measure => simp [intOf]; omega
            · have hne : (a1.toList == a2.toList) = false := tl _ _ ha
              clear heq tl ha
              rcases hE with hE | ⟨hE, hw⟩
              · have e0 : ((E : Int) != 0) = false := by rw [bne_eq_false_iff_eq]; omega
                go_wp2_with fail
                go_big_quiet (fail)
                go_wp2
                go_roundw
                case rel => exact ⟨k + 1, by go_num, by omega, Lib.hid (HR.out.congr rfl), Lib.hid (HQ.out.congr rfl), Lib.hid (below_drewN HK.out _), Lib.hid (below_drewN HB.out _)⟩
                case measure => simp [intOf]; omega
              · have e0 : ((E : Int) != 0) = true := by rw [bne_iff_ne]; omega
                have e5 : ((E : Int) != 45) = false := by rw [bne_eq_false_iff_eq]; omega
                have w0 : ((a.what : Int) != 0) = false := by rw [bne_eq_false_iff_eq]; omega
                go_wp2_with fail
                go_big_quiet (fail)
                go_wp2
                go_roundw
                case rel => exact ⟨k + 1, by go_num, by omega, Lib.hid (HR.out.congr rfl), Lib.hid (HQ.out.congr rfl), Lib.hid (below_drewN HK.out _), Lib.hid (below_drewN HB.out _)⟩
                case measure => simp [intOf]; omega
        · obtain rfl : k = 32 := by omega
          go_wp2
          go_ret
          exact ⟨rfl, HB.out⟩
theorem own : ownKnob Try.prog.godebug = none := by kernel_rfl
theorem laidOut : laidOutB Try.prog = true := by kernel_rfl
set_option maxRecDepth 100000 in
theorem lifted (os : Os) (started : os.Started) (H : Type) (enc : TypeId × Value → H) :
    ReturnsInHanded {} Try.checked os 7 .any (Rows.diskApartSpec.pre6 enc Try.prog Try.f7 Rows.diskApartRow.domain false) (Rows.diskApartSpec.post enc Try.prog Try.f7 false true false false) := by
  refine returnsInHanded_of_change_sized (C := Try.checked) own started (by kernel_rfl) Try.func7
    (ChangeSpec.witness6 (enc := enc) (C := Try.checked) false ⟨#[], #[.int .i64 0, .slice none 0 0, .slice none 0 0, .agg #[.int .u8 0, .int .i64 0, .int .i64 0, .string ByteArray.empty, .slice none 0 0]], []⟩ 8 (by kernel_rfl) (by kernel_rfl) (by kernel_rfl) (by kernel_rfl)) ?_
  intro W base args ds gs before hval0 hW hcnd hwt _
  have hval : ∀ (j : Nat) t v, Try.f7.params[j]? = some t → args[j]? = some v → Value.okWide Try.prog W .any base t v := hval0
  have hW' := hW
  obtain ⟨p, q, hA0, hV, rfl, hfz, hnd⟩ := hW
  have hA : DataW.TrodAll enc Try.prog W 0 (fun _ => true) true Try.f7.params.toList args.toList ds p := hA0
  rw [Try.params7] at hA hval
  obtain ⟨v0, vs0, d0, ds0, p0, q0, hargs, rfl, rfl, h0, r0⟩ := trodAll_cons hA
  obtain ⟨v1, vs1, d1, ds1, p1, q1, rfl, rfl, rfl, h1, r1⟩ := trodAll_cons r0
  obtain ⟨v2, vs2, d2, ds2, p2, q2, rfl, rfl, rfl, h2, r2⟩ := trodAll_cons r1
  obtain ⟨v3, vs3, d3, ds3, p3, q3, rfl, rfl, rfl, h3, r3⟩ := trodAll_cons r2
  obtain ⟨rfl, rfl, rfl⟩ := trodAll_nil r3
  obtain rfl : args = #[v0, v1, v2, v3] := by cases args; simp_all
  obtain ⟨rfl, rfl⟩ := trodVars_none hV
  have hwts := all_weights hwt
  have k0 := h0
  have lt0 : ∀ x ∈ p0, x.block < W.heap.size := by obtain ⟨m, hm⟩ := k0; exact DataW.trod_lt m _ _ _ hm
  have k1 := h1
  have lt1 : ∀ x ∈ p1, x.block < W.heap.size := by obtain ⟨m, hm⟩ := k1; exact DataW.trod_lt m _ _ _ hm
  have k2 := h2
  have lt2 : ∀ x ∈ p2, x.block < W.heap.size := by obtain ⟨m, hm⟩ := k2; exact DataW.trod_lt m _ _ _ hm
  have k3 := h3
  have lt3 : ∀ x ∈ p3, x.block < W.heap.size := by obtain ⟨m, hm⟩ := k3; exact DataW.trod_lt m _ _ _ hm
  obtain ⟨a0, rfl, rfl, rfl, w0⟩ := open_int Try.underlying3 (hval 0 3 v0 rfl rfl) h0
  obtain ⟨a1, w1⟩ := open_tapes (hval 1 28 v1 rfl rfl) h1
  obtain ⟨a2, w2⟩ := open_actsw (hval 2 42 v2 rfl rfl) h2 (fun k hk => hwts k (by simp only [Try.params7, List.cons_append, List.nil_append, DataW.weightsEach]; exact List.mem_append_right _ (List.mem_append_right _ (List.mem_append_left _ hk))))
  obtain ⟨a3, rfl, w3⟩ := open_act (hval 3 51 v3 rfl rfl) h3
  clear hA0 hval0
  refine (core a0 v1 a1 v2 a2 a3 w0 W w1 w2 w3).mono fun e W' ⟨he, bel⟩ => ?_
  subst he
  exact ⟨_, rfl, _, _, _, [], _, [], hW', trodAll_mk1 (shut_bool Try.underlying4 _), (trodAll_cons_mk (Below.trod laidOut (by kernel_rfl) (of_decide_eq_true (by kernel_rfl)) k0 bel lt0) (trodAll_cons_mk (Below.trod laidOut (by kernel_rfl) (of_decide_eq_true (by kernel_rfl)) k1 bel lt1) (trodAll_cons_mk (Below.trod laidOut (by kernel_rfl) (of_decide_eq_true (by kernel_rfl)) k2 bel lt2) (trodAll_cons_mk (Below.trod laidOut (by kernel_rfl) (of_decide_eq_true (by kernel_rfl)) k3 bel lt3) trodAll_mk0)))), rfl, bel.frame _, fun h => by cases h⟩
theorem over : Rows.diskApartRow.holds Try.pinned (OpenSpec.ofChange Rows.diskApartSpec) :=
  OpenClaim.holds_of_wide 7 Try.f7 rfl rfl rfl rfl rfl rfl rfl ⟨rfl, rfl, rfl, rfl, rfl⟩ rfl rfl rfl rfl rfl (by kernel_rfl) Try.func7 (by kernel_rfl)
    (of_decide_eq_true (by kernel_rfl)) (by unfold Func.isWrapper; first | (rw [if_pos (by decide +kernel)]; kernel_rfl) | (rw [if_neg (by decide +kernel)]; exact ⟨rfl, rfl⟩))
    (fun os started H enc _ => lifted os started H enc)
theorem proved : Rows.DiskApartSaid := over
end Go.Proofs.Yticponohbnkgdaa.diskApart
