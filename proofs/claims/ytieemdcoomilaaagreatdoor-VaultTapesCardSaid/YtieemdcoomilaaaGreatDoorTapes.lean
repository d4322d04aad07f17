/- VaultTapes: the law answers true. Condition: the table of package sum reads as its initialiser lays it (tied to the program's text by the card). -/
import Derived.Test.YtieemdcoomilaaaGreatDoorCards
import Derived.Test.YtieemdcoomilaaaGreatDoorTie
import Derived.Test.YtieemdcoomilaaaGreatDoorSa
import Derived.Test.YtieemdcoomilaaaGreatDoorXi
import Derived.Test.YtieemdcoomilaaaGreatDoorDx
import Derived.Test.YtieemdcoomilaaaGreatDoorVi
import Derived.SevenTiedAt
set_option linter.unusedVariables false
set_option linter.unusedSimpArgs false
namespace Go.Proofs.YtieemdcoomilaaaGreatDoor.vaultTapes
open Go Go.ChangeShapes Go.WideShapes Go.ChangeAt Go.RowKit
open Go.ChangeMaps (open_string shut_string)
set_option linter.unusedVariables false
open Go.Sort BigFrame
set_option maxRecDepth 100000
theorem u64_nat (o : Int) : ∃ u : Nat, IntKind.u64.wrap o = (u : Int) ∧ u < 18446744073709551616 := ⟨(o % 18446744073709551616).toNat, by rw [IntKind.wrap_u64]; omega, by omega⟩
theorem rem_4 (u : Nat) : ∃ k M : Nat, (u : Int).tmod 400 = (k : Int) ∧ k < 400 ∧ (1 : Int) + (k : Int) = (M : Int) ∧ 1 ≤ M ∧ M ≤ 400 := by
  refine ⟨u % 400, u % 400 + 1, ?_, by omega, by omega, by omega, by omega⟩
  rw [Int.tmod_eq_emod_of_nonneg (by omega)]; omega
theorem rem_3 (u : Nat) : ∃ k M : Nat, (u : Int).tmod 3000 = (k : Int) ∧ k < 3000 ∧ (60 : Int) + (k : Int) = (M : Int) ∧ 60 ≤ M ∧ M ≤ 3060 := by
  refine ⟨u % 3000, u % 3000 + 60, ?_, by omega, by omega, by omega, by omega⟩
  rw [Int.tmod_eq_emod_of_nonneg (by omega)]; omega
theorem kind_3 (k : Nat) : (k : Int).tmod 3 = 0 ∨ (k : Int).tmod 3 = 1 ∨ (k : Int).tmod 3 = 2 := by
  rw [Int.tmod_eq_emod_of_nonneg (by omega)]; omega
theorem Vcs.cells {w W : World} {v : Value} {l : List Vc} (h : Vcs w v l) (hb : Below w.heap.size w W) {g o n c : Nat} (hv : v = .slice (some ⟨g, o, none⟩) n c) {j : Nat} (hj : j < l.length) :
    W.cell? ⟨g, o + j * 4, none⟩ = some (.int .u8 (l[j].kind : Int)) ∧ W.cell? ⟨g, o + j * 4 + 1, none⟩ = some (.string l[j].s) := by
  obtain ⟨g2, o2, c2, e, h2⟩ := (h.below hb).pos (by omega)
  rw [hv] at e
  injection e with e
  injection e with e
  injection e with e1 e2
  subst e1 e2
  exact ⟨(h2 j hj).1, (h2 j hj).2.1⟩
theorem gv_dat {w w' : World} {B V C : Nat} {d : Dk} (h : DAt w C d) (hg : Gv w w' B V) (h1 : C ≠ B) (h2 : C ≠ V) : DAt w' C d := h.congr (hg.block C h.lt h1 h2)
set_option maxHeartbeats 16000000 in
theorem core (c m : Int) (v : Value) (l : List Vc) (w : World) (wc : (Lit.int .i64 c).wf = true) (wm : (Lit.int .i64 m).wf = true) (wl : Vcs w v l) (hT : Hid (Tab w)) :
    Calls Tryz.prog 6 #[.int .i64 c, .int .i64 m, v] w fun e w' => e = .returned (.bool true) ∧ Below w.heap.size w w' := by
  have HLO := Lib.hid (long_any l v w wl)
  have HAW := Lib.hid (fun W (hW : Below w.heap.size w W) => awake_any W (hT.out.below hW))
  obtain ⟨uc, huc, huc2⟩ := u64_nat c
  obtain ⟨um, hum, hum2⟩ := u64_nat m
  obtain ⟨k4, M, hk4, hk42, hM, hM1, hM2⟩ := rem_4 um
  obtain ⟨k3, C0, hk3, hk32, hC, hC1, hC2⟩ := rem_3 uc
  have HM := Lib.hid (And.intro hM1 hM2)
  have HON := Lib.hid (fun W (hW : Below w.heap.size w W) => on_any C0 M (by omega) (by omega) hM1 (by omega) W (hT.out.below hW))
  have HCC := Lib.hid (fun hok => Vt.new_calm (c := C0) (most := M) (by omega) hok)
  have HV := Lib.hid wl
  obtain ⟨va, vc, hv⟩ := wl.slice
  obtain ⟨L, hL⟩ : ∃ L, l.length = L := ⟨_, rfl⟩
  have hLm := wl.len
  rw [hL] at hv hLm HLO
  have HL := Lib.hid hL
  have HVV := Lib.hid hv
  clear wl wc wm hL hC1 hC2 hM1 hM2
  subst hv
  go_enter Tryz.func6, Tryz.ntmps6
  go_wp2_with fail
  refine HLO.out.mono ?_
  rintro e w1 ⟨b, rfl, hlen, hb⟩
  have HB1 := Lib.hid hb
  have HLE := Lib.hid hlen
  clear hb hlen
  cases b with
  | true =>
    go_wp2_with fail
    refine (HAW.out _ HB1.out).mono ?_
    rintro e w2 ⟨rfl, hb⟩
    have HB2 := Lib.hid (below_trans' HB1.out hb)
    clear hb
    go_wp2
    go_ret
    exact ⟨rfl, HB2.out⟩
  | false =>
    have hL100 := HLE.out rfl
    go_wp2_with fail
    refine (HAW.out _ HB1.out).mono ?_
    rintro e w2 ⟨rfl, hb⟩
    have HB2 := Lib.hid (below_trans' HB1.out hb)
    clear hb
    go_wp2_with fail
    refine (HON.out _ HB2.out).mono ?_
    rintro e w3 ⟨B, V, rfl, hB, hV, hok, hx, hb⟩
    have HB3 := Lib.hid (below_trans' HB2.out hb)
    have HBB : Hid (w.heap.size ≤ B) := Lib.hid (Nat.le_trans HB2.out.size hB)
    have HVVV : Hid (w.heap.size ≤ V) := Lib.hid (Nat.le_trans HB2.out.size hV)
    obtain ⟨d0, ho, hc0, -⟩ := HCC.out hok
    rw [ho] at hx
    have HX3 := Lib.hid hx
    have HC3 := Lib.hid hc0
    clear hb hB hV hok hx ho hc0 HCC HON HLO HLE hk3 hk4 huc huc2 hum hum2 hk32 hk42
    go_wp2
    clear hM hC
    go_loopw [9] (fun i wr => ∃ (j : Nat) (d : Dk) (h : He) (n : Nat), i = .int .i64 j ∧ j ≤ L ∧ Hid (VSt wr V B M (d, h, n)) ∧ Hid (Vt.InvC d h n M) ∧ Hid (Below w.heap.size w wr) ∧ Hid (n ≤ j)) (fun i _ => L - (intOf i).toNat)
    case atStart => exact ⟨0, _, _, _, rfl, by omega, HX3, HC3, HB3, Lib.hid (by omega)⟩
    case round =>
      obtain ⟨j, d, h, n, rfl, hj, HX, HC, HB, Hn⟩ := hrel
      by_cases hjl : j < L
      · obtain ⟨g1, o1, c1, hv1, -⟩ := (HV.out.below HB.out).pos (by have := HL.out; omega)
        rw [HL.out] at hv1
        injection hv1 with hv1 hv2 hv3
        subst hv1
        have HCE := Lib.hid (fun W (hW : Below w.heap.size w W) => Vcs.cells HV.out hW rfl (j := j) (by have := HL.out; omega))
        have HFT := Lib.hid (HV.out.fit _ (List.getElem_mem (l := l) (n := j) (by have := HL.out; omega)))
        generalize l[j]'(by have := HL.out; omega) = y at HCE HFT
        obtain ⟨yk, ys, yn, yks, yv⟩ := y
        dsimp only at HCE HFT
        have HYS : Hid (ys.size ≤ 9223372036854775807) := Lib.hid HFT.out.s
        have hyk := HFT.out.kind
        dsimp only at hyk
        have hn100 : n ≤ 100 := by have := Hn.out; omega
        have HMY : Hid (mayB h = true) := Lib.hid (by obtain ⟨S, E, B', hs, -⟩ := HC.out.st; exact hs.hd.may)
        have HKK := Lib.hid (mayB_ok HMY.out)
        have kb1 := HKK.out.b1
        have kb2 := HKK.out.b2
        have kg1 := HKK.out.g1
        have kg2 := HKK.out.g2
        obtain ⟨LN, hLN⟩ : ∃ LN, h.log.length = LN := ⟨_, rfl⟩
        have HLN := Lib.hid hLN
        have hLN30 : LN ≤ 30 := by rw [← hLN]; exact HKK.out.len
        clear hv2 hv3 hLN
        go_wp2_with fail
        refine (copy_any B d _ HX.out.d).mono ?_
        rintro e w4 ⟨rfl, hdc, hb⟩
        have HD4 := Lib.hid hdc
        have HB4 := Lib.hid (below_trans' HB.out hb)
        have HX4 := Lib.hid (HX.out.below hb (Nat.le_refl _))
        have HCB : Hid (B < wr.heap.size ∧ V < wr.heap.size ∧ wr.heap.size < w4.heap.size) := Lib.hid ⟨HX.out.d.lt, HX.out.lt, hdc.lt⟩
        obtain ⟨CB, hCB⟩ : ∃ CB, wr.heap.size = CB := ⟨_, rfl⟩
        rw [hCB] at HD4 HCB ⊢
        clear hdc hb
        obtain ⟨yv4, hyv4⟩ := HX4.out.v
        have HY4 := Lib.hid hyv4
        clear hyv4
        go_wp2_with fail
        refine (head_any V B M h n yv4 w4 HY4.out HKK.out.ne (by have := HKK.out.len; omega)).mono ?_
        rintro e w5 ⟨u1, rfl, ho, hb⟩
        have HO5 := Lib.hid ho
        have HB5 := Lib.hid (below_trans' HB4.out hb)
        have HX5 := Lib.hid (HX4.out.below hb (Nat.le_refl _))
        have HD5 := Lib.hid (HD4.out.below hb HD4.out.lt)
        have HC5 : Hid (w4.heap.size ≤ w5.heap.size) := Lib.hid hb.size
        obtain ⟨ua, ucp, hu⟩ := ho.shape
        rw [List.length_map, HLN.out] at hu
        clear ho hb
        subst hu
        unfold hval at *
        have HX6 := Lib.hid (HX5.out.below (below_one w5 (.cells #[.int .i64 h.gen, .int .i64 h.base, .int .i64 h.snap, .slice ua LN ucp] 40)) (Nat.le_refl _))
        have HD6 := Lib.hid (HD5.out.below (below_one w5 (.cells #[.int .i64 h.gen, .int .i64 h.base, .int .i64 h.snap, .slice ua LN ucp] 40)) HD5.out.lt)
        have HB6 := Lib.hid (HB5.out.alloc HB5.out.size (.cells #[.int .i64 h.gen, .int .i64 h.base, .int .i64 h.snap, .slice ua LN ucp] 40))
        have HO6 := Lib.hid (HO5.out.alloc (.cells #[.int .i64 h.gen, .int .i64 h.base, .int .i64 h.snap, .slice ua LN ucp] 40))
        have HR6 : Hid (Box4 (w5.alloc (.cells #[.int .i64 h.gen, .int .i64 h.base, .int .i64 h.snap, .slice ua LN ucp] 40)) w5.heap.size (.int .i64 h.gen) (.int .i64 h.base) (.int .i64 h.snap) (.slice ua LN ucp)) := Lib.hid (heap_alloc_new w5 _)
        obtain ⟨yv6, hyv6⟩ := HX6.out.v
        have HY6 := Lib.hid hyv6
        clear hyv6
        go_wp2_with fail
        refine (since_any V B M h n yv6 _ HY6.out).mono ?_
        rintro e w6 ⟨rfl, hw6⟩
        rw [hw6] at HX6 HD6 HB6 HO6 HR6
        have HW6 : Hid (w5.heap.size < w6.heap.size) := Lib.hid (by rw [← hw6, World.size_alloc]; omega)
        clear hw6 HY6 HY4
        have cK := (HCE.out _ HB6.out).1
        have cS := (HCE.out _ HB6.out).2
        rcases kind_3 yk with eK | eK | eK
        · have HAD := Lib.hid (vadd_eq ys HYS.out (by omega) HX6.out HMY.out)
          have HCL := Lib.hid (Vt.add_calm HC.out (by have := HM.out; omega) ys)
          generalize Vt.addD d h n M ys = P at *
          obtain ⟨⟨d2, er⟩, h2, n2⟩ := P
          dsimp only at HAD HCL
          go_wp2_with fail
          refine HAD.out.mono ?_
          rintro e w7 ⟨rfl, hx, hg⟩
          rcases HCL.out with ⟨c1, c2, c3, -⟩ | ⟨c1, c2, c3, c4⟩
          · try dsimp only at c1 c2 c3
            injection c3 with c3 c3b
            have c1s := c1.symm
            have c3s := c3.symm
            have c3bs := c3b.symm
            clear c1 c3 c3b
            subst c1s c3s c3bs
            have HX7 := Lib.hid hx
            have HD7 := Lib.hid (gv_dat HD6.out hg (by have := HCB.out; omega) (by have := HCB.out; omega))
            have HB7 := Lib.hid (below_gv HB6.out hg HB6.out.size HBB.out HVVV.out)
            have HO7 := Lib.hid (HO6.out.kat.same (w' := w7) (fun g hg1 e => by have h5 := (HO6.out.lt g e).1; exact hg.block g hg1 (by have := HCB.out; omega) (by have := HCB.out; omega)))
            have HR7 : Hid (Box4 w7 w5.heap.size (.int .i64 h.gen) (.int .i64 h.base) (.int .i64 h.snap) (.slice ua LN ucp)) := Lib.hid ((hg.block w5.heap.size HW6.out (by have := HCB.out; have := HC5.out; omega) (by have := HCB.out; have := HC5.out; omega)).trans HR6.out)
            have HW7 : Hid (w5.heap.size < w7.heap.size) := Lib.hid (Nat.lt_of_lt_of_le HW6.out hg.size)
            clear hg
            clear hx HCL HAD
            rcases c2 with c2 | c2
            · subst c2
              rw [show ((40 : Nat) : Int) = 40 from rfl]
              as_aux_lemma =>
                obtain ⟨yv7, hyv7⟩ := HX7.out.v
                have HSY := Lib.hid (fun W (h1 : DAt W CB d) (h2 : DAt W B d) => same_yes CB B d W h1 h2)
                have HHD := Lib.hid (fun W yv (k : VAt W V B M h n yv) => head_any V B M h n yv W k HKK.out.ne (by have := HKK.out.len; omega))
                have HRS := Lib.hid (fun W u u2 (k1 : KAt W u h.log) (k2 : KAt W u2 h.log) => rsame_any h h u u2 W k1 k2 (by have := HKK.out.len; omega) (by have := HKK.out.len; omega))
                rw [show sameB h h = true from by unfold sameB; simp] at HRS
                unfold hval at HHD HRS
                unfold HRet hval at HHD
                have HY7 := Lib.hid hyv7
                clear hyv7 cK cS
                go_wp2_with fail
                refine wp_region_any (by kernel_rfl) ?_
                try (change wpAny _ _ _ _ _ _ _ (World.drew _))
                refine wpAny_take (i := 0) (oi := ({ dst := some 82, op := Go.Op.move (Go.Operand.tmp 13), type := 27, pos := "outright.go:302", after := #[], guard := none } : Oper)) (v := ?_) rfl (by kernel_rfl) (by kernel_rfl) (by kernel_rfl) (fun _ _ _ h => h) (Or.inl ⟨by rfl, ?_⟩) ?_
                rotate_left
                · intro _; go_simp; (try with_reducible rfl)
                simp only [Act.put, List.setIfInBounds_toArray, List.set_cons_zero, List.set_cons_succ]
                refine wpAny_take (i := 1) (oi := ({ dst := some 83, op := Go.Op.binOp Go.BinOp.neq 27 (Go.Operand.tmp 82) (Go.Operand.const (Go.Value.int Go.IntKind.i64 44)) 27, type := 4, pos := "outright.go:302", after := #[{ on := 0, ground := Go.Ground.data }], guard := none } : Oper)) (v := ?_) rfl (by kernel_rfl) (by kernel_rfl) (by kernel_rfl) (fun _ _ _ h => h) (Or.inl ⟨by rfl, ?_⟩) ?_
                rotate_left
                · intro _; go_simp; (try with_reducible rfl)
                simp only [Act.put, List.setIfInBounds_toArray, List.set_cons_zero, List.set_cons_succ]
                refine wpAny_take (i := 2) (oi := ({ dst := some 84, op := Go.Op.move (Go.Operand.tmp 83), type := 4, pos := "outright.go:302", after := #[{ on := 1, ground := Go.Ground.data }], guard := none } : Oper)) (v := ?_) rfl (by kernel_rfl) (by kernel_rfl) (by kernel_rfl) (fun _ _ _ h => h) (Or.inl ⟨by rfl, ?_⟩) ?_
                rotate_left
                · intro _; go_simp; (try with_reducible rfl)
                simp only [Act.put, List.setIfInBounds_toArray, List.set_cons_zero, List.set_cons_succ]
                refine wpAny_take (i := 3) (oi := ({ dst := some 85, op := Go.Op.move (Go.Operand.tmp 13), type := 27, pos := "outright.go:302", after := #[{ on := 2, ground := Go.Ground.guard }], guard := some (2, true) } : Oper)) (v := ?_) rfl (by kernel_rfl) (by kernel_rfl) (by kernel_rfl) (fun _ _ _ h => h) (Or.inl ⟨by rfl, ?_⟩) ?_
                rotate_left
                · intro _; go_simp; (try with_reducible rfl)
                simp only [Act.put, List.setIfInBounds_toArray, List.set_cons_zero, List.set_cons_succ]
                refine wpAny_take (i := 4) (oi := ({ dst := some 86, op := Go.Op.binOp Go.BinOp.neq 27 (Go.Operand.tmp 85) (Go.Operand.const (Go.Value.int Go.IntKind.i64 40)) 27, type := 4, pos := "outright.go:302", after := #[{ on := 3, ground := Go.Ground.data }, { on := 2, ground := Go.Ground.guard }], guard := some (2, true) } : Oper)) (v := ?_) rfl (by kernel_rfl) (by kernel_rfl) (by kernel_rfl) (fun _ _ _ h => h) (Or.inl ⟨by rfl, ?_⟩) ?_
                rotate_left
                · intro _; go_simp; (try with_reducible rfl)
                simp only [Act.put, List.setIfInBounds_toArray, List.set_cons_zero, List.set_cons_succ]
                refine wpAny_take (i := 5) (oi := ({ dst := some 87, op := Go.Op.pick (Go.Operand.tmp 84) (Go.Operand.tmp 86) (Go.Operand.const (Go.Value.bool false)), type := 4, pos := "outright.go:302", after := #[{ on := 2, ground := Go.Ground.data }, { on := 4, ground := Go.Ground.data }], guard := none } : Oper)) (v := ?_) rfl (by kernel_rfl) (by kernel_rfl) (by kernel_rfl) (fun _ _ _ h => h) (Or.inl ⟨by rfl, ?_⟩) ?_
                rotate_left
                · intro _; go_simp; (try with_reducible rfl)
                simp only [Act.put, List.setIfInBounds_toArray, List.set_cons_zero, List.set_cons_succ]
                refine wpAny_take (i := 6) (oi := ({ dst := some 88, op := Go.Op.move (Go.Operand.tmp 87), type := 4, pos := "outright.go:302", after := #[{ on := 5, ground := Go.Ground.data }, { on := 2, ground := Go.Ground.chain }], guard := none } : Oper)) (v := ?_) rfl (by kernel_rfl) (by kernel_rfl) (by kernel_rfl) (fun _ _ _ h => h) (Or.inl ⟨by rfl, ?_⟩) ?_
                rotate_left
                · intro _; go_simp; (try with_reducible rfl)
                simp only [Act.put, List.setIfInBounds_toArray, List.set_cons_zero, List.set_cons_succ]
                refine wpAny_take (i := 7) (oi := ({ dst := some 89, op := Go.Op.move (Go.Operand.tmp 10), type := 30, pos := "outright.go:302", after := #[{ on := 6, ground := Go.Ground.guard }], guard := some (6, false) } : Oper)) (v := ?_) rfl (by kernel_rfl) (by kernel_rfl) (by kernel_rfl) (fun _ _ _ h => h) (Or.inl ⟨by rfl, ?_⟩) ?_
                rotate_left
                · intro _; go_simp; (try with_reducible rfl)
                simp only [Act.put, List.setIfInBounds_toArray, List.set_cons_zero, List.set_cons_succ]
                refine wpAny_take (i := 8) (oi := ({ dst := some 90, op := Go.Op.move (Go.Operand.tmp 7), type := 30, pos := "outright.go:302", after := #[{ on := 6, ground := Go.Ground.guard }], guard := some (6, false) } : Oper)) (v := ?_) rfl (by kernel_rfl) (by kernel_rfl) (by kernel_rfl) (fun _ _ _ h => h) (Or.inl ⟨by rfl, ?_⟩) ?_
                rotate_left
                · intro _; go_simp; (try with_reducible rfl)
                simp only [Act.put, List.setIfInBounds_toArray, List.set_cons_zero, List.set_cons_succ]
                refine wpAny_ready (rs := [9]) (by kernel_rfl) (by simp) ?_
                refine AllReady.cons (o := ({ dst := some 91, op := Go.Op.call { callee := Go.Callee.value (Go.Operand.func 32), args := #[Go.Operand.tmp 89, Go.Operand.tmp 90], argTypes := #[30, 30] }, type := 4, pos := "outright.go:302", after := #[{ on := 7, ground := Go.Ground.data }, { on := 8, ground := Go.Ground.data }, { on := 6, ground := Go.Ground.chain }, { on := 6, ground := Go.Ground.guard }], guard := some (6, false) } : Oper)) rfl (fun K hK => ?_) AllReady.nil
                go_simp
                refine (HSY.out _ HD7.out.drew HX7.out.d.drew).mono ?_
                rintro e w8 ⟨rfl, hb8⟩
                have HB8 := Lib.hid (HB7.out.trans (Below.mono (B := w7.heap.size) (B' := w.heap.size) ⟨hb8.os, hb8.tape, hb8.output, hb8.size, hb8.block⟩ HB7.out.size))
                have HG8 : Hid (Below w7.heap.size w7 w8) := Lib.hid ⟨hb8.os, hb8.tape, hb8.output, hb8.size, hb8.block⟩
                clear hb8
                have r0 := (HR7.out.below HG8.out HR7.out.lt).c0
                have r1 := (HR7.out.below HG8.out HR7.out.lt).c1
                have r2 := (HR7.out.below HG8.out HR7.out.lt).c2
                have r3 := (HR7.out.below HG8.out HR7.out.lt).c3
                try dsimp only
                refine hK _ _ ?_; clear hK K
                try simp only [Act.put, List.setIfInBounds_toArray, List.set_cons_zero, List.set_cons_succ]
                refine wpAny_take (i := 10) (oi := ({ dst := some 92, op := Go.Op.unOp Go.UnOp.not 4 (Go.Operand.tmp 91), type := 4, pos := "outright.go:302", after := #[{ on := 9, ground := Go.Ground.data }, { on := 6, ground := Go.Ground.guard }], guard := some (6, false) } : Oper)) (v := ?_) rfl (by kernel_rfl) (by kernel_rfl) (by kernel_rfl) (fun _ _ _ h => h) (Or.inl ⟨by rfl, ?_⟩) ?_
                rotate_left
                · intro _; go_simp; (try with_reducible rfl)
                simp only [Act.put, List.setIfInBounds_toArray, List.set_cons_zero, List.set_cons_succ]
                refine wpAny_take (i := 11) (oi := ({ dst := some 93, op := Go.Op.pick (Go.Operand.tmp 88) (Go.Operand.const (Go.Value.bool true)) (Go.Operand.tmp 92), type := 4, pos := "outright.go:302", after := #[{ on := 6, ground := Go.Ground.data }, { on := 10, ground := Go.Ground.data }], guard := none } : Oper)) (v := ?_) rfl (by kernel_rfl) (by kernel_rfl) (by kernel_rfl) (fun _ _ _ h => h) (Or.inl ⟨by rfl, ?_⟩) ?_
                rotate_left
                · intro _; go_simp; (try with_reducible rfl)
                simp only [Act.put, List.setIfInBounds_toArray, List.set_cons_zero, List.set_cons_succ]
                refine wpAny_take (i := 12) (oi := ({ dst := some 94, op := Go.Op.move (Go.Operand.tmp 93), type := 4, pos := "outright.go:302", after := #[{ on := 11, ground := Go.Ground.data }, { on := 9, ground := Go.Ground.chain }], guard := none } : Oper)) (v := ?_) rfl (by kernel_rfl) (by kernel_rfl) (by kernel_rfl) (fun _ _ _ h => h) (Or.inl ⟨by rfl, ?_⟩) ?_
                rotate_left
                · intro _; go_simp; (try with_reducible rfl)
                simp only [Act.put, List.setIfInBounds_toArray, List.set_cons_zero, List.set_cons_succ]
                refine wpAny_take (i := 14) (oi := ({ dst := some 96, op := Go.Op.move (Go.Operand.tmp 8), type := 23, pos := "outright.go:302", after := #[{ on := 12, ground := Go.Ground.guard }], guard := some (12, false) } : Oper)) (v := ?_) rfl (by kernel_rfl) (by kernel_rfl) (by kernel_rfl) (fun _ _ _ h => h) (Or.inl ⟨by rfl, ?_⟩) ?_
                rotate_left
                · intro _; go_simp; (try with_reducible rfl)
                simp only [Act.put, List.setIfInBounds_toArray, List.set_cons_zero, List.set_cons_succ]
                refine wpAny_ready (rs := [13, 15]) (by kernel_rfl) (by simp) ?_
                refine AllReady.cons (o := ({ dst := some 95, op := Go.Op.load 40 (Go.Operand.tmp 11), type := 40, pos := "outright.go:302", after := #[{ on := 12, ground := Go.Ground.guard }], guard := some (12, false) } : Oper)) rfl (fun K hK => ?_) (AllReady.cons (o := ({ dst := some 97, op := Go.Op.call { callee := Go.Callee.value (Go.Operand.func 17), args := #[Go.Operand.tmp 96], argTypes := #[23] }, type := 40, pos := "outright.go:302", after := #[{ on := 14, ground := Go.Ground.data }, { on := 12, ground := Go.Ground.chain }, { on := 12, ground := Go.Ground.guard }], guard := some (12, false) } : Oper)) rfl (fun K hK => ?_) AllReady.nil)
                · skip
                  go_simp
                  refine hK _ _ ?_; clear hK K
                  try simp only [Act.put, List.setIfInBounds_toArray, List.set_cons_zero, List.set_cons_succ]
                  refine wpAny_ready (rs := [15]) (by kernel_rfl) (by simp) ?_
                  refine AllReady.cons (o := ({ dst := some 97, op := Go.Op.call { callee := Go.Callee.value (Go.Operand.func 17), args := #[Go.Operand.tmp 96], argTypes := #[23] }, type := 40, pos := "outright.go:302", after := #[{ on := 14, ground := Go.Ground.data }, { on := 12, ground := Go.Ground.chain }, { on := 12, ground := Go.Ground.guard }], guard := some (12, false) } : Oper)) rfl (fun K hK => ?_) AllReady.nil
                  go_simp
                  refine (HHD.out _ _ (HY7.out.below HG8.out (Nat.le_refl _))).mono ?_
                  rintro e w9 ⟨u2, rfl, ho9, hb9⟩
                  have HO9 := Lib.hid ho9
                  have HG9 := Lib.hid (below_trans' HG8.out hb9)
                  obtain ⟨ub, ucq, hu2⟩ := ho9.shape
                  rw [List.length_map, HLN.out] at hu2
                  clear ho9 hb9
                  subst hu2
                  have s0 := (HR7.out.below HG9.out HR7.out.lt).c0
                  have s1 := (HR7.out.below HG9.out HR7.out.lt).c1
                  have s2 := (HR7.out.below HG9.out HR7.out.lt).c2
                  have s3 := (HR7.out.below HG9.out HR7.out.lt).c3
                  try dsimp only
                  refine hK _ _ ?_; clear hK K
                  try simp only [Act.put, List.setIfInBounds_toArray, List.set_cons_zero, List.set_cons_succ]
                  refine wpAny_ready (rs := [16]) (by kernel_rfl) (by simp) ?_
                  refine AllReady.cons (o := ({ dst := some 98, op := Go.Op.call { callee := Go.Callee.value (Go.Operand.func 16), args := #[Go.Operand.tmp 95, Go.Operand.tmp 97], argTypes := #[40, 40] }, type := 4, pos := "outright.go:302", after := #[{ on := 13, ground := Go.Ground.data }, { on := 15, ground := Go.Ground.data }, { on := 15, ground := Go.Ground.chain }, { on := 12, ground := Go.Ground.guard }], guard := some (12, false) } : Oper)) rfl (fun K hK => ?_) AllReady.nil
                  go_simp
                  refine (HRS.out _ _ _ (HO7.out.below HG9.out (Nat.le_refl _)) HO9.out.kat).mono ?_
                  rintro e w10 ⟨rfl, hb10⟩
                  have HG10 := Lib.hid (below_trans' HG9.out hb10)
                  clear hb10
                  try dsimp only
                  refine hK _ _ ?_; clear hK K
                  try simp only [Act.put, List.setIfInBounds_toArray, List.set_cons_zero, List.set_cons_succ]
                  refine wpAny_take (i := 17) (oi := ({ dst := some 99, op := Go.Op.unOp Go.UnOp.not 4 (Go.Operand.tmp 98), type := 4, pos := "outright.go:302", after := #[{ on := 16, ground := Go.Ground.data }, { on := 12, ground := Go.Ground.guard }], guard := some (12, false) } : Oper)) (v := ?_) rfl (by kernel_rfl) (by kernel_rfl) (by kernel_rfl) (fun _ _ _ h => h) (Or.inl ⟨by rfl, ?_⟩) ?_
                  rotate_left
                  · intro _; go_simp; (try with_reducible rfl)
                  simp only [Act.put, List.setIfInBounds_toArray, List.set_cons_zero, List.set_cons_succ]
                  refine wpAny_take (i := 18) (oi := ({ dst := some 100, op := Go.Op.pick (Go.Operand.tmp 94) (Go.Operand.const (Go.Value.bool true)) (Go.Operand.tmp 99), type := 4, pos := "outright.go:302", after := #[{ on := 12, ground := Go.Ground.data }, { on := 17, ground := Go.Ground.data }], guard := none } : Oper)) (v := ?_) rfl (by kernel_rfl) (by kernel_rfl) (by kernel_rfl) (fun _ _ _ h => h) (Or.inl ⟨by rfl, ?_⟩) ?_
                  rotate_left
                  · intro _; go_simp; (try with_reducible rfl)
                  simp only [Act.put, List.setIfInBounds_toArray, List.set_cons_zero, List.set_cons_succ]
                  refine wpAny_done (by kernel_rfl) ?_ _
                  go_wp2
                  go_roundw
                  case rel => exact ⟨j + 1, d, h, n, by simp, by omega, Lib.hid (HX7.out.below HG10.out (Nat.le_refl _)), HC, Lib.hid (HB7.out.trans (HG10.out.mono HB7.out.size)), Lib.hid (by have := Hn.out; omega)⟩
                  case measure => (try simp [intOf]); (try omega)
                · skip
                  go_simp
                  refine (HHD.out _ _ (HY7.out.below HG8.out (Nat.le_refl _))).mono ?_
                  rintro e w9 ⟨u2, rfl, ho9, hb9⟩
                  have HO9 := Lib.hid ho9
                  have HG9 := Lib.hid (below_trans' HG8.out hb9)
                  obtain ⟨ub, ucq, hu2⟩ := ho9.shape
                  rw [List.length_map, HLN.out] at hu2
                  clear ho9 hb9
                  subst hu2
                  have s0 := (HR7.out.below HG9.out HR7.out.lt).c0
                  have s1 := (HR7.out.below HG9.out HR7.out.lt).c1
                  have s2 := (HR7.out.below HG9.out HR7.out.lt).c2
                  have s3 := (HR7.out.below HG9.out HR7.out.lt).c3
                  try dsimp only
                  refine hK _ _ ?_; clear hK K
                  try simp only [Act.put, List.setIfInBounds_toArray, List.set_cons_zero, List.set_cons_succ]
                  refine wpAny_ready (rs := [13]) (by kernel_rfl) (by simp) ?_
                  refine AllReady.cons (o := ({ dst := some 95, op := Go.Op.load 40 (Go.Operand.tmp 11), type := 40, pos := "outright.go:302", after := #[{ on := 12, ground := Go.Ground.guard }], guard := some (12, false) } : Oper)) rfl (fun K hK => ?_) AllReady.nil
                  go_simp
                  refine hK _ _ ?_; clear hK K
                  try simp only [Act.put, List.setIfInBounds_toArray, List.set_cons_zero, List.set_cons_succ]
                  refine wpAny_ready (rs := [16]) (by kernel_rfl) (by simp) ?_
                  refine AllReady.cons (o := ({ dst := some 98, op := Go.Op.call { callee := Go.Callee.value (Go.Operand.func 16), args := #[Go.Operand.tmp 95, Go.Operand.tmp 97], argTypes := #[40, 40] }, type := 4, pos := "outright.go:302", after := #[{ on := 13, ground := Go.Ground.data }, { on := 15, ground := Go.Ground.data }, { on := 15, ground := Go.Ground.chain }, { on := 12, ground := Go.Ground.guard }], guard := some (12, false) } : Oper)) rfl (fun K hK => ?_) AllReady.nil
                  go_simp
                  refine (HRS.out _ _ _ (HO7.out.below HG9.out (Nat.le_refl _)) HO9.out.kat).mono ?_
                  rintro e w10 ⟨rfl, hb10⟩
                  have HG10 := Lib.hid (below_trans' HG9.out hb10)
                  clear hb10
                  try dsimp only
                  refine hK _ _ ?_; clear hK K
                  try simp only [Act.put, List.setIfInBounds_toArray, List.set_cons_zero, List.set_cons_succ]
                  refine wpAny_take (i := 17) (oi := ({ dst := some 99, op := Go.Op.unOp Go.UnOp.not 4 (Go.Operand.tmp 98), type := 4, pos := "outright.go:302", after := #[{ on := 16, ground := Go.Ground.data }, { on := 12, ground := Go.Ground.guard }], guard := some (12, false) } : Oper)) (v := ?_) rfl (by kernel_rfl) (by kernel_rfl) (by kernel_rfl) (fun _ _ _ h => h) (Or.inl ⟨by rfl, ?_⟩) ?_
                  rotate_left
                  · intro _; go_simp; (try with_reducible rfl)
                  simp only [Act.put, List.setIfInBounds_toArray, List.set_cons_zero, List.set_cons_succ]
                  refine wpAny_take (i := 18) (oi := ({ dst := some 100, op := Go.Op.pick (Go.Operand.tmp 94) (Go.Operand.const (Go.Value.bool true)) (Go.Operand.tmp 99), type := 4, pos := "outright.go:302", after := #[{ on := 12, ground := Go.Ground.data }, { on := 17, ground := Go.Ground.data }], guard := none } : Oper)) (v := ?_) rfl (by kernel_rfl) (by kernel_rfl) (by kernel_rfl) (fun _ _ _ h => h) (Or.inl ⟨by rfl, ?_⟩) ?_
                  rotate_left
                  · intro _; go_simp; (try with_reducible rfl)
                  simp only [Act.put, List.setIfInBounds_toArray, List.set_cons_zero, List.set_cons_succ]
                  refine wpAny_done (by kernel_rfl) ?_ _
                  go_wp2
                  go_roundw
                  case rel => exact ⟨j + 1, d, h, n, by simp, by omega, Lib.hid (HX7.out.below HG10.out (Nat.le_refl _)), HC, Lib.hid (HB7.out.trans (HG10.out.mono HB7.out.size)), Lib.hid (by have := Hn.out; omega)⟩
                  case measure => (try simp [intOf]); (try omega)
            · subst c2
              rw [show ((44 : Nat) : Int) = 44 from rfl]
              as_aux_lemma =>
                obtain ⟨yv7, hyv7⟩ := HX7.out.v
                have HSY := Lib.hid (fun W (h1 : DAt W CB d) (h2 : DAt W B d) => same_yes CB B d W h1 h2)
                have HHD := Lib.hid (fun W yv (k : VAt W V B M h n yv) => head_any V B M h n yv W k HKK.out.ne (by have := HKK.out.len; omega))
                have HRS := Lib.hid (fun W u u2 (k1 : KAt W u h.log) (k2 : KAt W u2 h.log) => rsame_any h h u u2 W k1 k2 (by have := HKK.out.len; omega) (by have := HKK.out.len; omega))
                rw [show sameB h h = true from by unfold sameB; simp] at HRS
                unfold hval at HHD HRS
                unfold HRet hval at HHD
                have HY7 := Lib.hid hyv7
                clear hyv7 cK cS
                go_wp2_with fail
                refine wp_region_any (by kernel_rfl) ?_
                try (change wpAny _ _ _ _ _ _ _ (World.drew _))
                refine wpAny_take (i := 0) (oi := ({ dst := some 82, op := Go.Op.move (Go.Operand.tmp 13), type := 27, pos := "outright.go:302", after := #[], guard := none } : Oper)) (v := ?_) rfl (by kernel_rfl) (by kernel_rfl) (by kernel_rfl) (fun _ _ _ h => h) (Or.inl ⟨by rfl, ?_⟩) ?_
                rotate_left
                · intro _; go_simp; (try with_reducible rfl)
                simp only [Act.put, List.setIfInBounds_toArray, List.set_cons_zero, List.set_cons_succ]
                refine wpAny_take (i := 1) (oi := ({ dst := some 83, op := Go.Op.binOp Go.BinOp.neq 27 (Go.Operand.tmp 82) (Go.Operand.const (Go.Value.int Go.IntKind.i64 44)) 27, type := 4, pos := "outright.go:302", after := #[{ on := 0, ground := Go.Ground.data }], guard := none } : Oper)) (v := ?_) rfl (by kernel_rfl) (by kernel_rfl) (by kernel_rfl) (fun _ _ _ h => h) (Or.inl ⟨by rfl, ?_⟩) ?_
                rotate_left
                · intro _; go_simp; (try with_reducible rfl)
                simp only [Act.put, List.setIfInBounds_toArray, List.set_cons_zero, List.set_cons_succ]
                refine wpAny_take (i := 2) (oi := ({ dst := some 84, op := Go.Op.move (Go.Operand.tmp 83), type := 4, pos := "outright.go:302", after := #[{ on := 1, ground := Go.Ground.data }], guard := none } : Oper)) (v := ?_) rfl (by kernel_rfl) (by kernel_rfl) (by kernel_rfl) (fun _ _ _ h => h) (Or.inl ⟨by rfl, ?_⟩) ?_
                rotate_left
                · intro _; go_simp; (try with_reducible rfl)
                simp only [Act.put, List.setIfInBounds_toArray, List.set_cons_zero, List.set_cons_succ]
                refine wpAny_take (i := 3) (oi := ({ dst := some 85, op := Go.Op.move (Go.Operand.tmp 13), type := 27, pos := "outright.go:302", after := #[{ on := 2, ground := Go.Ground.guard }], guard := some (2, true) } : Oper)) (v := undef) rfl (by kernel_rfl) (by kernel_rfl) (by kernel_rfl) (fun _ _ _ h => h) (Or.inr ⟨by rfl, rfl⟩) ?_
                simp only [Act.put, List.setIfInBounds_toArray, List.set_cons_zero, List.set_cons_succ]
                refine wpAny_take (i := 4) (oi := ({ dst := some 86, op := Go.Op.binOp Go.BinOp.neq 27 (Go.Operand.tmp 85) (Go.Operand.const (Go.Value.int Go.IntKind.i64 40)) 27, type := 4, pos := "outright.go:302", after := #[{ on := 3, ground := Go.Ground.data }, { on := 2, ground := Go.Ground.guard }], guard := some (2, true) } : Oper)) (v := undef) rfl (by kernel_rfl) (by kernel_rfl) (by kernel_rfl) (fun _ _ _ h => h) (Or.inr ⟨by rfl, rfl⟩) ?_
                simp only [Act.put, List.setIfInBounds_toArray, List.set_cons_zero, List.set_cons_succ]
                refine wpAny_take (i := 5) (oi := ({ dst := some 87, op := Go.Op.pick (Go.Operand.tmp 84) (Go.Operand.tmp 86) (Go.Operand.const (Go.Value.bool false)), type := 4, pos := "outright.go:302", after := #[{ on := 2, ground := Go.Ground.data }, { on := 4, ground := Go.Ground.data }], guard := none } : Oper)) (v := ?_) rfl (by kernel_rfl) (by kernel_rfl) (by kernel_rfl) (fun _ _ _ h => h) (Or.inl ⟨by rfl, ?_⟩) ?_
                rotate_left
                · intro _; go_simp; (try with_reducible rfl)
                simp only [Act.put, List.setIfInBounds_toArray, List.set_cons_zero, List.set_cons_succ]
                refine wpAny_take (i := 6) (oi := ({ dst := some 88, op := Go.Op.move (Go.Operand.tmp 87), type := 4, pos := "outright.go:302", after := #[{ on := 5, ground := Go.Ground.data }, { on := 2, ground := Go.Ground.chain }], guard := none } : Oper)) (v := ?_) rfl (by kernel_rfl) (by kernel_rfl) (by kernel_rfl) (fun _ _ _ h => h) (Or.inl ⟨by rfl, ?_⟩) ?_
                rotate_left
                · intro _; go_simp; (try with_reducible rfl)
                simp only [Act.put, List.setIfInBounds_toArray, List.set_cons_zero, List.set_cons_succ]
                refine wpAny_take (i := 7) (oi := ({ dst := some 89, op := Go.Op.move (Go.Operand.tmp 10), type := 30, pos := "outright.go:302", after := #[{ on := 6, ground := Go.Ground.guard }], guard := some (6, false) } : Oper)) (v := ?_) rfl (by kernel_rfl) (by kernel_rfl) (by kernel_rfl) (fun _ _ _ h => h) (Or.inl ⟨by rfl, ?_⟩) ?_
                rotate_left
                · intro _; go_simp; (try with_reducible rfl)
                simp only [Act.put, List.setIfInBounds_toArray, List.set_cons_zero, List.set_cons_succ]
                refine wpAny_take (i := 8) (oi := ({ dst := some 90, op := Go.Op.move (Go.Operand.tmp 7), type := 30, pos := "outright.go:302", after := #[{ on := 6, ground := Go.Ground.guard }], guard := some (6, false) } : Oper)) (v := ?_) rfl (by kernel_rfl) (by kernel_rfl) (by kernel_rfl) (fun _ _ _ h => h) (Or.inl ⟨by rfl, ?_⟩) ?_
                rotate_left
                · intro _; go_simp; (try with_reducible rfl)
                simp only [Act.put, List.setIfInBounds_toArray, List.set_cons_zero, List.set_cons_succ]
                refine wpAny_ready (rs := [9]) (by kernel_rfl) (by simp) ?_
                refine AllReady.cons (o := ({ dst := some 91, op := Go.Op.call { callee := Go.Callee.value (Go.Operand.func 32), args := #[Go.Operand.tmp 89, Go.Operand.tmp 90], argTypes := #[30, 30] }, type := 4, pos := "outright.go:302", after := #[{ on := 7, ground := Go.Ground.data }, { on := 8, ground := Go.Ground.data }, { on := 6, ground := Go.Ground.chain }, { on := 6, ground := Go.Ground.guard }], guard := some (6, false) } : Oper)) rfl (fun K hK => ?_) AllReady.nil
                go_simp
                refine (HSY.out _ HD7.out.drew HX7.out.d.drew).mono ?_
                rintro e w8 ⟨rfl, hb8⟩
                have HB8 := Lib.hid (HB7.out.trans (Below.mono (B := w7.heap.size) (B' := w.heap.size) ⟨hb8.os, hb8.tape, hb8.output, hb8.size, hb8.block⟩ HB7.out.size))
                have HG8 : Hid (Below w7.heap.size w7 w8) := Lib.hid ⟨hb8.os, hb8.tape, hb8.output, hb8.size, hb8.block⟩
                clear hb8
                have r0 := (HR7.out.below HG8.out HR7.out.lt).c0
                have r1 := (HR7.out.below HG8.out HR7.out.lt).c1
                have r2 := (HR7.out.below HG8.out HR7.out.lt).c2
                have r3 := (HR7.out.below HG8.out HR7.out.lt).c3
                try dsimp only
                refine hK _ _ ?_; clear hK K
                try simp only [Act.put, List.setIfInBounds_toArray, List.set_cons_zero, List.set_cons_succ]
                refine wpAny_take (i := 10) (oi := ({ dst := some 92, op := Go.Op.unOp Go.UnOp.not 4 (Go.Operand.tmp 91), type := 4, pos := "outright.go:302", after := #[{ on := 9, ground := Go.Ground.data }, { on := 6, ground := Go.Ground.guard }], guard := some (6, false) } : Oper)) (v := ?_) rfl (by kernel_rfl) (by kernel_rfl) (by kernel_rfl) (fun _ _ _ h => h) (Or.inl ⟨by rfl, ?_⟩) ?_
                rotate_left
                · intro _; go_simp; (try with_reducible rfl)
                simp only [Act.put, List.setIfInBounds_toArray, List.set_cons_zero, List.set_cons_succ]
                refine wpAny_take (i := 11) (oi := ({ dst := some 93, op := Go.Op.pick (Go.Operand.tmp 88) (Go.Operand.const (Go.Value.bool true)) (Go.Operand.tmp 92), type := 4, pos := "outright.go:302", after := #[{ on := 6, ground := Go.Ground.data }, { on := 10, ground := Go.Ground.data }], guard := none } : Oper)) (v := ?_) rfl (by kernel_rfl) (by kernel_rfl) (by kernel_rfl) (fun _ _ _ h => h) (Or.inl ⟨by rfl, ?_⟩) ?_
                rotate_left
                · intro _; go_simp; (try with_reducible rfl)
                simp only [Act.put, List.setIfInBounds_toArray, List.set_cons_zero, List.set_cons_succ]
                refine wpAny_take (i := 12) (oi := ({ dst := some 94, op := Go.Op.move (Go.Operand.tmp 93), type := 4, pos := "outright.go:302", after := #[{ on := 11, ground := Go.Ground.data }, { on := 9, ground := Go.Ground.chain }], guard := none } : Oper)) (v := ?_) rfl (by kernel_rfl) (by kernel_rfl) (by kernel_rfl) (fun _ _ _ h => h) (Or.inl ⟨by rfl, ?_⟩) ?_
                rotate_left
                · intro _; go_simp; (try with_reducible rfl)
                simp only [Act.put, List.setIfInBounds_toArray, List.set_cons_zero, List.set_cons_succ]
                refine wpAny_take (i := 14) (oi := ({ dst := some 96, op := Go.Op.move (Go.Operand.tmp 8), type := 23, pos := "outright.go:302", after := #[{ on := 12, ground := Go.Ground.guard }], guard := some (12, false) } : Oper)) (v := ?_) rfl (by kernel_rfl) (by kernel_rfl) (by kernel_rfl) (fun _ _ _ h => h) (Or.inl ⟨by rfl, ?_⟩) ?_
                rotate_left
                · intro _; go_simp; (try with_reducible rfl)
                simp only [Act.put, List.setIfInBounds_toArray, List.set_cons_zero, List.set_cons_succ]
                refine wpAny_ready (rs := [13, 15]) (by kernel_rfl) (by simp) ?_
                refine AllReady.cons (o := ({ dst := some 95, op := Go.Op.load 40 (Go.Operand.tmp 11), type := 40, pos := "outright.go:302", after := #[{ on := 12, ground := Go.Ground.guard }], guard := some (12, false) } : Oper)) rfl (fun K hK => ?_) (AllReady.cons (o := ({ dst := some 97, op := Go.Op.call { callee := Go.Callee.value (Go.Operand.func 17), args := #[Go.Operand.tmp 96], argTypes := #[23] }, type := 40, pos := "outright.go:302", after := #[{ on := 14, ground := Go.Ground.data }, { on := 12, ground := Go.Ground.chain }, { on := 12, ground := Go.Ground.guard }], guard := some (12, false) } : Oper)) rfl (fun K hK => ?_) AllReady.nil)
                · skip
                  go_simp
                  refine hK _ _ ?_; clear hK K
                  try simp only [Act.put, List.setIfInBounds_toArray, List.set_cons_zero, List.set_cons_succ]
                  refine wpAny_ready (rs := [15]) (by kernel_rfl) (by simp) ?_
                  refine AllReady.cons (o := ({ dst := some 97, op := Go.Op.call { callee := Go.Callee.value (Go.Operand.func 17), args := #[Go.Operand.tmp 96], argTypes := #[23] }, type := 40, pos := "outright.go:302", after := #[{ on := 14, ground := Go.Ground.data }, { on := 12, ground := Go.Ground.chain }, { on := 12, ground := Go.Ground.guard }], guard := some (12, false) } : Oper)) rfl (fun K hK => ?_) AllReady.nil
                  go_simp
                  refine (HHD.out _ _ (HY7.out.below HG8.out (Nat.le_refl _))).mono ?_
                  rintro e w9 ⟨u2, rfl, ho9, hb9⟩
                  have HO9 := Lib.hid ho9
                  have HG9 := Lib.hid (below_trans' HG8.out hb9)
                  obtain ⟨ub, ucq, hu2⟩ := ho9.shape
                  rw [List.length_map, HLN.out] at hu2
                  clear ho9 hb9
                  subst hu2
                  have s0 := (HR7.out.below HG9.out HR7.out.lt).c0
                  have s1 := (HR7.out.below HG9.out HR7.out.lt).c1
                  have s2 := (HR7.out.below HG9.out HR7.out.lt).c2
                  have s3 := (HR7.out.below HG9.out HR7.out.lt).c3
                  try dsimp only
                  refine hK _ _ ?_; clear hK K
                  try simp only [Act.put, List.setIfInBounds_toArray, List.set_cons_zero, List.set_cons_succ]
                  refine wpAny_ready (rs := [16]) (by kernel_rfl) (by simp) ?_
                  refine AllReady.cons (o := ({ dst := some 98, op := Go.Op.call { callee := Go.Callee.value (Go.Operand.func 16), args := #[Go.Operand.tmp 95, Go.Operand.tmp 97], argTypes := #[40, 40] }, type := 4, pos := "outright.go:302", after := #[{ on := 13, ground := Go.Ground.data }, { on := 15, ground := Go.Ground.data }, { on := 15, ground := Go.Ground.chain }, { on := 12, ground := Go.Ground.guard }], guard := some (12, false) } : Oper)) rfl (fun K hK => ?_) AllReady.nil
                  go_simp
                  refine (HRS.out _ _ _ (HO7.out.below HG9.out (Nat.le_refl _)) HO9.out.kat).mono ?_
                  rintro e w10 ⟨rfl, hb10⟩
                  have HG10 := Lib.hid (below_trans' HG9.out hb10)
                  clear hb10
                  try dsimp only
                  refine hK _ _ ?_; clear hK K
                  try simp only [Act.put, List.setIfInBounds_toArray, List.set_cons_zero, List.set_cons_succ]
                  refine wpAny_take (i := 17) (oi := ({ dst := some 99, op := Go.Op.unOp Go.UnOp.not 4 (Go.Operand.tmp 98), type := 4, pos := "outright.go:302", after := #[{ on := 16, ground := Go.Ground.data }, { on := 12, ground := Go.Ground.guard }], guard := some (12, false) } : Oper)) (v := ?_) rfl (by kernel_rfl) (by kernel_rfl) (by kernel_rfl) (fun _ _ _ h => h) (Or.inl ⟨by rfl, ?_⟩) ?_
                  rotate_left
                  · intro _; go_simp; (try with_reducible rfl)
                  simp only [Act.put, List.setIfInBounds_toArray, List.set_cons_zero, List.set_cons_succ]
                  refine wpAny_take (i := 18) (oi := ({ dst := some 100, op := Go.Op.pick (Go.Operand.tmp 94) (Go.Operand.const (Go.Value.bool true)) (Go.Operand.tmp 99), type := 4, pos := "outright.go:302", after := #[{ on := 12, ground := Go.Ground.data }, { on := 17, ground := Go.Ground.data }], guard := none } : Oper)) (v := ?_) rfl (by kernel_rfl) (by kernel_rfl) (by kernel_rfl) (fun _ _ _ h => h) (Or.inl ⟨by rfl, ?_⟩) ?_
                  rotate_left
                  · intro _; go_simp; (try with_reducible rfl)
                  simp only [Act.put, List.setIfInBounds_toArray, List.set_cons_zero, List.set_cons_succ]
                  refine wpAny_done (by kernel_rfl) ?_ _
                  go_wp2
                  go_roundw
                  case rel => exact ⟨j + 1, d, h, n, by simp, by omega, Lib.hid (HX7.out.below HG10.out (Nat.le_refl _)), HC, Lib.hid (HB7.out.trans (HG10.out.mono HB7.out.size)), Lib.hid (by have := Hn.out; omega)⟩
                  case measure => (try simp [intOf]); (try omega)
                · skip
                  go_simp
                  refine (HHD.out _ _ (HY7.out.below HG8.out (Nat.le_refl _))).mono ?_
                  rintro e w9 ⟨u2, rfl, ho9, hb9⟩
                  have HO9 := Lib.hid ho9
                  have HG9 := Lib.hid (below_trans' HG8.out hb9)
                  obtain ⟨ub, ucq, hu2⟩ := ho9.shape
                  rw [List.length_map, HLN.out] at hu2
                  clear ho9 hb9
                  subst hu2
                  have s0 := (HR7.out.below HG9.out HR7.out.lt).c0
                  have s1 := (HR7.out.below HG9.out HR7.out.lt).c1
                  have s2 := (HR7.out.below HG9.out HR7.out.lt).c2
                  have s3 := (HR7.out.below HG9.out HR7.out.lt).c3
                  try dsimp only
                  refine hK _ _ ?_; clear hK K
                  try simp only [Act.put, List.setIfInBounds_toArray, List.set_cons_zero, List.set_cons_succ]
                  refine wpAny_ready (rs := [13]) (by kernel_rfl) (by simp) ?_
                  refine AllReady.cons (o := ({ dst := some 95, op := Go.Op.load 40 (Go.Operand.tmp 11), type := 40, pos := "outright.go:302", after := #[{ on := 12, ground := Go.Ground.guard }], guard := some (12, false) } : Oper)) rfl (fun K hK => ?_) AllReady.nil
                  go_simp
                  refine hK _ _ ?_; clear hK K
                  try simp only [Act.put, List.setIfInBounds_toArray, List.set_cons_zero, List.set_cons_succ]
                  refine wpAny_ready (rs := [16]) (by kernel_rfl) (by simp) ?_
                  refine AllReady.cons (o := ({ dst := some 98, op := Go.Op.call { callee := Go.Callee.value (Go.Operand.func 16), args := #[Go.Operand.tmp 95, Go.Operand.tmp 97], argTypes := #[40, 40] }, type := 4, pos := "outright.go:302", after := #[{ on := 13, ground := Go.Ground.data }, { on := 15, ground := Go.Ground.data }, { on := 15, ground := Go.Ground.chain }, { on := 12, ground := Go.Ground.guard }], guard := some (12, false) } : Oper)) rfl (fun K hK => ?_) AllReady.nil
                  go_simp
                  refine (HRS.out _ _ _ (HO7.out.below HG9.out (Nat.le_refl _)) HO9.out.kat).mono ?_
                  rintro e w10 ⟨rfl, hb10⟩
                  have HG10 := Lib.hid (below_trans' HG9.out hb10)
                  clear hb10
                  try dsimp only
                  refine hK _ _ ?_; clear hK K
                  try simp only [Act.put, List.setIfInBounds_toArray, List.set_cons_zero, List.set_cons_succ]
                  refine wpAny_take (i := 17) (oi := ({ dst := some 99, op := Go.Op.unOp Go.UnOp.not 4 (Go.Operand.tmp 98), type := 4, pos := "outright.go:302", after := #[{ on := 16, ground := Go.Ground.data }, { on := 12, ground := Go.Ground.guard }], guard := some (12, false) } : Oper)) (v := ?_) rfl (by kernel_rfl) (by kernel_rfl) (by kernel_rfl) (fun _ _ _ h => h) (Or.inl ⟨by rfl, ?_⟩) ?_
                  rotate_left
                  · intro _; go_simp; (try with_reducible rfl)
                  simp only [Act.put, List.setIfInBounds_toArray, List.set_cons_zero, List.set_cons_succ]
                  refine wpAny_take (i := 18) (oi := ({ dst := some 100, op := Go.Op.pick (Go.Operand.tmp 94) (Go.Operand.const (Go.Value.bool true)) (Go.Operand.tmp 99), type := 4, pos := "outright.go:302", after := #[{ on := 12, ground := Go.Ground.data }, { on := 17, ground := Go.Ground.data }], guard := none } : Oper)) (v := ?_) rfl (by kernel_rfl) (by kernel_rfl) (by kernel_rfl) (fun _ _ _ h => h) (Or.inl ⟨by rfl, ?_⟩) ?_
                  rotate_left
                  · intro _; go_simp; (try with_reducible rfl)
                  simp only [Act.put, List.setIfInBounds_toArray, List.set_cons_zero, List.set_cons_succ]
                  refine wpAny_done (by kernel_rfl) ?_ _
                  go_wp2
                  go_roundw
                  case rel => exact ⟨j + 1, d, h, n, by simp, by omega, Lib.hid (HX7.out.below HG10.out (Nat.le_refl _)), HC, Lib.hid (HB7.out.trans (HG10.out.mono HB7.out.size)), Lib.hid (by have := Hn.out; omega)⟩
                  case measure => (try simp [intOf]); (try omega)
          · try dsimp only at c1 c2 c3 c4
            subst c1
            have HX7 := Lib.hid hx
            have HC7 := Lib.hid c2
            have Hn2 : Hid (n2 ≤ j + 1) := Lib.hid (by have := Hn.out; omega)
            have EN : Hid ((n2 : Int) = (n : Int) + 1) := Lib.hid (by omega)
            have HD7 := Lib.hid (gv_dat HD6.out hg (by have := HCB.out; omega) (by have := HCB.out; omega))
            have HB7 := Lib.hid (below_gv HB6.out hg HB6.out.size HBB.out HVVV.out)
            have HO7 := Lib.hid (HO6.out.kat.same (w' := w7) (fun g hg1 e => by have h5 := (HO6.out.lt g e).1; exact hg.block g hg1 (by have := HCB.out; omega) (by have := HCB.out; omega)))
            have HR7 : Hid (Box4 w7 w5.heap.size (.int .i64 h.gen) (.int .i64 h.base) (.int .i64 h.snap) (.slice ua LN ucp)) := Lib.hid ((hg.block w5.heap.size HW6.out (by have := HCB.out; have := HC5.out; omega) (by have := HCB.out; have := HC5.out; omega)).trans HR6.out)
            have HW7 : Hid (w5.heap.size < w7.heap.size) := Lib.hid (Nat.lt_of_lt_of_le HW6.out hg.size)
            clear hg
            clear hx HCL HAD c2 c3
            rcases c4 with c4 | ⟨z, c4⟩
            · subst c4
              have eG : h2.gen - h2.gen = 0 := by omega
              have eS : (h2.snap != h2.snap) = false := by simp
              have eS2 : (h2.snap == h2.snap) = true := by simp
              have ESM : Hid (sameB h2 h2 = true) := Lib.hid (by unfold sameB; simp)
              as_aux_lemma =>
                have HMY2 : Hid (mayB h2 = true) := Lib.hid (by obtain ⟨S, E, B', hs, -⟩ := HC7.out.st; exact hs.hd.may)
                have HKK2 := Lib.hid (mayB_ok HMY2.out)
                have kc1 := HKK2.out.b1
                have kc2 := HKK2.out.b2
                have kh1 := HKK2.out.g1
                have kh2 := HKK2.out.g2
                obtain ⟨LM, hLM⟩ : ∃ LM, h2.log.length = LM := ⟨_, rfl⟩
                have HLM := Lib.hid hLM
                have hLM30 : LM ≤ 30 := by rw [← hLM]; exact HKK2.out.len
                clear hLM
                obtain ⟨yv7, hyv7⟩ := HX7.out.v
                have HY7 := Lib.hid hyv7
                clear hyv7 cK cS
                go_wp2_with fail
                refine (head_any V B M h2 n2 yv7 w7 HY7.out HKK2.out.ne (by have := HKK2.out.len; omega)).mono ?_
                rintro e w8 ⟨u2, rfl, ho, hb⟩
                have HO8 := Lib.hid ho
                have HB8 := Lib.hid (below_trans' HB7.out hb)
                have HX8 := Lib.hid (HX7.out.below hb (Nat.le_refl _))
                have HR8 := Lib.hid (HR7.out.below hb HR7.out.lt)
                have HP8 := Lib.hid (HO7.out.below hb (Nat.le_refl _))
                obtain ⟨ub, ucq, hu2⟩ := ho.shape
                rw [List.length_map, HLM.out] at hu2
                clear ho hb
                subst hu2
                unfold hval at *
                have HX9 := Lib.hid (HX8.out.below (below_one w8 (.cells #[.int .i64 h2.gen, .int .i64 h2.base, .int .i64 h2.snap, .slice ub LM ucq] 40)) (Nat.le_refl _))
                have HR9 := Lib.hid (HR8.out.below (below_one w8 (.cells #[.int .i64 h2.gen, .int .i64 h2.base, .int .i64 h2.snap, .slice ub LM ucq] 40)) HR8.out.lt)
                have HP9 := Lib.hid (HP8.out.below (below_one w8 (.cells #[.int .i64 h2.gen, .int .i64 h2.base, .int .i64 h2.snap, .slice ub LM ucq] 40)) (Nat.le_refl _))
                have HO9 := Lib.hid (HO8.out.alloc (.cells #[.int .i64 h2.gen, .int .i64 h2.base, .int .i64 h2.snap, .slice ub LM ucq] 40))
                have HB9 := Lib.hid (HB8.out.alloc HB8.out.size (.cells #[.int .i64 h2.gen, .int .i64 h2.base, .int .i64 h2.snap, .slice ub LM ucq] 40))
                have HS9 : Hid (Box4 (w8.alloc (.cells #[.int .i64 h2.gen, .int .i64 h2.base, .int .i64 h2.snap, .slice ub LM ucq] 40)) w8.heap.size (.int .i64 h2.gen) (.int .i64 h2.base) (.int .i64 h2.snap) (.slice ub LM ucq)) := Lib.hid (heap_alloc_new w8 _)
                have t0 := HR9.out.c0
                have t1 := HS9.out.c0
                go_wp2_with fail
                clear t0 t1
                obtain ⟨W9, hW⟩ : ∃ W9, w8.alloc (.cells #[.int .i64 h2.gen, .int .i64 h2.base, .int .i64 h2.snap, .slice ub LM ucq] 40) = W9 := ⟨_, rfl⟩
                rw [hW] at HX9 HR9 HP9 HO9 HB9 HS9 ⊢
                have r0 := fun dd os => cell_regrown HR9.out.c0 dd os
                have r1 := fun dd os => cell_regrown HR9.out.c1 dd os
                have r2 := fun dd os => cell_regrown HR9.out.c2 dd os
                have r3 := fun dd os => cell_regrown HR9.out.c3 dd os
                have s0 := fun dd os => cell_regrown HS9.out.c0 dd os
                have s1 := fun dd os => cell_regrown HS9.out.c1 dd os
                have s2 := fun dd os => cell_regrown HS9.out.c2 dd os
                have s3 := fun dd os => cell_regrown HS9.out.c3 dd os
                have kk := fun dd os => cell_regrown (HCE.out _ HB9.out).1 dd os
                obtain ⟨yv9, hyv9⟩ := HX9.out.v
                have HY9 := Lib.hid hyv9
                clear hyv9
                have F16 := Lib.hid (fun dd os => Calls.regrown_of (rsame_any h2 h2 _ _ _ (HP9.out.below (below_regrown W9 dd os) (Nat.le_refl _)) (HO9.out.kat.below (below_regrown W9 dd os) (Nat.le_refl _)) (by have := HKK.out.len; omega) (by have := HKK2.out.len; omega)))
                unfold hval at F16
                have F15 := Lib.hid (fun dd os => Calls.regrown_of ((since_any V B M h2 n2 yv9 _ (HY9.out.below (below_regrown W9 dd os) (Nat.le_refl _))).mono fun e w' hh => ⟨hh.1, by rw [← hh.2]; exact Below.refl _ _⟩))
                have F14 := Lib.hid (fun dd os => Calls.regrown_of (count_any V B M h2 n2 yv9 _ (HY9.out.below (below_regrown W9 dd os) (Nat.le_refl _)) HKK2.out.b1 HKK2.out.b2 (by have := Hn2.out; omega)))
                have F33 := Lib.hid (fun dd os => Calls.regrown_of (held_any B M d2 h2 _ _ (HX9.out.d.below (below_regrown W9 dd os) HX9.out.d.lt) HX9.out.ok HMY2.out HC7.out.emp HC7.out.hld (HO9.out.kat.below (below_regrown W9 dd os) (Nat.le_refl _))))
                unfold hval at F33
                have F34 := Lib.hid (fun dd os => Calls.regrown_of (used_any B d2 _ (HX9.out.d.below (below_regrown W9 dd os) HX9.out.d.lt) HX9.out.ok))
                have F35 := Lib.hid (fun dd os => Calls.regrown_of ((capacity_any B d2 _ (HX9.out.d.below (below_regrown W9 dd os) HX9.out.d.lt)).mono fun e w' hh => ⟨hh.1, by rw [← hh.2]; exact Below.refl _ _⟩))
                have hUC : decide ((d2.cap : Int) < (d2.used : Int)) = false := decide_eq_false (by have hh : d2.used ≤ d2.cap := HX9.out.ok.used; omega)
                rw [EN.out] at F15 F14
                rw [ESM.out] at F16
                have hUD : decide (d2.cap < d2.used) = false := decide_eq_false (by have hh : d2.used ≤ d2.cap := HX9.out.ok.used; omega)
                have eB : ((h2.base + ((n : Int) + 1)) != (h2.base + ((n : Int) + 1))) = false := by simp
                have eB2 : ((h2.base + ((n : Int) + 1)) == (h2.base + ((n : Int) + 1))) = true := by simp
                refine wp_region_quiet_below (by kernel_rfl) (by kernel_rfl) ?_
                simp only [List.append_eq, List.cons_append, List.nil_append]
                repeat (go_big_quiet_step (first | (go_at_call 16; exact F16.out _ _) | (go_at_call 15; exact F15.out _ _) | (go_at_call 14; exact F14.out _ _) | (go_at_call 33; exact F33.out _ _) | (go_at_call 34; exact F34.out _ _) | (go_at_call 35; exact F35.out _ _)))
                refine wpQuiet_nil ?_
                intro w10 hw10
                have hb10 : Below W9.heap.size W9 w10 := by obtain ⟨q, rfl⟩ := hw10; exact below_regrown _ _ _
                have HBa := Lib.hid (below_trans' HB9.out hb10)
                have HXa := Lib.hid (HX9.out.below hb10 (Nat.le_refl _))
                clear hw10 hb10 r0 r1 r2 r3 s0 s1 s2 s3 kk
                go_wp2
                go_roundw
                case rel => exact ⟨j + 1, d2, h2, n2, by simp, by omega, HXa, HC7, HBa, Lib.hid (by have := Hn2.out; omega)⟩
                case measure => (try simp [intOf]); (try omega)
            · have eG : h2.gen - h.gen = 1 := by rw [c4]; show h.gen + 1 - h.gen = 1; omega
              have eS : (h2.snap != h.snap) = false := by rw [c4]; show (h.snap != h.snap) = false; simp
              have eS2 : (h2.snap == h.snap) = true := by rw [c4]; show (h.snap == h.snap) = true; simp
              obtain ⟨sb, hsb⟩ : ∃ sb, sameB h h2 = sb := ⟨_, rfl⟩
              have ESM := Lib.hid hsb
              clear c4 hsb
              as_aux_lemma =>
                have HMY2 : Hid (mayB h2 = true) := Lib.hid (by obtain ⟨S, E, B', hs, -⟩ := HC7.out.st; exact hs.hd.may)
                have HKK2 := Lib.hid (mayB_ok HMY2.out)
                have kc1 := HKK2.out.b1
                have kc2 := HKK2.out.b2
                have kh1 := HKK2.out.g1
                have kh2 := HKK2.out.g2
                obtain ⟨LM, hLM⟩ : ∃ LM, h2.log.length = LM := ⟨_, rfl⟩
                have HLM := Lib.hid hLM
                have hLM30 : LM ≤ 30 := by rw [← hLM]; exact HKK2.out.len
                clear hLM
                obtain ⟨yv7, hyv7⟩ := HX7.out.v
                have HY7 := Lib.hid hyv7
                clear hyv7 cK cS
                go_wp2_with fail
                refine (head_any V B M h2 n2 yv7 w7 HY7.out HKK2.out.ne (by have := HKK2.out.len; omega)).mono ?_
                rintro e w8 ⟨u2, rfl, ho, hb⟩
                have HO8 := Lib.hid ho
                have HB8 := Lib.hid (below_trans' HB7.out hb)
                have HX8 := Lib.hid (HX7.out.below hb (Nat.le_refl _))
                have HR8 := Lib.hid (HR7.out.below hb HR7.out.lt)
                have HP8 := Lib.hid (HO7.out.below hb (Nat.le_refl _))
                obtain ⟨ub, ucq, hu2⟩ := ho.shape
                rw [List.length_map, HLM.out] at hu2
                clear ho hb
                subst hu2
                unfold hval at *
                have HX9 := Lib.hid (HX8.out.below (below_one w8 (.cells #[.int .i64 h2.gen, .int .i64 h2.base, .int .i64 h2.snap, .slice ub LM ucq] 40)) (Nat.le_refl _))
                have HR9 := Lib.hid (HR8.out.below (below_one w8 (.cells #[.int .i64 h2.gen, .int .i64 h2.base, .int .i64 h2.snap, .slice ub LM ucq] 40)) HR8.out.lt)
                have HP9 := Lib.hid (HP8.out.below (below_one w8 (.cells #[.int .i64 h2.gen, .int .i64 h2.base, .int .i64 h2.snap, .slice ub LM ucq] 40)) (Nat.le_refl _))
                have HO9 := Lib.hid (HO8.out.alloc (.cells #[.int .i64 h2.gen, .int .i64 h2.base, .int .i64 h2.snap, .slice ub LM ucq] 40))
                have HB9 := Lib.hid (HB8.out.alloc HB8.out.size (.cells #[.int .i64 h2.gen, .int .i64 h2.base, .int .i64 h2.snap, .slice ub LM ucq] 40))
                have HS9 : Hid (Box4 (w8.alloc (.cells #[.int .i64 h2.gen, .int .i64 h2.base, .int .i64 h2.snap, .slice ub LM ucq] 40)) w8.heap.size (.int .i64 h2.gen) (.int .i64 h2.base) (.int .i64 h2.snap) (.slice ub LM ucq)) := Lib.hid (heap_alloc_new w8 _)
                have t0 := HR9.out.c0
                have t1 := HS9.out.c0
                go_wp2_with fail
                clear t0 t1
                obtain ⟨W9, hW⟩ : ∃ W9, w8.alloc (.cells #[.int .i64 h2.gen, .int .i64 h2.base, .int .i64 h2.snap, .slice ub LM ucq] 40) = W9 := ⟨_, rfl⟩
                rw [hW] at HX9 HR9 HP9 HO9 HB9 HS9 ⊢
                have r0 := fun dd os => cell_regrown HR9.out.c0 dd os
                have r1 := fun dd os => cell_regrown HR9.out.c1 dd os
                have r2 := fun dd os => cell_regrown HR9.out.c2 dd os
                have r3 := fun dd os => cell_regrown HR9.out.c3 dd os
                have s0 := fun dd os => cell_regrown HS9.out.c0 dd os
                have s1 := fun dd os => cell_regrown HS9.out.c1 dd os
                have s2 := fun dd os => cell_regrown HS9.out.c2 dd os
                have s3 := fun dd os => cell_regrown HS9.out.c3 dd os
                have kk := fun dd os => cell_regrown (HCE.out _ HB9.out).1 dd os
                obtain ⟨yv9, hyv9⟩ := HX9.out.v
                have HY9 := Lib.hid hyv9
                clear hyv9
                have F16 := Lib.hid (fun dd os => Calls.regrown_of (rsame_any h h2 _ _ _ (HP9.out.below (below_regrown W9 dd os) (Nat.le_refl _)) (HO9.out.kat.below (below_regrown W9 dd os) (Nat.le_refl _)) (by have := HKK.out.len; omega) (by have := HKK2.out.len; omega)))
                unfold hval at F16
                have F15 := Lib.hid (fun dd os => Calls.regrown_of ((since_any V B M h2 n2 yv9 _ (HY9.out.below (below_regrown W9 dd os) (Nat.le_refl _))).mono fun e w' hh => ⟨hh.1, by rw [← hh.2]; exact Below.refl _ _⟩))
                have F14 := Lib.hid (fun dd os => Calls.regrown_of (count_any V B M h2 n2 yv9 _ (HY9.out.below (below_regrown W9 dd os) (Nat.le_refl _)) HKK2.out.b1 HKK2.out.b2 (by have := Hn2.out; omega)))
                have F33 := Lib.hid (fun dd os => Calls.regrown_of (held_any B M d2 h2 _ _ (HX9.out.d.below (below_regrown W9 dd os) HX9.out.d.lt) HX9.out.ok HMY2.out HC7.out.emp HC7.out.hld (HO9.out.kat.below (below_regrown W9 dd os) (Nat.le_refl _))))
                unfold hval at F33
                have F34 := Lib.hid (fun dd os => Calls.regrown_of (used_any B d2 _ (HX9.out.d.below (below_regrown W9 dd os) HX9.out.d.lt) HX9.out.ok))
                have F35 := Lib.hid (fun dd os => Calls.regrown_of ((capacity_any B d2 _ (HX9.out.d.below (below_regrown W9 dd os) HX9.out.d.lt)).mono fun e w' hh => ⟨hh.1, by rw [← hh.2]; exact Below.refl _ _⟩))
                have hUC : decide ((d2.cap : Int) < (d2.used : Int)) = false := decide_eq_false (by have hh : d2.used ≤ d2.cap := HX9.out.ok.used; omega)
                rw [EN.out] at F15 F14
                rw [ESM.out] at F16
                have hUD : decide (d2.cap < d2.used) = false := decide_eq_false (by have hh : d2.used ≤ d2.cap := HX9.out.ok.used; omega)
                have eB : ((h2.base + ((n : Int) + 1)) != (h2.base + ((n : Int) + 1))) = false := by simp
                have eB2 : ((h2.base + ((n : Int) + 1)) == (h2.base + ((n : Int) + 1))) = true := by simp
                refine wp_region_quiet_below (by kernel_rfl) (by kernel_rfl) ?_
                simp only [List.append_eq, List.cons_append, List.nil_append]
                repeat (go_big_quiet_step (first | (go_at_call 16; exact F16.out _ _) | (go_at_call 15; exact F15.out _ _) | (go_at_call 14; exact F14.out _ _) | (go_at_call 33; exact F33.out _ _) | (go_at_call 34; exact F34.out _ _) | (go_at_call 35; exact F35.out _ _)))
                refine wpQuiet_nil ?_
                intro w10 hw10
                have hb10 : Below W9.heap.size W9 w10 := by obtain ⟨q, rfl⟩ := hw10; exact below_regrown _ _ _
                have HBa := Lib.hid (below_trans' HB9.out hb10)
                have HXa := Lib.hid (HX9.out.below hb10 (Nat.le_refl _))
                clear hw10 hb10 r0 r1 r2 r3 s0 s1 s2 s3 kk
                go_wp2
                go_roundw
                case rel => exact ⟨j + 1, d2, h2, n2, by simp, by omega, HXa, HC7, HBa, Lib.hid (by have := Hn2.out; omega)⟩
                case measure => (try simp [intOf]); (try omega)
        · have HSY := Lib.hid (vsync_eq HX6.out HMY.out)
          obtain ⟨s1, s2⟩ := Vt.sync_calm HC.out
          rw [s1] at HSY
          obtain ⟨d2, hd2⟩ : ∃ d2, (Vt.syD d h).1 = d2 := ⟨_, rfl⟩
          rw [hd2] at HSY s2
          have HC7 := Lib.hid s2
          clear s1 s2 hd2
          obtain ⟨h2, hh2⟩ : ∃ h2, h2 = h := ⟨_, rfl⟩
          obtain ⟨n2, hn2⟩ : ∃ n2, n2 = n := ⟨_, rfl⟩
          go_wp2_with fail
          refine HSY.out.mono ?_
          rintro e w7 ⟨rfl, hx, hg⟩
          have HX7 := Lib.hid hx
          clear hx hh2 hn2 h2 n2
          have HD7 := Lib.hid (gv_dat HD6.out hg (by have := HCB.out; omega) (by have := HCB.out; omega))
          have HB7 := Lib.hid (below_gv HB6.out hg HB6.out.size HBB.out HVVV.out)
          have HO7 := Lib.hid (HO6.out.kat.same (w' := w7) (fun g hg1 e => by have h5 := (HO6.out.lt g e).1; exact hg.block g hg1 (by have := HCB.out; omega) (by have := HCB.out; omega)))
          have HR7 : Hid (Box4 w7 w5.heap.size (.int .i64 h.gen) (.int .i64 h.base) (.int .i64 h.snap) (.slice ua LN ucp)) := Lib.hid ((hg.block w5.heap.size HW6.out (by have := HCB.out; have := HC5.out; omega) (by have := HCB.out; have := HC5.out; omega)).trans HR6.out)
          have HW7 : Hid (w5.heap.size < w7.heap.size) := Lib.hid (Nat.lt_of_lt_of_le HW6.out hg.size)
          clear hg
          clear HSY
          have Hn2 : Hid (n ≤ j + 1) := Lib.hid (by have := Hn.out; omega)
          have EN : Hid ((n : Int) = (n : Int)) := Lib.hid rfl
          have eG : h.gen - h.gen = 0 := by omega
          have eS : (h.snap != h.snap) = false := by simp
          have eS2 : (h.snap == h.snap) = true := by simp
          have ESM : Hid (sameB h h = true) := Lib.hid (by unfold sameB; simp)
          as_aux_lemma =>
            have HMY2 : Hid (mayB h = true) := Lib.hid (by obtain ⟨S, E, B', hs, -⟩ := HC7.out.st; exact hs.hd.may)
            have HKK2 := Lib.hid (mayB_ok HMY2.out)
            have kc1 := HKK2.out.b1
            have kc2 := HKK2.out.b2
            have kh1 := HKK2.out.g1
            have kh2 := HKK2.out.g2
            obtain ⟨LM, hLM⟩ : ∃ LM, h.log.length = LM := ⟨_, rfl⟩
            have HLM := Lib.hid hLM
            have hLM30 : LM ≤ 30 := by rw [← hLM]; exact HKK2.out.len
            clear hLM
            obtain ⟨yv7, hyv7⟩ := HX7.out.v
            have HY7 := Lib.hid hyv7
            clear hyv7 cK cS
            go_wp2_with fail
            refine (head_any V B M h n yv7 w7 HY7.out HKK2.out.ne (by have := HKK2.out.len; omega)).mono ?_
            rintro e w8 ⟨u2, rfl, ho, hb⟩
            have HO8 := Lib.hid ho
            have HB8 := Lib.hid (below_trans' HB7.out hb)
            have HX8 := Lib.hid (HX7.out.below hb (Nat.le_refl _))
            have HR8 := Lib.hid (HR7.out.below hb HR7.out.lt)
            have HP8 := Lib.hid (HO7.out.below hb (Nat.le_refl _))
            obtain ⟨ub, ucq, hu2⟩ := ho.shape
            rw [List.length_map, HLM.out] at hu2
            clear ho hb
            subst hu2
            unfold hval at *
            have HX9 := Lib.hid (HX8.out.below (below_one w8 (.cells #[.int .i64 h.gen, .int .i64 h.base, .int .i64 h.snap, .slice ub LM ucq] 40)) (Nat.le_refl _))
            have HR9 := Lib.hid (HR8.out.below (below_one w8 (.cells #[.int .i64 h.gen, .int .i64 h.base, .int .i64 h.snap, .slice ub LM ucq] 40)) HR8.out.lt)
            have HP9 := Lib.hid (HP8.out.below (below_one w8 (.cells #[.int .i64 h.gen, .int .i64 h.base, .int .i64 h.snap, .slice ub LM ucq] 40)) (Nat.le_refl _))
            have HO9 := Lib.hid (HO8.out.alloc (.cells #[.int .i64 h.gen, .int .i64 h.base, .int .i64 h.snap, .slice ub LM ucq] 40))
            have HB9 := Lib.hid (HB8.out.alloc HB8.out.size (.cells #[.int .i64 h.gen, .int .i64 h.base, .int .i64 h.snap, .slice ub LM ucq] 40))
            have HS9 : Hid (Box4 (w8.alloc (.cells #[.int .i64 h.gen, .int .i64 h.base, .int .i64 h.snap, .slice ub LM ucq] 40)) w8.heap.size (.int .i64 h.gen) (.int .i64 h.base) (.int .i64 h.snap) (.slice ub LM ucq)) := Lib.hid (heap_alloc_new w8 _)
            have t0 := HR9.out.c0
            have t1 := HS9.out.c0
            go_wp2_with fail
            clear t0 t1
            obtain ⟨W9, hW⟩ : ∃ W9, w8.alloc (.cells #[.int .i64 h.gen, .int .i64 h.base, .int .i64 h.snap, .slice ub LM ucq] 40) = W9 := ⟨_, rfl⟩
            rw [hW] at HX9 HR9 HP9 HO9 HB9 HS9 ⊢
            have r0 := fun dd os => cell_regrown HR9.out.c0 dd os
            have r1 := fun dd os => cell_regrown HR9.out.c1 dd os
            have r2 := fun dd os => cell_regrown HR9.out.c2 dd os
            have r3 := fun dd os => cell_regrown HR9.out.c3 dd os
            have s0 := fun dd os => cell_regrown HS9.out.c0 dd os
            have s1 := fun dd os => cell_regrown HS9.out.c1 dd os
            have s2 := fun dd os => cell_regrown HS9.out.c2 dd os
            have s3 := fun dd os => cell_regrown HS9.out.c3 dd os
            have kk := fun dd os => cell_regrown (HCE.out _ HB9.out).1 dd os
            obtain ⟨yv9, hyv9⟩ := HX9.out.v
            have HY9 := Lib.hid hyv9
            clear hyv9
            have F16 := Lib.hid (fun dd os => Calls.regrown_of (rsame_any h h _ _ _ (HP9.out.below (below_regrown W9 dd os) (Nat.le_refl _)) (HO9.out.kat.below (below_regrown W9 dd os) (Nat.le_refl _)) (by have := HKK.out.len; omega) (by have := HKK2.out.len; omega)))
            unfold hval at F16
            have F15 := Lib.hid (fun dd os => Calls.regrown_of ((since_any V B M h n yv9 _ (HY9.out.below (below_regrown W9 dd os) (Nat.le_refl _))).mono fun e w' hh => ⟨hh.1, by rw [← hh.2]; exact Below.refl _ _⟩))
            have F14 := Lib.hid (fun dd os => Calls.regrown_of (count_any V B M h n yv9 _ (HY9.out.below (below_regrown W9 dd os) (Nat.le_refl _)) HKK2.out.b1 HKK2.out.b2 (by have := Hn2.out; omega)))
            have F33 := Lib.hid (fun dd os => Calls.regrown_of (held_any B M d2 h _ _ (HX9.out.d.below (below_regrown W9 dd os) HX9.out.d.lt) HX9.out.ok HMY2.out HC7.out.emp HC7.out.hld (HO9.out.kat.below (below_regrown W9 dd os) (Nat.le_refl _))))
            unfold hval at F33
            have F34 := Lib.hid (fun dd os => Calls.regrown_of (used_any B d2 _ (HX9.out.d.below (below_regrown W9 dd os) HX9.out.d.lt) HX9.out.ok))
            have F35 := Lib.hid (fun dd os => Calls.regrown_of ((capacity_any B d2 _ (HX9.out.d.below (below_regrown W9 dd os) HX9.out.d.lt)).mono fun e w' hh => ⟨hh.1, by rw [← hh.2]; exact Below.refl _ _⟩))
            have hUC : decide ((d2.cap : Int) < (d2.used : Int)) = false := decide_eq_false (by have hh : d2.used ≤ d2.cap := HX9.out.ok.used; omega)
            rw [ESM.out] at F16
            have hUD : decide (d2.cap < d2.used) = false := decide_eq_false (by have hh : d2.used ≤ d2.cap := HX9.out.ok.used; omega)
            have eB : ((h.base + (n : Int)) != (h.base + (n : Int))) = false := by simp
            have eB2 : ((h.base + (n : Int)) == (h.base + (n : Int))) = true := by simp
            refine wp_region_quiet_below (by kernel_rfl) (by kernel_rfl) ?_
            simp only [List.append_eq, List.cons_append, List.nil_append]
            repeat (go_big_quiet_step (first | (go_at_call 16; exact F16.out _ _) | (go_at_call 15; exact F15.out _ _) | (go_at_call 14; exact F14.out _ _) | (go_at_call 33; exact F33.out _ _) | (go_at_call 34; exact F34.out _ _) | (go_at_call 35; exact F35.out _ _)))
            refine wpQuiet_nil ?_
            intro w10 hw10
            have hb10 : Below W9.heap.size W9 w10 := by obtain ⟨q, rfl⟩ := hw10; exact below_regrown _ _ _
            have HBa := Lib.hid (below_trans' HB9.out hb10)
            have HXa := Lib.hid (HX9.out.below hb10 (Nat.le_refl _))
            clear hw10 hb10 r0 r1 r2 r3 s0 s1 s2 s3 kk
            go_wp2
            go_roundw
            case rel => exact ⟨j + 1, d2, h, n, by simp, by omega, HXa, HC7, HBa, Lib.hid (by have := Hn2.out; omega)⟩
            case measure => (try simp [intOf]); (try omega)
        · have HLY := Lib.hid (vlay_eq ys HYS.out (by omega) HX6.out HMY.out)
          have HCL := Lib.hid (Vt.lay_calm HC.out ys)
          generalize Vt.layD d h n ys = P at *
          obtain ⟨⟨d2, er⟩, h2, n2⟩ := P
          dsimp only at HLY HCL
          go_wp2_with fail
          refine HLY.out.mono ?_
          rintro e w7 ⟨rfl, hx, hg⟩
          rcases HCL.out with ⟨c1, c2, c3, -⟩ | ⟨c1, c2, z1, z2, c3, c4, -, -, -, -⟩
          · try dsimp only at c1 c2 c3
            injection c3 with c3 c3b
            have c1s := c1.symm
            have c3s := c3.symm
            have c3bs := c3b.symm
            clear c1 c3 c3b
            subst c1s c3s c3bs
            have HX7 := Lib.hid hx
            have HD7 := Lib.hid (gv_dat HD6.out hg (by have := HCB.out; omega) (by have := HCB.out; omega))
            have HB7 := Lib.hid (below_gv HB6.out hg HB6.out.size HBB.out HVVV.out)
            have HO7 := Lib.hid (HO6.out.kat.same (w' := w7) (fun g hg1 e => by have h5 := (HO6.out.lt g e).1; exact hg.block g hg1 (by have := HCB.out; omega) (by have := HCB.out; omega)))
            have HR7 : Hid (Box4 w7 w5.heap.size (.int .i64 h.gen) (.int .i64 h.base) (.int .i64 h.snap) (.slice ua LN ucp)) := Lib.hid ((hg.block w5.heap.size HW6.out (by have := HCB.out; have := HC5.out; omega) (by have := HCB.out; have := HC5.out; omega)).trans HR6.out)
            have HW7 : Hid (w5.heap.size < w7.heap.size) := Lib.hid (Nat.lt_of_lt_of_le HW6.out hg.size)
            clear hg
            clear hx HCL HLY
            rcases c2 with c2 | c2
            · subst c2
              rw [show ((40 : Nat) : Int) = 40 from rfl]
              as_aux_lemma =>
                obtain ⟨yv7, hyv7⟩ := HX7.out.v
                have HSY := Lib.hid (fun W (h1 : DAt W CB d) (h2 : DAt W B d) => same_yes CB B d W h1 h2)
                have HHD := Lib.hid (fun W yv (k : VAt W V B M h n yv) => head_any V B M h n yv W k HKK.out.ne (by have := HKK.out.len; omega))
                have HRS := Lib.hid (fun W u u2 (k1 : KAt W u h.log) (k2 : KAt W u2 h.log) => rsame_any h h u u2 W k1 k2 (by have := HKK.out.len; omega) (by have := HKK.out.len; omega))
                rw [show sameB h h = true from by unfold sameB; simp] at HRS
                unfold hval at HHD HRS
                unfold HRet hval at HHD
                have HY7 := Lib.hid hyv7
                clear hyv7 cK cS
                go_wp2_with fail
                refine wp_region_any (by kernel_rfl) ?_
                try (change wpAny _ _ _ _ _ _ _ (World.drew _))
                refine wpAny_take (i := 0) (oi := ({ dst := some 82, op := Go.Op.move (Go.Operand.tmp 13), type := 27, pos := "outright.go:302", after := #[], guard := none } : Oper)) (v := ?_) rfl (by kernel_rfl) (by kernel_rfl) (by kernel_rfl) (fun _ _ _ h => h) (Or.inl ⟨by rfl, ?_⟩) ?_
                rotate_left
                · intro _; go_simp; (try with_reducible rfl)
                simp only [Act.put, List.setIfInBounds_toArray, List.set_cons_zero, List.set_cons_succ]
                refine wpAny_take (i := 1) (oi := ({ dst := some 83, op := Go.Op.binOp Go.BinOp.neq 27 (Go.Operand.tmp 82) (Go.Operand.const (Go.Value.int Go.IntKind.i64 44)) 27, type := 4, pos := "outright.go:302", after := #[{ on := 0, ground := Go.Ground.data }], guard := none } : Oper)) (v := ?_) rfl (by kernel_rfl) (by kernel_rfl) (by kernel_rfl) (fun _ _ _ h => h) (Or.inl ⟨by rfl, ?_⟩) ?_
                rotate_left
                · intro _; go_simp; (try with_reducible rfl)
                simp only [Act.put, List.setIfInBounds_toArray, List.set_cons_zero, List.set_cons_succ]
                refine wpAny_take (i := 2) (oi := ({ dst := some 84, op := Go.Op.move (Go.Operand.tmp 83), type := 4, pos := "outright.go:302", after := #[{ on := 1, ground := Go.Ground.data }], guard := none } : Oper)) (v := ?_) rfl (by kernel_rfl) (by kernel_rfl) (by kernel_rfl) (fun _ _ _ h => h) (Or.inl ⟨by rfl, ?_⟩) ?_
                rotate_left
                · intro _; go_simp; (try with_reducible rfl)
                simp only [Act.put, List.setIfInBounds_toArray, List.set_cons_zero, List.set_cons_succ]
                refine wpAny_take (i := 3) (oi := ({ dst := some 85, op := Go.Op.move (Go.Operand.tmp 13), type := 27, pos := "outright.go:302", after := #[{ on := 2, ground := Go.Ground.guard }], guard := some (2, true) } : Oper)) (v := ?_) rfl (by kernel_rfl) (by kernel_rfl) (by kernel_rfl) (fun _ _ _ h => h) (Or.inl ⟨by rfl, ?_⟩) ?_
                rotate_left
                · intro _; go_simp; (try with_reducible rfl)
                simp only [Act.put, List.setIfInBounds_toArray, List.set_cons_zero, List.set_cons_succ]
                refine wpAny_take (i := 4) (oi := ({ dst := some 86, op := Go.Op.binOp Go.BinOp.neq 27 (Go.Operand.tmp 85) (Go.Operand.const (Go.Value.int Go.IntKind.i64 40)) 27, type := 4, pos := "outright.go:302", after := #[{ on := 3, ground := Go.Ground.data }, { on := 2, ground := Go.Ground.guard }], guard := some (2, true) } : Oper)) (v := ?_) rfl (by kernel_rfl) (by kernel_rfl) (by kernel_rfl) (fun _ _ _ h => h) (Or.inl ⟨by rfl, ?_⟩) ?_
                rotate_left
                · intro _; go_simp; (try with_reducible rfl)
                simp only [Act.put, List.setIfInBounds_toArray, List.set_cons_zero, List.set_cons_succ]
                refine wpAny_take (i := 5) (oi := ({ dst := some 87, op := Go.Op.pick (Go.Operand.tmp 84) (Go.Operand.tmp 86) (Go.Operand.const (Go.Value.bool false)), type := 4, pos := "outright.go:302", after := #[{ on := 2, ground := Go.Ground.data }, { on := 4, ground := Go.Ground.data }], guard := none } : Oper)) (v := ?_) rfl (by kernel_rfl) (by kernel_rfl) (by kernel_rfl) (fun _ _ _ h => h) (Or.inl ⟨by rfl, ?_⟩) ?_
                rotate_left
                · intro _; go_simp; (try with_reducible rfl)
                simp only [Act.put, List.setIfInBounds_toArray, List.set_cons_zero, List.set_cons_succ]
                refine wpAny_take (i := 6) (oi := ({ dst := some 88, op := Go.Op.move (Go.Operand.tmp 87), type := 4, pos := "outright.go:302", after := #[{ on := 5, ground := Go.Ground.data }, { on := 2, ground := Go.Ground.chain }], guard := none } : Oper)) (v := ?_) rfl (by kernel_rfl) (by kernel_rfl) (by kernel_rfl) (fun _ _ _ h => h) (Or.inl ⟨by rfl, ?_⟩) ?_
                rotate_left
                · intro _; go_simp; (try with_reducible rfl)
                simp only [Act.put, List.setIfInBounds_toArray, List.set_cons_zero, List.set_cons_succ]
                refine wpAny_take (i := 7) (oi := ({ dst := some 89, op := Go.Op.move (Go.Operand.tmp 10), type := 30, pos := "outright.go:302", after := #[{ on := 6, ground := Go.Ground.guard }], guard := some (6, false) } : Oper)) (v := ?_) rfl (by kernel_rfl) (by kernel_rfl) (by kernel_rfl) (fun _ _ _ h => h) (Or.inl ⟨by rfl, ?_⟩) ?_
                rotate_left
                · intro _; go_simp; (try with_reducible rfl)
                simp only [Act.put, List.setIfInBounds_toArray, List.set_cons_zero, List.set_cons_succ]
                refine wpAny_take (i := 8) (oi := ({ dst := some 90, op := Go.Op.move (Go.Operand.tmp 7), type := 30, pos := "outright.go:302", after := #[{ on := 6, ground := Go.Ground.guard }], guard := some (6, false) } : Oper)) (v := ?_) rfl (by kernel_rfl) (by kernel_rfl) (by kernel_rfl) (fun _ _ _ h => h) (Or.inl ⟨by rfl, ?_⟩) ?_
                rotate_left
                · intro _; go_simp; (try with_reducible rfl)
                simp only [Act.put, List.setIfInBounds_toArray, List.set_cons_zero, List.set_cons_succ]
                refine wpAny_ready (rs := [9]) (by kernel_rfl) (by simp) ?_
                refine AllReady.cons (o := ({ dst := some 91, op := Go.Op.call { callee := Go.Callee.value (Go.Operand.func 32), args := #[Go.Operand.tmp 89, Go.Operand.tmp 90], argTypes := #[30, 30] }, type := 4, pos := "outright.go:302", after := #[{ on := 7, ground := Go.Ground.data }, { on := 8, ground := Go.Ground.data }, { on := 6, ground := Go.Ground.chain }, { on := 6, ground := Go.Ground.guard }], guard := some (6, false) } : Oper)) rfl (fun K hK => ?_) AllReady.nil
                go_simp
                refine (HSY.out _ HD7.out.drew HX7.out.d.drew).mono ?_
                rintro e w8 ⟨rfl, hb8⟩
                have HB8 := Lib.hid (HB7.out.trans (Below.mono (B := w7.heap.size) (B' := w.heap.size) ⟨hb8.os, hb8.tape, hb8.output, hb8.size, hb8.block⟩ HB7.out.size))
                have HG8 : Hid (Below w7.heap.size w7 w8) := Lib.hid ⟨hb8.os, hb8.tape, hb8.output, hb8.size, hb8.block⟩
                clear hb8
                have r0 := (HR7.out.below HG8.out HR7.out.lt).c0
                have r1 := (HR7.out.below HG8.out HR7.out.lt).c1
                have r2 := (HR7.out.below HG8.out HR7.out.lt).c2
                have r3 := (HR7.out.below HG8.out HR7.out.lt).c3
                try dsimp only
                refine hK _ _ ?_; clear hK K
                try simp only [Act.put, List.setIfInBounds_toArray, List.set_cons_zero, List.set_cons_succ]
                refine wpAny_take (i := 10) (oi := ({ dst := some 92, op := Go.Op.unOp Go.UnOp.not 4 (Go.Operand.tmp 91), type := 4, pos := "outright.go:302", after := #[{ on := 9, ground := Go.Ground.data }, { on := 6, ground := Go.Ground.guard }], guard := some (6, false) } : Oper)) (v := ?_) rfl (by kernel_rfl) (by kernel_rfl) (by kernel_rfl) (fun _ _ _ h => h) (Or.inl ⟨by rfl, ?_⟩) ?_
                rotate_left
                · intro _; go_simp; (try with_reducible rfl)
                simp only [Act.put, List.setIfInBounds_toArray, List.set_cons_zero, List.set_cons_succ]
                refine wpAny_take (i := 11) (oi := ({ dst := some 93, op := Go.Op.pick (Go.Operand.tmp 88) (Go.Operand.const (Go.Value.bool true)) (Go.Operand.tmp 92), type := 4, pos := "outright.go:302", after := #[{ on := 6, ground := Go.Ground.data }, { on := 10, ground := Go.Ground.data }], guard := none } : Oper)) (v := ?_) rfl (by kernel_rfl) (by kernel_rfl) (by kernel_rfl) (fun _ _ _ h => h) (Or.inl ⟨by rfl, ?_⟩) ?_
                rotate_left
                · intro _; go_simp; (try with_reducible rfl)
                simp only [Act.put, List.setIfInBounds_toArray, List.set_cons_zero, List.set_cons_succ]
                refine wpAny_take (i := 12) (oi := ({ dst := some 94, op := Go.Op.move (Go.Operand.tmp 93), type := 4, pos := "outright.go:302", after := #[{ on := 11, ground := Go.Ground.data }, { on := 9, ground := Go.Ground.chain }], guard := none } : Oper)) (v := ?_) rfl (by kernel_rfl) (by kernel_rfl) (by kernel_rfl) (fun _ _ _ h => h) (Or.inl ⟨by rfl, ?_⟩) ?_
                rotate_left
                · intro _; go_simp; (try with_reducible rfl)
                simp only [Act.put, List.setIfInBounds_toArray, List.set_cons_zero, List.set_cons_succ]
                refine wpAny_take (i := 14) (oi := ({ dst := some 96, op := Go.Op.move (Go.Operand.tmp 8), type := 23, pos := "outright.go:302", after := #[{ on := 12, ground := Go.Ground.guard }], guard := some (12, false) } : Oper)) (v := ?_) rfl (by kernel_rfl) (by kernel_rfl) (by kernel_rfl) (fun _ _ _ h => h) (Or.inl ⟨by rfl, ?_⟩) ?_
                rotate_left
                · intro _; go_simp; (try with_reducible rfl)
                simp only [Act.put, List.setIfInBounds_toArray, List.set_cons_zero, List.set_cons_succ]
                refine wpAny_ready (rs := [13, 15]) (by kernel_rfl) (by simp) ?_
                refine AllReady.cons (o := ({ dst := some 95, op := Go.Op.load 40 (Go.Operand.tmp 11), type := 40, pos := "outright.go:302", after := #[{ on := 12, ground := Go.Ground.guard }], guard := some (12, false) } : Oper)) rfl (fun K hK => ?_) (AllReady.cons (o := ({ dst := some 97, op := Go.Op.call { callee := Go.Callee.value (Go.Operand.func 17), args := #[Go.Operand.tmp 96], argTypes := #[23] }, type := 40, pos := "outright.go:302", after := #[{ on := 14, ground := Go.Ground.data }, { on := 12, ground := Go.Ground.chain }, { on := 12, ground := Go.Ground.guard }], guard := some (12, false) } : Oper)) rfl (fun K hK => ?_) AllReady.nil)
                · skip
                  go_simp
                  refine hK _ _ ?_; clear hK K
                  try simp only [Act.put, List.setIfInBounds_toArray, List.set_cons_zero, List.set_cons_succ]
                  refine wpAny_ready (rs := [15]) (by kernel_rfl) (by simp) ?_
                  refine AllReady.cons (o := ({ dst := some 97, op := Go.Op.call { callee := Go.Callee.value (Go.Operand.func 17), args := #[Go.Operand.tmp 96], argTypes := #[23] }, type := 40, pos := "outright.go:302", after := #[{ on := 14, ground := Go.Ground.data }, { on := 12, ground := Go.Ground.chain }, { on := 12, ground := Go.Ground.guard }], guard := some (12, false) } : Oper)) rfl (fun K hK => ?_) AllReady.nil
                  go_simp
                  refine (HHD.out _ _ (HY7.out.below HG8.out (Nat.le_refl _))).mono ?_
                  rintro e w9 ⟨u2, rfl, ho9, hb9⟩
                  have HO9 := Lib.hid ho9
                  have HG9 := Lib.hid (below_trans' HG8.out hb9)
                  obtain ⟨ub, ucq, hu2⟩ := ho9.shape
                  rw [List.length_map, HLN.out] at hu2
                  clear ho9 hb9
                  subst hu2
                  have s0 := (HR7.out.below HG9.out HR7.out.lt).c0
                  have s1 := (HR7.out.below HG9.out HR7.out.lt).c1
                  have s2 := (HR7.out.below HG9.out HR7.out.lt).c2
                  have s3 := (HR7.out.below HG9.out HR7.out.lt).c3
                  try dsimp only
                  refine hK _ _ ?_; clear hK K
                  try simp only [Act.put, List.setIfInBounds_toArray, List.set_cons_zero, List.set_cons_succ]
                  refine wpAny_ready (rs := [16]) (by kernel_rfl) (by simp) ?_
                  refine AllReady.cons (o := ({ dst := some 98, op := Go.Op.call { callee := Go.Callee.value (Go.Operand.func 16), args := #[Go.Operand.tmp 95, Go.Operand.tmp 97], argTypes := #[40, 40] }, type := 4, pos := "outright.go:302", after := #[{ on := 13, ground := Go.Ground.data }, { on := 15, ground := Go.Ground.data }, { on := 15, ground := Go.Ground.chain }, { on := 12, ground := Go.Ground.guard }], guard := some (12, false) } : Oper)) rfl (fun K hK => ?_) AllReady.nil
                  go_simp
                  refine (HRS.out _ _ _ (HO7.out.below HG9.out (Nat.le_refl _)) HO9.out.kat).mono ?_
                  rintro e w10 ⟨rfl, hb10⟩
                  have HG10 := Lib.hid (below_trans' HG9.out hb10)
                  clear hb10
                  try dsimp only
                  refine hK _ _ ?_; clear hK K
                  try simp only [Act.put, List.setIfInBounds_toArray, List.set_cons_zero, List.set_cons_succ]
                  refine wpAny_take (i := 17) (oi := ({ dst := some 99, op := Go.Op.unOp Go.UnOp.not 4 (Go.Operand.tmp 98), type := 4, pos := "outright.go:302", after := #[{ on := 16, ground := Go.Ground.data }, { on := 12, ground := Go.Ground.guard }], guard := some (12, false) } : Oper)) (v := ?_) rfl (by kernel_rfl) (by kernel_rfl) (by kernel_rfl) (fun _ _ _ h => h) (Or.inl ⟨by rfl, ?_⟩) ?_
                  rotate_left
                  · intro _; go_simp; (try with_reducible rfl)
                  simp only [Act.put, List.setIfInBounds_toArray, List.set_cons_zero, List.set_cons_succ]
                  refine wpAny_take (i := 18) (oi := ({ dst := some 100, op := Go.Op.pick (Go.Operand.tmp 94) (Go.Operand.const (Go.Value.bool true)) (Go.Operand.tmp 99), type := 4, pos := "outright.go:302", after := #[{ on := 12, ground := Go.Ground.data }, { on := 17, ground := Go.Ground.data }], guard := none } : Oper)) (v := ?_) rfl (by kernel_rfl) (by kernel_rfl) (by kernel_rfl) (fun _ _ _ h => h) (Or.inl ⟨by rfl, ?_⟩) ?_
                  rotate_left
                  · intro _; go_simp; (try with_reducible rfl)
                  simp only [Act.put, List.setIfInBounds_toArray, List.set_cons_zero, List.set_cons_succ]
                  refine wpAny_done (by kernel_rfl) ?_ _
                  go_wp2
                  go_roundw
                  case rel => exact ⟨j + 1, d, h, n, by simp, by omega, Lib.hid (HX7.out.below HG10.out (Nat.le_refl _)), HC, Lib.hid (HB7.out.trans (HG10.out.mono HB7.out.size)), Lib.hid (by have := Hn.out; omega)⟩
                  case measure => (try simp [intOf]); (try omega)
                · skip
                  go_simp
                  refine (HHD.out _ _ (HY7.out.below HG8.out (Nat.le_refl _))).mono ?_
                  rintro e w9 ⟨u2, rfl, ho9, hb9⟩
                  have HO9 := Lib.hid ho9
                  have HG9 := Lib.hid (below_trans' HG8.out hb9)
                  obtain ⟨ub, ucq, hu2⟩ := ho9.shape
                  rw [List.length_map, HLN.out] at hu2
                  clear ho9 hb9
                  subst hu2
                  have s0 := (HR7.out.below HG9.out HR7.out.lt).c0
                  have s1 := (HR7.out.below HG9.out HR7.out.lt).c1
                  have s2 := (HR7.out.below HG9.out HR7.out.lt).c2
                  have s3 := (HR7.out.below HG9.out HR7.out.lt).c3
                  try dsimp only
                  refine hK _ _ ?_; clear hK K
                  try simp only [Act.put, List.setIfInBounds_toArray, List.set_cons_zero, List.set_cons_succ]
                  refine wpAny_ready (rs := [13]) (by kernel_rfl) (by simp) ?_
                  refine AllReady.cons (o := ({ dst := some 95, op := Go.Op.load 40 (Go.Operand.tmp 11), type := 40, pos := "outright.go:302", after := #[{ on := 12, ground := Go.Ground.guard }], guard := some (12, false) } : Oper)) rfl (fun K hK => ?_) AllReady.nil
                  go_simp
                  refine hK _ _ ?_; clear hK K
                  try simp only [Act.put, List.setIfInBounds_toArray, List.set_cons_zero, List.set_cons_succ]
                  refine wpAny_ready (rs := [16]) (by kernel_rfl) (by simp) ?_
                  refine AllReady.cons (o := ({ dst := some 98, op := Go.Op.call { callee := Go.Callee.value (Go.Operand.func 16), args := #[Go.Operand.tmp 95, Go.Operand.tmp 97], argTypes := #[40, 40] }, type := 4, pos := "outright.go:302", after := #[{ on := 13, ground := Go.Ground.data }, { on := 15, ground := Go.Ground.data }, { on := 15, ground := Go.Ground.chain }, { on := 12, ground := Go.Ground.guard }], guard := some (12, false) } : Oper)) rfl (fun K hK => ?_) AllReady.nil
                  go_simp
                  refine (HRS.out _ _ _ (HO7.out.below HG9.out (Nat.le_refl _)) HO9.out.kat).mono ?_
                  rintro e w10 ⟨rfl, hb10⟩
                  have HG10 := Lib.hid (below_trans' HG9.out hb10)
                  clear hb10
                  try dsimp only
                  refine hK _ _ ?_; clear hK K
                  try simp only [Act.put, List.setIfInBounds_toArray, List.set_cons_zero, List.set_cons_succ]
                  refine wpAny_take (i := 17) (oi := ({ dst := some 99, op := Go.Op.unOp Go.UnOp.not 4 (Go.Operand.tmp 98), type := 4, pos := "outright.go:302", after := #[{ on := 16, ground := Go.Ground.data }, { on := 12, ground := Go.Ground.guard }], guard := some (12, false) } : Oper)) (v := ?_) rfl (by kernel_rfl) (by kernel_rfl) (by kernel_rfl) (fun _ _ _ h => h) (Or.inl ⟨by rfl, ?_⟩) ?_
                  rotate_left
                  · intro _; go_simp; (try with_reducible rfl)
                  simp only [Act.put, List.setIfInBounds_toArray, List.set_cons_zero, List.set_cons_succ]
                  refine wpAny_take (i := 18) (oi := ({ dst := some 100, op := Go.Op.pick (Go.Operand.tmp 94) (Go.Operand.const (Go.Value.bool true)) (Go.Operand.tmp 99), type := 4, pos := "outright.go:302", after := #[{ on := 12, ground := Go.Ground.data }, { on := 17, ground := Go.Ground.data }], guard := none } : Oper)) (v := ?_) rfl (by kernel_rfl) (by kernel_rfl) (by kernel_rfl) (fun _ _ _ h => h) (Or.inl ⟨by rfl, ?_⟩) ?_
                  rotate_left
                  · intro _; go_simp; (try with_reducible rfl)
                  simp only [Act.put, List.setIfInBounds_toArray, List.set_cons_zero, List.set_cons_succ]
                  refine wpAny_done (by kernel_rfl) ?_ _
                  go_wp2
                  go_roundw
                  case rel => exact ⟨j + 1, d, h, n, by simp, by omega, Lib.hid (HX7.out.below HG10.out (Nat.le_refl _)), HC, Lib.hid (HB7.out.trans (HG10.out.mono HB7.out.size)), Lib.hid (by have := Hn.out; omega)⟩
                  case measure => (try simp [intOf]); (try omega)
            · subst c2
              rw [show ((44 : Nat) : Int) = 44 from rfl]
              as_aux_lemma =>
                obtain ⟨yv7, hyv7⟩ := HX7.out.v
                have HSY := Lib.hid (fun W (h1 : DAt W CB d) (h2 : DAt W B d) => same_yes CB B d W h1 h2)
                have HHD := Lib.hid (fun W yv (k : VAt W V B M h n yv) => head_any V B M h n yv W k HKK.out.ne (by have := HKK.out.len; omega))
                have HRS := Lib.hid (fun W u u2 (k1 : KAt W u h.log) (k2 : KAt W u2 h.log) => rsame_any h h u u2 W k1 k2 (by have := HKK.out.len; omega) (by have := HKK.out.len; omega))
                rw [show sameB h h = true from by unfold sameB; simp] at HRS
                unfold hval at HHD HRS
                unfold HRet hval at HHD
                have HY7 := Lib.hid hyv7
                clear hyv7 cK cS
                go_wp2_with fail
                refine wp_region_any (by kernel_rfl) ?_
                try (change wpAny _ _ _ _ _ _ _ (World.drew _))
                refine wpAny_take (i := 0) (oi := ({ dst := some 82, op := Go.Op.move (Go.Operand.tmp 13), type := 27, pos := "outright.go:302", after := #[], guard := none } : Oper)) (v := ?_) rfl (by kernel_rfl) (by kernel_rfl) (by kernel_rfl) (fun _ _ _ h => h) (Or.inl ⟨by rfl, ?_⟩) ?_
                rotate_left
                · intro _; go_simp; (try with_reducible rfl)
                simp only [Act.put, List.setIfInBounds_toArray, List.set_cons_zero, List.set_cons_succ]
                refine wpAny_take (i := 1) (oi := ({ dst := some 83, op := Go.Op.binOp Go.BinOp.neq 27 (Go.Operand.tmp 82) (Go.Operand.const (Go.Value.int Go.IntKind.i64 44)) 27, type := 4, pos := "outright.go:302", after := #[{ on := 0, ground := Go.Ground.data }], guard := none } : Oper)) (v := ?_) rfl (by kernel_rfl) (by kernel_rfl) (by kernel_rfl) (fun _ _ _ h => h) (Or.inl ⟨by rfl, ?_⟩) ?_
                rotate_left
                · intro _; go_simp; (try with_reducible rfl)
                simp only [Act.put, List.setIfInBounds_toArray, List.set_cons_zero, List.set_cons_succ]
                refine wpAny_take (i := 2) (oi := ({ dst := some 84, op := Go.Op.move (Go.Operand.tmp 83), type := 4, pos := "outright.go:302", after := #[{ on := 1, ground := Go.Ground.data }], guard := none } : Oper)) (v := ?_) rfl (by kernel_rfl) (by kernel_rfl) (by kernel_rfl) (fun _ _ _ h => h) (Or.inl ⟨by rfl, ?_⟩) ?_
                rotate_left
                · intro _; go_simp; (try with_reducible rfl)
                simp only [Act.put, List.setIfInBounds_toArray, List.set_cons_zero, List.set_cons_succ]
                refine wpAny_take (i := 3) (oi := ({ dst := some 85, op := Go.Op.move (Go.Operand.tmp 13), type := 27, pos := "outright.go:302", after := #[{ on := 2, ground := Go.Ground.guard }], guard := some (2, true) } : Oper)) (v := undef) rfl (by kernel_rfl) (by kernel_rfl) (by kernel_rfl) (fun _ _ _ h => h) (Or.inr ⟨by rfl, rfl⟩) ?_
                simp only [Act.put, List.setIfInBounds_toArray, List.set_cons_zero, List.set_cons_succ]
                refine wpAny_take (i := 4) (oi := ({ dst := some 86, op := Go.Op.binOp Go.BinOp.neq 27 (Go.Operand.tmp 85) (Go.Operand.const (Go.Value.int Go.IntKind.i64 40)) 27, type := 4, pos := "outright.go:302", after := #[{ on := 3, ground := Go.Ground.data }, { on := 2, ground := Go.Ground.guard }], guard := some (2, true) } : Oper)) (v := undef) rfl (by kernel_rfl) (by kernel_rfl) (by kernel_rfl) (fun _ _ _ h => h) (Or.inr ⟨by rfl, rfl⟩) ?_
                simp only [Act.put, List.setIfInBounds_toArray, List.set_cons_zero, List.set_cons_succ]
                refine wpAny_take (i := 5) (oi := ({ dst := some 87, op := Go.Op.pick (Go.Operand.tmp 84) (Go.Operand.tmp 86) (Go.Operand.const (Go.Value.bool false)), type := 4, pos := "outright.go:302", after := #[{ on := 2, ground := Go.Ground.data }, { on := 4, ground := Go.Ground.data }], guard := none } : Oper)) (v := ?_) rfl (by kernel_rfl) (by kernel_rfl) (by kernel_rfl) (fun _ _ _ h => h) (Or.inl ⟨by rfl, ?_⟩) ?_
                rotate_left
                · intro _; go_simp; (try with_reducible rfl)
                simp only [Act.put, List.setIfInBounds_toArray, List.set_cons_zero, List.set_cons_succ]
                refine wpAny_take (i := 6) (oi := ({ dst := some 88, op := Go.Op.move (Go.Operand.tmp 87), type := 4, pos := "outright.go:302", after := #[{ on := 5, ground := Go.Ground.data }, { on := 2, ground := Go.Ground.chain }], guard := none } : Oper)) (v := ?_) rfl (by kernel_rfl) (by kernel_rfl) (by kernel_rfl) (fun _ _ _ h => h) (Or.inl ⟨by rfl, ?_⟩) ?_
                rotate_left
                · intro _; go_simp; (try with_reducible rfl)
                simp only [Act.put, List.setIfInBounds_toArray, List.set_cons_zero, List.set_cons_succ]
                refine wpAny_take (i := 7) (oi := ({ dst := some 89, op := Go.Op.move (Go.Operand.tmp 10), type := 30, pos := "outright.go:302", after := #[{ on := 6, ground := Go.Ground.guard }], guard := some (6, false) } : Oper)) (v := ?_) rfl (by kernel_rfl) (by kernel_rfl) (by kernel_rfl) (fun _ _ _ h => h) (Or.inl ⟨by rfl, ?_⟩) ?_
                rotate_left
                · intro _; go_simp; (try with_reducible rfl)
                simp only [Act.put, List.setIfInBounds_toArray, List.set_cons_zero, List.set_cons_succ]
                refine wpAny_take (i := 8) (oi := ({ dst := some 90, op := Go.Op.move (Go.Operand.tmp 7), type := 30, pos := "outright.go:302", after := #[{ on := 6, ground := Go.Ground.guard }], guard := some (6, false) } : Oper)) (v := ?_) rfl (by kernel_rfl) (by kernel_rfl) (by kernel_rfl) (fun _ _ _ h => h) (Or.inl ⟨by rfl, ?_⟩) ?_
                rotate_left
                · intro _; go_simp; (try with_reducible rfl)
                simp only [Act.put, List.setIfInBounds_toArray, List.set_cons_zero, List.set_cons_succ]
                refine wpAny_ready (rs := [9]) (by kernel_rfl) (by simp) ?_
                refine AllReady.cons (o := ({ dst := some 91, op := Go.Op.call { callee := Go.Callee.value (Go.Operand.func 32), args := #[Go.Operand.tmp 89, Go.Operand.tmp 90], argTypes := #[30, 30] }, type := 4, pos := "outright.go:302", after := #[{ on := 7, ground := Go.Ground.data }, { on := 8, ground := Go.Ground.data }, { on := 6, ground := Go.Ground.chain }, { on := 6, ground := Go.Ground.guard }], guard := some (6, false) } : Oper)) rfl (fun K hK => ?_) AllReady.nil
                go_simp
                refine (HSY.out _ HD7.out.drew HX7.out.d.drew).mono ?_
                rintro e w8 ⟨rfl, hb8⟩
                have HB8 := Lib.hid (HB7.out.trans (Below.mono (B := w7.heap.size) (B' := w.heap.size) ⟨hb8.os, hb8.tape, hb8.output, hb8.size, hb8.block⟩ HB7.out.size))
                have HG8 : Hid (Below w7.heap.size w7 w8) := Lib.hid ⟨hb8.os, hb8.tape, hb8.output, hb8.size, hb8.block⟩
                clear hb8
                have r0 := (HR7.out.below HG8.out HR7.out.lt).c0
                have r1 := (HR7.out.below HG8.out HR7.out.lt).c1
                have r2 := (HR7.out.below HG8.out HR7.out.lt).c2
                have r3 := (HR7.out.below HG8.out HR7.out.lt).c3
                try dsimp only
                refine hK _ _ ?_; clear hK K
                try simp only [Act.put, List.setIfInBounds_toArray, List.set_cons_zero, List.set_cons_succ]
                refine wpAny_take (i := 10) (oi := ({ dst := some 92, op := Go.Op.unOp Go.UnOp.not 4 (Go.Operand.tmp 91), type := 4, pos := "outright.go:302", after := #[{ on := 9, ground := Go.Ground.data }, { on := 6, ground := Go.Ground.guard }], guard := some (6, false) } : Oper)) (v := ?_) rfl (by kernel_rfl) (by kernel_rfl) (by kernel_rfl) (fun _ _ _ h => h) (Or.inl ⟨by rfl, ?_⟩) ?_
                rotate_left
                · intro _; go_simp; (try with_reducible rfl)
                simp only [Act.put, List.setIfInBounds_toArray, List.set_cons_zero, List.set_cons_succ]
                refine wpAny_take (i := 11) (oi := ({ dst := some 93, op := Go.Op.pick (Go.Operand.tmp 88) (Go.Operand.const (Go.Value.bool true)) (Go.Operand.tmp 92), type := 4, pos := "outright.go:302", after := #[{ on := 6, ground := Go.Ground.data }, { on := 10, ground := Go.Ground.data }], guard := none } : Oper)) (v := ?_) rfl (by kernel_rfl) (by kernel_rfl) (by kernel_rfl) (fun _ _ _ h => h) (Or.inl ⟨by rfl, ?_⟩) ?_
                rotate_left
                · intro _; go_simp; (try with_reducible rfl)
                simp only [Act.put, List.setIfInBounds_toArray, List.set_cons_zero, List.set_cons_succ]
                refine wpAny_take (i := 12) (oi := ({ dst := some 94, op := Go.Op.move (Go.Operand.tmp 93), type := 4, pos := "outright.go:302", after := #[{ on := 11, ground := Go.Ground.data }, { on := 9, ground := Go.Ground.chain }], guard := none } : Oper)) (v := ?_) rfl (by kernel_rfl) (by kernel_rfl) (by kernel_rfl) (fun _ _ _ h => h) (Or.inl ⟨by rfl, ?_⟩) ?_
                rotate_left
                · intro _; go_simp; (try with_reducible rfl)
                simp only [Act.put, List.setIfInBounds_toArray, List.set_cons_zero, List.set_cons_succ]
                refine wpAny_take (i := 14) (oi := ({ dst := some 96, op := Go.Op.move (Go.Operand.tmp 8), type := 23, pos := "outright.go:302", after := #[{ on := 12, ground := Go.Ground.guard }], guard := some (12, false) } : Oper)) (v := ?_) rfl (by kernel_rfl) (by kernel_rfl) (by kernel_rfl) (fun _ _ _ h => h) (Or.inl ⟨by rfl, ?_⟩) ?_
                rotate_left
                · intro _; go_simp; (try with_reducible rfl)
                simp only [Act.put, List.setIfInBounds_toArray, List.set_cons_zero, List.set_cons_succ]
                refine wpAny_ready (rs := [13, 15]) (by kernel_rfl) (by simp) ?_
                refine AllReady.cons (o := ({ dst := some 95, op := Go.Op.load 40 (Go.Operand.tmp 11), type := 40, pos := "outright.go:302", after := #[{ on := 12, ground := Go.Ground.guard }], guard := some (12, false) } : Oper)) rfl (fun K hK => ?_) (AllReady.cons (o := ({ dst := some 97, op := Go.Op.call { callee := Go.Callee.value (Go.Operand.func 17), args := #[Go.Operand.tmp 96], argTypes := #[23] }, type := 40, pos := "outright.go:302", after := #[{ on := 14, ground := Go.Ground.data }, { on := 12, ground := Go.Ground.chain }, { on := 12, ground := Go.Ground.guard }], guard := some (12, false) } : Oper)) rfl (fun K hK => ?_) AllReady.nil)
                · skip
                  go_simp
                  refine hK _ _ ?_; clear hK K
                  try simp only [Act.put, List.setIfInBounds_toArray, List.set_cons_zero, List.set_cons_succ]
                  refine wpAny_ready (rs := [15]) (by kernel_rfl) (by simp) ?_
                  refine AllReady.cons (o := ({ dst := some 97, op := Go.Op.call { callee := Go.Callee.value (Go.Operand.func 17), args := #[Go.Operand.tmp 96], argTypes := #[23] }, type := 40, pos := "outright.go:302", after := #[{ on := 14, ground := Go.Ground.data }, { on := 12, ground := Go.Ground.chain }, { on := 12, ground := Go.Ground.guard }], guard := some (12, false) } : Oper)) rfl (fun K hK => ?_) AllReady.nil
                  go_simp
                  refine (HHD.out _ _ (HY7.out.below HG8.out (Nat.le_refl _))).mono ?_
                  rintro e w9 ⟨u2, rfl, ho9, hb9⟩
                  have HO9 := Lib.hid ho9
                  have HG9 := Lib.hid (below_trans' HG8.out hb9)
                  obtain ⟨ub, ucq, hu2⟩ := ho9.shape
                  rw [List.length_map, HLN.out] at hu2
                  clear ho9 hb9
                  subst hu2
                  have s0 := (HR7.out.below HG9.out HR7.out.lt).c0
                  have s1 := (HR7.out.below HG9.out HR7.out.lt).c1
                  have s2 := (HR7.out.below HG9.out HR7.out.lt).c2
                  have s3 := (HR7.out.below HG9.out HR7.out.lt).c3
                  try dsimp only
                  refine hK _ _ ?_; clear hK K
                  try simp only [Act.put, List.setIfInBounds_toArray, List.set_cons_zero, List.set_cons_succ]
                  refine wpAny_ready (rs := [16]) (by kernel_rfl) (by simp) ?_
                  refine AllReady.cons (o := ({ dst := some 98, op := Go.Op.call { callee := Go.Callee.value (Go.Operand.func 16), args := #[Go.Operand.tmp 95, Go.Operand.tmp 97], argTypes := #[40, 40] }, type := 4, pos := "outright.go:302", after := #[{ on := 13, ground := Go.Ground.data }, { on := 15, ground := Go.Ground.data }, { on := 15, ground := Go.Ground.chain }, { on := 12, ground := Go.Ground.guard }], guard := some (12, false) } : Oper)) rfl (fun K hK => ?_) AllReady.nil
                  go_simp
                  refine (HRS.out _ _ _ (HO7.out.below HG9.out (Nat.le_refl _)) HO9.out.kat).mono ?_
                  rintro e w10 ⟨rfl, hb10⟩
                  have HG10 := Lib.hid (below_trans' HG9.out hb10)
                  clear hb10
                  try dsimp only
                  refine hK _ _ ?_; clear hK K
                  try simp only [Act.put, List.setIfInBounds_toArray, List.set_cons_zero, List.set_cons_succ]
                  refine wpAny_take (i := 17) (oi := ({ dst := some 99, op := Go.Op.unOp Go.UnOp.not 4 (Go.Operand.tmp 98), type := 4, pos := "outright.go:302", after := #[{ on := 16, ground := Go.Ground.data }, { on := 12, ground := Go.Ground.guard }], guard := some (12, false) } : Oper)) (v := ?_) rfl (by kernel_rfl) (by kernel_rfl) (by kernel_rfl) (fun _ _ _ h => h) (Or.inl ⟨by rfl, ?_⟩) ?_
                  rotate_left
                  · intro _; go_simp; (try with_reducible rfl)
                  simp only [Act.put, List.setIfInBounds_toArray, List.set_cons_zero, List.set_cons_succ]
                  refine wpAny_take (i := 18) (oi := ({ dst := some 100, op := Go.Op.pick (Go.Operand.tmp 94) (Go.Operand.const (Go.Value.bool true)) (Go.Operand.tmp 99), type := 4, pos := "outright.go:302", after := #[{ on := 12, ground := Go.Ground.data }, { on := 17, ground := Go.Ground.data }], guard := none } : Oper)) (v := ?_) rfl (by kernel_rfl) (by kernel_rfl) (by kernel_rfl) (fun _ _ _ h => h) (Or.inl ⟨by rfl, ?_⟩) ?_
                  rotate_left
                  · intro _; go_simp; (try with_reducible rfl)
                  simp only [Act.put, List.setIfInBounds_toArray, List.set_cons_zero, List.set_cons_succ]
                  refine wpAny_done (by kernel_rfl) ?_ _
                  go_wp2
                  go_roundw
                  case rel => exact ⟨j + 1, d, h, n, by simp, by omega, Lib.hid (HX7.out.below HG10.out (Nat.le_refl _)), HC, Lib.hid (HB7.out.trans (HG10.out.mono HB7.out.size)), Lib.hid (by have := Hn.out; omega)⟩
                  case measure => (try simp [intOf]); (try omega)
                · skip
                  go_simp
                  refine (HHD.out _ _ (HY7.out.below HG8.out (Nat.le_refl _))).mono ?_
                  rintro e w9 ⟨u2, rfl, ho9, hb9⟩
                  have HO9 := Lib.hid ho9
                  have HG9 := Lib.hid (below_trans' HG8.out hb9)
                  obtain ⟨ub, ucq, hu2⟩ := ho9.shape
                  rw [List.length_map, HLN.out] at hu2
                  clear ho9 hb9
                  subst hu2
                  have s0 := (HR7.out.below HG9.out HR7.out.lt).c0
                  have s1 := (HR7.out.below HG9.out HR7.out.lt).c1
                  have s2 := (HR7.out.below HG9.out HR7.out.lt).c2
                  have s3 := (HR7.out.below HG9.out HR7.out.lt).c3
                  try dsimp only
                  refine hK _ _ ?_; clear hK K
                  try simp only [Act.put, List.setIfInBounds_toArray, List.set_cons_zero, List.set_cons_succ]
                  refine wpAny_ready (rs := [13]) (by kernel_rfl) (by simp) ?_
                  refine AllReady.cons (o := ({ dst := some 95, op := Go.Op.load 40 (Go.Operand.tmp 11), type := 40, pos := "outright.go:302", after := #[{ on := 12, ground := Go.Ground.guard }], guard := some (12, false) } : Oper)) rfl (fun K hK => ?_) AllReady.nil
                  go_simp
                  refine hK _ _ ?_; clear hK K
                  try simp only [Act.put, List.setIfInBounds_toArray, List.set_cons_zero, List.set_cons_succ]
                  refine wpAny_ready (rs := [16]) (by kernel_rfl) (by simp) ?_
                  refine AllReady.cons (o := ({ dst := some 98, op := Go.Op.call { callee := Go.Callee.value (Go.Operand.func 16), args := #[Go.Operand.tmp 95, Go.Operand.tmp 97], argTypes := #[40, 40] }, type := 4, pos := "outright.go:302", after := #[{ on := 13, ground := Go.Ground.data }, { on := 15, ground := Go.Ground.data }, { on := 15, ground := Go.Ground.chain }, { on := 12, ground := Go.Ground.guard }], guard := some (12, false) } : Oper)) rfl (fun K hK => ?_) AllReady.nil
                  go_simp
                  refine (HRS.out _ _ _ (HO7.out.below HG9.out (Nat.le_refl _)) HO9.out.kat).mono ?_
                  rintro e w10 ⟨rfl, hb10⟩
                  have HG10 := Lib.hid (below_trans' HG9.out hb10)
                  clear hb10
                  try dsimp only
                  refine hK _ _ ?_; clear hK K
                  try simp only [Act.put, List.setIfInBounds_toArray, List.set_cons_zero, List.set_cons_succ]
                  refine wpAny_take (i := 17) (oi := ({ dst := some 99, op := Go.Op.unOp Go.UnOp.not 4 (Go.Operand.tmp 98), type := 4, pos := "outright.go:302", after := #[{ on := 16, ground := Go.Ground.data }, { on := 12, ground := Go.Ground.guard }], guard := some (12, false) } : Oper)) (v := ?_) rfl (by kernel_rfl) (by kernel_rfl) (by kernel_rfl) (fun _ _ _ h => h) (Or.inl ⟨by rfl, ?_⟩) ?_
                  rotate_left
                  · intro _; go_simp; (try with_reducible rfl)
                  simp only [Act.put, List.setIfInBounds_toArray, List.set_cons_zero, List.set_cons_succ]
                  refine wpAny_take (i := 18) (oi := ({ dst := some 100, op := Go.Op.pick (Go.Operand.tmp 94) (Go.Operand.const (Go.Value.bool true)) (Go.Operand.tmp 99), type := 4, pos := "outright.go:302", after := #[{ on := 12, ground := Go.Ground.data }, { on := 17, ground := Go.Ground.data }], guard := none } : Oper)) (v := ?_) rfl (by kernel_rfl) (by kernel_rfl) (by kernel_rfl) (fun _ _ _ h => h) (Or.inl ⟨by rfl, ?_⟩) ?_
                  rotate_left
                  · intro _; go_simp; (try with_reducible rfl)
                  simp only [Act.put, List.setIfInBounds_toArray, List.set_cons_zero, List.set_cons_succ]
                  refine wpAny_done (by kernel_rfl) ?_ _
                  go_wp2
                  go_roundw
                  case rel => exact ⟨j + 1, d, h, n, by simp, by omega, Lib.hid (HX7.out.below HG10.out (Nat.le_refl _)), HC, Lib.hid (HB7.out.trans (HG10.out.mono HB7.out.size)), Lib.hid (by have := Hn.out; omega)⟩
                  case measure => (try simp [intOf]); (try omega)
          · try dsimp only at c1 c2 c3
            injection c3 with c3 c3b
            subst c1 c3b
            have HX7 := Lib.hid hx
            have HC7 := Lib.hid c2
            have Hn2 : Hid (0 ≤ j + 1) := Lib.hid (by omega)
            have EN : Hid (((0 : Nat) : Int) = 0) := Lib.hid rfl
            have HD7 := Lib.hid (gv_dat HD6.out hg (by have := HCB.out; omega) (by have := HCB.out; omega))
            have HB7 := Lib.hid (below_gv HB6.out hg HB6.out.size HBB.out HVVV.out)
            have HO7 := Lib.hid (HO6.out.kat.same (w' := w7) (fun g hg1 e => by have h5 := (HO6.out.lt g e).1; exact hg.block g hg1 (by have := HCB.out; omega) (by have := HCB.out; omega)))
            have HR7 : Hid (Box4 w7 w5.heap.size (.int .i64 h.gen) (.int .i64 h.base) (.int .i64 h.snap) (.slice ua LN ucp)) := Lib.hid ((hg.block w5.heap.size HW6.out (by have := HCB.out; have := HC5.out; omega) (by have := HCB.out; have := HC5.out; omega)).trans HR6.out)
            have HW7 : Hid (w5.heap.size < w7.heap.size) := Lib.hid (Nat.lt_of_lt_of_le HW6.out hg.size)
            clear hg
            clear hx HCL HLY c2
            have eG : h2.gen - h.gen = 1 := by rw [c3]; show h.gen + 1 - h.gen = 1; omega
            have eS : (h2.snap != h.snap) = true := by rw [c3]; show (z1 != h.snap) = true; rw [bne_iff_ne]; exact c4
            have eS2 : (h2.snap == h.snap) = false := by rw [c3]; show (z1 == h.snap) = false; rw [beq_eq_false_iff_ne]; exact c4
            obtain ⟨sb, hsb⟩ : ∃ sb, sameB h h2 = sb := ⟨_, rfl⟩
            have ESM := Lib.hid hsb
            clear c3 c4 hsb
            as_aux_lemma =>
              have HMY2 : Hid (mayB h2 = true) := Lib.hid (by obtain ⟨S, E, B', hs, -⟩ := HC7.out.st; exact hs.hd.may)
              have HKK2 := Lib.hid (mayB_ok HMY2.out)
              have kc1 := HKK2.out.b1
              have kc2 := HKK2.out.b2
              have kh1 := HKK2.out.g1
              have kh2 := HKK2.out.g2
              obtain ⟨LM, hLM⟩ : ∃ LM, h2.log.length = LM := ⟨_, rfl⟩
              have HLM := Lib.hid hLM
              have hLM30 : LM ≤ 30 := by rw [← hLM]; exact HKK2.out.len
              clear hLM
              obtain ⟨yv7, hyv7⟩ := HX7.out.v
              have HY7 := Lib.hid hyv7
              clear hyv7 cK cS
              go_wp2_with fail
              refine (head_any V B M h2 0 yv7 w7 HY7.out HKK2.out.ne (by have := HKK2.out.len; omega)).mono ?_
              rintro e w8 ⟨u2, rfl, ho, hb⟩
              have HO8 := Lib.hid ho
              have HB8 := Lib.hid (below_trans' HB7.out hb)
              have HX8 := Lib.hid (HX7.out.below hb (Nat.le_refl _))
              have HR8 := Lib.hid (HR7.out.below hb HR7.out.lt)
              have HP8 := Lib.hid (HO7.out.below hb (Nat.le_refl _))
              obtain ⟨ub, ucq, hu2⟩ := ho.shape
              rw [List.length_map, HLM.out] at hu2
              clear ho hb
              subst hu2
              unfold hval at *
              have HX9 := Lib.hid (HX8.out.below (below_one w8 (.cells #[.int .i64 h2.gen, .int .i64 h2.base, .int .i64 h2.snap, .slice ub LM ucq] 40)) (Nat.le_refl _))
              have HR9 := Lib.hid (HR8.out.below (below_one w8 (.cells #[.int .i64 h2.gen, .int .i64 h2.base, .int .i64 h2.snap, .slice ub LM ucq] 40)) HR8.out.lt)
              have HP9 := Lib.hid (HP8.out.below (below_one w8 (.cells #[.int .i64 h2.gen, .int .i64 h2.base, .int .i64 h2.snap, .slice ub LM ucq] 40)) (Nat.le_refl _))
              have HO9 := Lib.hid (HO8.out.alloc (.cells #[.int .i64 h2.gen, .int .i64 h2.base, .int .i64 h2.snap, .slice ub LM ucq] 40))
              have HB9 := Lib.hid (HB8.out.alloc HB8.out.size (.cells #[.int .i64 h2.gen, .int .i64 h2.base, .int .i64 h2.snap, .slice ub LM ucq] 40))
              have HS9 : Hid (Box4 (w8.alloc (.cells #[.int .i64 h2.gen, .int .i64 h2.base, .int .i64 h2.snap, .slice ub LM ucq] 40)) w8.heap.size (.int .i64 h2.gen) (.int .i64 h2.base) (.int .i64 h2.snap) (.slice ub LM ucq)) := Lib.hid (heap_alloc_new w8 _)
              have t0 := HR9.out.c0
              have t1 := HS9.out.c0
              go_wp2_with fail
              clear t0 t1
              obtain ⟨W9, hW⟩ : ∃ W9, w8.alloc (.cells #[.int .i64 h2.gen, .int .i64 h2.base, .int .i64 h2.snap, .slice ub LM ucq] 40) = W9 := ⟨_, rfl⟩
              rw [hW] at HX9 HR9 HP9 HO9 HB9 HS9 ⊢
              have r0 := fun dd os => cell_regrown HR9.out.c0 dd os
              have r1 := fun dd os => cell_regrown HR9.out.c1 dd os
              have r2 := fun dd os => cell_regrown HR9.out.c2 dd os
              have r3 := fun dd os => cell_regrown HR9.out.c3 dd os
              have s0 := fun dd os => cell_regrown HS9.out.c0 dd os
              have s1 := fun dd os => cell_regrown HS9.out.c1 dd os
              have s2 := fun dd os => cell_regrown HS9.out.c2 dd os
              have s3 := fun dd os => cell_regrown HS9.out.c3 dd os
              have kk := fun dd os => cell_regrown (HCE.out _ HB9.out).1 dd os
              obtain ⟨yv9, hyv9⟩ := HX9.out.v
              have HY9 := Lib.hid hyv9
              clear hyv9
              have F16 := Lib.hid (fun dd os => Calls.regrown_of (rsame_any h h2 _ _ _ (HP9.out.below (below_regrown W9 dd os) (Nat.le_refl _)) (HO9.out.kat.below (below_regrown W9 dd os) (Nat.le_refl _)) (by have := HKK.out.len; omega) (by have := HKK2.out.len; omega)))
              unfold hval at F16
              have F15 := Lib.hid (fun dd os => Calls.regrown_of ((since_any V B M h2 0 yv9 _ (HY9.out.below (below_regrown W9 dd os) (Nat.le_refl _))).mono fun e w' hh => ⟨hh.1, by rw [← hh.2]; exact Below.refl _ _⟩))
              have F14 := Lib.hid (fun dd os => Calls.regrown_of (count_any V B M h2 0 yv9 _ (HY9.out.below (below_regrown W9 dd os) (Nat.le_refl _)) HKK2.out.b1 HKK2.out.b2 (by have := Hn2.out; omega)))
              have F33 := Lib.hid (fun dd os => Calls.regrown_of (held_any B M d2 h2 _ _ (HX9.out.d.below (below_regrown W9 dd os) HX9.out.d.lt) HX9.out.ok HMY2.out HC7.out.emp HC7.out.hld (HO9.out.kat.below (below_regrown W9 dd os) (Nat.le_refl _))))
              unfold hval at F33
              have F34 := Lib.hid (fun dd os => Calls.regrown_of (used_any B d2 _ (HX9.out.d.below (below_regrown W9 dd os) HX9.out.d.lt) HX9.out.ok))
              have F35 := Lib.hid (fun dd os => Calls.regrown_of ((capacity_any B d2 _ (HX9.out.d.below (below_regrown W9 dd os) HX9.out.d.lt)).mono fun e w' hh => ⟨hh.1, by rw [← hh.2]; exact Below.refl _ _⟩))
              have hUC : decide ((d2.cap : Int) < (d2.used : Int)) = false := decide_eq_false (by have hh : d2.used ≤ d2.cap := HX9.out.ok.used; omega)
              rw [EN.out] at F15 F14
              rw [ESM.out] at F16
              have hUD : decide (d2.cap < d2.used) = false := decide_eq_false (by have hh : d2.used ≤ d2.cap := HX9.out.ok.used; omega)
              have eB : ((h2.base + (0 : Int)) != (h2.base + (0 : Int))) = false := by simp
              have eB2 : ((h2.base + (0 : Int)) == (h2.base + (0 : Int))) = true := by simp
              refine wp_region_quiet_below (by kernel_rfl) (by kernel_rfl) ?_
              simp only [List.append_eq, List.cons_append, List.nil_append]
              repeat (go_big_quiet_step (first | (go_at_call 16; exact F16.out _ _) | (go_at_call 15; exact F15.out _ _) | (go_at_call 14; exact F14.out _ _) | (go_at_call 33; exact F33.out _ _) | (go_at_call 34; exact F34.out _ _) | (go_at_call 35; exact F35.out _ _)))
              refine wpQuiet_nil ?_
              intro w10 hw10
              have hb10 : Below W9.heap.size W9 w10 := by obtain ⟨q, rfl⟩ := hw10; exact below_regrown _ _ _
              have HBa := Lib.hid (below_trans' HB9.out hb10)
              have HXa := Lib.hid (HX9.out.below hb10 (Nat.le_refl _))
              clear hw10 hb10 r0 r1 r2 r3 s0 s1 s2 s3 kk
              go_wp2
              go_roundw
              case rel => exact ⟨j + 1, d2, h2, 0, by simp, by omega, HXa, HC7, HBa, Lib.hid (by have := Hn2.out; omega)⟩
              case measure => (try simp [intOf]); (try omega)
      · go_wp2
        go_ret
        exact ⟨rfl, HB.out⟩
set_option maxRecDepth 100000 in
theorem lifted (os : Os) (started : os.Started) (H : Type) (enc : TypeId × Value → H) :
    ReturnsInHanded {} Tryz.checked os 6 .any (fun w args => (Rows.vaultTapesSpec.pre enc Tryz.prog Tryz.f6 [] false w args ∧ laidMetH Tryz.prog laid w) ∧ sizedMet enc Tryz.prog Tryz.f6 (OpenSpec.ofChange Rows.vaultTapesSpec) false w args)
      (Rows.vaultTapesSpec.post enc Tryz.prog Tryz.f6 false true false false) := by
  refine returnsInHanded_of_change_and (C := Tryz.checked) (X := fun w _ => laidMetH Tryz.prog laid w) (fun _ _ _ hh h => h.of_heap hh) own started (by kernel_rfl) Tryz.func6
    (ChangeSpec.witness_shaped (enc := enc) (C := Tryz.checked) (os := os) (X := fun w _ => laidMetH Tryz.prog laid w) false (World.doorLaid Tryz.prog doorSteps os) #[.int .i64 0, .int .i64 0, .slice none 0 0] 8 rfl (World.shaped_of_RefB (by kernel_rfl) (by kernel_rfl)) (by kernel_rfl) (by kernel_rfl) (by kernel_rfl) (door_met os _)) ?_
  intro W base args ds gs before hval0 hW hcnd hwt hL _
  have hval : ∀ (j : Nat) t v, Tryz.f6.params[j]? = some t → args[j]? = some v → Value.okWide Tryz.prog W .any base t v := hval0
  have hW' := hW
  obtain ⟨p, q, hA0, hV, rfl, hfz, hnd⟩ := hW
  have hA : DataW.TrodAll enc Tryz.prog W 0 (fun _ => true) true Tryz.f6.params.toList args.toList ds p := hA0
  rw [Tryz.params6] at hA hval
  obtain ⟨v0, vs0, d0, ds0, p0, q0, hargs, rfl, rfl, h0, r0⟩ := trodAll_cons hA
  obtain ⟨v1, vs1, d1, ds1, p1, q1, rfl, rfl, rfl, h1, r1⟩ := trodAll_cons r0
  obtain ⟨v2, vs2, d2, ds2, p2, q2, rfl, rfl, rfl, h2, r2⟩ := trodAll_cons r1
  obtain ⟨rfl, rfl, rfl⟩ := trodAll_nil r2
  obtain rfl : args = #[v0, v1, v2] := by cases args; simp_all
  obtain ⟨rfl, rfl⟩ := trodVars_none hV
  have k0 := h0
  have lt0 : ∀ x ∈ p0, x.block < W.heap.size := by obtain ⟨m, hm⟩ := k0; exact DataW.trod_lt m _ _ _ hm
  have k1 := h1
  have lt1 : ∀ x ∈ p1, x.block < W.heap.size := by obtain ⟨m, hm⟩ := k1; exact DataW.trod_lt m _ _ _ hm
  have k2 := h2
  have lt2 : ∀ x ∈ p2, x.block < W.heap.size := by obtain ⟨m, hm⟩ := k2; exact DataW.trod_lt m _ _ _ hm
  obtain ⟨a0, rfl, rfl, rfl, w0⟩ := open_int Tryz.underlying3 (hval 0 3 v0 rfl rfl) h0
  obtain ⟨a1, rfl, rfl, rfl, w1⟩ := open_int Tryz.underlying3 (hval 1 3 v1 rfl rfl) h1
  obtain ⟨a2, w2⟩ := open_vacts (hval 2 45 v2 rfl rfl) h2
  clear hA0 hval0
  refine (core a0 a1 v2 a2 W w0 w1 w2 (Lib.hid (of_laid hL))).mono fun e W' ⟨he, bel⟩ => ?_
  subst he
  exact ⟨_, rfl, _, _, _, [], _, [], hW', trodAll_mk1 (shut_bool Tryz.underlying4 _), (trodAll_cons_mk (Below.trod laidOut (by kernel_rfl) (of_decide_eq_true (by kernel_rfl)) k0 bel lt0) (trodAll_cons_mk (Below.trod laidOut (by kernel_rfl) (of_decide_eq_true (by kernel_rfl)) k1 bel lt1) (trodAll_cons_mk (Below.trod laidOut (by kernel_rfl) (of_decide_eq_true (by kernel_rfl)) k2 bel lt2) trodAll_mk0))), rfl, bel.frame _, fun h => by cases h⟩
theorem over : Rows.vaultTapesRow.holds Tryz.pinned (OpenSpec.ofChange Rows.vaultTapesSpec) :=
  OpenClaim.holds_of_wide 6 Tryz.f6 rfl rfl rfl rfl rfl rfl rfl ⟨rfl, rfl, rfl, rfl, rfl⟩ rfl rfl rfl rfl rfl (by kernel_rfl) Tryz.func6 (by kernel_rfl)
    (of_decide_eq_true (by kernel_rfl)) (by unfold Func.isWrapper; first | (rw [if_pos (by decide +kernel)]; kernel_rfl) | (rw [if_neg (by decide +kernel)]; exact ⟨rfl, rfl⟩))
    (fun os started H enc _ => lifted os started H enc)
theorem proved : Rows.VaultTapesCardSaid :=
  Claim7.holds_tied_plain_at .later [] [.data] true (true, "37c87dc470550fd111a986e1b62c126974cbdbcc6bcfa932071678cf252ffab1") false
    over (fun _ h => by cases h) (by kernel_rfl) (fun _ h => by cases h) vaultTapes_row_tie rfl ⟨rfl, rfl⟩ (by kernel_rfl) rfl
    (fun f fn hf hfn => by
      obtain rfl : f = 6 := Option.some.inj ((show Tryz.prog.funcNamed "baton/batonlaw10.VaultTapes" = some 6 by kernel_rfl).symm.trans hf) |>.symm
      obtain rfl : fn = Tryz.f6 := (Option.some.inj (Tryz.func6.symm.trans hfn)).symm
      exact ⟨by kernel_rfl, fun j t ht => by
        rw [Tryz.params6] at ht
        have hm : t ∈ [3, 3, 45] := by simpa using Array.mem_of_getElem? ht
        have hall : ([3, 3, 45].all fun u => !Tryz.prog.wantsStandIn u) = true := by kernel_rfl
        exact (show Tryz.prog.wantsStandIn t = false by simpa using List.all_eq_true.1 hall t hm)⟩)
    (by kernel_rfl)
end Go.Proofs.YtieemdcoomilaaaGreatDoor.vaultTapes
