/- apply: one op, done on a tree. -/
import Derived.Test.YtbfkgbickjfcjaaTl
import Derived.Test.YtbfkgbickjfcjaaTkb
import Derived.Test.YtbfkgbickjfcjaaSu
namespace Go.Proofs.Ytbfkgbickjfcjaa
set_option linter.unusedVariables false
set_option linter.unusedSimpArgs false
open Go.RowKit
set_option maxRecDepth 100000
def delE (k : ByteArray) (L : List En) : List En := L.filter (fun x => ltS x.k k) ++ L.filter (fun x => ltS k x.k)
def insE (y : En) (L : List En) : List En := L.filter (fun x => ltS x.k y.k) ++ y :: L.filter (fun x => ltS y.k x.k)
theorem pairs_del (k : ByteArray) (L : List En) : pairs (delE k L) = del ltS k (pairs L) := by
  simp [pairs, delE, del, List.filter_map, Function.comp_def]
theorem pairs_ins (y : En) (L : List En) : pairs (insE y L) = ins ltS y.k y (pairs L) := by
  simp [pairs, insE, ins, List.filter_map, Function.comp_def]
theorem delE_len (k : ByteArray) (L : List En) : (delE k L).length ≤ L.length := by
  have := del_len linS (L := pairs L) (k := k)
  rw [← pairs_del] at this
  simpa [pairs] using this
theorem insE_len (y : En) (L : List En) : (insE y L).length ≤ L.length + 1 := by
  have := ins_len linS (L := pairs L) (k := y.k) (v := y)
  rw [← pairs_ins] at this
  simpa [pairs] using this
/-- What an op puts. -/
def putO (s : St) (o : Op') : En := ⟨o.k, o.v, match getE o.k s with | some x => x.made | none => s.rev, s.rev⟩
def apS (s : St) (o : Op') : St × Bool :=
  if o.del then (if (getE o.k s).isSome then ({ s with L := delE o.k s.L }, true) else (s, false)) else ({ s with L := insE (putO s o) s.L }, true)
theorem TrIn.setE {w : World} {b : Nat} {s : St} {pe pv pe' : Option Addr} {te te' : T ByteArray En} {tv : T Int Sl} {L' : List En} (h : TrIn w b s pe pv te tv) (he : SAt w pe' te') (hf : te'.flat = pairs L') (hs : Srt ltS (pairs L')) :
    TrIn (w.setCell ⟨b, 0, none⟩ (.pointer pe')) b { s with L := L' } pe' pv te' tv := by
  have hst : Stay w (w.setCell ⟨b, 0, none⟩ (.pointer pe')) := Stay.grown (grown_setC w b 0 _) fun q e o ho hi => by
    cases e
    rw [h.blk] at ho
    cases ho
    rcases hi with hi | hi | hi <;> cases hi
  refine ⟨?_, he.stay hst, hf, h.v.stay hst, h.vf.stay hst, hs, h.sv⟩
  have := heap_setCell_same w b 0 _ _ (.pointer pe') h.blk
  simpa using this
def ApR (P : Nat → Prop) (w : World) (b : Nat) (r : St × Bool) (e : Ending) (w' : World) : Prop := e = .returned (.bool r.2) ∧ TrP P w' b r.1 ∧ w.grownBy w' (some b)
theorem grown_mono {w w' : World} {r : Option Nat} (h : Below w.heap.size w w') : w.grownBy w' r := grown_below h r
set_option maxHeartbeats 4000000 in
theorem apply_any (P : Nat → Prop) (b : Nat) (s : St) (o : Op') (w : World) (h : TrP P w b s) (hL : s.L.length ≤ 150000) :
    Calls Try.prog 49 #[.pointer (some ⟨b, 0, none⟩), .agg #[.bool o.del, .string o.k, .string o.v]] w (ApR P w b (apS s o)) := by
  have hb1 : Below w.heap.size w (w.alloc (.cells #[.bool o.del, .string o.k, .string o.v] 72)) := (Below.refl _ w).alloc (Nat.le_refl _) _
  have HG := Lib.hid (get_any (some ⟨b, 0, none⟩) o.k s _ (.inl ⟨b, rfl, (h.below hb1).at⟩))
  have hlt := h.lt
  have hbx : (w.alloc (.cells #[.bool o.del, .string o.k, .string o.v] 72)).heap[w.heap.size]? = some (.cells #[.bool o.del, .string o.k, .string o.v] 72 (0, 0)) := World.alloc_heap_new _ _
  have HH := Lib.hid (h.below hb1)
  obtain ⟨w1, hw1⟩ : ∃ w1, w.alloc (.cells #[.bool o.del, .string o.k, .string o.v] 72) = w1 := ⟨_, rfl⟩
  rw [hw1] at HG hbx HH hb1
  have HBX := Lib.hid hbx
  have HB1 := Lib.hid hb1
  have hc : w1.cell? ⟨w.heap.size, 0, none⟩ = some (.bool o.del) ∧ w1.cell? ⟨w.heap.size, 1, none⟩ = some (.string o.k) ∧ w1.cell? ⟨w.heap.size, 2, none⟩ = some (.string o.v) := by
    refine ⟨?_, ?_, ?_⟩ <;> simp [World.cell?, hbx]
  obtain ⟨c0, c1, c2⟩ := hc
  have HLT := Lib.hid hlt
  have HL := Lib.hid hL
  clear h hbx hb1 hlt hL
  obtain ⟨r, hr⟩ : ∃ r, getE o.k s = r := ⟨_, rfl⟩
  have HR := Lib.hid hr
  rw [hr] at HG
  obtain ⟨B1, hB1⟩ : ∃ n, w.heap.size = n := ⟨_, rfl⟩
  have HB1n := Lib.hid hB1
  rw [hB1] at c0 c1 c2 HBX
  clear hr
  go_enter Try.func49, Try.ntmps49
  go_wp2_with fail
  refine HG.out.mono ?_
  clear hw1 hB1
  rintro e w2 ⟨rfl, hb2⟩
  obtain ⟨x, hx⟩ : ∃ x, oE r = x := ⟨_, rfl⟩
  have HX := Lib.hid hx
  rw [hx]
  unfold agE
  have hb3 : Below w1.heap.size w1 (w2.alloc (.cells #[.string x.k, .string x.v, .int .i64 x.made, .int .i64 x.mod] 57)) := hb2.alloc hb2.size _
  have HH3 := Lib.hid (HH.out.below hb3)
  have hbx3 := (hb3.block _ (Array.getElem?_eq_some_iff.1 HBX.out).1).trans HBX.out
  have hbe3 : (w2.alloc (.cells #[.string x.k, .string x.v, .int .i64 x.made, .int .i64 x.mod] 57)).heap[w2.heap.size]? = some (.cells #[.string x.k, .string x.v, .int .i64 x.made, .int .i64 x.mod] 57 (0, 0)) := World.alloc_heap_new _ _
  have hs2 : w1.heap.size ≤ w2.heap.size := hb2.size
  obtain ⟨w3, hw3⟩ : ∃ w3, w2.alloc (.cells #[.string x.k, .string x.v, .int .i64 x.made, .int .i64 x.mod] 57) = w3 := ⟨_, rfl⟩
  rw [hw3] at hb3 HH3 hbx3 hbe3
  have HB3 := Lib.hid (HB1.out.trans (hb3.mono HB1.out.size))
  have HHlt := Lib.hid HH.out.lt
  have HS2 := Lib.hid hs2
  clear hx c0 c1 c2 hb2 HG HH HB1
  obtain ⟨pe, pv, te, tv, hT, hP⟩ := HH3.out
  have HP := Lib.hid hP
  clear hP
  have HT := Lib.hid hT
  obtain ⟨⟨t0, t1, t2, t3⟩, hfr⟩ := hT.cells
  have tf0 := hfr 0
  have b0 : w3.cell? ⟨B1, 0, none⟩ = some (.bool o.del) := by simp [World.cell?, hbx3]
  have b1 : w3.cell? ⟨B1, 1, none⟩ = some (.string o.k) := by simp [World.cell?, hbx3]
  have b2 : w3.cell? ⟨B1, 2, none⟩ = some (.string o.v) := by simp [World.cell?, hbx3]
  have e0 : w3.cell? ⟨w2.heap.size, 0, none⟩ = some (.string x.k) := by simp [World.cell?, hbe3]
  have e1 : w3.cell? ⟨w2.heap.size, 1, none⟩ = some (.string x.v) := by simp [World.cell?, hbe3]
  have e2 : w3.cell? ⟨w2.heap.size, 2, none⟩ = some (.int .i64 x.made) := by simp [World.cell?, hbe3]
  have e3 : w3.cell? ⟨w2.heap.size, 3, none⟩ = some (.int .i64 x.mod) := by simp [World.cell?, hbe3]
  have ef2 : w3.frozen? ⟨w2.heap.size, 2, none⟩ = false := by simp [World.frozen?, hbe3]
  have HBE := Lib.hid hbe3
  have HBX3 := Lib.hid hbx3
  clear hfr hT hb3 hbx3 hbe3 hs2
  cases hd : o.del with
  | true =>
    rw [hd] at b0
    cases hr2 : r with
    | none =>
      have hap : apS s o = (s, false) := by unfold apS; rw [hd, HR.out, hr2]; rfl
      have HAP := Lib.hid hap
      have HD := Lib.hid hd
      have HR2 := Lib.hid hr2
      have his : r.isSome = false := by rw [hr2]; rfl
      clear hap hd hr2 his
      go_wp2
      go_ret
      show ApR P w b (apS s o) _ _
      rw [HAP.out]
      exact ⟨rfl, HH3.out, grown_below HB3.out _⟩
    | some y =>
      have hap : apS s o = ({ s with L := delE o.k s.L }, true) := by unfold apS; rw [hd, HR.out, hr2]; rfl
      have HAP := Lib.hid hap
      rw [show (some y : Option En).isSome = true from rfl]
      have hz : te.sz ≤ 200000 := by rw [← T.flat_len, HT.out.ef, pairs, List.length_map]; have := HL.out; omega
      have HW := Lib.hid (fun W (hW : Below w3.heap.size w3 W) => swithout_any te pe o.k W (HT.out.e.below hW) (by rw [HT.out.ef]; exact HT.out.so) hz)
      clear hap hd hr2 hz
      go_wp2_with fail
      refine wp_region_tail1 (.pointer (some ⟨b, 0, none⟩)) 7 (by kernel_rfl) (by kernel_rfl) (fun _ _ _ h => h) (Or.inl ⟨by kernel_rfl, fun _ => rfl⟩) ?_
      simp only [Nat.reduceSub, List.take_succ_cons, List.take_zero, List.drop_succ_cons, List.drop_zero, Act.put, List.setIfInBounds_toArray, List.set_cons_zero, List.set_cons_succ]
      repeat still_step
      try refine wpStill_nil ?_
      change wpList _ _ _ _ _ w3.drew
      have HT4 := Lib.hid (HT.out.stay (w' := w3.drew) (Stay.below (Below.refl _ w3).drew) rfl)
      have HW4 := Lib.hid (HW.out w3.drew (Below.refl _ w3).drew)
      have HB4 := Lib.hid (HB3.out.trans (((Below.refl _ w3).drew).mono HB3.out.size))
      clear HW HT HH3
      generalize w3.drew = w4 at *
      go_wp2_with fail
      refine HW4.out.mono ?_
      rintro e w5 ⟨p5, t5, rfl, h5, f5, hb5⟩
      have HT5 := Lib.hid (HT4.out.stay (Stay.below hb5) (hb5.block _ (Array.getElem?_eq_some_iff.1 HT4.out.blk).1))
      have H5 := Lib.hid h5
      have F5 := Lib.hid f5
      have HB5 := Lib.hid (HB4.out.trans (hb5.mono HB4.out.size))
      obtain ⟨⟨u0, u1, u2, u3⟩, hfr5⟩ := HT5.out.cells
      have g0 := hfr5 0
      clear hfr5 h5 f5 hb5
      go_wp2
      go_ret
      show ApR P w b (apS s o) _ _
      rw [HAP.out]
      refine ⟨rfl, ⟨p5, pv, t5, tv, HT5.out.setE H5.out (by rw [F5.out, HT4.out.ef, pairs_del]) (by rw [pairs_del]; exact Srt.del linS HT5.out.so), HP.out⟩, grown_trans (grown_below HB5.out _) (grown_setC _ _ _ _)⟩
  | false =>
    rw [hd] at b0
    have hap : apS s o = ({ s with L := insE (putO s o) s.L }, true) := by unfold apS; rw [hd]; rfl
    have HAP := Lib.hid hap
    have hz : te.sz ≤ 200000 := by rw [← T.flat_len, HT.out.ef, pairs, List.length_map]; have := HL.out; omega
    have HW : Hid (∀ W p t, SAt W p t → t.flat = pairs s.L → Calls Try.prog 69 #[.pointer p, .string o.k, .agg #[.string o.k, .string o.v, .int .i64 (putO s o).made, .int .i64 s.rev]] W fun e w' => ∃ p' t', e = .returned (.pointer p') ∧ SAt w' p' t' ∧ t'.flat = pairs (insE (putO s o) s.L) ∧ Below W.heap.size W w') := Lib.hid fun W p t h1 h2 => by
      have hz2 : t.sz ≤ 200000 := by rw [← T.flat_len, h2, pairs, List.length_map]; have := HL.out; omega
      refine (swith_any t p o.k (putO s o) W h1 (by rw [h2]; exact HT.out.so) hz2).mono ?_
      rintro e w' ⟨p', t', he, ha, hf, hb⟩
      exact ⟨p', t', he, ha, by rw [hf, h2, pairs_ins]; rfl, hb⟩
    obtain ⟨mm, hmm⟩ : ∃ m, (putO s o).made = m := ⟨_, rfl⟩
    have hput : (∀ y, r = some y → y.made = mm) ∧ (r = none → s.rev = mm) := by
      rw [← hmm]
      unfold putO
      rw [HR.out]
      exact ⟨fun y hy => by rw [hy], fun hy => by rw [hy]⟩
    rw [hmm] at HW
    have HPUT := Lib.hid hput
    have HD := Lib.hid hd
    clear hap hd hz hmm hput
    cases hr2 : r with
    | none =>
      have hq : s.rev = mm := HPUT.out.2 hr2
      rw [show (none : Option En).isSome = false from rfl]
      have hns : ∀ o' : Obj, w3.heap[w2.heap.size]? = some o' → ¬ Imm o' := fun o' ho hi => by
        rw [HBE.out] at ho
        cases ho
        rcases hi with hi | hi | hi <;> cases hi
      have hne : b ≠ w2.heap.size := by have := HHlt.out; have := HS2.out; omega
      have hgx := grown_setC w3 w2.heap.size 2 (.int .i64 mm)
      have hTx := HT.out.stay (w' := w3.setCell ⟨w2.heap.size, 2, none⟩ (.int .i64 mm)) (Stay.grown hgx fun q e => by cases e; exact hns) (hgx.block b (Array.getElem?_eq_some_iff.1 HT.out.blk).1 (fun e => hne (Option.some.inj e)))
      have hBx : Below w.heap.size w (w3.setCell ⟨w2.heap.size, 2, none⟩ (.int .i64 mm)) := HB3.out.setCell (by show w.heap.size ≤ w2.heap.size; have := HHlt.out; have := HS2.out; have := (Array.getElem?_eq_some_iff.1 HBX.out).1; have := HB1n.out; omega) _
      have hbxx : (w3.setCell ⟨w2.heap.size, 2, none⟩ (.int .i64 mm)).heap[B1]? = some (.cells #[.bool false, .string o.k, .string o.v] 72 (0, 0)) := by
        have := hgx.block B1 (Array.getElem?_eq_some_iff.1 HBX3.out).1 (fun e => by have := Option.some.inj e; have := (Array.getElem?_eq_some_iff.1 HBX.out).1; have := HS2.out; omega)
        rw [this, HBX3.out, HD.out]
      have hbex := heap_setCell_same w3 w2.heap.size 2 _ _ (.int .i64 mm) HBE.out
      obtain ⟨wx, hwx⟩ : ∃ wx, w3.setCell ⟨w2.heap.size, 2, none⟩ (.int .i64 mm) = wx := ⟨_, rfl⟩
      rw [hwx] at hTx hBx hbxx hbex
      rw [hq] at t2
      have HTX := Lib.hid hTx
      have HBX' := Lib.hid hBx
      obtain ⟨⟨x0, x1, x2, x3⟩, hfrx⟩ := hTx.cells
      have xf := hfrx 0
      rw [hq] at x2
      have y0 : wx.cell? ⟨B1, 0, none⟩ = some (.bool false) := by simp [World.cell?, hbxx]
      have y1 : wx.cell? ⟨B1, 1, none⟩ = some (.string o.k) := by simp [World.cell?, hbxx]
      have y2 : wx.cell? ⟨B1, 2, none⟩ = some (.string o.v) := by simp [World.cell?, hbxx]
      have v2 : wx.cell? ⟨w2.heap.size, 2, none⟩ = some (.int .i64 mm) := by simp [World.cell?, hbex]
      have hq2 := hq
      have HQ := Lib.hid hq2
      rw [hq] at HW
      clear hr2 hq hq2 hns hne hgx hTx hBx hbxx hbex hfrx
      go_wp2_with fail
      clear hwx
      refine wp_region_tail1 (.pointer (some ⟨b, 0, none⟩)) 18 (by kernel_rfl) (by kernel_rfl) (fun _ _ _ h => h) (Or.inl ⟨by kernel_rfl, fun _ => rfl⟩) ?_
      simp only [Nat.reduceSub, List.take_succ_cons, List.take_zero, List.drop_succ_cons, List.drop_zero, Act.put, List.setIfInBounds_toArray, List.set_cons_zero, List.set_cons_succ]
      repeat still_step
      try refine wpStill_nil ?_
      change wpList _ _ _ _ _ wx.drew
      have HT4 := Lib.hid (HTX.out.stay (w' := wx.drew) (Stay.below (Below.refl _ wx).drew) rfl)
      have HB4 := Lib.hid (HBX'.out.trans (((Below.refl _ wx).drew).mono HBX'.out.size))
      clear HT HH3 HTX HBX'
      generalize wx.drew = w4 at *
      have HW4 := Lib.hid (HW.out w4 pe te HT4.out.e HT4.out.ef)
      go_wp2_with fail
      refine HW4.out.mono ?_
      rintro e w5 ⟨p5, t5, rfl, h5, f5, hb5⟩
      have HT5 := Lib.hid (HT4.out.stay (Stay.below hb5) (hb5.block _ (Array.getElem?_eq_some_iff.1 HT4.out.blk).1))
      have H5 := Lib.hid h5
      have F5 := Lib.hid f5
      have HB5 := Lib.hid (HB4.out.trans (hb5.mono HB4.out.size))
      obtain ⟨⟨u0, u1, u2, u3⟩, hfr5⟩ := HT5.out.cells
      have g0 := hfr5 0
      clear hfr5 h5 f5 hb5
      go_wp2
      go_ret
      show ApR P w b (apS s o) _ _
      rw [HAP.out]
      refine ⟨rfl, ⟨p5, pv, t5, tv, HT5.out.setE H5.out F5.out (by rw [pairs_ins]; exact Srt.ins linS HT5.out.so), HP.out⟩, grown_trans (grown_below HB5.out _) (grown_setC _ _ _ _)⟩
    | some y =>
      have hq : x.made = mm := by rw [← HX.out, hr2]; exact HPUT.out.1 y hr2
      rw [show (some y : Option En).isSome = true from rfl]
      rw [hq] at e2
      clear hr2 hq
      go_wp2_with fail
      refine wp_region_tail1 (.pointer (some ⟨b, 0, none⟩)) 18 (by kernel_rfl) (by kernel_rfl) (fun _ _ _ h => h) (Or.inl ⟨by kernel_rfl, fun _ => rfl⟩) ?_
      simp only [Nat.reduceSub, List.take_succ_cons, List.take_zero, List.drop_succ_cons, List.drop_zero, Act.put, List.setIfInBounds_toArray, List.set_cons_zero, List.set_cons_succ]
      repeat still_step
      try refine wpStill_nil ?_
      change wpList _ _ _ _ _ w3.drew
      have HT4 := Lib.hid (HT.out.stay (w' := w3.drew) (Stay.below (Below.refl _ w3).drew) rfl)
      have HB4 := Lib.hid (HB3.out.trans (((Below.refl _ w3).drew).mono HB3.out.size))
      clear HT HH3
      generalize w3.drew = w4 at *
      have HW4 := Lib.hid (HW.out w4 pe te HT4.out.e HT4.out.ef)
      go_wp2_with fail
      refine HW4.out.mono ?_
      rintro e w5 ⟨p5, t5, rfl, h5, f5, hb5⟩
      have HT5 := Lib.hid (HT4.out.stay (Stay.below hb5) (hb5.block _ (Array.getElem?_eq_some_iff.1 HT4.out.blk).1))
      have H5 := Lib.hid h5
      have F5 := Lib.hid f5
      have HB5 := Lib.hid (HB4.out.trans (hb5.mono HB4.out.size))
      obtain ⟨⟨u0, u1, u2, u3⟩, hfr5⟩ := HT5.out.cells
      have g0 := hfr5 0
      clear hfr5 h5 f5 hb5
      go_wp2
      go_ret
      show ApR P w b (apS s o) _ _
      rw [HAP.out]
      refine ⟨rfl, ⟨p5, pv, t5, tv, HT5.out.setE H5.out F5.out (by rw [pairs_ins]; exact Srt.ins linS HT5.out.so), HP.out⟩, grown_trans (grown_below HB5.out _) (grown_setC _ _ _ _)⟩
end Go.Proofs.Ytbfkgbickjfcjaa
