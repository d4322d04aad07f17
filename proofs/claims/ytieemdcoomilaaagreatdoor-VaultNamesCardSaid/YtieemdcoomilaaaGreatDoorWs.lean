/- goOn: the log goes on on another tape. -/
import Derived.Test.YtieemdcoomilaaaGreatDoorDx
import Derived.Test.YtieemdcoomilaaaGreatDoorWi
import Derived.Test.YtieemdcoomilaaaGreatDoorWl
import Derived.Test.YtieemdcoomilaaaGreatDoorVd
import Derived.Deep.CutRange
import Derived.Deep.RegionHeld3
set_option linter.unusedVariables false
set_option linter.unusedSimpArgs false
namespace Go.Proofs.YtieemdcoomilaaaGreatDoor
open Go Go.RowKit Go.Sort
set_option maxRecDepth 100000
/-- W is w, with new blocks. -/
class Bl (w W : World) : Prop where
  h : Below w.heap.size w W
instance Bl.rfl' (w : World) : Bl w w := ⟨Below.refl _ _⟩
instance Bl.drew (w W : World) [b : Bl w W] : Bl w W.drew := ⟨Below.drew b.h⟩
instance Bl.alloc (w W : World) (o : Obj) [b : Bl w W] : Bl w (W.alloc o) := ⟨b.h.alloc b.h.size o⟩
theorem Bl.tr {a b c : World} (h : Bl a b) (k : Below b.heap.size b c) : Bl a c := ⟨h.h.trans (k.mono h.h.size)⟩
theorem hl_new1 (w : World) (a b : Obj) : ((w.alloc a).alloc b).heap[w.heap.size + 1]? = some b := by
  have := heap_alloc_new (w.alloc a) b
  rwa [World.size_alloc] at this
theorem hl_new0 (w : World) (a b : Obj) : ((w.alloc a).alloc b).heap[w.heap.size]? = some a := (Below.heap_alloc _ _ _ (by simp)).trans (heap_alloc_new _ _)
theorem box_step {W w' : World} {b : Nat} {x y z u v v' : Value} (hx : Box4 W b x y z u) (hs : Step W w' v v') (hne : ∀ k, v.ownBlock = some k → k ≠ b) : Box4 w' b x y z u ∧ ∀ k, v'.ownBlock = some k → k ≠ b :=
  ⟨hx.kept hs.grown (fun e => hne b e.symm rfl), fun k hk => by
    rcases hs.own with e | e
    · exact hne k (e ▸ hk)
    · have := e k hk; have := hx.lt; omega⟩
theorem box_inst {w W : World} {b : Nat} {x y z u : Value} (_h : Box4 W b x y z u) (hb : w.heap.size ≤ b) (W' : World) (j : Nat) (v : Value) [i : Bl w W'] : Bl w (W'.setCell ⟨b, j, none⟩ v) := ⟨below_setD i.h hb _ _⟩
theorem sizR_le (h : He) : sizR h ≤ 1000 := by
  unfold sizR
  by_cases hm : mayB h = true
  · rw [if_pos hm]; have := enc_len (mayB_ok hm); omega
  · rw [if_neg hm]; omega
/-- What goOn does. -/
def goS (s : ByteArray) (x : VS) : VS × Nat :=
  if 1099511627776 ≤ x.2.1.gen then (x, 40) else match frL x.2.1 32 with
    | [] => (x, 44)
    | z :: _ => if roomB x.1 ((s.size + sizR (Vt.nxH x.2.1 z) : Nat) : Int) [z, (ptT x.1 : Int)] = true then runS [sySt (Vt.lz x.2.1.log), wiSt z, puSt (Vt.nxH x.2.1 z) x.2.2, wrSt z s] x else (x, 44)
theorem puSt_n (h : He) (x : VS) : (puSt h x.2.2 x).1.2.2 = x.2.2 := by
  unfold puSt; dsimp only; split <;> rfl
theorem goRun_n (a b c : Int) (h : He) (s : ByteArray) (x : VS) : (runS [sySt a, wiSt b, puSt h x.2.2, wrSt c s] x).1.2.2 = x.2.2 := by
  show (if (sySt a x).2 ≠ 0 then sySt a x else if (wiSt b (sySt a x).1).2 ≠ 0 then wiSt b (sySt a x).1 else if (puSt h x.2.2 (wiSt b (sySt a x).1).1).2 ≠ 0 then puSt h x.2.2 (wiSt b (sySt a x).1).1 else if (wrSt c s (puSt h x.2.2 (wiSt b (sySt a x).1).1).1).2 ≠ 0 then wrSt c s (puSt h x.2.2 (wiSt b (sySt a x).1).1).1 else ((wrSt c s (puSt h x.2.2 (wiSt b (sySt a x).1).1).1).1, 0)).1.2.2 = x.2.2
  have hp : (puSt h x.2.2 (wiSt b (sySt a x).1).1).1.2.2 = x.2.2 := puSt_n h (wiSt b (sySt a x).1).1
  split
  · rfl
  · split
    · rfl
    · split
      · exact hp
      · split <;> exact hp
theorem below_undrew' {w w1 : World} (h : Below w.drew.heap.size w.drew w1) : Below w.heap.size w w1 := ⟨h.os, h.tape, h.output, h.size, h.block⟩
theorem lit4 {w : World} {V B mo : Nat} {b1 b2 b3 b4 : List Nat} {c1 c2 c3 c4 : Clo} {f1 f2 f3 f4 : SF} (h1 : Stp w V B mo b1 c1 f1) (h2 : Stp w V B mo b2 c2 f2) (h3 : Stp w V B mo b3 c3 f3) (h4 : Stp w V B mo b4 c4 f4) :
    ∀ q ∈ [((c1, b1, f1) : Cq), (c2, b2, f2), (c3, b3, f3), (c4, b4, f4)], Stp w V B mo q.2.1 q.1 q.2.2 := fun q hq => by
  simp only [List.mem_cons, List.not_mem_nil, or_false] at hq
  rcases hq with rfl | rfl | rfl | rfl
  · exact h1
  · exact h2
  · exact h3
  · exact h4
theorem goS_keep {w w' : World} {V B mo b n : Nat} {x y z u : Value} {r : VS} (h : w.cell? ⟨b, 0, none⟩ = some x ∧ w.cell? ⟨b, 1, none⟩ = some y ∧ w.cell? ⟨b, 2, none⟩ = some z ∧ w.cell? ⟨b, 3, none⟩ = some u ∧ w.cell? ⟨V, 6, none⟩ = some (.int .i64 (n : Int))) (hx : VSt w' V B mo r) (hg : Gv w w' B V) (hn : r.2.2 = n) (h1 : b ≠ B) (h2 : b ≠ V) :
    w'.cell? ⟨b, 0, none⟩ = some x ∧ w'.cell? ⟨b, 1, none⟩ = some y ∧ w'.cell? ⟨b, 2, none⟩ = some z ∧ w'.cell? ⟨b, 3, none⟩ = some u ∧ w'.cell? ⟨V, 6, none⟩ = some (.int .i64 (n : Int)) := by
  obtain ⟨a, b', c, d, -⟩ := h
  obtain ⟨v, hv⟩ := hx.v
  exact ⟨hg.cell a h1 h2, hg.cell b' h1 h2, hg.cell c h1 h2, hg.cell d h1 h2, by have := hv.n; rw [hn] at this; exact this⟩
abbrev Z40 : Obj := .cells #[.int .i64 0, .int .i64 0, .int .i64 0, .slice none 0 0] 40
set_option maxHeartbeats 2000000 in
theorem goOn_any (V B mo : Nat) (x : VS) (s : ByteArray) (w : World) (hs : s.size ≤ 1000000) (hx : VSt w V B mo x) (hm : mayB x.2.1 = true) : Calls Tryz.prog 95 #[.pointer (some ⟨V, 0, none⟩), .string s] w (StD w V B mo (goS s x)) := by
  obtain ⟨v, hv⟩ := hx.v
  have kk := mayB_ok hm
  have hm0 := hm
  obtain ⟨va, vc, hva⟩ := hv.k.slice
  obtain ⟨L0, hL0⟩ : ∃ L0, x.2.1.log.length = L0 := ⟨_, rfl⟩
  rw [hL0] at hva
  have hL30 : L0 ≤ 30 := by rw [← hL0]; exact kk.len
  have con := hv.on; have b2 := hv.g; have b3 := hv.b; have b4 := hv.s; have b5 := hv.l; have b6 := hv.n
  rw [hva] at b5
  have HF := Lib.hid (free_any x.2.1 v w hv.k hv.len)
  have HF2 : Hid (Calls Tryz.prog 58 #[.agg #[.int .i64 x.2.1.gen, .int .i64 x.2.1.base, .int .i64 x.2.1.snap, .slice va L0 vc]] w (NRet w (frL x.2.1 32))) := Lib.hid (by have := HF.out; unfold hval at this; rw [hva] at this; exact this)
  have HK := Lib.hid (show KAt w (.slice va L0 vc) x.2.1.log by rw [← hva]; exact hv.k)
  have HX := Lib.hid hx
  have HV := Lib.hid hv
  have HNE := Lib.hid kk.ne
  have HL0 := Lib.hid hL0
  have hVl := hx.lt
  have hBl := hx.d.lt
  have hg1 := kk.g1; have hg2 := kk.g2
  clear hv hva hL0 HF hx hm kk
  by_cases hgen : x.2.1.gen ≥ 1099511627776
  · have hgd : decide (1099511627776 ≤ x.2.1.gen) = true := decide_eq_true hgen
    have hgd2 : decide (x.2.1.gen ≥ 1099511627776) = true := decide_eq_true hgen
    go_enter Tryz.func95, Tryz.ntmps95
    go_wp2
    go_ret
    have e1 : goS s x = (x, 40) := by unfold goS; rw [if_pos (show (1099511627776 : Int) ≤ x.2.1.gen from hgen)]
    rw [e1]
    exact ⟨rfl, HX.out, Gv.refl _ _ _⟩
  · have hgd : decide (1099511627776 ≤ x.2.1.gen) = false := decide_eq_false hgen
    have hgd2 : decide (x.2.1.gen ≥ 1099511627776) = false := decide_eq_false hgen
    cases hfr : frL x.2.1 32 with
    | nil =>
      rw [hfr] at HF2
      go_enter Tryz.func95, Tryz.ntmps95
      go_wp2_with fail
      refine HF2.out.mono ?_
      rintro e w1 ⟨u, rfl, hu, hb1⟩
      obtain ⟨ua, uc, hu2⟩ := hu.shape
      subst hu2
      have HB1 := Lib.hid hb1
      clear hu hb1
      go_wp2
      go_ret
      have e1 : goS s x = (x, 44) := by unfold goS; rw [if_neg (show ¬ (1099511627776 : Int) ≤ x.2.1.gen by omega), hfr]
      rw [e1]
      exact ⟨rfl, HX.out.below HB1.out (Nat.le_refl _), Gv.of_below HB1.out _ _⟩
    | cons z zs =>
      have HGS : Hid (goS s x = if roomB x.1 ((s.size + sizR (Vt.nxH x.2.1 z) : Nat) : Int) [z, (ptT x.1 : Int)] = true then runS [sySt (Vt.lz x.2.1.log), wiSt z, puSt (Vt.nxH x.2.1 z) x.2.2, wrSt z s] x else (x, 44)) := Lib.hid (by unfold goS; rw [if_neg (show ¬ (1099511627776 : Int) ≤ x.2.1.gen by omega), hfr])
      have HM0 := Lib.hid hm0
      rw [hfr] at HF2
      go_enter Tryz.func95, Tryz.ntmps95
      go_wp2_with fail
      refine HF2.out.mono ?_
      rintro e w1 ⟨u, rfl, hu, hb1⟩
      obtain ⟨ua, uc, hu2⟩ := hu.shape
      have hk1 := hu.kat'
      have HB1 := Lib.hid hb1
      have hsz : ((z :: zs).map iv).length = zs.length + 1 := by simp
      rw [hsz] at hu2
      obtain ⟨M, hM⟩ : ∃ M, zs.length = M := ⟨_, rfl⟩
      have HM := Lib.hid hM
      rw [hM] at hu2
      subst hu2
      have hk2 := hk1
      obtain ⟨G, o, c, hg, -⟩ := hk1.pos (by simp)
      injection hg with q1 q2 q3
      subst q1
      have z0 := hk2.at 0 (by simp)
      simp only [Nat.add_zero, List.getElem_cons_zero] at z0
      have hMl : M < 9223372036854775807 := by have := frL_len x.2.1 32; rw [hfr] at this; simp at this; omega
      clear hu hb1 hk1 hk2 hsz hM q2 q3
      have hb1 := HB1.out
      have HSS : Hid (∀ W [Bl w1 W], W.cell? ⟨V, 2, none⟩ = some (.int .i64 x.2.1.gen) ∧ W.cell? ⟨V, 3, none⟩ = some (.int .i64 x.2.1.base) ∧ W.cell? ⟨V, 4, none⟩ = some (.int .i64 x.2.1.snap) ∧ W.cell? ⟨V, 5, none⟩ = some (.slice va L0 vc)) := Lib.hid fun W i => by
        have hb := hb1.trans (i.h.mono hb1.size)
        exact ⟨(hb.cell hVl).trans b2, (hb.cell hVl).trans b3, (hb.cell hVl).trans b4, (hb.cell hVl).trans b5⟩
      have HCL : Hid (∀ W [Bl w1 W], Calls Tryz.prog 65 #[.slice va L0 vc] W (NRet W x.2.1.log)) := Lib.hid fun W i => clone_any x.2.1.log _ W (HK.out.below (hb1.trans (i.h.mono hb1.size)) (Nat.le_refl _)) HNE.out (by rw [HL0.out]; omega)
      have HLM : Hid ((x.2.1.log.map iv).length ≤ 30) := Lib.hid (by rw [List.length_map, HL0.out]; omega)
      obtain ⟨i0, hi, hz0, hz1, hz2⟩ := info_parts Tryz.info3
      have hwr : IntKind.i64.wrap (x.2.1.gen + 1) = x.2.1.gen + 1 := by rw [Bt.wrap_i64]; omega
      clear hb1 b2 b3 b4 b5
      go_upto_region 7 with fail
      go_cut [7] from 25 to 50 (fun y wx => ∃ b7 u, y = .pointer (some ⟨b7, 0, none⟩) ∧ Hid (Box4 wx b7 (.int .i64 (x.2.1.gen + 1)) (.int .i64 x.2.1.base) (.int .i64 x.2.1.snap) u ∧ w1.heap.size ≤ b7 ∧ Below w1.heap.size w1 wx ∧ Own wx w1.heap.size u ((x.2.1.log ++ [z]).map iv)))
      case first =>
        go_region_held3 (fun w' => w'.cell? ⟨V, 2, none⟩ = some (.int .i64 x.2.1.gen) ∧ w'.cell? ⟨V, 3, none⟩ = some (.int .i64 x.2.1.base) ∧ w'.cell? ⟨V, 4, none⟩ = some (.int .i64 x.2.1.snap) ∧ w'.cell? ⟨V, 5, none⟩ = some (.slice va L0 vc)) (first | exact HSS.out _ | fail) (first
          | (go_at_call 65; refine (HCL.out _).mono ?_; rintro e w46 ⟨u, rfl, hu, hb⟩; have i46 : Bl w1 w46 := Bl.tr inferInstance hb; (first
            | (have hq : Below (w1.alloc Z40).heap.size (w1.alloc Z40) w46 := ⟨hb.os, hb.tape, hb.output, hb.size, hb.block⟩; have XB := Lib.hid ((Box4.new w1 (.int .i64 0) (.int .i64 0) (.int .i64 0) (.slice none 0 0)).below hq (Box4.new w1 (.int .i64 0) (.int .i64 0) (.int .i64 0) (.slice none 0 0)).lt); clear hq)
            | (have hq : Below ((w1.alloc Z40).alloc (.cells #[.int .i64 z] 3)).heap.size ((w1.alloc Z40).alloc (.cells #[.int .i64 z] 3)) w46 := ⟨hb.os, hb.tape, hb.output, hb.size, hb.block⟩; have XB := Lib.hid (((Box4.new w1 (.int .i64 0) (.int .i64 0) (.int .i64 0) (.slice none 0 0)).alloc (.cells #[.int .i64 z] 3)).below hq ((Box4.new w1 (.int .i64 0) (.int .i64 0) (.int .i64 0) (.slice none 0 0)).alloc (.cells #[.int .i64 z] 3)).lt); have XS := Lib.hid (one_cell (t := 3) ((hq.block (w1.heap.size + 1) (by simp)).trans (hl_new1 w1 Z40 (.cells #[.int .i64 z] 3)))); clear hq)
            | (have hq : Below ((w1.alloc (.cells #[.int .i64 z] 3)).alloc Z40).heap.size ((w1.alloc (.cells #[.int .i64 z] 3)).alloc Z40) w46 := ⟨hb.os, hb.tape, hb.output, hb.size, hb.block⟩; have XB : Hid (Box4 w46 (w1.heap.size + 1) (.int .i64 0) (.int .i64 0) (.int .i64 0) (.slice none 0 0)) := Lib.hid ((hq.block (w1.heap.size + 1) (by simp)).trans (hl_new1 w1 (.cells #[.int .i64 z] 3) Z40)); have XS := Lib.hid (one_cell (t := 3) ((hq.block w1.heap.size (by simp; omega)).trans (hl_new0 w1 (.cells #[.int .i64 z] 3) Z40))); clear hq)
            | (have hq : Below (w1.alloc (.cells #[.int .i64 z] 3)).heap.size (w1.alloc (.cells #[.int .i64 z] 3)) w46 := ⟨hb.os, hb.tape, hb.output, hb.size, hb.block⟩; have XS := Lib.hid (one_cell (t := 3) ((hq.block w1.heap.size (by simp)).trans (heap_alloc_new w1 (.cells #[.int .i64 z] 3)))); clear hq)
            | skip); obtain ⟨ua, uc2, hu2⟩ := hu.shape; rw [List.length_map, HL0.out] at hu2; subst hu2; have HU : Hid (∀ W [Bl w46 W], Own W w1.heap.size (.slice ua L0 uc2) (x.2.1.log.map iv)) := Lib.hid fun W i => (hu.belowAll i.h).mono (Bl.h (w := w1)).size; have HUK := Lib.hid (fun k hk => (hu.lt k hk)); have HU1 := Lib.hid (fun k hk => ((HU.out w46).lt k hk).1); clear hu hb)
          | (refine step_append_Own rfl (.tmp 46) (.tmp 48) 38 38 rfl w1.heap.size 3 i0 (.int .i64 0) 8 Tryz.underlying38 hi hz0 hz1 hz2 rfl _ (x.2.1.log.map iv) rfl ?_ _ 1 [iv z] rfl ?_ ?_ ?_ ?_ ?_; exact HU.out _; (first | exact src_at (u := iv z) Tryz.underlying38 (((Bl.h (w := w46)).cell (World.block_lt_of_cell? w46 _ XS.out)).trans XS.out) rfl | exact src_at (u := iv z) Tryz.underlying38 (one_cell (t := 3) (heap_alloc_new w46 _)) rfl | exact src_at (u := iv z) Tryz.underlying38 (one_cell (t := 3) (hl_new1 w46 _ _)) rfl | exact src_at (u := iv z) Tryz.underlying38 (one_cell (t := 3) (hl_new0 w46 _ _)) rfl); (have hq := HLM.out; omega); (have hq := HLM.out; omega); exact (Bl.h (w := w1)).size; intro v' w49 ho hs; have HO2 := Lib.hid ho; have i49 : Bl w1 w49 := ⟨(inferInstance : Bl w1 _).h.grown hs.grown (Bl.h (w := w1)).size HU1.out⟩; (first
            | (have XW := Lib.hid (box_step (XB.out.below (Bl.h (w := w46)) XB.out.lt) hs (fun k hk => by have h1 := (HUK.out k hk).1; simp at h1; omega)))
            | (have XW := Lib.hid (box_step ((Box4.new w46 (.int .i64 0) (.int .i64 0) (.int .i64 0) (.slice none 0 0)).alloc (.cells #[.int .i64 z] 3)) hs (fun k hk => by have h1 := (HUK.out k hk).2; omega)))
            | (have XW := Lib.hid (box_step (show Box4 ((w46.alloc (.cells #[.int .i64 z] 3)).alloc Z40) (w46.heap.size + 1) (.int .i64 0) (.int .i64 0) (.int .i64 0) (.slice none 0 0) from hl_new1 w46 _ _) hs (fun k hk => by have h1 := (HUK.out k hk).2; omega)))
            | (have XW := Lib.hid (box_step (Box4.new w46 (.int .i64 0) (.int .i64 0) (.int .i64 0) (.slice none 0 0)) hs (fun k hk => by have h1 := (HUK.out k hk).2; omega)))
            | skip); (first | (have hq46 := i46.h.size; have iS := fun W' j v [Bl w1 W'] => box_inst (w := w1) XW.out.1 (by omega) W' j v; clear hq46; have y0 := XW.out.1.c0; have y1 := XW.out.1.c1; have y2 := XW.out.1.c2; have y3 := XW.out.1.c3; have f0 := XW.out.1.free 0; have f1 := XW.out.1.free 1; have f2 := XW.out.1.free 2; have f3 := XW.out.1.free 3) | skip); obtain ⟨va3, vc3, hv3⟩ := ho.shape; rw [List.length_append, List.length_map, HL0.out] at hv3; subst hv3; clear ho hs)
          | fail)
        all_goals (go_wp2_with fail; go_meet)
        all_goals (have hle := i46.h.size)
        all_goals (have ho3 : Own w49 w1.heap.size (.slice va3 (L0 + 1) vc3) ((x.2.1.log ++ [z]).map iv) := by rw [List.map_append]; exact HO2.out)
        all_goals first
          | (have qq := XW.out; clear qq; exact ⟨_, _, rfl, Lib.hid ⟨XW.out.1.setAll _ _ _ _, by omega, below_set4 i49.h (by omega) _ _ _ _, ho3.kept (grown_set4 w49 _ _ _ _ _) (Or.inr (fun e => XW.out.2 _ e rfl))⟩⟩)
          | exact ⟨w49.heap.size, _, rfl, Lib.hid ⟨Box4.new w49 _ _ _ _, i49.h.size, i49.h.alloc i49.h.size _, ho3.alloc _⟩⟩
      case rest =>
        obtain ⟨b7, u7, rfl, h7⟩ := hcut
        obtain ⟨x7, l7, bl7, o7⟩ := h7.out
        obtain ⟨u7a, u7c, hu7⟩ := o7.shape
        have hk7 := o7.kat'
        rw [List.length_map, List.length_append, HL0.out] at hu7
        simp only [List.length_cons, List.length_nil, Nat.zero_add] at hu7
        subst hu7
        have hbc : Below w.heap.size w wc := HB1.out.trans (bl7.mono HB1.out.size)
        have HBC := Lib.hid hbc
        have hxc := HX.out.below hbc (Nat.le_refl _)
        have hvc := HV.out.below hbc (Nat.le_refl _)
        have hoz : zs.length = M := HM.out
        have hszn := sizR_le (Vt.nxH x.2.1 z)
        obtain ⟨SZ, hSZ⟩ : ∃ SZ, sizR (Vt.nxH x.2.1 z) = SZ := ⟨_, rfl⟩
        have HSZE := Lib.hid hSZ
        have hsz0 := (hsize_any (Vt.nxH x.2.1 z) (.slice u7a (L0 + 1) u7c) wc hk7 (by show (x.2.1.log ++ [z]).length ≤ _; rw [List.length_append, HL0.out]; simp; omega) (Lib.hid hxc.t))
        rw [hSZ] at hsz0 hszn
        unfold hval Vt.nxH at hsz0
        dsimp only at hsz0
        have HSZ := Lib.hid hsz0
        have HSP := Lib.hid (fun W (hW : Below wc.heap.size wc W) => spare_any V B mo x.2.1 x.2.2 v x.1 W (hvc.below hW (Nat.le_refl _)) (hxc.d.below hW hxc.d.lt) hxc.ok (Lib.hid (hxc.t.below hW)))
        have HRM := Lib.hid (fun u W (hW : Below wc.heap.size wc W) (hk : KAt W u [z, (ptT x.1 : Int)]) => room_any V B mo x.2.1 x.2.2 v x.1 (s.size + SZ) [z, (ptT x.1 : Int)] u W (hvc.below hW (Nat.le_refl _)) (hxc.d.below hW hxc.d.lt) hxc.ok (by omega) hk (by simp))
        have q0 := x7.c0; have q1 := x7.c1; have q2 := x7.c2; have q3 := x7.c3
        have X7 := Lib.hid x7
        have K7 := Lib.hid hk7
        have O7 := Lib.hid o7
        have L7 := Lib.hid l7
        have hw1c := bl7.size
        clear h7 x7 bl7 o7 hk7 hbc hxc hvc hoz hsz0 hSZ
        rw [HSZE.out] at HGS
        have HNX : Hid (Vt.nxH x.2.1 z = ⟨x.2.1.gen + 1, x.2.1.base, x.2.1.snap, x.2.1.log ++ [z]⟩) := Lib.hid rfl
        go_wp2_with fail
        refine HSZ.out.mono ?_
        rintro e w2 ⟨rfl, hb2⟩
        have HB2 := Lib.hid hb2
        clear hb2
        go_wp2_with fail
        refine (HSP.out w2 HB2.out).mono ?_
        rintro e w3 ⟨rfl, hb3⟩
        have HB3 := Lib.hid (below_trans' HB2.out hb3)
        clear hb3
        have hsum : IntKind.i64.wrap ((s.size : Int) + (SZ : Int)) = (s.size : Int) + (SZ : Int) := by rw [Bt.wrap_i64]; omega
        have HKR : Hid (KAt (w3.alloc (.cells #[.int .i64 z, .int .i64 (ptT x.1 : Int)] 3)) (.slice (some ⟨w3.heap.size, 0, none⟩) 2 2) [z, (ptT x.1 : Int)]) := Lib.hid (.inr ⟨w3.heap.size, 0, 2, rfl, Nat.le_refl _, fun j hj => by
          rw [Nat.zero_add, World.cell?_alloc_mark]
          match j, hj with
          | 0, _ => rfl
          | 1, _ => rfl⟩)
        have HB4 := Lib.hid (HB3.out.alloc HB3.out.size (.cells #[.int .i64 z, .int .i64 (ptT x.1 : Int)] 3))
        have HR4 := HRM.out _ _ HB4.out HKR.out
        rw [show ((s.size + SZ : Nat) : Int) = (s.size : Int) + (SZ : Int) by omega] at HR4
        have HR5 := Lib.hid HR4
        clear HR4 HKR HRM
        rw [show ((s.size + SZ : Nat) : Int) = (s.size : Int) + (SZ : Int) by omega] at HGS
        cases hrm : roomB x.1 ((s.size : Int) + (SZ : Int)) [z, (ptT x.1 : Int)]
        · rw [hrm] at HR5 HGS
          rw [if_neg (by simp)] at HGS
          clear hrm
          go_wp2_with fail
          refine HR5.out.mono ?_
          rintro e w5 ⟨rfl, hb5⟩
          have HB5 := Lib.hid (below_trans' HB4.out hb5)
          clear hb5
          go_wp2
          go_ret
          have hb := HBC.out.trans (HB5.out.mono HBC.out.size)
          rw [HGS.out]
          exact ⟨rfl, HX.out.below hb (Nat.le_refl _), Gv.of_below hb _ _⟩
        · rw [hrm] at HR5 HGS
          rw [if_pos rfl] at HGS
          clear hrm
          have HLA := Lib.hid (fun W (hW : Below w.heap.size w W) => last_any V B mo x.2.1 x.2.2 v W (HV.out.below hW (Nat.le_refl _)) HNE.out)
          have HS1 := Lib.hid (fun t W (hW : Below w.heap.size w W) => toSync_any V B mo t W (Nat.lt_of_lt_of_le hBl hW.size) (Nat.lt_of_lt_of_le hVl hW.size))
          have HS2 := Lib.hid (fun t W (hW : Below w.heap.size w W) => toWipe_any V B mo t W (Nat.lt_of_lt_of_le hBl hW.size) (Nat.lt_of_lt_of_le hVl hW.size))
          have HS4 := Lib.hid (fun t W (hW : Below w.heap.size w W) => toWrite_any V B mo t s (by omega) W (Nat.lt_of_lt_of_le hBl hW.size) (Nat.lt_of_lt_of_le hVl hW.size))
          have HS3 := Lib.hid (fun W (hW : Below wc.heap.size wc W) => toPut_any V B mo (Vt.nxH x.2.1 z) x.2.2 (.slice u7a (L0 + 1) u7c) W (Nat.lt_of_lt_of_le hBl (HBC.out.trans (hW.mono HBC.out.size)).size) (Nat.lt_of_lt_of_le hVl (HBC.out.trans (hW.mono HBC.out.size)).size) (K7.out.below hW (Nat.le_refl _)) (by show x.2.1.log ++ [z] ≠ []; simp) (by show (x.2.1.log ++ [z]).length ≤ _; rw [List.length_append, HL0.out]; simp; omega) (fun q hq => by have := (O7.out.lt q hq).1; have := HB1.out.size; omega))
          unfold hval Vt.nxH at HS3
          dsimp only at HS3
          go_wp2_with fail
          refine HR5.out.mono ?_
          rintro e w5 ⟨rfl, hb5⟩
          have HB5 := Lib.hid (below_trans' HB4.out hb5)
          clear hb5
          have HSS2 : Hid (∀ W, Below w5.heap.size w5 W → W.cell? ⟨b7, 0, none⟩ = some (.int .i64 (x.2.1.gen + 1)) ∧ W.cell? ⟨b7, 1, none⟩ = some (.int .i64 x.2.1.base) ∧ W.cell? ⟨b7, 2, none⟩ = some (.int .i64 x.2.1.snap) ∧ W.cell? ⟨b7, 3, none⟩ = some (.slice u7a (L0 + 1) u7c) ∧ W.cell? ⟨V, 6, none⟩ = some (.int .i64 (x.2.2 : Int))) := Lib.hid fun W hW => by
            have hb := HB5.out.trans (hW.mono HB5.out.size)
            have X := X7.out.below hb X7.out.lt
            exact ⟨X.c0, X.c1, X.c2, X.c3, ((HBC.out.trans (hb.mono HBC.out.size)).cell hVl).trans b6⟩
          have hw5 : Below w.heap.size w w5 := HBC.out.trans (HB5.out.mono HBC.out.size)
          have HW5 := Lib.hid hw5
          clear q0 q1 q2 q3 hw5
          go_wp2_with fail
          go_region_held3 (fun w' => w'.cell? ⟨b7, 0, none⟩ = some (.int .i64 (x.2.1.gen + 1)) ∧ w'.cell? ⟨b7, 1, none⟩ = some (.int .i64 x.2.1.base) ∧ w'.cell? ⟨b7, 2, none⟩ = some (.int .i64 x.2.1.snap) ∧ w'.cell? ⟨b7, 3, none⟩ = some (.slice u7a (L0 + 1) u7c) ∧ w'.cell? ⟨V, 6, none⟩ = some (.int .i64 (x.2.2 : Int))) (first | exact kS | exact HSS2.out _ (kE.alloc kE.size _) | exact HSS2.out _ kE | exact HSS2.out _ kD | exact HSS2.out _ kC | exact HSS2.out _ kB | exact HSS2.out _ kA | exact HSS2.out _ (Below.drew (Below.refl _ _)) | fail) (first
            | (have hx := kD; clear hx; go_at_call 63; refine (HS4.out z wD (HW5.out.trans (kD.mono HW5.out.size))).mono ?_; rintro e wE ⟨c4, bs4, rfl, hst4, -, hb6⟩; obtain ⟨F4, fi4, ca4⟩ := c4; unfold Clo.v; have kE : Below w5.heap.size w5 wE := kD.trans (hb6.mono kD.size); have ST1 := Lib.hid (ST1.out.below hb6); have ST2 := Lib.hid (ST2.out.below hb6); have ST3 := Lib.hid (ST3.out.below hb6); have HQ := Lib.hid (Sts.lit (w := wE) (V := V) (B := B) (mo := mo) (base := w.heap.size) (A := #[.func (.func F1) fi1 ca1, .func (.func F2) fi2 ca2, .func (.func F3) fi3 ca3, .func (.func F4) fi4 ca4]) (n := 4) (fs := [sySt (Vt.lz x.2.1.log), wiSt z, puSt (Vt.nxH x.2.1 z) x.2.2, wrSt z s]) [(⟨F1, fi1, ca1⟩, bs1, sySt (Vt.lz x.2.1.log)), (⟨F2, fi2, ca2⟩, bs2, wiSt z), (⟨F3, fi3, ca3⟩, bs3, puSt (Vt.nxH x.2.1 z) x.2.2), (⟨F4, fi4, ca4⟩, bs4, wrSt z s)] (HW5.out.trans (kE.mono HW5.out.size)).size (by simp) (lit4 ST1.out ST2.out ST3.out hst4) rfl rfl rfl); clear hst4 hb6)
            | (have hx := kE; clear hx; go_at_call 41; refine (turn_sts (HX.out.below ((HW5.out.trans (kE.mono HW5.out.size)).alloc (HW5.out.trans (kE.mono HW5.out.size)).size _) (Nat.le_refl _)) HQ.out hBl hVl).mono ?_; rintro e wF ⟨rfl, hxF, hgF⟩; have kS := goS_keep (HSS2.out _ (kE.alloc kE.size _)) hxF hgF (goRun_n _ _ _ _ _ _) (show b7 ≠ B by have := L7.out; have := HB1.out.size; omega) (show b7 ≠ V by have := L7.out; have := HB1.out.size; omega); have HXF := Lib.hid hxF; have HGF := Lib.hid hgF; clear hxF hgF)
            | (have hx := kC; clear hx; go_at_call 64; refine (HS3.out wC (HB5.out.trans (kC.mono HB5.out.size))).mono ?_; rintro e wD ⟨c3, bs3, rfl, hst3, hb6⟩; obtain ⟨F3, fi3, ca3⟩ := c3; unfold Clo.v; have kD : Below w5.heap.size w5 wD := kC.trans (hb6.mono kC.size); have ST1 := Lib.hid (ST1.out.below hb6); have ST2 := Lib.hid (ST2.out.below hb6); have ST3 := Lib.hid hst3; clear hst3 hb6)
            | (have hx := kB; clear hx; go_at_call 62; refine (HS2.out z wB (HW5.out.trans (kB.mono HW5.out.size))).mono ?_; rintro e wC ⟨c2, bs2, rfl, hst2, -, hb6⟩; obtain ⟨F2, fi2, ca2⟩ := c2; unfold Clo.v; have kC : Below w5.heap.size w5 wC := kB.trans (hb6.mono kB.size); have ST1 := Lib.hid (ST1.out.below hb6); have ST2 := Lib.hid hst2; clear hst2 hb6)
            | (have hx := kA; clear hx; go_at_call 56; refine (HS1.out _ wA (HW5.out.trans (kA.mono HW5.out.size))).mono ?_; rintro e wB ⟨c1, bs1, rfl, hst1, -, hb6⟩; obtain ⟨F1, fi1, ca1⟩ := c1; unfold Clo.v; have kB : Below w5.heap.size w5 wB := kA.trans (hb6.mono kA.size); have ST1 := Lib.hid hst1; clear hst1 hb6)
            | (go_at_call 57; refine (HLA.out w5.drew (HW5.out.trans ((Below.drew (Below.refl w5.heap.size w5)).mono HW5.out.size))).mono ?_; rintro e wA ⟨rfl, hb6⟩; have kA : Below w5.heap.size w5 wA := below_undrew' hb6; clear hb6)
            | fail)
          go_wp2
          go_ret
          have hbE := (HW5.out.trans (kE.mono HW5.out.size))
          rw [HGS.out]
          exact ⟨rfl, HXF.out, (Gv.of_below (hbE.alloc hbE.size _) B V).trans HGF.out⟩
end Go.Proofs.YtieemdcoomilaaaGreatDoor
