/- The contract of the document's Same. -/
import Derived.Test.YtioflicmpnkfeaaGreatSa
import Derived.Deep.RegionHeld3
namespace Go.Proofs.YtioflicmpnkfeaaGreat
open Go Go.RowKit
set_option maxRecDepth 100000
structure Fin0 (zs : List Zr) : Prop where
  len : zs.length ≤ 1000000000000
  l : ∀ z ∈ zs, z.x.ls.length ≤ 1000000000000 ∧ z.x.ss.length ≤ 1000000000000
open Classical in
set_option maxHeartbeats 2000000 in
theorem rsame_any (xs ys : List Zr) (hx : Fin0 xs) (hy : Fin0 ys) (v u : Value) (w : World) (hv : SAt w v xs) (hu : SAt w u ys) :
    Calls Tryz.prog 11 #[v, u] w (Ret w (.bool (decide (xs.map Zr.x = ys.map Zr.x)))) := by
  obtain ⟨a1, a2, ha⟩ := hv.slice
  obtain ⟨b1, b2, hb⟩ := hu.slice
  have HV := Lib.hid hv
  have HU := Lib.hid hu
  have HFX := Lib.hid hx.l
  have HFY := Lib.hid hy.l
  have hl1 := hx.len
  have hl2 := hy.len
  clear hv hu hx hy
  by_cases h1 : xs.length = ys.length
  · rw [← h1] at hb
    have H1 := Lib.hid h1
    generalize hL : xs.length = L at *
    have HL := Lib.hid hL
    clear h1 hL
    subst ha hb
    have eL : (L != L) = false := by simp
    go_enter Tryz.func11, Tryz.ntmps11
    go_wp2
    go_loopw [5] (fun i wr => ∃ k : Nat, i = .int .i64 (k : Int) ∧ k ≤ L ∧ Hid ((xs.take k).map Zr.x = (ys.take k).map Zr.x) ∧ Hid (Below w.heap.size w wr)) (fun i _ => L - (intOf i).toNat)
    case atStart => exact ⟨0, rfl, by omega, Lib.hid rfl, Lib.hid (Below.refl _ _)⟩
    case round =>
      obtain ⟨k, rfl, hk, HE, HBL⟩ := hrel
      by_cases hlt : k < L
      · have hk1 : k < xs.length := by have := HL.out; omega
        have hk2 : k < ys.length := by have := HL.out; have := H1.out; omega
        have HV2 := Lib.hid (HV.out.below HBL.out (Nat.le_refl _))
        have HU2 := Lib.hid (HU.out.below HBL.out (Nat.le_refl _))
        rcases HV2.out.row with ⟨h0, _⟩ | ⟨g, o, e, hg, hcs⟩
        · have := congrArg List.length h0; rw [List.length_map, List.length_nil] at this; omega
        rcases HU2.out.row with ⟨h0, _⟩ | ⟨g2, o2, e2, hg2, hcs2⟩
        · have := congrArg List.length h0; rw [List.length_map, List.length_nil] at this; omega
        obtain ⟨q0, q1⟩ := hcs k (by rw [List.length_map]; exact hk1)
        obtain ⟨r0, r1⟩ := hcs2 k (by rw [List.length_map]; exact hk2)
        rw [List.getElem_map] at q0 q1 r0 r1
        rw [List.length_map, HL.out] at hg
        rw [List.length_map, ← H1.out] at hg2
        clear hcs hcs2
        have htk1 : (xs.take (k + 1)).map Zr.x = (xs.take k).map Zr.x ++ [xs[k].x] := by rw [List.take_succ_eq_append_getElem hk1, List.map_append]; rfl
        have htk2 : (ys.take (k + 1)).map Zr.x = (ys.take k).map Zr.x ++ [ys[k].x] := by rw [List.take_succ_eq_append_getElem hk2, List.map_append]; rfl
        have hne : xs[k].x ≠ ys[k].x → xs.map Zr.x ≠ ys.map Zr.x := fun h e => h (by
          have e1 := congrArg (fun l => l[k]?) e
          simp only [List.getElem?_map, List.getElem?_eq_getElem hk1, List.getElem?_eq_getElem hk2, Option.map_some, Option.some.injEq] at e1
          exact e1)
        have hm1 := List.getElem_mem hk1
        have hm2 := List.getElem_mem hk2
        have HC := Lib.hid (fun W (hW : Below wr.heap.size wr W) => alike_any xs[k].x ys[k].x (HFX.out _ hm1) (HFY.out _ hm2) _ _ _ _ W (At2.below (HV2.out.ls _ hm1) hW (Nat.le_refl _)) (At2.below (HV2.out.ss _ hm1) hW (Nat.le_refl _)) (At2.below (HU2.out.ls _ hm2) hW (Nat.le_refl _)) (At2.below (HU2.out.ss _ hm2) hW (Nat.le_refl _)))
        have HT1 := Lib.hid htk1
        have HT2 := Lib.hid htk2
        have HNE := Lib.hid hne
        clear htk1 htk2 hne hm1 hm2 HV2 HU2
        generalize xs[k] = P at *
        generalize ys[k] = Q at *
        obtain ⟨X, p0, p1⟩ := P
        obtain ⟨Y, u0, u1⟩ := Q
        unfold zp at q0 q1 r0 r1
        dsimp only at q0 q1 r0 r1 HC HT1 HT2 HNE
        cases hg
        cases hg2
        have k0 := And.intro q0 (And.intro q1 (And.intro r0 r1))
        by_cases hpq : X = Y
        · subst hpq
          rw [decide_eq_true rfl] at HC
          go_wp2_with fail
          go_region_held3 (fun w' => w'.cell? ⟨g, o + k * 2, none⟩ = some p0 ∧ w'.cell? ⟨g, o + k * 2 + 1, none⟩ = some p1 ∧ w'.cell? ⟨g2, o2 + k * 2, none⟩ = some u0 ∧ w'.cell? ⟨g2, o2 + k * 2 + 1, none⟩ = some u1) (first | exact k0 | exact k1) (first | (go_at_call 23; refine (HC.out _ (below_drewN (Below.refl _ _) _)).mono ?_; rintro e w2 ⟨rfl, hb2⟩; have HB2 : Hid (Below wr.heap.size wr w2) := Lib.hid ⟨hb2.os, hb2.tape, hb2.output, hb2.size, hb2.block⟩; have k1 := And.intro ((HB2.out.cell (World.block_lt_of_cell? wr _ q0)).trans q0) (And.intro ((HB2.out.cell (World.block_lt_of_cell? wr _ q1)).trans q1) (And.intro ((HB2.out.cell (World.block_lt_of_cell? wr _ r0)).trans r0) ((HB2.out.cell (World.block_lt_of_cell? wr _ r1)).trans r1))); clear hb2))
          go_wp2
          go_roundw
          case rel => exact ⟨k + 1, by go_num, by omega, Lib.hid (by rw [HT1.out, HT2.out, HE.out]), Lib.hid (HBL.out.trans (HB2.out.mono HBL.out.size))⟩
          case measure => simp [intOf]; omega
        · rw [decide_eq_false hpq] at HC
          go_wp2_with fail
          go_region_held3 (fun w' => w'.cell? ⟨g, o + k * 2, none⟩ = some p0 ∧ w'.cell? ⟨g, o + k * 2 + 1, none⟩ = some p1 ∧ w'.cell? ⟨g2, o2 + k * 2, none⟩ = some u0 ∧ w'.cell? ⟨g2, o2 + k * 2 + 1, none⟩ = some u1) (first | exact k0 | exact k1) (first | (go_at_call 23; refine (HC.out _ (below_drewN (Below.refl _ _) _)).mono ?_; rintro e w2 ⟨rfl, hb2⟩; have HB2 : Hid (Below wr.heap.size wr w2) := Lib.hid ⟨hb2.os, hb2.tape, hb2.output, hb2.size, hb2.block⟩; have k1 := And.intro ((HB2.out.cell (World.block_lt_of_cell? wr _ q0)).trans q0) (And.intro ((HB2.out.cell (World.block_lt_of_cell? wr _ q1)).trans q1) (And.intro ((HB2.out.cell (World.block_lt_of_cell? wr _ r0)).trans r0) ((HB2.out.cell (World.block_lt_of_cell? wr _ r1)).trans r1))); clear hb2))
          go_wp2
          go_ret
          exact ⟨by rw [decide_eq_false (HNE.out hpq)]; rfl, HBL.out.trans (HB2.out.mono HBL.out.size)⟩
      · obtain rfl : k = L := by omega
        have hls : xs.map Zr.x = ys.map Zr.x := by
          have := HE.out
          rwa [List.take_of_length_le (by have := HL.out; omega), List.take_of_length_le (by have := H1.out; omega)] at this
        go_wp2
        go_ret
        exact ⟨by rw [decide_eq_true hls]; rfl, HBL.out⟩
  · have hne : xs.map Zr.x ≠ ys.map Zr.x := fun e => h1 (by have := congrArg List.length e; rwa [List.length_map, List.length_map] at this)
    rw [decide_eq_false hne]
    have eL : ((xs.length : Int) != (ys.length : Int)) = true := by rw [bne_iff_ne]; omega
    generalize xs.length = L at *
    generalize ys.length = M at *
    clear h1 hne HV HU HFX HFY
    subst ha hb
    go_enter Tryz.func11, Tryz.ntmps11
    go_wp2
    go_ret
    exact ⟨rfl, Below.refl _ _⟩
end Go.Proofs.YtioflicmpnkfeaaGreat
