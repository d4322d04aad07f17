/-
  DERIVED: THE SHELF's CONTRACTS AT THIS DUMP, IN PLAIN WORDS (tools/lay-plain.mjs out of 'TryzShelf.lean', which tools/lay-shelf.mjs wrote): THE SAME DECLARATIONS UNDER THE SAME NAMES: 'import', 'namespace', 'open', 'def', 'theorem' AND NOTHING ELSE: no command of the shelf's: FOR A HAND-IN. Each laying: the table of numbers ('.._ren') and one theorem, a field a fact of the dump's own or the kernel's comparison; each contract: ONE APPLICATION.
-/
import Derived.Shelf.Sort.Plain
import Derived.Test.YtieemdcoomilaaaGreatDoorProg
import Derived.Test.YtieemdcoomilaaaGreatDoorVc
import Derived.Test.YtieemdcoomilaaaGreatDoorWi
import Derived.Test.YtieemdcoomilaaaGreatDoorVd
import Derived.Test.YtieemdcoomilaaaGreatDoorFb
import Derived.Test.YtieemdcoomilaaaGreatDoorSa
import Derived.Below
import Derived.BigQuiet
import Derived.BigRegion
import Derived.Deep.LoopGhost
import Derived.Deep.RegionHeld3
import Derived.Deep.RegionWith
import Derived.Handy
import Derived.IntWalk
import Derived.Laws.BitsAllLaws
import Derived.Laws.ResultCell
import Derived.Laws.Rows
import Derived.Lib.Hide
import Derived.Lib.Strings
import Derived.RowKit
import Derived.WalkKit
import Derived.WalkLawsBesides
import Derived.WalkSpells
set_option linter.unusedVariables false
set_option linter.unusedSimpArgs false
namespace Go.Proofs
open Go.Shelf
def Tryz.lays189_ren : Go.Shelf.Ren := ⟨fun | 189 => 89 | 125 => 115 | 257 => 114 | 128 => 145 | 129 => 146 | 294 => 136 | 295 => 137 | 296 => 138 | 297 => 139 | 298 => 140 | 299 => 141 | 216 => 142 | 300 => 143 | 301 => 144 | 328 => 153 | 329 => 154 | 330 => 155 | 331 => 156 | 332 => 157 | 215 => 158 | 343 => 164 | n => n, fun | 28 => 38 | 3 => 3 | 46 => 47 | 0 => 0 | 51 => 114 | 53 => 112 | 4 => 4 | 183 => 175 | 182 => 174 | 131 => 143 | 5 => 5 | 9 => 9 | 218 => 186 | 222 => 190 | 228 => 200 | 229 => 201 | n => n, fun | n => n⟩
theorem Tryz.lays189 : Go.Proofs.Lays.n189 Tryz.prog Tryz.lays189_ren := {
  mixed := by kernel_rfl
  f125 := Tryz.func115.trans (congrArg some (by kernel_rfl))
  f128 := Tryz.func145.trans (congrArg some (by kernel_rfl))
  f129 := Tryz.func146.trans (congrArg some (by kernel_rfl))
  f189 := Tryz.func89.trans (congrArg some (by kernel_rfl))
  f215 := Tryz.func158.trans (congrArg some (by kernel_rfl))
  f216 := Tryz.func142.trans (congrArg some (by kernel_rfl))
  f257 := Tryz.func114.trans (congrArg some (by kernel_rfl))
  f294 := Tryz.func136.trans (congrArg some (by kernel_rfl))
  f295 := Tryz.func137.trans (congrArg some (by kernel_rfl))
  f296 := Tryz.func138.trans (congrArg some (by kernel_rfl))
  f297 := Tryz.func139.trans (congrArg some (by kernel_rfl))
  f298 := Tryz.func140.trans (congrArg some (by kernel_rfl))
  f299 := Tryz.func141.trans (congrArg some (by kernel_rfl))
  f300 := Tryz.func143.trans (congrArg some (by kernel_rfl))
  f301 := Tryz.func144.trans (congrArg some (by kernel_rfl))
  f328 := Tryz.func153.trans (congrArg some (by kernel_rfl))
  f329 := Tryz.func154.trans (congrArg some (by kernel_rfl))
  f330 := Tryz.func155.trans (congrArg some (by kernel_rfl))
  f331 := Tryz.func156.trans (congrArg some (by kernel_rfl))
  f332 := Tryz.func157.trans (congrArg some (by kernel_rfl))
  f343 := Tryz.func164.trans (congrArg some (by kernel_rfl))
  t0 := Tryz.underlying0
  a0 := Tryz.isAgg0
  z0 := Tryz.sizeOf0
  v0 := Tryz.zeroValue0
  t3 := Tryz.underlying3
  a3 := Tryz.isAgg3
  z3 := Tryz.sizeOf3
  v3 := Tryz.zeroValue3
  t4 := Tryz.underlying4
  a4 := Tryz.isAgg4
  z4 := Tryz.sizeOf4
  v4 := Tryz.zeroValue4
  t5 := Tryz.underlying5
  a5 := Tryz.isAgg5
  z5 := Tryz.sizeOf5
  v5 := Tryz.zeroValue5
  t9 := Tryz.underlying9
  a9 := Tryz.isAgg9
  z9 := Tryz.sizeOf9
  v9 := Tryz.zeroValue9
  t28 := Tryz.underlying38
  a28 := Tryz.isAgg38
  z28 := Tryz.sizeOf38
  v28 := Tryz.zeroValue38
  t46 := Tryz.underlying47
  a46 := Tryz.isAgg47
  z46 := Tryz.sizeOf47
  v46 := Tryz.zeroValue47
  t51 := Tryz.underlying114
  a51 := Tryz.isAgg114
  z51 := Tryz.sizeOf114
  v51 := Tryz.zeroValue114
  t53 := Tryz.underlying112
  a53 := Tryz.isAgg112
  z53 := Tryz.sizeOf112
  v53 := Tryz.zeroValue112
  t131 := Tryz.underlying143
  a131 := Tryz.isAgg143
  z131 := Tryz.sizeOf143
  v131 := Tryz.zeroValue143
  t182 := Tryz.underlying174
  a182 := Tryz.isAgg174
  z182 := Tryz.sizeOf174
  v182 := Tryz.zeroValue174
  t183 := Tryz.underlying175
  a183 := Tryz.isAgg175
  z183 := Tryz.sizeOf175
  v183 := Tryz.zeroValue175
  t218 := Tryz.underlying186
  a218 := Tryz.isAgg186
  z218 := Tryz.sizeOf186
  v218 := Tryz.zeroValue186
  t222 := Tryz.underlying190
  a222 := Tryz.isAgg190
  z222 := Tryz.sizeOf190
  v222 := Tryz.zeroValue190
  t228 := Tryz.underlying200
  a228 := Tryz.isAgg200
  z228 := Tryz.sizeOf200
  v228 := Tryz.zeroValue200
  t229 := Tryz.underlying201
  a229 := Tryz.isAgg201
  z229 := Tryz.sizeOf201
  v229 := Tryz.zeroValue201 }
open Go.Sort Go.RowKit in
theorem Tryz.slices_Sort_int (blk off cap : Nat) (zs : List Int) (w : World) (hH : Holds (Value.int .i64) w blk off zs.toArray) (hblk : blk < w.heap.size) (hsz : zs.length < 4611686018427387904) :
    Calls Tryz.prog 89 #[.slice (some ⟨blk, off, none⟩) zs.length cap] w fun e w' =>
      e = .returned (.tuple #[]) ∧ ∃ n os, w' = grow (putRow (Value.int .i64) (Sort.ahead w n) blk off (zs.mergeSort fun x y => decide (x ≤ y)).toArray) os := Any.slices_Sort_int Tryz.lays189 blk off cap zs w hH hblk hsz
end Go.Proofs
namespace Go.Proofs.YtieemdcoomilaaaGreatDoor
open Go Go.RowKit Go.Sort
set_option maxRecDepth 100000
theorem own_sorted {w : World} {base g cap n : Nat} {os : Array Obj} {zs ts : List Int} (ho : Own w base (.slice (some ⟨g, 0, none⟩) zs.length cap) (zs.map iv)) (hl : ts.length = zs.length) (hne : zs ≠ []) :
    Own (grow (putRow (Value.int .i64) (Sort.ahead w n) g 0 ts.toArray) os) base (.slice (some ⟨g, 0, none⟩) zs.length cap) (ts.map iv) ∧ w.grownBy (grow (putRow (Value.int .i64) (Sort.ahead w n) g 0 ts.toArray) os) (some g) := by
  have hp : 0 < zs.length := List.length_pos_iff.2 hne
  rcases ho with ⟨e, _⟩ | ⟨g', cap', e, hb, hlt, h1, h2, h3, h4⟩
  · cases e
  · injection e with e1 e2 e3
    have e4 : g = g' := by cases e1; rfl
    subst e4 e3
    rw [List.length_map] at h1
    obtain ⟨u, hu⟩ := Option.isSome_iff_exists.1 (h3 0 (by omega)).1
    obtain ⟨c, e, fr, hc, -⟩ := cells_of_cell? hu
    have hg : (grow (putRow (Value.int .i64) (Sort.ahead w n) g 0 ts.toArray) os).heap[g]? = some (.cells (putCells (Value.int .i64) 0 ts.toArray c) e fr) := by
      rw [heap_grow_old _ _ (by simpa [putRow, mapBlock, Sort.ahead] using hlt)]
      simp [putRow, mapBlock, Sort.ahead, Array.getElem?_modify, hc, onCells]
    have hcell : ∀ j, (grow (putRow (Value.int .i64) (Sort.ahead w n) g 0 ts.toArray) os).cell? ⟨g, j, none⟩ = (putCells (Value.int .i64) 0 ts.toArray c)[j]? := fun j => by simp [World.cell?, hg]
    have hold : ∀ j, w.cell? ⟨g, j, none⟩ = c[j]? := fun j => by simp [World.cell?, hc]
    have hfz : ∀ j, (grow (putRow (Value.int .i64) (Sort.ahead w n) g 0 ts.toArray) os).frozen? ⟨g, j, none⟩ = w.frozen? ⟨g, j, none⟩ := fun j => by simp [World.frozen?, hg, hc]
    have hgb : w.grownBy (grow (putRow (Value.int .i64) (Sort.ahead w n) g 0 ts.toArray) os) (some g) := by
      refine ⟨rfl, rfl, rfl, by simp [putRow, mapBlock, Sort.ahead], fun k hk hne2 => ?_⟩
      rw [heap_grow_old _ _ (by simpa [putRow, mapBlock, Sort.ahead] using hk)]
      have : g ≠ k := fun e => hne2 (by rw [e])
      simp [putRow, mapBlock, Sort.ahead, Array.getElem?_modify, this]
    refine ⟨.inr ⟨g, cap, by rw [List.length_map, hl], hb, Nat.lt_of_lt_of_le hlt hgb.size, by rw [List.length_map, hl]; exact h1, h2, fun j hj => ?_, fun j hj => ?_⟩, hgb⟩
    · obtain ⟨a, b⟩ := h3 j hj
      refine ⟨?_, (hfz j).trans b⟩
      rw [hold] at a
      rw [hcell]
      unfold putCells
      rw [Array.getElem?_mapIdx]
      simpa using a
    · rw [List.length_map] at hj
      rw [hcell]
      have a := (h3 j (by omega)).1
      rw [hold] at a
      obtain ⟨x, hx⟩ := Option.isSome_iff_exists.1 a
      unfold putCells
      rw [Array.getElem?_mapIdx, hx, Option.map_some, if_pos ⟨Nat.zero_le _, by simpa using hj⟩, List.getElem?_map, List.getElem?_eq_getElem hj]
      simp [iv, hj]
/-- The tapes that a head names. -/
def nmP (h : He) : List Int := h.log ++ (if h.snap ≠ 0 then [h.snap] else [])
def nmS (h : He) : List Int := (Vt.tps.filter fun t : Nat => usB h (t : Int)).map fun t : Nat => (t : Int)
theorem nmS_rise (h : He) : (nmS h).Pairwise (· < ·) := by
  unfold nmS Vt.tps
  refine List.pairwise_map.2 ((List.Pairwise.filter _ (List.pairwise_lt_range' (s := 2) (n := 30) )).imp fun hab => by omega)
theorem nmP_nodup {h : He} (hm : mayB h = true) : (nmP h).Nodup := by
  have m := Vt.mayB_more hm
  unfold nmP
  split
  · rename_i hs
    rw [List.nodup_append]
    refine ⟨m.nd, by simp, fun a ha b hb e => ?_⟩
    rw [List.mem_singleton] at hb
    subst hb
    exact m.sn hs (e ▸ ha)
  · rw [List.append_nil]; exact m.nd
theorem mem_nm {h : He} (hm : mayB h = true) (t : Int) : t ∈ nmP h ↔ t ∈ nmS h := by
  have k := mayB_ok hm
  have m := Vt.mayB_more hm
  unfold nmP nmS
  rw [List.mem_append, List.mem_map]
  constructor
  · intro ht
    have hu : usB h t = true := by
      rcases ht with ht | ht
      · unfold usB; rw [decide_eq_true ht, Bool.or_true]
      · split at ht
        · rename_i hs; rw [List.mem_singleton] at ht; subst ht; unfold usB; rw [decide_eq_true hs]; simp
        · cases ht
    have hr : 2 ≤ t ∧ t < 32 := by
      rcases ht with ht | ht
      · exact k.mem t ht
      · split at ht
        · rename_i hs; rw [List.mem_singleton] at ht; subst ht; exact ⟨m.s2 hs, k.s2⟩
        · cases ht
    refine ⟨t.toNat, ?_, by omega⟩
    rw [List.mem_filter, Vt.mem_tps, show ((t.toNat : Nat) : Int) = t by omega]
    exact ⟨⟨by omega, by omega⟩, hu⟩
  · rintro ⟨a, ha, rfl⟩
    rw [List.mem_filter] at ha
    have hu := ha.2
    unfold usB at hu
    rw [Bool.or_eq_true, Bool.and_eq_true] at hu
    rcases hu with ⟨h1, h2⟩ | h1
    · have h1 := of_decide_eq_true h1
      have h2 := of_decide_eq_true h2
      rw [if_pos h1]; exact .inr (by rw [h2]; simp)
    · exact .inl (of_decide_eq_true h1)
theorem nm_sort {h : He} (hm : mayB h = true) : (nmP h).mergeSort (fun x y => decide (x ≤ y)) = nmS h := by
  have hp : (nmP h).Perm (nmS h) := (List.perm_ext_iff_of_nodup (nmP_nodup hm) ((nmS_rise h).imp fun hab e => by omega)).2 fun t => mem_nm hm t
  have h1 : ((nmP h).mergeSort (fun x y => decide (x ≤ y))).Pairwise (fun a b => decide (a ≤ b) = true) := List.pairwise_mergeSort (fun a b c h1 h2 => by simp at *; omega) (fun a b => by simp; omega) _
  refine List.Perm.eq_of_pairwise (le := fun a b : Int => decide (a ≤ b) = true) (fun a b _ _ h1 h2 => by simp at h1 h2; omega) h1 ((nmS_rise h).imp fun hab => by simp; omega) ((List.mergeSort_perm _ _).trans hp)
set_option maxHeartbeats 1000000 in
theorem named_any (h : He) (v : Value) (w : World) (hv : KAt w v h.log) (hm : mayB h = true) : Calls Tryz.prog 51 #[hval h v] w (NRet w (nmS h)) := by
  have k := mayB_ok hm
  have hne : h.log ≠ [] := k.ne
  have hll : h.log.length ≤ 100 := by have := k.len; omega
  have HN : Hid ((nmP h).mergeSort (fun x y => decide (x ≤ y)) = nmS h) := Lib.hid (nm_sort hm)
  have HP : Hid (nmP h = h.log ++ (if h.snap ≠ 0 then [h.snap] else [])) := Lib.hid rfl
  obtain ⟨va, vc, hva⟩ := hv.slice
  obtain ⟨L, hL⟩ : ∃ L, h.log.length = L := ⟨_, rfl⟩
  rw [hL] at hva hll
  subst hva
  have HX := Lib.hid (Box4.new w (.int .i64 h.gen) (.int .i64 h.base) (.int .i64 h.snap) (.slice va L vc))
  have HC := Lib.hid (clone_any h.log (.slice va L vc) _ (hv.below (below_one w (.cells #[.int .i64 h.gen, .int .i64 h.base, .int .i64 h.snap, .slice va L vc] 40)) (Nat.le_refl _)) hne (by rw [hL]; omega))
  have HL := Lib.hid hL
  have HNE := Lib.hid hne
  obtain ⟨i0, hi, hz0, hz1, hz2⟩ := info_parts Tryz.info3
  have q3 := HX.out.c3; have q2 := HX.out.c2
  unfold hval
  clear hv hne hL k hm
  go_enter Tryz.func51, Tryz.ntmps51
  go_wp2_with fail
  refine HC.out.mono ?_
  rintro e w1 ⟨u, rfl, hu, hb1⟩
  have HB1 := Lib.hid (below_trans' (below_one w _) hb1)
  have HX1 := Lib.hid (HX.out.below hb1 HX.out.lt)
  have HU := Lib.hid (hu.mono (show w.heap.size ≤ _ by rw [World.size_alloc]; omega))
  have HUL := Lib.hid (fun k hk => (hu.lt k hk).1)
  have r2 := HX1.out.c2
  clear hu hb1 q3 q2
  by_cases hs : h.snap = 0
  · have hs2 : (h.snap != 0) = false := by rw [hs]; rfl
    have HP2 : Hid (nmP h = h.log) := Lib.hid (by rw [HP.out, if_neg (by simp [hs]), List.append_nil])
    clear hs HP
    rw [HP2.out] at HN
    obtain ⟨ua, uc, hu2⟩ := HU.out.shape
    have hu3 := HU.out
    rw [List.length_map, HL.out] at hu2
    subst hu2
    rcases hu3 with ⟨e, e2⟩ | ⟨g, cap, e, hgb, hglt, h1, h2, h3, h4⟩
    · exact absurd (List.map_eq_nil_iff.1 e2) HNE.out
    · injection e with e1 e2 e3
      subst e1 e3
      have hu4 := HU.out
      have HO := Lib.hid (show Own w1 w.heap.size (.slice (some ⟨g, 0, none⟩) h.log.length uc) (h.log.map iv) by rw [HL.out]; exact hu4)
      have HH : Hid (Holds (Value.int .i64) w1 g 0 h.log.toArray) := Lib.hid (fun j hj => by
        have hj2 : j < h.log.length := by simpa using hj
        rw [Nat.zero_add]
        refine ⟨?_, (h3 j (by rw [List.length_map] at h1; omega)).2⟩
        rw [h4 j (by rw [List.length_map]; exact hj2), List.getElem?_map, List.getElem?_eq_getElem hj2]
        simp [iv, hj2])
      have HSO := Lib.hid (Tryz.slices_Sort_int g 0 uc h.log w1 HH.out hglt (by rw [HL.out]; omega))
      have hsl : ((h.log.mergeSort (fun x y => decide (x ≤ y))).length = h.log.length) := List.length_mergeSort _
      have HSL := Lib.hid hsl
      rw [HL.out] at HSO
      clear hu4 h1 h2 h3 h4 hsl e2
      go_wp2_with fail
      refine HSO.out.mono ?_
      rintro e w2 ⟨rfl, nn, os, rfl⟩
      obtain ⟨o1, o2⟩ := own_sorted (n := nn) (os := os) HO.out HSL.out HNE.out
      rw [HN.out, HL.out] at o1
      rw [HN.out] at o2
      have HO1 := Lib.hid o1
      have HG := Lib.hid o2
      rw [HN.out]
      clear o1 o2
      generalize grow (putRow (Value.int .i64) (Sort.ahead w1 nn) g 0 (nmS h).toArray) os = w3 at *
      have HB3 := Lib.hid (HB1.out.grown HG.out HB1.out.size (fun q hq => by cases hq; exact hgb))
      have HH2 : True := trivial
      clear HSO HC HX
      go_wp2
      go_ret
      exact ⟨.slice (some ⟨g, 0, none⟩) L uc, rfl, HO1.out, HB3.out⟩
  · have hs2 : (h.snap != 0) = true := bne_iff_ne.2 hs
    have HP2 : Hid (nmP h = h.log ++ [h.snap]) := Lib.hid (by rw [HP.out, if_pos hs])
    clear hs HP
    obtain ⟨ua, uc, hu2⟩ := HU.out.shape
    rw [List.length_map, HL.out] at hu2
    subst hu2
    have hz0w := HB1.out.size
    have hlm : (h.log.map iv).length ≤ 100 := by rw [List.length_map, HL.out]; exact hll
    have HLM := Lib.hid hlm
    clear hlm
    go_wp2_with (at_builtin; refine wpList_append_Own _ rfl (.tmp 10) (.tmp 13) 38 38 rfl w.heap.size 3 i0 (.int .i64 0) 8 Tryz.underlying38 hi hz0 hz1 hz2 rfl _ (h.log.map iv) rfl (HU.out.alloc _) _ 1 [iv h.snap] rfl (Src.one w1 Tryz.underlying38 _ _ rfl) ?c1 ?c2 ?c3 ?_; rotate_right; intro v' w2 hown1 hgr hwh; have HO2 := Lib.hid hown1; have HG := Lib.hid hgr; have HH := Lib.hid hwh; clear hown1 hgr hwh)
    case c1 => have := HLM.out; omega
    case c2 => have := HLM.out; omega
    case c3 => rw [World.size_alloc]; omega
    have HZ : Hid (nmP h ≠ []) := Lib.hid (by rw [HP2.out]; simp)
    have HZL : Hid ((nmP h).length = L + 1) := Lib.hid (by rw [HP2.out, List.length_append, HL.out]; rfl)
    have hO3 : Own w2 w.heap.size v' ((nmP h).map iv) := by rw [HP2.out, List.map_append]; exact HO2.out
    have HB2 := Lib.hid ((HB1.out.alloc HB1.out.size (.cells #[iv h.snap] 3)).grown HG.out (by rw [World.size_alloc]; omega) (fun q hq => (HU.out.lt q hq).1))
    obtain ⟨ua2, uc2, hu3⟩ := hO3.shape
    rw [List.length_map, HZL.out] at hu3
    subst hu3
    have hu4 := hO3
    rcases hO3 with ⟨e, e2⟩ | ⟨g, cap, e, hgb, hglt, h1, h2, h3, h4⟩
    · exact absurd (List.map_eq_nil_iff.1 e2) HZ.out
    · injection e with e1 e2 e3
      subst e1 e3
      have HO := Lib.hid (show Own w2 w.heap.size (.slice (some ⟨g, 0, none⟩) (nmP h).length uc2) ((nmP h).map iv) by rw [HZL.out]; exact hu4)
      have HHo : Hid (Holds (Value.int .i64) w2 g 0 (nmP h).toArray) := Lib.hid (fun j hj => by
        have hj2 : j < (nmP h).length := by simpa using hj
        rw [Nat.zero_add]
        refine ⟨?_, (h3 j (by rw [List.length_map] at h1; omega)).2⟩
        rw [h4 j (by rw [List.length_map]; exact hj2), List.getElem?_map, List.getElem?_eq_getElem hj2]
        simp [iv, hj2])
      have HSO := Lib.hid (Tryz.slices_Sort_int g 0 uc2 (nmP h) w2 HHo.out hglt (by rw [HZL.out]; omega))
      have hsl : (((nmP h).mergeSort (fun x y => decide (x ≤ y))).length = (nmP h).length) := List.length_mergeSort _
      have HSL := Lib.hid hsl
      rw [HZL.out] at HSO
      clear hu4 h1 h2 h3 h4 hsl e2 HH HG HO2 HU
      go_wp2_with fail
      refine HSO.out.mono ?_
      rintro e w3 ⟨rfl, nn, os, rfl⟩
      obtain ⟨o1, o2⟩ := own_sorted (n := nn) (os := os) HO.out HSL.out HZ.out
      rw [HN.out, HZL.out] at o1
      rw [HN.out] at o2
      have HO1 := Lib.hid o1
      have HG := Lib.hid o2
      rw [HN.out]
      clear o1 o2
      generalize grow (putRow (Value.int .i64) (Sort.ahead w2 nn) g 0 (nmS h).toArray) os = w3 at *
      have HB3 := Lib.hid (HB2.out.grown HG.out HB2.out.size (fun q hq => by cases hq; exact hgb))
      clear HSO HC HX
      go_wp2
      go_ret
      exact ⟨.slice (some ⟨g, 0, none⟩) (L + 1) uc2, rfl, HO1.out, HB3.out⟩
end Go.Proofs.YtieemdcoomilaaaGreatDoor
namespace Go.Proofs.YtieemdcoomilaaaGreatDoor
open Go Go.RowKit
set_option maxRecDepth 100000
set_option maxRecDepth 100000 in
set_option maxHeartbeats 1000000 in
theorem rfixed_any (n z : Nat) (w : World) (hn : n ≤ 18446744073709551615) (hz : z ≤ 8) :
   Calls Tryz.prog 126 #[.int .u64 n, .int .i64 z] w fun e w' => e = .returned (.string (bs (Bt.fx z n))) ∧ Below w.heap.size w w' := by
  go_enter Tryz.func126, Tryz.ntmps126
  go_wp2
  go_loopw [0, 5, 6] (fun x t i wr => ∃ (m k : Nat) (pre : List UInt8), k ≤ z ∧ i = .int .i64 k ∧ x = .int .u64 m ∧ m ≤ 18446744073709551615 ∧ t = .string (bs pre) ∧ Hid ((bs pre).size = k) ∧ Hid (pre ++ Bt.fx (z - k) m = Bt.fx z n) ∧ Hid (Below w.heap.size w wr)) (fun _ _ i _ => z - (intOf i).toNat)
  case atStart => exact ⟨n, 0, [], by omega, rfl, rfl, by omega, rfl, Lib.hid rfl, Lib.hid rfl, Lib.hid (Below.refl _ _)⟩
  case round =>
    obtain ⟨m, k, pre, hk, rfl, rfl, hm, rfl, HS, HP, HB⟩ := hrel
    by_cases hlt : k < z
    · have e1 : (m : Int) % 256 = ((m % 256 : Nat) : Int) := by omega
      have HM : Hid (UInt8.ofNat (m % 256) = UInt8.ofNat m) := Lib.hid (Bt.ofNat_mod m)
      have hm2 : m % 256 ≤ 255 := by omega
      generalize m % 256 = r at *
      have e2 : IntKind.u8.wrap (r : Int) = (r : Int) := by rw [Bt.wrap_u8]; omega
      have hcv := run_string_one (UInt8.ofNat r) (r : Int) (Bt.ofNat_toNat (by omega)).symm
      have HA : Hid (bs pre ++ bs [UInt8.ofNat r] = bs (pre ++ [UInt8.ofNat m])) := by rw [bs_append, HM.out]; exact rfl
      have hs1 : (bs pre).size ≤ 8 := by have := HS.out; omega
      have hs2 : (bs [UInt8.ofNat r]).size = 1 := rfl
      have hs3 : (bs (pre ++ [UInt8.ofNat m])).size = k + 1 := by
        have := HS.out
        rw [bs_size] at this ⊢
        simp; omega
      have HS3 := Lib.hid hs3
      clear hs3
      generalize bs [UInt8.ofNat r] = u at *
      go_wp2
      go_roundw
      case rel =>
        refine ⟨m / 256, k + 1, pre ++ [UInt8.ofNat m], by omega, by go_num, by go_num, by omega, ?_, HS3, Lib.hid ?_, Lib.hid ?_⟩
        · rw [HA.out]
        · rw [← HP.out, show z - k = (z - (k + 1)) + 1 from by omega, Bt.fx]; simp
        · exact HB.out.alloc HB.out.size _
      case measure => simp [intOf]; omega
    · obtain rfl : k = z := by omega
      go_wp2
      go_ret
      refine ⟨ret_str ?_, HB.out⟩
      rw [← HP.out, Nat.sub_self, Bt.fx, List.append_nil]
set_option maxRecDepth 100000 in
set_option maxHeartbeats 1000000 in
theorem bit_any (c b : Nat) (w : World) (hc : c < 4294967296) (hb : b < 2) :
   Calls Tryz.prog 128 #[.int .u32 c, .int .u32 b] w fun e w' => e = .returned (.int .u32 (Sm.st (c ^^^ b) : Nat)) ∧ w = w' := by
  have e0 := Sm.st_bit c b hb
  by_cases h : c % 2 = b
  · rw [if_pos h] at e0
    have e1 : ((c : Int) % 2) = (b : Int) := by omega
    have e2 : ((c : Int) / 2) = ((Sm.st (c ^^^ b) : Nat) : Int) := by omega
    generalize Sm.st (c ^^^ b) = r at *
    clear e0 h
    go_enter Tryz.func128, Tryz.ntmps128
    go_wp2
    go_ret
    exact ⟨rfl, rfl⟩
  · rw [if_neg h] at e0
    have e1 : (((c : Int) % 2) == (b : Int)) = false := by rw [beq_eq_false_iff_ne]; omega
    have e2 : bits .xor .u32 ((c : Int) / 2) 2197175160 = ((Sm.st (c ^^^ b) : Nat) : Int) := by
      rw [e0, show ((c : Int) / 2) = ((c / 2 : Nat) : Int) from by omega]
      exact u32_xor_nat _ 2197175160 (by omega) (by omega)
    generalize Sm.st (c ^^^ b) = r at *
    clear e0 h
    go_enter Tryz.func128, Tryz.ntmps128
    go_wp2
    go_ret
    exact ⟨rfl, rfl⟩
set_option maxRecDepth 100000 in
set_option maxHeartbeats 1000000 in
theorem radd_in (c C R : Nat) (s : ByteArray) (w : World) (hs : s.size ≤ 140737488351232) (hC : C < 4294967296)
    (e1 : bits .xor .u32 (c : Int) 4294967295 = (C : Int)) (e2 : Hid (bits .xor .u32 ((Sm.crc C s.data.toList : Nat) : Int) 4294967295 = (R : Int))) :
   Calls Tryz.prog 107 #[.int .u32 c, .string s] w fun e w' => e = .returned (.int .u32 R) ∧ w = w' := by
  go_enter Tryz.func107, Tryz.ntmps107
  go_wp2
  go_loop [0, 5] (fun n x => ∃ (k r : Nat), k ≤ s.size ∧ Hid (r = Sm.crc C (s.data.toList.take k)) ∧ n = .int .u32 r ∧ x = .int .i64 k) (fun _ x => s.size - (intOf x).toNat)
  case atStart => exact ⟨0, C, by omega, Lib.hid rfl, rfl, rfl⟩
  case round =>
    obtain ⟨k, r, hk, HR, rfl, rfl⟩ := hrel
    have hr : r < 4294967296 := by rw [HR.out]; exact Sm.crc_lt hC _
    by_cases hlt : k < s.size
    · have hb := (s[k]).toNat_lt
      have HS : Hid (Sm.it 8 (r ^^^ (s[k]).toNat) = Sm.crc C (s.data.toList.take (k + 1))) := Lib.hid (by rw [take_snoc s k hlt, Sm.crc_snoc, ← HR.out])
      go_wp2
      go_loop [0, 6] (fun n x => ∃ (j q : Nat), j ≤ 8 ∧ q < 4294967296 ∧ Hid (q = Sm.it j (r ^^^ (s[k]).toNat % 2 ^ j)) ∧ n = .int .u32 q ∧ x = .int .i64 j) (fun _ x => 8 - (intOf x).toNat)
      case atStart => exact ⟨0, r, by omega, hr, Lib.hid (Sm.byte_start _ _).symm, rfl, rfl⟩
      case round =>
        obtain ⟨j, q, hj, hq, HQ, rfl, rfl⟩ := hrel
        by_cases h8 : j < 8
        · have hB : s[k].toNat / 2 ^ j % 2 < 2 := Nat.mod_lt _ (by omega)
          have e3 : ((s[k].toNat : Nat) : Int) / 2 ^ j % 2 = ((s[k].toNat / 2 ^ j % 2 : Nat) : Int) := by push_cast; rfl
          have HN : Hid (Sm.st (q ^^^ (s[k].toNat / 2 ^ j % 2)) = Sm.it (j + 1) (r ^^^ (s[k]).toNat % 2 ^ (j + 1))) := Lib.hid (by rw [HQ.out, Sm.byte_step])
          generalize s[k].toNat / 2 ^ j % 2 = B at *
          have hx := Sm.st_lt (Sm.xor_lt hq (show B < 4294967296 by omega))
          go_wp2_with (go_at_call 128; refine (bit_any q B _ hq hB).mono ?_; rintro e w' ⟨rfl, rfl⟩)
          go_round
          case rel => exact ⟨j + 1, _, by omega, hx, HN, rfl, by go_num⟩
          case measure => simp [intOf]; omega
        · obtain rfl : j = 8 := by omega
          have HF : Hid (q = Sm.crc C (s.data.toList.take (k + 1))) := Lib.hid (by rw [HQ.out, Sm.byte_end _ _ (by omega), HS.out])
          clear HS HQ
          go_wp2
          go_round
          case rel => exact ⟨k + 1, q, by omega, HF, rfl, by go_num⟩
          case measure => simp [intOf]; omega
    · obtain rfl : k = s.size := by omega
      have e4 : bits .xor .u32 ((r : Nat) : Int) 4294967295 = (R : Int) := by rw [HR.out, List.take_of_length_le (by simp)]; exact e2.out
      go_wp2
      go_ret
      exact ⟨rfl, rfl⟩
theorem radd_any (c : Nat) (s : ByteArray) (w : World) (hc : c < 4294967296) (hs : s.size ≤ 140737488351232) :
   Calls Tryz.prog 107 #[.int .u32 c, .string s] w fun e w' => e = .returned (.int .u32 (Sm.add c s.data.toList : Nat)) ∧ w = w' :=
  radd_in c (4294967295 ^^^ c) (Sm.add c s.data.toList) s w hs (Sm.xor_lt (by omega) hc) (xor_ones c hc) (Lib.hid (xor_ones _ (Sm.crc_lt (Sm.xor_lt (by omega) hc) _)))
set_option maxRecDepth 100000 in
set_option maxHeartbeats 1000000 in
theorem rof_any (s : ByteArray) (w : World) (hs : s.size ≤ 140737488351232) :
   Calls Tryz.prog 79 #[.string s] w fun e w' => e = .returned (.int .u32 (Sm.add 0 s.data.toList : Nat)) ∧ w = w' := by
  go_enter Tryz.func79, Tryz.ntmps79
  go_wp2_with (go_at_call 107; refine (radd_any 0 _ _ (by omega) hs).mono ?_; rintro e w' ⟨rfl, rfl⟩)
  go_ret
  exact ⟨rfl, rfl⟩
set_option maxRecDepth 100000 in
set_option maxHeartbeats 1000000 in
theorem rmask_any (c : Nat) (w : World) (hc : c < 4294967296) :
   Calls Tryz.prog 78 #[.int .u32 c] w fun e w' => e = .returned (.int .u32 (Sm.mask c : Nat)) ∧ w = w' := by
  go_enter Tryz.func78, Tryz.ntmps78
  go_wp2
  go_loop [0, 3] (fun n x => ∃ (j q : Nat), j ≤ 15 ∧ q < 4294967296 ∧ Hid (q = Sm.rr j c) ∧ n = .int .u32 q ∧ x = .int .i64 j) (fun _ x => 15 - (intOf x).toNat)
  case atStart => exact ⟨0, c, by omega, hc, Lib.hid rfl, rfl, rfl⟩
  case round =>
    obtain ⟨j, q, hj, hq, HQ, rfl, rfl⟩ := hrel
    by_cases h : j < 15
    · have HN : Hid (Sm.one q = Sm.rr (j + 1) c) := Lib.hid (by rw [HQ.out]; rfl)
      have e1 : (q : Int) / 2 + (q : Int) % 2 * 2147483648 = (Sm.one q : Nat) := by unfold Sm.one; omega
      have hx := Sm.one_lt hq
      generalize Sm.one q = r at *
      go_wp2
      go_round
      case rel => exact ⟨j + 1, r, by omega, hx, HN, rfl, by go_num⟩
      case measure => simp [intOf]; omega
    · obtain rfl : j = 15 := by omega
      go_wp2
      go_ret
      refine ⟨ret_u32 ?_, rfl⟩
      rw [Sm.mask, ← Sm.rr_rot, ← HQ.out, Sm.up]
      omega
theorem tri28 : Tri 66 := ⟨⟨_, Tryz.underlying66⟩, by kernel_rfl⟩
end Go.Proofs.YtieemdcoomilaaaGreatDoor
namespace Go.Proofs.YtieemdcoomilaaaGreatDoor
open Go Go.RowKit
set_option maxRecDepth 100000
theorem rmake_arg (k : UInt8) (p : ByteArray) (hk : ¬ (1 ≤ k.toNat ∧ k.toNat ≤ 3)) (w : World) :
    Calls Tryz.prog 103 #[.int .u8 k.toNat, .string p] w (Ret w (noM 1)) := by
  by_cases h : k.toNat < 1
  · clear hk
    go_enter Tryz.func103, Tryz.ntmps103
    go_wp2
    go_ret2
    exact ⟨rfl, Below.refl _ _⟩
  · have h3 : 3 < k.toNat := by omega
    clear hk
    go_enter Tryz.func103, Tryz.ntmps103
    go_wp2
    go_ret2
    exact ⟨rfl, Below.refl _ _⟩
theorem rmake_large (k : UInt8) (p : ByteArray) (hk : 1 ≤ k.toNat ∧ k.toNat ≤ 3) (hp : 262144 < p.size) (w : World) :
    Calls Tryz.prog 103 #[.int .u8 k.toNat, .string p] w (Ret w (noM 40)) := by
  obtain ⟨h1, h3⟩ := hk
  go_enter Tryz.func103, Tryz.ntmps103
  go_wp2
  go_ret2
  exact ⟨rfl, Below.refl _ _⟩
set_option maxHeartbeats 2000000 in
theorem rmake_in (k : UInt8) (p B F1 F2 F3 F : ByteArray) (n C M : Nat) (hn : p.size = n) (hk : 1 ≤ k.toNat ∧ k.toNat ≤ 3) (hp : n ≤ 262144) (hB : bs [k] ++ p = B) (hBs : B.size = n + 1) (hF1 : F1.size = 4) (hF2 : F2.size = 4) (hF3 : F1 ++ F2 = F3) (hF3s : F3.size = 8) (hF : F3 ++ B = F) (w : World)
    (h1 : ∀ w', Calls Tryz.prog 126 #[.int .u64 (n : Int), .int .i64 4] w' (Ret w' (.string F1)))
    (h2 : ∀ w', Calls Tryz.prog 126 #[.int .u64 (M : Int), .int .i64 4] w' (Ret w' (.string F2)))
    (hO : ∀ w', Calls Tryz.prog 79 #[.string B] w' fun e w'' => e = .returned (.int .u32 (C : Int)) ∧ w' = w'')
    (hM : ∀ w', Calls Tryz.prog 78 #[.int .u32 (C : Int)] w' fun e w'' => e = .returned (.int .u32 (M : Int)) ∧ w' = w'') (hM4 : M < 4294967296) :
    Calls Tryz.prog 103 #[.int .u8 k.toNat, .string p] w (Ret w (.tuple #[.string F, .int .i64 0])) := by
  have hcv := run_string_one k (k.toNat : Int) rfl
  obtain ⟨hk1, hk3⟩ := hk
  have hk8 := k.toNat_lt
  have H1 := Lib.hid h1
  have H2 := Lib.hid h2
  have HO := Lib.hid hO
  have HM := Lib.hid hM
  have hmw : IntKind.u64.wrap (M : Int) = (M : Int) := by rw [IntKind.wrap_u64]; omega
  have hs1 : (bs [k]).size = 1 := rfl
  clear h1 h2 hO hM
  generalize bs [k] = K1 at *
  go_enter Tryz.func103, Tryz.ntmps103
  go_wp2_with fail
  refine (H1.out _).mono ?_
  rintro e w1 ⟨rfl, hb1⟩
  have HB1 : Hid (Below w.heap.size w w1) := Lib.hid ((below_one w _).trans (hb1.mono (by simp)))
  clear hb1
  go_wp2_with fail
  refine (HO.out _).mono ?_
  rintro e w' ⟨rfl, rfl⟩
  go_wp2_with fail
  refine (HM.out _).mono ?_
  rintro e w' ⟨rfl, rfl⟩
  go_wp2_with fail
  refine (H2.out _).mono ?_
  rintro e w2 ⟨rfl, hb2⟩
  have HB2 : Hid (Below w.heap.size w w2) := Lib.hid (HB1.out.trans (hb2.mono HB1.out.size))
  clear hb2
  go_wp2
  go_ret2
  exact ⟨rfl, HB2.out⟩
theorem rmake_ok (k : UInt8) (p : ByteArray) (hk : 1 ≤ k.toNat ∧ k.toNat ≤ 3) (hp : p.size ≤ 262144) (w : World) :
    Calls Tryz.prog 103 #[.int .u8 k.toNat, .string p] w (Ret w (.tuple #[.string (bs (Fr.frm k p.data.toList)), .int .i64 0])) := by
  have hBs : (bs (k :: p.data.toList)).size = p.size + 1 := by rw [bs_size]; simp
  exact rmake_in k p _ (bs (Bt.fx 4 p.size)) (bs (Bt.fx 4 (Fr.ck (k :: p.data.toList)))) _ _ p.size (Sm.add 0 (k :: p.data.toList)) (Fr.ck (k :: p.data.toList)) rfl hk hp (bs_cons_of k p) hBs
    (by rw [bs_size, Bt.fx_length]) (by rw [bs_size, Bt.fx_length]) (bs_append _ _) (by rw [bs_size, List.length_append, Bt.fx_length, Bt.fx_length])
    (by rw [bs_append, List.append_assoc]; rfl) w (fun w' => rfixed_any _ 4 w' (by omega) (by omega)) (fun w' => rfixed_any _ 4 w' (by have := Fr.ck_lt (k :: p.data.toList); omega) (by omega))
    (fun w' => rof_any (bs (k :: p.data.toList)) w' (by rw [hBs]; omega)) (fun w' => rmask_any _ w' (Sm.add_lt (by omega) _)) (Sm.mask_lt _)
/-- A frame's bytes; nothing, if it is refused. -/
def mdl (k : UInt8) (p : ByteArray) : List UInt8 := if 1 ≤ k.toNat ∧ k.toNat ≤ 3 then (if p.size ≤ 262144 then Fr.frm k p.data.toList else []) else []
def mkE (k : UInt8) (p : ByteArray) : Nat := if 1 ≤ k.toNat ∧ k.toNat ≤ 3 then (if p.size ≤ 262144 then 0 else 40) else 1
theorem make_any (k : UInt8) (p : ByteArray) (w : World) (hT : Hid (Tab w)) :
    Calls Tryz.prog 54 #[.int .u8 k.toNat, .string p] w (Ret w (.tuple #[.string (bs (mdl k p)), .int .i64 (mkE k p : Nat)])) := by
  unfold mdl mkE
  by_cases hk : 1 ≤ k.toNat ∧ k.toNat ≤ 3
  · rw [if_pos hk, if_pos hk]
    by_cases hp : p.size ≤ 262144
    · rw [if_pos hp, if_pos hp]; exact make_ok k p hk hp w hT
    · rw [if_neg hp, if_neg hp]; exact make_large k p hk (by omega) w
  · rw [if_neg hk, if_neg hk]; exact make_arg k p hk w
theorem rmake_any (k : UInt8) (p : ByteArray) (w : World) :
    Calls Tryz.prog 103 #[.int .u8 k.toNat, .string p] w (Ret w (.tuple #[.string (bs (mdl k p)), .int .i64 (mkE k p : Nat)])) := by
  unfold mdl mkE
  by_cases hk : 1 ≤ k.toNat ∧ k.toNat ≤ 3
  · rw [if_pos hk, if_pos hk]
    by_cases hp : p.size ≤ 262144
    · rw [if_pos hp, if_pos hp]; exact rmake_ok k p hk hp w
    · rw [if_neg hp, if_neg hp]; exact rmake_large k p hk (by omega) w
  · rw [if_neg hk, if_neg hk]; exact rmake_arg k p hk w
end Go.Proofs.YtieemdcoomilaaaGreatDoor
