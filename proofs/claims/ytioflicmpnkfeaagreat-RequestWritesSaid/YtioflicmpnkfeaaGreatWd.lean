/- The document's Series and Encode. -/
import Derived.Test.YtioflicmpnkfeaaGreatWc
namespace Go.Proofs.YtioflicmpnkfeaaGreat
open Go Go.RowKit
set_option maxRecDepth 100000
/-- Fields of parts, as the document has them. -/
def pfs (k : Int) (l : List (List UInt8)) : List Ff := l.map fun b => ⟨k, 2, 0, bs b⟩
theorem pfs_snoc (k : Int) (l : List (List UInt8)) (b : List UInt8) : pfs k (l ++ [b]) = pfs k l ++ [⟨k, 2, 0, bs b⟩] := by unfold pfs; simp
theorem pfs_len (k : Int) (l : List (List UInt8)) : (pfs k l).length = l.length := by unfold pfs; simp
theorem fSr_ffd (x : Sr) : (fSr x).map ffd = pfs 1 (x.ls.map eLb) ++ pfs 2 (x.ss.map eSm) := by
  unfold fSr pfs
  simp only [List.map_append, List.map_map]
  rfl
theorem fRq_ffd (l : List Sr) : (fRq l).map ffd = pfs 1 (l.map eSr) := by
  unfold fRq pfs
  simp only [List.map_map]
  rfl
theorem siz_ok {x : Sr} (h : Siz x) : ∀ f ∈ fSr x, f.ok := by
  intro f hf
  have h3 := h.len
  unfold fSr at hf
  rcases List.mem_append.1 hf with hf | hf
  · obtain ⟨y, hy, rfl⟩ := List.mem_map.1 hf
    have h2 := (h.l y hy).2
    have e : (eM (fLb y)).length = (eLb y).length := rfl
    exact ⟨rfl, fun h => (by rcases h with h | h <;> cases h), fun h => (by cases h), fun _ => ⟨rfl, by show (eLb y).length < _; omega⟩, fun h => absurd rfl h⟩
  · obtain ⟨y, hy, rfl⟩ := List.mem_map.1 hf
    have h2 := (h.s y hy).2
    have e : (eM (fSm y)).length = (eSm y).length := rfl
    exact ⟨rfl, fun h => (by rcases h with h | h <;> cases h), fun h => (by cases h), fun _ => ⟨rfl, by show (eSm y).length < _; omega⟩, fun h => absurd rfl h⟩
set_option maxHeartbeats 4000000 in
theorem ser19_any (x : Sr) (hx : Siz x) (a b : Value) (w : World) (hA : LAt w a x.ls) (hB : MAt w b x.ss) : Calls Tryz.prog 19 #[.agg #[a, b]] w (Ret w (.string (bs (eSr x)))) := by
  obtain ⟨i0, hi, hz0, hz1, hz2⟩ := info_parts Tryz.info47
  have hcnt : x.ls.length + x.ss.length ≤ 1000000 := by
    have h1 := eM_cnt (fSr x)
    have h2 := hx.len
    have e : (eM (fSr x)).length = (eSr x).length := rfl
    have e2 : (fSr x).length = x.ls.length + x.ss.length := by unfold fSr; simp
    omega
  have hok : ∀ f ∈ fSr x, f.ok := siz_ok hx
  have hW := fun (u : Value) (W : World) (h : FAt W u (pfs 1 (x.ls.map eLb) ++ pfs 2 (x.ss.map eSm))) => rw_any (fSr x) hok hx.len u W (by rw [fSr_ffd]; exact h)
  rw [show bs (eM (fSr x)) = bs (eSr x) from rfl] at hW
  generalize bs (eSr x) = R at *
  have HW := Lib.hid hW
  have HLB : Hid (∀ y ∈ x.ls, ∀ W, Calls Tryz.prog 30 #[.agg #[.string y.n, .string y.v]] W (Ret W (.string (bs (eLb y))))) := Lib.hid fun y hy W => lab30_any y (hx.l y hy).2 W
  have HSM : Hid (∀ y ∈ x.ss, ∀ W, Calls Tryz.prog 31 #[.agg #[.int .i64 y.t, .int .u64 (y.b : Int)]] W (Ret W (.string (bs (eSm y))))) := Lib.hid fun y hy W => smp31_any y (hx.ss y hy) W
  obtain ⟨a1, a2, ha⟩ := At2.slice hA
  obtain ⟨b1, b2, hb⟩ := At2.slice hB
  rw [List.length_map] at ha hb
  obtain ⟨L, hL⟩ : ∃ L, x.ls.length = L := ⟨_, rfl⟩
  obtain ⟨M, hM⟩ : ∃ M, x.ss.length = M := ⟨_, rfl⟩
  rw [hL] at ha hcnt
  rw [hM] at hb hcnt
  subst ha; subst hb
  have HL := Lib.hid hL
  have HM := Lib.hid hM
  have HY0 : Hid (Box2 (w.alloc (.cells #[.slice a1 L a2, .slice b1 M b2] 29)) w.heap.size 29 (.slice a1 L a2) (.slice b1 M b2)) := Lib.hid (Box2.new _ _ _ _)
  have HB0 : Hid (Below w.heap.size w (w.alloc (.cells #[.slice a1 L a2, .slice b1 M b2] 29))) := Lib.hid ((Below.refl _ _).alloc (Nat.le_refl _) _)
  have HO0 : Hid (Of (w.alloc (.cells #[.slice a1 L a2, .slice b1 M b2] 29)) (w.heap.size + 1) (.slice none 0 0) []) := Lib.hid ⟨rfl, .inl ⟨rfl, rfl⟩⟩
  have hcA : ∀ k (hk : k < x.ls.length), ∃ g o, a1 = some ⟨g, o, none⟩ ∧ w.cell? ⟨g, o + k * 2, none⟩ = some (.string x.ls[k].n) ∧ w.cell? ⟨g, o + k * 2 + 1, none⟩ = some (.string x.ls[k].v) := fun k hk => by
    rcases hA with ⟨h0, _⟩ | ⟨g, o, c, e, h⟩
    · have := congrArg List.length h0; rw [List.length_map] at this; simp at this; rw [this] at hk; simp at hk
    · injection e with e1 _ _
      have := h k (by rw [List.length_map]; exact hk)
      rw [List.getElem_map] at this
      exact ⟨g, o, e1, this⟩
  have hcB : ∀ k (hk : k < x.ss.length), ∃ g o, b1 = some ⟨g, o, none⟩ ∧ w.cell? ⟨g, o + k * 2, none⟩ = some (.int .i64 x.ss[k].t) ∧ w.cell? ⟨g, o + k * 2 + 1, none⟩ = some (.int .u64 (x.ss[k].b : Int)) := fun k hk => by
    rcases hB with ⟨h0, _⟩ | ⟨g, o, c, e, h⟩
    · have := congrArg List.length h0; rw [List.length_map] at this; simp at this; rw [this] at hk; simp at hk
    · injection e with e1 _ _
      have := h k (by rw [List.length_map]; exact hk)
      rw [List.getElem_map] at this
      exact ⟨g, o, e1, this⟩
  have HCA := Lib.hid hcA
  have HCB := Lib.hid hcB
  have hA1 : (∃ g o, a1 = some ⟨g, o, none⟩) ∨ L = 0 := by
    rcases Nat.eq_zero_or_pos L with h | h
    · exact .inr h
    · obtain ⟨g, o, e, _⟩ := hcA 0 (by omega); exact .inl ⟨g, o, e⟩
  have hB1 : (∃ g o, b1 = some ⟨g, o, none⟩) ∨ M = 0 := by
    rcases Nat.eq_zero_or_pos M with h | h
    · exact .inr h
    · obtain ⟨g, o, e, _⟩ := hcB 0 (by omega); exact .inl ⟨g, o, e⟩
  have HA1 := Lib.hid hA1
  have HB1' := Lib.hid hB1
  clear hW hok hx hA hB hL hM hcA hcB hA1 hB1
  go_enter Tryz.func19, Tryz.ntmps19
  go_wp2
  go_loopw [3, 4] (fun u i wr => ∃ k : Nat, k ≤ L ∧ i = .int .i64 (k : Int) ∧ Hid (Of wr (w.heap.size + 1) u (pfs 1 ((x.ls.take k).map eLb))) ∧ Hid (Below w.heap.size w wr) ∧ Hid (Box2 wr w.heap.size 29 (.slice a1 L a2) (.slice b1 M b2))) (fun _ i _ => L - (intOf i).toNat)
  case atStart => exact ⟨0, by omega, rfl, HO0, HB0, HY0⟩
  case round =>
    clear HO0 HB0 HY0
    obtain ⟨k, hk, rfl, HO, HB, HY⟩ := hrel
    have y0 := HY.out.c0
    have y1 := HY.out.c1
    by_cases hlt : k < L
    · have hkl : k < x.ls.length := by rw [HL.out]; exact hlt
      obtain ⟨g, o, hg, x0, x1⟩ := HCA.out k hkl
      subst hg
      have hlg := World.block_lt_of_cell? w ⟨g, _, none⟩ x0
      have keep : ∀ {i : Nat} {u : Value}, w.cell? ⟨g, i, none⟩ = some u → wr.cell? ⟨g, i, none⟩ = some u := fun {i u} h => (HB.out.cell (p := ⟨g, i, none⟩) hlg).trans h
      have x0 := keep x0
      have x1 := keep x1
      have hcl := HLB.out x.ls[k] (List.getElem_mem hkl)
      have hsn : ((x.ls.take (k + 1)).map eLb) = (x.ls.take k).map eLb ++ [eLb x.ls[k]] := by rw [List.take_succ_eq_append_getElem hkl, List.map_append]; rfl
      have HSN := Lib.hid hsn
      have hln : (pfs 1 ((x.ls.take k).map eLb)).length = k := by rw [pfs_len, List.length_map, List.length_take]; omega
      have hO := HO.out
      unfold Of at hO
      rw [hln] at hO
      obtain ⟨va, vc, hv⟩ := ownsRow_shape hO
      subst hv
      have HO' := Lib.hid hO
      have HCL := Lib.hid hcl
      clear keep hsn hcl hO
      generalize x.ls[k] = Y at *
      obtain ⟨Y0, Y1⟩ := Y
      dsimp only at *
      obtain ⟨Bx, hBx⟩ : ∃ Bx, bs (eLb ⟨Y0, Y1⟩) = Bx := ⟨_, rfl⟩
      have HBX := Lib.hid hBx
      rw [hBx] at HCL
      clear hBx
      go_wp2_with fail
      refine (HCL.out _).mono ?_
      rintro e w3 ⟨rfl, hb3⟩
      have HB3 := Lib.hid (below_chain HB.out hb3)
      have HR3 := Lib.hid (ownsRow_below HO'.out hb3 (Nat.le_refl _))
      have HY3 := Lib.hid (HY.out.below hb3 HY.out.lt)
      clear hb3
      go_wp2_with fail
      refine (part18_any 1 Bx _).mono ?_
      rintro e w4 ⟨rfl, hb4⟩
      have HB4 := Lib.hid (below_more (.cells #[.int .i64 1, .int .u8 2, .int .u64 0, .string Bx] 47) (below_chain HB3.out hb4))
      have HR4 := Lib.hid (World.ownsRow.alloc (ownsRow_below HR3.out hb4 (Nat.le_refl _)) (.cells #[.int .i64 1, .int .u8 2, .int .u64 0, .string Bx] 47))
      have HY4 := Lib.hid ((HY3.out.below hb4 HY3.out.lt).alloc (.cells #[.int .i64 1, .int .u8 2, .int .u64 0, .string Bx] 47))
      have HC4 := Lib.hid (cells_new4 w4 (.int .i64 1) (.int .u8 2) (.int .u64 0) (.string Bx) 47)
      have HE4 : Hid (w.heap.size + 1 ≤ (w4.alloc (.cells #[.int .i64 1, .int .u8 2, .int .u64 0, .string Bx] 47)).heap.size) := Lib.hid (by have := HY4.out.lt; omega)
      clear hb4 x0 x1
      go_wp2_with (at_builtin; refine wpList_append_own_at _ rfl (.tmp 13) (.tmp 21) 44 rfl (w.heap.size + 1) 47 i0 _ 4 40 Tryz.underlying44 hi hz0 hz1 hz2 (by rfl) (by decide) (.slice va (k) vc) (k) (cells4 (pfs 1 ((x.ls.take k).map eLb))) rfl HR4.out ⟨w4.heap.size, 0, none⟩ 1 1 [.int .i64 1, .int .u8 2, .int .u64 0, .string Bx] rfl rfl HC4.out one4 (by unfold maxLen; omega) (by omega) HE4.out ?_; intro v5 u5 hown hgrow hnil hloc; have HON := Lib.hid hown; have HB5 := Lib.hid (HB4.out.grown hgrow HB4.out.size (fun k e => by have := (own_lt HR4.out k e).1; omega)); have HY5 : Hid (Box2 u5 w.heap.size 29 (.slice (some ⟨g, o, none⟩) L a2) (.slice b1 M b2)) := Lib.hid (HY4.out.kept hgrow (fun e => by have := (own_lt HR4.out _ e.symm).1; omega)); clear hown hgrow hnil hloc)
      go_roundw
      case rel => exact ⟨k + 1, by omega, by go_num, Lib.hid (by rw [HSN.out, pfs_snoc, HBX.out]; exact of_snoc rfl (by rw [hln]; exact HON.out)), HB5, HY5⟩
      case measure => simp [intOf]; omega
    · obtain rfl : k = L := by omega
      obtain ⟨wo, hwo⟩ : ∃ wo, wo = wr := ⟨_, rfl⟩
      subst hwo
      have hE : Hid ((x.ls.take k).map eLb = x.ls.map eLb) := Lib.hid (by rw [← HL.out, List.take_length])
      have hO2 := HO.out
      rw [hE.out] at hO2
      obtain ⟨ua, uc, hu⟩ := hO2.shape
      rw [pfs_len, List.length_map, HL.out] at hu
      subst hu
      have HO1 := Lib.hid hO2
      clear hO2 HO
      go_wp2
      go_loopw [3, 5] (fun u i wr => ∃ j : Nat, j ≤ M ∧ i = .int .i64 (j : Int) ∧ Hid (Of wr (w.heap.size + 1) u (pfs 1 (x.ls.map eLb) ++ pfs 2 ((x.ss.take j).map eSm))) ∧ Hid (Below w.heap.size w wr) ∧ Hid (Box2 wr w.heap.size 29 (.slice a1 k a2) (.slice b1 M b2))) (fun _ i _ => M - (intOf i).toNat)
      case atStart => exact ⟨0, by omega, rfl, Lib.hid (by rw [List.take_zero, List.map_nil]; unfold pfs; rw [List.map_nil, List.append_nil]; exact HO1.out), HB, HY⟩
      case round =>
        clear HO1 HB HY y0 y1
        obtain ⟨j, hj, rfl, HO, HB, HY⟩ := hrel
        have y0 := HY.out.c0
        have y1 := HY.out.c1
        by_cases hlt : j < M
        · have hjl : j < x.ss.length := by rw [HM.out]; exact hlt
          obtain ⟨g, o, hg, x0, x1⟩ := HCB.out j hjl
          subst hg
          have hlg := World.block_lt_of_cell? w ⟨g, _, none⟩ x0
          have keep : ∀ {i : Nat} {u : Value}, w.cell? ⟨g, i, none⟩ = some u → wr.cell? ⟨g, i, none⟩ = some u := fun {i u} h => (HB.out.cell (p := ⟨g, i, none⟩) hlg).trans h
          have x0 := keep x0
          have x1 := keep x1
          have hcl := HSM.out x.ss[j] (List.getElem_mem hjl)
          have hsn : ((x.ss.take (j + 1)).map eSm) = (x.ss.take j).map eSm ++ [eSm x.ss[j]] := by rw [List.take_succ_eq_append_getElem hjl, List.map_append]; rfl
          have HSN := Lib.hid hsn
          have hln : (pfs 1 (x.ls.map eLb) ++ pfs 2 ((x.ss.take j).map eSm)).length = k + j := by rw [List.length_append, pfs_len, pfs_len, List.length_map, List.length_map, List.length_take, HL.out]; omega
          have hO := HO.out
          unfold Of at hO
          rw [hln] at hO
          obtain ⟨va, vc, hv⟩ := ownsRow_shape hO
          subst hv
          have HO' := Lib.hid hO
          have HCL := Lib.hid hcl
          clear keep hsn hcl hO
          generalize x.ss[j] = Y at *
          obtain ⟨Y0, Y1⟩ := Y
          dsimp only at *
          obtain ⟨Bx, hBx⟩ : ∃ Bx, bs (eSm ⟨Y0, Y1⟩) = Bx := ⟨_, rfl⟩
          have HBX := Lib.hid hBx
          rw [hBx] at HCL
          clear hBx
          go_wp2_with fail
          refine (HCL.out _).mono ?_
          rintro e w3 ⟨rfl, hb3⟩
          have HB3 := Lib.hid (below_chain HB.out hb3)
          have HR3 := Lib.hid (ownsRow_below HO'.out hb3 (Nat.le_refl _))
          have HY3 := Lib.hid (HY.out.below hb3 HY.out.lt)
          clear hb3
          go_wp2_with fail
          refine (part18_any 2 Bx _).mono ?_
          rintro e w4 ⟨rfl, hb4⟩
          have HB4 := Lib.hid (below_more (.cells #[.int .i64 2, .int .u8 2, .int .u64 0, .string Bx] 47) (below_chain HB3.out hb4))
          have HR4 := Lib.hid (World.ownsRow.alloc (ownsRow_below HR3.out hb4 (Nat.le_refl _)) (.cells #[.int .i64 2, .int .u8 2, .int .u64 0, .string Bx] 47))
          have HY4 := Lib.hid ((HY3.out.below hb4 HY3.out.lt).alloc (.cells #[.int .i64 2, .int .u8 2, .int .u64 0, .string Bx] 47))
          have HC4 := Lib.hid (cells_new4 w4 (.int .i64 2) (.int .u8 2) (.int .u64 0) (.string Bx) 47)
          have HE4 : Hid (w.heap.size + 1 ≤ (w4.alloc (.cells #[.int .i64 2, .int .u8 2, .int .u64 0, .string Bx] 47)).heap.size) := Lib.hid (by have := HY4.out.lt; omega)
          clear hb4 x0 x1
          go_wp2_with (at_builtin; refine wpList_append_own_at _ rfl (.tmp 30) (.tmp 38) 44 rfl (w.heap.size + 1) 47 i0 _ 4 40 Tryz.underlying44 hi hz0 hz1 hz2 (by rfl) (by decide) (.slice va (k + j) vc) (k + j) (cells4 (pfs 1 (x.ls.map eLb) ++ pfs 2 ((x.ss.take j).map eSm))) rfl HR4.out ⟨w4.heap.size, 0, none⟩ 1 1 [.int .i64 2, .int .u8 2, .int .u64 0, .string Bx] rfl rfl HC4.out one4 (by unfold maxLen; omega) (by omega) HE4.out ?_; intro v5 u5 hown hgrow hnil hloc; have HON := Lib.hid hown; have HB5 := Lib.hid (HB4.out.grown hgrow HB4.out.size (fun k e => by have := (own_lt HR4.out k e).1; omega)); have HY5 : Hid (Box2 u5 w.heap.size 29 (.slice a1 k a2) (.slice (some ⟨g, o, none⟩) M b2)) := Lib.hid (HY4.out.kept hgrow (fun e => by have := (own_lt HR4.out _ e.symm).1; omega)); clear hown hgrow hnil hloc)
          go_roundw
          case rel => exact ⟨j + 1, by omega, by go_num, Lib.hid (by rw [HSN.out, pfs_snoc, HBX.out, ← List.append_assoc]; exact of_snoc rfl (by rw [hln]; exact HON.out)), HB5, HY5⟩
          case measure => simp [intOf]; omega
        · obtain rfl : j = M := by omega
          have hE2 : Hid ((x.ss.take j).map eSm = x.ss.map eSm) := Lib.hid (by rw [← HM.out, List.take_length])
          have hO3 := HO.out
          rw [hE2.out] at hO3
          have hFA := hO3.at
          have HFA := Lib.hid hFA
          clear hO3 hFA
          go_wp2_with fail
          refine (HW.out _ _ HFA.out).mono ?_
          rintro e w9 ⟨rfl, hb9⟩
          have HB9 := Lib.hid (below_chain HB.out hb9)
          clear hb9
          go_wp2
          go_ret
          exact ⟨rfl, HB9.out⟩
end Go.Proofs.YtioflicmpnkfeaaGreat
