/- The contract of Others. -/
import Derived.Test.YtbckkfoenembmaaMo
import Derived.Maps.OwnSet
import Derived.WalkArith
import Derived.Maps.AppendAt
namespace Go.Proofs.Ytbckkfoenembmaa
open Go.RowKit Go.Maps
/-- Ints, read wherever they begin. -/
def IAt (W : World) (v : Value) (l : List Int) : Prop :=
  (l = [] ∧ ∃ a c, v = .slice a 0 c) ∨ ∃ g o c, v = .slice (some ⟨g, o, none⟩) l.length c ∧ ∀ j (h : j < l.length), W.cell? ⟨g, o + j, none⟩ = some (.int .i64 l[j])
theorem IAt.below {W W' : World} {v : Value} {l : List Int} (h : IAt W v l) {n : Nat} (hb : Below n W W') (hn : W.heap.size ≤ n) : IAt W' v l := by
  rcases h with h | ⟨g, o, c, rfl, h⟩
  · exact .inl h
  · refine .inr ⟨g, o, c, rfl, fun j hj => ?_⟩
    have hlt : g < W.heap.size := World.block_lt_of_cell? W ⟨g, _, none⟩ (h j hj)
    rw [World.cell?_of_block (a := ⟨g, o + j, none⟩) (hb.block g (by omega))]
    exact h j hj
theorem IAt.slice {W : World} {v : Value} {l : List Int} (h : IAt W v l) : ∃ a c, v = .slice a l.length c := by
  rcases h with ⟨rfl, a, c, rfl⟩ | ⟨g, o, c, rfl, _⟩
  · exact ⟨_, _, rfl⟩
  · exact ⟨_, _, rfl⟩
theorem law3 : Keyed Try.prog 3 := int_keyed Try.underlying3
theorem zero124 (w : World) : (zeroValue 124).run Try.prog w = .ok (.agg #[]) w := by kernel_rfl
/-- The fields of other numbers. -/
def oth (known : List Int) (l : List Gf) : List Gf := l.filter fun f => !known.contains f.n
theorem has_known (known : List Int) (n : Int) : Maps.has (setOf (H := Unit) (.agg []) (known.map (Lit.int .i64))) (Lit.int .i64 n) = known.contains n := by
  rw [has_setOf _ _ _ (fun x hx => by obtain ⟨a, _, rfl⟩ := List.mem_map.1 hx; trivial)]
  induction known with
  | nil => rfl
  | cons a r ih =>
    rw [List.map_cons, List.any_cons, ih, List.contains_cons]
    congr 1
    rw [Bool.eq_iff_iff]
    simp [Lit.sameKey]
    exact eq_comm
theorem cells_new22 (W : World) (o1 o2 : Obj) (x0 x1 : Value) (t : TypeId) : ∀ j u, [x0, x1][j]? = some u → (((W.alloc o1).alloc o2).alloc (.cells #[x0, x1] t)).cell? ((⟨W.heap.size + 1 + 1, 0, none⟩ : Addr).add j) = some u := by
  intro j u hj
  have := cells_new21 (W.alloc o1) o2 x0 x1 t j u hj
  rwa [World.size_alloc] at this
/-- Two cells of a field. -/
theorem og_snoc' {w1 : World} {base : Nat} {l : List Gf} {f : Gf} {n : Int} {V : Value} (h0 : f.n = n) (h1 : f.v.v = V) {v' : Value} (h : w1.ownsRow base 35 2 v' (l.length + 1) (cells2 l ++ [.int .i64 n, V])) : Og w1 base v' (l ++ [f]) := by
  rw [← h0, ← h1] at h
  exact og_snoc h
set_option maxRecDepth 100000 in
set_option maxHeartbeats 1000000 in
theorem others_any (l : List Gf) (hl : l.length ≤ 1000000) (hok : ∀ f ∈ l, f.ok) (kn : List Int) (hkl : kn.length ≤ 1000000) (hkw : ∀ x ∈ kn, (Lit.int .i64 x).wf = true) (v u : Value) (w : World) (hv : GAt w v l) (hu : IAt w u kn) :
    Calls Try.prog 36 #[v, u] w (fun e w' => ∃ v', e = .returned v' ∧ Og w' w.heap.size v' (oth kn l) ∧ Below w.heap.size w w') := by
  obtain ⟨i0, hi, hz0, hz1, hz2⟩ := info_parts Try.info35
  have hmm : ∀ (j : Nat) (w : World), (Instr.makeMap 123 (some (.int .i64 (j : Int)))).run Try.prog w = .ok (.map (some w.heap.size)) (w.alloc (.map #[] 0)) := fun j w => by simp [Instr.makeMap, asInt, asIntOf, Result.andThen]
  have HV := Lib.hid hv
  have HU := Lib.hid hu
  have HOK := Lib.hid hok
  have HKW := Lib.hid hkw
  obtain ⟨va, vc, hv2⟩ := hv.slice
  obtain ⟨ua, uc, hu2⟩ := hu.slice
  clear hv hu hok hkw
  generalize hL : l.length = L at *
  have HL := Lib.hid hL
  generalize hJ : kn.length = J at *
  have HJ := Lib.hid hJ
  clear hL hJ
  subst hv2
  subst hu2
  have HB0 : Hid (Below w.heap.size w (w.alloc (.map #[] 0))) := Lib.hid ((Below.refl _ _).alloc (Nat.le_refl _) _)
  go_enter Try.func36, Try.ntmps36
  go_wp2
  go_loopw [18] (fun i wr => ∃ k : Nat, i = .int .i64 (k : Int) ∧ k ≤ J ∧ Hid (wr.ownsMap Try.prog 3 (unitElem (H := Unit)) w.heap.size k (setOf (H := Unit) (.agg []) ((kn.take k).map (Lit.int .i64)))) ∧ Hid (Below w.heap.size w wr) ∧ Hid (w.heap.size < wr.heap.size)) (fun i _ => J - (intOf i).toNat)
  case atStart => exact ⟨0, rfl, by omega, Lib.hid (World.ownsMap_made _ _ _ _), HB0, Lib.hid (by simp)⟩
  case round =>
    obtain ⟨k, rfl, hk, HM, HB, HS⟩ := hrel
    by_cases hlt : k < J
    · have hkl : k < kn.length := by have := HJ.out; omega
      rcases (HU.out.below HB.out (Nat.le_refl _)) with ⟨h0, _⟩ | ⟨g, og, cg, hg, hcs⟩
      · have := HJ.out; rw [h0] at this; simp at this; omega
      have q0 := hcs k hkl
      have HST : Hid ((setOf (H := Unit) (.agg []) ((kn.take k).map (Lit.int .i64))).put (Lit.int .i64 kn[k]) (.agg []) = setOf (H := Unit) (.agg []) ((kn.take (k + 1)).map (Lit.int .i64))) := Lib.hid (by
        rw [List.take_succ_eq_append_getElem hkl, List.map_append, List.map_cons, List.map_nil, setOf_snoc])
      have hkey := keyOf_int_mk Try.underlying3 (HKW.out kn[k] (List.getElem_mem hkl))
      clear hcs
      generalize kn[k] = x at *
      cases hg
      go_wp2_with (at_mapUpdate; refine wpList_mapUpdate_own _ rfl _ _ _ 123 rfl 3 124 law3 Try.underlying123 (unitElem (H := Unit)) w.heap.size k _ rfl HM.out (by unfold maxLen; omega) _ _ _ rfl rfl hkey _ [] unitElem_mk ?_; intro w1 hown1 hgrow1; have HM1 := Lib.hid hown1; have HB1 := Lib.hid (HB.out.grown hgrow1 (Nat.le_of_lt HS.out) (fun j hj => by cases hj; exact Nat.le_refl _)); have HS1 : Hid (w.heap.size < w1.heap.size) := Lib.hid (Nat.lt_of_lt_of_le HS.out hgrow1.size); clear hown1 hgrow1)
      go_roundw
      case rel => exact ⟨k + 1, by go_num, by omega, Lib.hid (by rw [← HST.out]; exact HM1.out), HB1, HS1⟩
      case measure => simp [intOf]; omega
    · obtain rfl : k = J := by omega
      have HM1 : Hid (wr.ownsMap Try.prog 3 (unitElem (H := Unit)) w.heap.size k (setOf (H := Unit) (.agg []) (kn.map (Lit.int .i64)))) := Lib.hid (by
        have := HM.out
        rw [List.take_of_length_le (by have := HJ.out; omega)] at this
        exact this)
      go_wp2
      go_loopw [8, 28] (fun y i wr => ∃ (q : Nat) (gs : List Gf), i = .int .i64 (q : Int) ∧ q ≤ L ∧ gs.length ≤ q ∧ Hid (oth kn (l.take q) = gs) ∧ Hid (Og wr (w.heap.size + 1) y gs) ∧ Hid (wr.ownsMap Try.prog 3 (unitElem (H := Unit)) w.heap.size k (setOf (H := Unit) (.agg []) (kn.map (Lit.int .i64)))) ∧ Hid (Below w.heap.size w wr) ∧ Hid (w.heap.size < wr.heap.size)) (fun _ i _ => L - (intOf i).toNat)
      case atStart => exact ⟨0, [], rfl, by omega, by simp, Lib.hid (by simp [oth]), Lib.hid (World.ownsRow_nil _ _ _ _), HM1, HB, HS⟩
      case round =>
        obtain ⟨q, gs, rfl, hq, hgl, HGS, HO, HMM, HB, HS⟩ := hrel
        obtain ⟨ya, yc, hy⟩ := (HO.out).shape
        subst hy
        by_cases hqlt : q < L
        · have hql : q < l.length := by have := HL.out; omega
          rcases (HV.out.below HB.out (Nat.le_refl _)) with ⟨h0, _⟩ | ⟨g, og, cg, hg, hcs⟩
          · have := HL.out; rw [h0] at this; simp at this; omega
          obtain ⟨q0, q1⟩ := hcs q hql
          clear hcs
          have hfo := HOK.out l[q] (List.getElem_mem hql)
          have hwf : (Lit.int .i64 l[q].n).wf = true := Go.WalkArith.wf_i64 ⟨hfo.n0, hfo.n1⟩
          have hkey := keyOf_int_mk Try.underlying3 hwf
          have hhas := has_known kn l[q].n
          have HGN : Hid (oth kn (l.take (q + 1)) = if kn.contains l[q].n = true then gs else gs ++ [l[q]]) := Lib.hid (by
            rw [List.take_succ_eq_append_getElem hql]
            unfold oth
            rw [List.filter_append]
            have := HGS.out
            unfold oth at this
            rw [this]
            by_cases hc : kn.contains l[q].n = true
            · rw [if_pos hc, List.filter_cons_of_neg (by simp only [hc]; decide), List.filter_nil, List.append_nil]
            · rw [if_neg hc, List.filter_cons_of_pos (by simpa using hc), List.filter_nil])
          clear hfo hwf
          generalize l[q] = f at *
          have hS := f.v.st
          have hone := f.v.one
          cases hg
          cases hc : kn.contains f.n with
          | true =>
            rw [hc] at hhas HGN
            rw [if_pos rfl] at HGN
            have HO2 := Lib.hid (Og.alloc (Og.alloc HO.out (.cells #[.int .i64 f.n, f.v.v] 35)) (.cells #[] 124))
            have HM2 := Lib.hid ((HMM.out.alloc (.cells #[.int .i64 f.n, f.v.v] 35)).alloc (.cells #[] 124))
            have HB2 := Lib.hid ((HB.out.alloc HB.out.size (.cells #[.int .i64 f.n, f.v.v] 35)).alloc (Nat.le_trans HB.out.size (by simp)) (.cells #[] 124))
            have HS2 : Hid (w.heap.size < ((wr.alloc (.cells #[.int .i64 f.n, f.v.v] 35)).alloc (.cells #[] 124)).heap.size) := Lib.hid (by have := HS.out; simp; omega)
            generalize f.v.v = V at *
            generalize f.n = n at *
            go_wp2_with (at_lookup; refine wpList_lookup_own_unit _ rfl _ _ 123 rfl 3 124 law3 Try.underlying123 (zero124 _) w.heap.size k _ rfl (HMM.out.alloc _) _ _ rfl hkey ?_; rw [hhas])
            go_roundw
            case rel => exact ⟨q + 1, gs, by go_num, by omega, by omega, HGN, HO2, HM2, HB2, HS2⟩
            case measure => simp [intOf]; omega
          | false =>
            rw [hc] at hhas HGN
            rw [if_neg (by simp)] at HGN
            have HSN := Lib.hid (fun (W : World) (v' : Value) (h : W.ownsRow (w.heap.size + 1) 35 2 v' (gs.length + 1) (cells2 gs ++ [.int .i64 f.n, f.v.v])) => (og_snoc' rfl rfl h : Og W (w.heap.size + 1) v' (gs ++ [f])))
            have HLN : Hid ((gs ++ [f]).length = gs.length + 1) := Lib.hid (by simp)
            clear hc
            generalize f.v.v = V at *
            generalize f.n = n at *
            generalize gs ++ [f] = gsn at *
            go_wp2_with (first
              | (at_lookup; refine wpList_lookup_own_unit _ rfl _ _ 123 rfl 3 124 law3 Try.underlying123 (zero124 _) w.heap.size k _ rfl (HMM.out.alloc _) _ _ rfl hkey ?_; rw [hhas])
              | (at_builtin; refine wpList_append_own_at _ rfl (.tmp 41) (.tmp 43) 27 rfl (w.heap.size + 1) 35 i0 _ 2 24 Try.underlying27 hi hz0 hz1 hz2 (by rfl) (by decide) (.slice ya gs.length yc) gs.length (cells2 gs) rfl (World.ownsRow.alloc (World.ownsRow.alloc (World.ownsRow.alloc HO.out _) _) _) ⟨wr.heap.size + 1 + 1, 0, none⟩ 1 1 [.int .i64 n, V] rfl rfl (cells_new22 _ _ _ _ _ _) (one2 hone) (by unfold maxLen; omega) (by omega) (by have := HS.out; simp; omega) ?_; intro v' w6 hown' hgrow hnil hloc; have HON := Lib.hid (HSN.out _ _ hown'); have HB6 := Lib.hid ((((HB.out.alloc HB.out.size (.cells #[.int .i64 n, V] 35)).alloc (by have := HS.out; simp; omega) (.cells #[] 124)).alloc (by have := HS.out; simp; omega) (.cells #[.int .i64 n, V] 35)).grown hgrow (by have := HS.out; simp; omega) (fun g hg => by have := (own_lt HO.out g hg).1; omega)); have HM6 := Lib.hid ((((HMM.out.alloc (.cells #[.int .i64 n, V] 35)).alloc (.cells #[] 124)).alloc (.cells #[.int .i64 n, V] 35)).kept hgrow (fun e => by have := (own_lt HO.out _ e.symm).1; omega)); have HS6 : Hid (w.heap.size < w6.heap.size) := Lib.hid (by have h1 := HS.out; have h2 := hgrow.size; simp at h2; omega); clear hown' hgrow hnil hloc))
            go_roundw
            case rel => exact ⟨q + 1, gsn, by go_num, by omega, by have := HLN.out; omega, HGN, HON, HM6, HB6, HS6⟩
            case measure => simp [intOf]; omega
        · obtain rfl : q = L := by omega
          have hr : Hid (oth kn l = gs) := Lib.hid (by
            have := HGS.out
            rw [List.take_of_length_le (by have := HL.out; omega)] at this
            exact this)
          go_wp2
          go_ret
          refine ⟨_, rfl, ?_, HB.out⟩
          rw [hr.out]
          exact Og.mono HO.out (by omega)
end Go.Proofs.Ytbckkfoenembmaa
