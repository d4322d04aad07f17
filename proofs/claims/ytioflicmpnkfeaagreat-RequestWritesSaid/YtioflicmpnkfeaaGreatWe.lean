/- The document's Encode. -/
import Derived.Test.YtioflicmpnkfeaaGreatWd
namespace Go.Proofs.YtioflicmpnkfeaaGreat
open Go Go.RowKit
set_option maxRecDepth 100000
set_option maxHeartbeats 4000000 in
theorem encode9_any (zs : List Zr) (hok : ∀ z ∈ zs, ∀ y ∈ z.x.ss, y.ok) (hlen : (eRq (zs.map Zr.x)).length ≤ 1000000) (v : Value) (w : World) (hv : SAt w v zs) : Calls Tryz.prog 9 #[v] w (Ret w (.string (bs (eRq (zs.map Zr.x))))) := by
  obtain ⟨i0, hi, hz0, hz1, hz2⟩ := info_parts Tryz.info47
  have hsz : ∀ z ∈ zs, Siz z.x := fun z hz => Siz.of (l := zs.map Zr.x) (fun x hx => by obtain ⟨z, hz, rfl⟩ := List.mem_map.1 hx; exact hok z hz) hlen z.x (List.mem_map_of_mem hz)
  have hcnt : zs.length ≤ 1000000 := by
    have h1 := eM_cnt (fRq (zs.map Zr.x))
    have e : (eM (fRq (zs.map Zr.x))).length = (eRq (zs.map Zr.x)).length := rfl
    have e2 : (fRq (zs.map Zr.x)).length = zs.length := by unfold fRq; simp
    omega
  have hfok : ∀ f ∈ fRq (zs.map Zr.x), f.ok := by
    intro f hf
    unfold fRq at hf
    obtain ⟨x, hx, rfl⟩ := List.mem_map.1 hf
    obtain ⟨z, hz, rfl⟩ := List.mem_map.1 hx
    have h2 := (hsz z hz).len
    exact ⟨rfl, fun h => (by rcases h with h | h <;> cases h), fun h => (by cases h), fun _ => ⟨rfl, by show (eSr z.x).length < _; omega⟩, fun h => absurd rfl h⟩
  have hW := fun (u : Value) (W : World) (h : FAt W u (pfs 1 ((zs.map Zr.x).map eSr))) => rw_any (fRq (zs.map Zr.x)) hfok hlen u W (by rw [fRq_ffd]; exact h)
  rw [show bs (eM (fRq (zs.map Zr.x))) = bs (eRq (zs.map Zr.x)) from rfl] at hW
  generalize bs (eRq (zs.map Zr.x)) = R at *
  have HW := Lib.hid hW
  have HSR : Hid (∀ z ∈ zs, ∀ W, LAt W z.a z.x.ls → MAt W z.b z.x.ss → Calls Tryz.prog 19 #[.agg #[z.a, z.b]] W (Ret W (.string (bs (eSr z.x))))) := Lib.hid fun z hz W h1 h2 => ser19_any z.x (hsz z hz) z.a z.b W h1 h2
  have HLS := Lib.hid hv.ls
  have HSS := Lib.hid hv.ss
  rcases hv.row with ⟨h0, a, c, rfl⟩ | ⟨g, o, c, rfl, hc⟩
  · have hzn : zs = [] := List.map_eq_nil_iff.1 h0
    subst hzn
    clear hW hfok hok hv hsz hlen hcnt h0
    go_enter Tryz.func9, Tryz.ntmps9
    go_wp2
    go_loop [3, 4] (fun u i => u = .slice none 0 0 ∧ i = .int .i64 0) (fun _ _ => 0)
    case atStart => exact ⟨rfl, rfl⟩
    case round =>
      obtain ⟨rfl, rfl⟩ := hrel
      go_wp2_with fail
      refine (HW.out _ _ (FAt.nil _)).mono ?_
      rintro e w9 ⟨rfl, hb9⟩
      have HB9 := Lib.hid hb9
      clear hb9
      go_wp2
      go_ret
      exact ⟨rfl, HB9.out⟩
  · have hcA : ∀ k (hk : k < zs.length), w.cell? ⟨g, o + k * 2, none⟩ = some zs[k].a ∧ w.cell? ⟨g, o + k * 2 + 1, none⟩ = some zs[k].b := fun k hk => by
      have := hc k (by rw [List.length_map]; exact hk)
      rw [List.getElem_map] at this
      exact this
    have HCA := Lib.hid hcA
    obtain ⟨L, hL⟩ : ∃ L, zs.length = L := ⟨_, rfl⟩
    rw [List.length_map, hL]
    rw [hL] at hcnt
    have HL := Lib.hid hL
    clear hW hfok hok hv hsz hlen hc hcA hL
    go_enter Tryz.func9, Tryz.ntmps9
    go_wp2
    go_loopw [3, 4] (fun u i wr => ∃ k : Nat, k ≤ L ∧ i = .int .i64 (k : Int) ∧ Hid (Of wr w.heap.size u (pfs 1 (((zs.take k).map Zr.x).map eSr))) ∧ Hid (Below w.heap.size w wr)) (fun _ i _ => L - (intOf i).toNat)
    case atStart => exact ⟨0, by omega, rfl, Lib.hid ⟨rfl, .inl ⟨rfl, rfl⟩⟩, Lib.hid (Below.refl _ _)⟩
    case round =>
      obtain ⟨k, hk, rfl, HO, HB⟩ := hrel
      by_cases hlt : k < L
      · have hkl : k < zs.length := by rw [HL.out]; exact hlt
        obtain ⟨x0, x1⟩ := HCA.out k hkl
        have hlg := World.block_lt_of_cell? w ⟨g, _, none⟩ x0
        have keep : ∀ {i : Nat} {u : Value}, w.cell? ⟨g, i, none⟩ = some u → wr.cell? ⟨g, i, none⟩ = some u := fun {i u} h => (HB.out.cell (p := ⟨g, i, none⟩) hlg).trans h
        have x0 := keep x0
        have x1 := keep x1
        have h1 := At2.below (HLS.out _ (List.getElem_mem hkl)) HB.out (Nat.le_refl _)
        have h2 := At2.below (HSS.out _ (List.getElem_mem hkl)) HB.out (Nat.le_refl _)
        have hcl := HSR.out _ (List.getElem_mem hkl) wr h1 h2
        have hsn : ((zs.take (k + 1)).map Zr.x).map eSr = ((zs.take k).map Zr.x).map eSr ++ [eSr zs[k].x] := by rw [List.take_succ_eq_append_getElem hkl, List.map_append, List.map_append]; rfl
        have HSN := Lib.hid hsn
        have hln : (pfs 1 (((zs.take k).map Zr.x).map eSr)).length = k := by rw [pfs_len, List.length_map, List.length_map, List.length_take]; omega
        have hO := HO.out
        unfold Of at hO
        rw [hln] at hO
        obtain ⟨va, vc, hv⟩ := ownsRow_shape hO
        subst hv
        have HO' := Lib.hid hO
        obtain ⟨p1, p2, hp⟩ := At2.slice h1
        obtain ⟨r1, r2, hr⟩ := At2.slice h2
        rw [hp, hr] at hcl
        rw [hp] at x0
        rw [hr] at x1
        have HCL := Lib.hid hcl
        clear keep hsn hcl hO h1 h2 hp hr
        generalize (List.map lp zs[k].x.ls).length = n1 at *
        generalize (List.map sp zs[k].x.ss).length = n2 at *
        obtain ⟨Bx, hBx⟩ : ∃ Bx, bs (eSr zs[k].x) = Bx := ⟨_, rfl⟩
        have HBX := Lib.hid hBx
        rw [hBx] at HCL
        clear hBx
        go_wp2_with fail
        refine HCL.out.mono ?_
        rintro e w3 ⟨rfl, hb3⟩
        have HB3 := Lib.hid (below_chain HB.out hb3)
        have HR3 := Lib.hid (ownsRow_below HO'.out hb3 (Nat.le_refl _))
        clear hb3
        go_wp2_with fail
        refine (part18_any 1 Bx _).mono ?_
        rintro e w4 ⟨rfl, hb4⟩
        have HB4 := Lib.hid (below_more (.cells #[.int .i64 1, .int .u8 2, .int .u64 0, .string Bx] 47) (below_chain HB3.out hb4))
        have HR4 := Lib.hid (World.ownsRow.alloc (ownsRow_below HR3.out hb4 (Nat.le_refl _)) (.cells #[.int .i64 1, .int .u8 2, .int .u64 0, .string Bx] 47))
        have HC4 := Lib.hid (cells_new4 w4 (.int .i64 1) (.int .u8 2) (.int .u64 0) (.string Bx) 47)
        clear hb4 x0 x1
        go_wp2_with (at_builtin; refine wpList_append_own_at _ rfl (.tmp 11) (.tmp 18) 44 rfl w.heap.size 47 i0 _ 4 40 Tryz.underlying44 hi hz0 hz1 hz2 (by rfl) (by decide) (.slice va k vc) k (cells4 (pfs 1 (((zs.take k).map Zr.x).map eSr))) rfl HR4.out ⟨w4.heap.size, 0, none⟩ 1 1 [.int .i64 1, .int .u8 2, .int .u64 0, .string Bx] rfl rfl HC4.out one4 (by unfold maxLen; omega) (by omega) HB4.out.size ?_; intro v5 u5 hown hgrow hnil hloc; have HON := Lib.hid hown; have HB5 := Lib.hid (HB4.out.grown hgrow HB4.out.size (fun k e => (own_lt HR4.out k e).1)); clear hown hgrow hnil hloc)
        go_roundw
        case rel => exact ⟨k + 1, by omega, by go_num, Lib.hid (by rw [HSN.out, pfs_snoc, HBX.out]; exact of_snoc rfl (by rw [hln]; exact HON.out)), HB5⟩
        case measure => simp [intOf]; omega
      · obtain rfl : k = L := by omega
        have hE : Hid (((zs.take k).map Zr.x).map eSr = (zs.map Zr.x).map eSr) := Lib.hid (by rw [← HL.out, List.take_length])
        have hO2 := HO.out
        rw [hE.out] at hO2
        have hFA := hO2.at
        have HFA := Lib.hid hFA
        clear hO2 hFA
        go_wp2_with fail
        refine (HW.out _ _ HFA.out).mono ?_
        rintro e w9 ⟨rfl, hb9⟩
        have HB9 := Lib.hid (below_chain HB.out hb9)
        clear hb9
        go_wp2
        go_ret
        exact ⟨rfl, HB9.out⟩
end Go.Proofs.YtioflicmpnkfeaaGreat
