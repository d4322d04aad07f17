/- The contract of Encode. -/
import Derived.Test.YtioflicmpnkfeaaGreatQe
namespace Go.Proofs.YtioflicmpnkfeaaGreat
open Go Go.RowKit
set_option maxRecDepth 100000
theorem fRq_gpt (l : List Sr) : (fRq l).map gfd = gpt 1 (l.map fSr) := by
  rw [show (1 : Int) = ((1 : Nat) : Int) from rfl, gpt_parts]
  unfold fRq
  rw [List.map_map, List.map_map, List.map_map]
  rfl
theorem Siz.of {l : List Sr} (hs : ∀ x ∈ l, ∀ y ∈ x.ss, y.ok) (hl : (eRq l).length ≤ 1000000) : ∀ x ∈ l, Siz x := by
  intro x hx
  have h1 : part 1 (eSr x) ∈ fRq l := List.mem_map_of_mem (f := fun x => part 1 (eSr x)) hx
  have h2 := part_le h1
  have e : (eM (fRq l)).length = (eRq l).length := rfl
  exact ⟨hs x hx, by omega⟩
theorem Siz.rok {l : List Sr} (h : ∀ x ∈ l, Siz x) : Rok l := by
  refine ⟨fun x hx => ⟨⟨fun y hy => ?_, fun y hy => ⟨(h x hx).ss y hy, ?_⟩⟩, by have := (h x hx).len; omega⟩⟩
  · have h1 := (h x hx).l y hy
    have e : (eM (fLb y)).length = (eLb y).length := rfl
    have h4 := eLb_len y
    have h5 : y.n.data.toList.length ≤ nLen y := by
      unfold nLen
      split
      · rename_i e; rw [e]; exact Nat.zero_le _
      · rw [part_len]; omega
    have h6 : y.v.data.toList.length ≤ vLen y := by
      unfold vLen
      split
      · rename_i e; rw [e]; exact Nat.zero_le _
      · rw [part_len]; omega
    exact ⟨⟨by omega, by omega⟩, by omega⟩
  · have h1 := ((h x hx).s y hy).2
    have e : (eM (fSm y)).length = (eSm y).length := rfl
    omega
theorem parts_z {zs : List Zr} (h : ∀ z ∈ zs, Siz z.x) {base : Nat} {w : World} {v : Value} (hb : base ≤ w.heap.size) (hv : ∀ W, Below base w W → SAt W v zs) : Parts 17 base w (zs.map zp) (zs.map fun z => fSr z.x) := by
  refine ⟨by simp, fun p hp => ?_, fun j h1 h2 W hW => ?_, fun F hF => ?_⟩
  · obtain ⟨z, hz, rfl⟩ := List.mem_map.1 hp
    obtain ⟨a, c, e1⟩ := At2.slice ((hv w (Below.refl _ _)).ls z hz)
    obtain ⟨b, d, e2⟩ := At2.slice ((hv w (Below.refl _ _)).ss z hz)
    unfold zp
    dsimp only
    rw [e1, e2]
    exact ⟨rfl, rfl⟩
  · rw [List.getElem_map, List.getElem_map]
    have hz := List.getElem_mem (l := zs) (by simpa using h1)
    refine (serF_any _ (h _ hz) _ _ W ((hv W hW).ls _ hz) ((hv W hW).ss _ hz)).mono ?_
    rintro e w' ⟨v', he, ho, hb⟩
    exact ⟨v', he, ho.at, hb⟩
  · obtain ⟨z, hz, rfl⟩ := List.mem_map.1 hF
    have hx := h z hz
    refine ⟨fSr_ok ?_, hx.len⟩
    exact (Siz.rok (l := [z.x]) (fun x hx2 => by rw [List.mem_singleton.1 hx2]; exact hx)).s z.x (by simp) |>.1
theorem encode_any (zs : List Zr) (hok : ∀ z ∈ zs, ∀ y ∈ z.x.ss, y.ok) (hlen : (eRq (zs.map Zr.x)).length ≤ 1000000) (v : Value) (w : World) (hv : SAt w v zs) : Calls Tryz.prog 8 #[v] w (Ret w (.string (bs (eRq (zs.map Zr.x))))) := by
  have hsz : ∀ z ∈ zs, Siz z.x := fun z hz => Siz.of (l := zs.map Zr.x) (fun x hx => by obtain ⟨z, hz, rfl⟩ := List.mem_map.1 hx; exact hok z hz) hlen z.x (List.mem_map_of_mem hz)
  have hcnt : zs.length ≤ 1000000 := by
    have h1 := eM_cnt (fRq (zs.map Zr.x))
    have e : (eM (fRq (zs.map Zr.x))).length = (eRq (zs.map Zr.x)).length := rfl
    have h4 : (fRq (zs.map Zr.x)).length = zs.length := by unfold fRq; simp
    omega
  have H1 := Lib.hid (parts31_any 1 w.heap.size (.slice none 0 0) [] v (zs.map zp) (zs.map fun z => fSr z.x) w (World.ownsRow_nil _ _ _ _) (Nat.le_refl _) (fun W hW => hv.row.below hW (Nat.le_refl _)) (parts_z hsz (Nat.le_refl _) (fun W hW => hv.below hW (Nat.le_refl _))) (by simp; omega))
  rw [List.nil_append, show (zs.map fun z => fSr z.x) = (zs.map Zr.x).map fSr by rw [List.map_map]; rfl, ← fRq_gpt] at H1
  have HW := Lib.hid (fun v W hv => wr_any (fRq (zs.map Zr.x)) (fRq_ok (Siz.rok (fun x hx => by obtain ⟨z, hz, rfl⟩ := List.mem_map.1 hx; exact hsz z hz))) hlen v W hv)
  rw [show eM (fRq (zs.map Zr.x)) = eRq (zs.map Zr.x) from rfl] at HW
  obtain ⟨a, c, hv2⟩ := hv.slice
  generalize zs.length = L at hv2
  subst hv2
  clear hok hlen hsz hcnt hv
  generalize bs (eRq (zs.map Zr.x)) = B at *
  generalize (fRq (zs.map Zr.x)).map gfd = G at *
  go_enter Tryz.func8, Tryz.ntmps8
  go_wp2_with fail
  refine H1.out.mono ?_
  rintro e w1 ⟨u, rfl, ho, hb1⟩
  have HO := Lib.hid ho.at
  obtain ⟨a1, c1, hu⟩ := ho.shape
  subst hu
  have HB1 := Lib.hid hb1
  clear ho hb1
  go_wp2_with fail
  refine (HW.out _ _ HO.out).mono ?_
  rintro e w2 ⟨rfl, hb2⟩
  have HB2 := Lib.hid (HB1.out.trans (hb2.mono HB1.out.size))
  clear hb2
  go_wp2
  go_ret
  exact ⟨rfl, HB2.out⟩
end Go.Proofs.YtioflicmpnkfeaaGreat
