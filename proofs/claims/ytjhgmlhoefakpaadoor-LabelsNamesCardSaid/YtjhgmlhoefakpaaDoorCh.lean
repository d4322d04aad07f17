/- The contracts of long, own, is, and Get, the program's and the document's. -/
import Derived.Test.YtjhgmlhoefakpaaDoorCg
namespace Go.Proofs.YtjhgmlhoefakpaaDoor
open Go.RowKit Go.Sort
set_option maxRecDepth 100000
set_option maxHeartbeats 1000000
def lng : List Lb → Nat → Nat
  | [], n => n
  | p :: r, n => if n < 5000 then lng r (n + 10 + min p.n.size 5000 + min p.v.size 5000) else n
theorem long_any (l : List Lb) (hl : l.length ≤ 9223372036854775807) (hw : Wide l) (v : Value) (w : World) (hv : LAt w v l) :
    Calls Tryd.prog 20 #[v] w (Ret w (.bool (decide (5000 ≤ lng l 0)))) := by
  have HV := Lib.hid hv
  have HW := Lib.hid hw
  obtain ⟨va, vc, hv2⟩ := hv.slice
  clear hv hw
  generalize hL : l.length = L at *
  have HL := Lib.hid hL
  have HLM := Lib.hid hl
  clear hL
  subst hv2
  go_enter Tryd.func20, Tryd.ntmps20
  go_wp2
  go_loopw [3, 4] (fun n i wr => ∃ (k N : Nat), n = .int .i64 (N : Int) ∧ i = .int .i64 (k : Int) ∧ k ≤ L ∧ N ≤ 15020 ∧ Hid (lng (l.drop k) N = lng l 0) ∧ Hid (Below w.heap.size w wr)) (fun _ i _ => L - (intOf i).toNat)
  case atStart => exact ⟨0, 0, rfl, rfl, by omega, by omega, Lib.hid rfl, Lib.hid (Below.refl _ _)⟩
  case round =>
    obtain ⟨k, N, rfl, rfl, hk, hN, HE, HB⟩ := hrel
    by_cases hlt : k < L
    · have hkl : k < l.length := by have := HL.out; omega
      by_cases hN5 : N < 5000
      · rcases (HV.out.below HB.out (Nat.le_refl _)) with ⟨h0, _⟩ | ⟨g, o, c, hg, hcs⟩
        · have := HL.out; rw [h0] at this; simp at this; omega
        · obtain ⟨q0, q1⟩ := hcs k hkl
          clear hcs
          have hdr : l.drop k = l[k] :: l.drop (k + 1) := List.drop_eq_getElem_cons hkl
          have hrun := HE.out
          rw [hdr, lng, if_pos hN5] at hrun
          have hpw := HW.out l[k] (List.getElem_mem hkl)
          generalize l[k] = P at *
          obtain ⟨pn, pv⟩ := P
          dsimp only at q0 q1 hrun hpw
          have HRN := Lib.hid hrun
          clear hdr hrun
          cases hg
          have hp1 : (pn.size : Int) ≤ 9223372036854775807 := by omega
          have hp2 : (pv.size : Int) ≤ 9223372036854775807 := by omega
          obtain ⟨m, hm⟩ : ∃ m, min pn.size 5000 = m := ⟨_, rfl⟩
          obtain ⟨r, hr⟩ : ∃ m, min pv.size 5000 = m := ⟨_, rfl⟩
          have hmi : min (pn.size : Int) 5000 = (m : Int) := by omega
          have hri : min (pv.size : Int) 5000 = (r : Int) := by omega
          have hm5 : m ≤ 5000 := by omega
          have hr5 : r ≤ 5000 := by omega
          rw [hm, hr] at HRN
          have h5 : decide ((N : Int) < 5000) = true := decide_eq_true (by omega)
          clear hm hr hpw
          go_wp2
          go_big_quiet (fail)
          go_wp2
          go_roundw
          case rel => exact ⟨k + 1, N + 10 + m + r, by go_num, by go_num, by omega, by omega, HRN, Lib.hid (below_drewN HB.out _)⟩
          case measure => (try simp [intOf]); (try omega)
      · have HR : Hid (lng (l.drop k) N = N) := by
          have hdr : l.drop k = l[k] :: l.drop (k + 1) := List.drop_eq_getElem_cons hkl
          exact Lib.hid (by rw [hdr, lng, if_neg hN5])
        go_wp2
        go_ret
        refine ⟨ret_b ?_, HB.out⟩
        have e := HE.out
        rw [HR.out] at e
        rw [← e]
        simp
        try omega
    · obtain rfl : k = L := by omega
      have HR : Hid (N = lng l 0) := Lib.hid (by
        have := HE.out
        rw [List.drop_of_length_le (by have := HL.out; omega), lng] at this
        exact this)
      go_wp2
      go_ret
      refine ⟨ret_b ?_, HB.out⟩
      rw [← HR.out]
      simp
      try omega
/-- Labels in new memory. -/
theorem own_any (l : List Lb) (hl : l.length ≤ 1000000000) (v : Value) (w : World) (hv : LAt w v l) :
    Calls Tryd.prog 21 #[v] w fun e w' => ∃ u, e = .returned u ∧ Ol w' w.heap.size u l ∧ Below w.heap.size w w' := by
  have HV := Lib.hid hv
  clear hv
  go_enter Tryd.func21, Tryd.ntmps21
  go_wp2_with (at_builtin; refine wpList_append_l _ _ rfl rfl w.heap.size _ [] rfl (ol_empty w w.heap.size (Nat.le_refl _)) _ l rfl (HV.out.below ((Below.refl w.heap.size w).alloc (Nat.le_refl _) _) (Nat.le_refl _)) (by simpa using hl) (by simp) ?_; intro v' w1 hown hgr hblk; have HO := Lib.hid hown; have HG := Lib.hid hgr; clear hown hgr hblk)
  have HB : Hid (Below w.heap.size w w1) := Lib.hid (((Below.refl w.heap.size w).alloc (Nat.le_refl _) (.cells #[] 28)).trans (below_grown HG.out (by simp) (fun g hg => by cases hg; exact Nat.le_refl _)))
  go_ret
  exact ⟨_, rfl, HO.out, HB.out⟩
/-- Labels that may be written over. -/
def Wr (w : World) (v : Value) (n : Nat) : Prop := (n = 0 ∧ ∃ a c, v = .slice a 0 c) ∨ ∃ g c, v = .slice (some ⟨g, 0, none⟩) n c ∧ ∀ j, j < n * 2 → (∃ u, w.cell? ⟨g, j, none⟩ = some u) ∧ w.frozen? ⟨g, j, none⟩ = false
theorem Ol.wr {w : World} {base : Nat} {v : Value} {l : List Lb} (h : Ol w base v l) : Wr w v l.length := by
  have h0 := h
  unfold Ol at h0
  rcases h0.2 with ⟨rfl, hn⟩ | ⟨g, cap, cur, rfl, _, hh, hle, _⟩
  · exact .inl ⟨hn, _, _, rfl⟩
  · refine .inr ⟨g, cap, rfl, fun j hj => ⟨?_, ?_⟩⟩
    · have : j < (cells2 l).length := by rw [cells2_len]; exact hj
      exact ⟨_, (h0.cellAt j hj).trans (List.getElem?_eq_getElem this)⟩
    · simp [World.frozen?, hh]
theorem Wr.below {w w' : World} {v : Value} {n m : Nat} (h : Wr w v n) (hb : Below m w w') (hn : w.heap.size ≤ m) : Wr w' v n := by
  rcases h with h | ⟨g, c, rfl, h⟩
  · exact .inl h
  · refine .inr ⟨g, c, rfl, fun j hj => ?_⟩
    obtain ⟨⟨u, hu⟩, hf⟩ := h j hj
    have hlt := World.block_lt_of_cell? w ⟨g, j, none⟩ hu
    have e := hb.block g (by have : g < w.heap.size := hlt; omega)
    exact ⟨⟨u, (World.cell?_of_block (a := ⟨g, j, none⟩) e).trans hu⟩, (World.frozen?_of_block (a := ⟨g, j, none⟩) e).trans hf⟩
theorem is_any (a b : List Lb) (ha : a.length ≤ 9223372036854775807) (hb : b.length ≤ 9223372036854775807) (v u : Value) (w : World) (hv : LAt w v a) (hr : Wr w v a.length) (hu : LAt w u b) :
    Calls Tryd.prog 27 #[v, u] w fun e w' => e = .returned (.bool (sameL a b)) ∧ w.grownBy w' v.ownBlock := by
  have HS := Lib.hid (rsame_any a b ha hb v u w hv hu)
  have HR := Lib.hid hr
  obtain ⟨va, vc, hv2⟩ := hv.slice
  clear hv hu hr
  generalize sameL a b = s at *
  generalize hL : a.length = L at *
  clear hL
  subst hv2
  go_enter Tryd.func27, Tryd.ntmps27
  go_wp2_with (go_at_call 26; refine HS.out.mono ?_; rintro e w1 ⟨rfl, hb1⟩)
  have HR1 := Lib.hid (HR.out.below hb1 (Nat.le_refl _))
  have HB1 := Lib.hid hb1
  clear hb1 HS
  go_loopw [6] (fun i wr => ∃ k : Nat, i = .int .i64 (k : Int) ∧ k ≤ L ∧ Hid (Wr wr (.slice va L vc) L) ∧ Hid (w.grownBy wr (Value.slice va L vc).ownBlock)) (fun i _ => L - (intOf i).toNat)
  case atStart => exact ⟨0, rfl, by omega, Lib.hid HR1.out, Lib.hid (grown_below HB1.out _)⟩
  case round =>
    obtain ⟨k, rfl, hk, HW, HG⟩ := hrel
    by_cases hlt : k < L
    · rcases HW.out with ⟨h0, _⟩ | ⟨g, c, hg, hcs⟩
      · omega
      obtain ⟨⟨u0, q0⟩, f0⟩ := hcs (k * 2) (by omega)
      obtain ⟨⟨u1, q1⟩, f1⟩ := hcs (k * 2 + 1) (by omega)
      have HC := Lib.hid hcs
      clear hcs
      cases hg
      go_wp2
      go_roundw
      case rel =>
        refine ⟨k + 1, by go_num, by omega, Lib.hid (.inr ⟨g, _, rfl, fun j hj => ?_⟩), Lib.hid ?_⟩
        · obtain ⟨⟨uj, hj1⟩, hj2⟩ := HC.out j hj
          refine ⟨?_, by simp [World.frozen?_setCell, hj2]⟩
          by_cases e1 : j = k * 2 + 1
          · subst e1
            exact ⟨_, World.cell?_setCell_same _ _ _ (by rw [World.cell?_setCell_other _ _ _ _ (by simp)]; exact hj1)⟩
          · rw [World.cell?_setCell_other _ _ _ _ (by simp; try omega)]
            by_cases e2 : j = k * 2
            · subst e2
              exact ⟨_, World.cell?_setCell_same _ _ _ hj1⟩
            · rw [World.cell?_setCell_other _ _ _ _ (by simp; try omega)]
              exact ⟨uj, hj1⟩
        · exact grown_trans HG.out (grown_trans (grown_set wr 0 g _ _) (grown_set _ 0 g _ _))
      case measure => (try simp [intOf]); (try omega)
    · obtain rfl : k = L := by omega
      go_wp2
      go_ret
      exact ⟨rfl, HG.out⟩
end Go.Proofs.YtjhgmlhoefakpaaDoor
