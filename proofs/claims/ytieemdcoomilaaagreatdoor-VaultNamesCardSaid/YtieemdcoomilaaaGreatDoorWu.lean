/- Lay: a snapshot is laid down. -/
import Derived.Test.YtieemdcoomilaaaGreatDoorWt
import Derived.Test.YtieemdcoomilaaaGreatDoorSh
import Derived.Test.YtieemdcoomilaaaGreatDoorVh
set_option linter.unusedVariables false
set_option linter.unusedSimpArgs false
namespace Go.Proofs.YtieemdcoomilaaaGreatDoor
open Go Go.RowKit Go.Sort
set_option maxRecDepth 100000
theorem lay_few (s : ByteArray) (x : VS) (l : List Int) (h : l.length < 2) : layM s x l = (x, 44) := by
  match l, h with
  | [], _ => rfl
  | [_], _ => rfl
theorem set4_cell {W : World} {B c : Nat} {v : Value} (h : W.cell? ⟨c, 0, none⟩ = some v) (hne : c ≠ B) (x y z u : Value) : ((((W.setCell ⟨B, 0, none⟩ x).setCell ⟨B, 1, none⟩ y).setCell ⟨B, 2, none⟩ z).setCell ⟨B, 3, none⟩ u).cell? ⟨c, 0, none⟩ = some v := by
  have hb : ∀ (W : World) (j : Nat) (q : Value), (W.setCell ⟨B, j, none⟩ q).heap[c]? = W.heap[c]? := fun W j q => Below.heap_setCell W _ _ c hne
  refine (World.cell?_of_block (a := ⟨c, 0, none⟩) ?_).trans h
  rw [hb, hb, hb, hb]
theorem box_ne {W : World} {B : Nat} {x y z u : Value} (h : Box4 W B x y z u) : W.heap.size ≠ B := by have := h.lt; omega
theorem below_2x {n : Nat} {w W : World} (h : Below n w W) (hn : n ≤ W.heap.size) (o p : Obj) : Below n w ((W.alloc o).alloc p) := (h.alloc hn o).alloc (Nat.le_trans hn (by rw [World.size_alloc]; omega)) p
theorem nms30 (h : He) : (nmS h).length ≤ 30 := by
  unfold nmS
  rw [List.length_map]
  exact Nat.le_trans (List.length_filter_le _ _) (by unfold Vt.tps; simp)
theorem lit6 {w : World} {V B mo : Nat} {b1 b2 b3 b4 b5 b6 : List Nat} {c1 c2 c3 c4 c5 c6 : Clo} {f1 f2 f3 f4 f5 f6 : SF} (h1 : Stp w V B mo b1 c1 f1) (h2 : Stp w V B mo b2 c2 f2) (h3 : Stp w V B mo b3 c3 f3) (h4 : Stp w V B mo b4 c4 f4) (h5 : Stp w V B mo b5 c5 f5) (h6 : Stp w V B mo b6 c6 f6) :
    ∀ q ∈ [((c1, b1, f1) : Cq), (c2, b2, f2), (c3, b3, f3), (c4, b4, f4), (c5, b5, f5), (c6, b6, f6)], Stp w V B mo q.2.1 q.1 q.2.2 := fun q hq => by
  simp only [List.mem_cons, List.not_mem_nil, or_false] at hq
  rcases hq with rfl | rfl | rfl | rfl | rfl | rfl
  · exact h1
  · exact h2
  · exact h3
  · exact h4
  · exact h5
  · exact h6
abbrev S1 (b : Int) : Obj := .cells #[.int .i64 b] 3
/-- What the cut leaves, whatever the order. -/
theorem cut_m1 {w5 w46 : World} (h : Bl w5 w46) (p q r v : Value) : ∃ b8 b9, Value.pointer (some ⟨w46.heap.size + 1, 0, none⟩) = .pointer (some ⟨b8, 0, none⟩) ∧ Hid (Box4 ((w46.alloc (.cells #[v] 3)).alloc (.cells #[p, q, r, .slice (some ⟨w46.heap.size, 0, none⟩) 1 1] 40)) b8 p q r (.slice (some ⟨b9, 0, none⟩) 1 1) ∧ w5.heap.size ≤ b8 ∧ w5.heap.size ≤ b9 ∧ b9 ≠ b8 ∧ Below w5.heap.size w5 ((w46.alloc (.cells #[v] 3)).alloc (.cells #[p, q, r, .slice (some ⟨w46.heap.size, 0, none⟩) 1 1] 40)) ∧ ((w46.alloc (.cells #[v] 3)).alloc (.cells #[p, q, r, .slice (some ⟨w46.heap.size, 0, none⟩) 1 1] 40)).cell? ⟨b9, 0, none⟩ = some v) :=
  ⟨w46.heap.size + 1, w46.heap.size, rfl, Lib.hid ⟨hl_new1 w46 _ _, Nat.le_succ_of_le h.h.size, h.h.size, Nat.ne_of_lt (Nat.lt_succ_self _), below_2x h.h h.h.size _ _, one_cell (t := 3) (hl_new0 w46 _ _)⟩⟩
theorem cut_m2 {w5 w46 : World} (h : Bl w5 w46) (p q r v : Value) : ∃ b8 b9, Value.pointer (some ⟨w46.heap.size, 0, none⟩) = .pointer (some ⟨b8, 0, none⟩) ∧ Hid (Box4 ((w46.alloc (.cells #[p, q, r, .slice (some ⟨w46.heap.size + 1, 0, none⟩) 1 1] 40)).alloc (.cells #[v] 3)) b8 p q r (.slice (some ⟨b9, 0, none⟩) 1 1) ∧ w5.heap.size ≤ b8 ∧ w5.heap.size ≤ b9 ∧ b9 ≠ b8 ∧ Below w5.heap.size w5 ((w46.alloc (.cells #[p, q, r, .slice (some ⟨w46.heap.size + 1, 0, none⟩) 1 1] 40)).alloc (.cells #[v] 3)) ∧ ((w46.alloc (.cells #[p, q, r, .slice (some ⟨w46.heap.size + 1, 0, none⟩) 1 1] 40)).alloc (.cells #[v] 3)).cell? ⟨b9, 0, none⟩ = some v) :=
  ⟨w46.heap.size, w46.heap.size + 1, rfl, Lib.hid ⟨hl_new0 w46 _ _, h.h.size, Nat.le_succ_of_le h.h.size, Nat.succ_ne_self _, below_2x h.h h.h.size _ _, one_cell (t := 3) (hl_new1 w46 _ _)⟩⟩
theorem cut_m3 {w5 w46 : World} (h : Bl w5 w46) {s : Nat} {v : Value} (hs : w46.cell? ⟨s, 0, none⟩ = some v) (h5 : w5.heap.size ≤ s) (p q r : Value) : ∃ b8 b9, Value.pointer (some ⟨w46.heap.size, 0, none⟩) = .pointer (some ⟨b8, 0, none⟩) ∧ Hid (Box4 (w46.alloc (.cells #[p, q, r, .slice (some ⟨s, 0, none⟩) 1 1] 40)) b8 p q r (.slice (some ⟨b9, 0, none⟩) 1 1) ∧ w5.heap.size ≤ b8 ∧ w5.heap.size ≤ b9 ∧ b9 ≠ b8 ∧ Below w5.heap.size w5 (w46.alloc (.cells #[p, q, r, .slice (some ⟨s, 0, none⟩) 1 1] 40)) ∧ (w46.alloc (.cells #[p, q, r, .slice (some ⟨s, 0, none⟩) 1 1] 40)).cell? ⟨b9, 0, none⟩ = some v) :=
  have hlt := World.block_lt_of_cell? w46 ⟨s, 0, none⟩ hs
  ⟨w46.heap.size, s, rfl, Lib.hid ⟨heap_alloc_new w46 _, h.h.size, h5, Nat.ne_of_lt hlt, h.h.alloc h.h.size _, (World.cell?_of_block (a := ⟨s, 0, none⟩) (Below.heap_alloc _ _ _ hlt)).trans hs⟩⟩
theorem cut_m4 {w5 w46 : World} (h : Bl w5 w46) {B s : Nat} {x0 x1 x2 x3 v : Value} (hb : Box4 w46 B x0 x1 x2 x3) (hs : w46.cell? ⟨s, 0, none⟩ = some v) (h5 : w5.heap.size ≤ B) (h6 : w5.heap.size ≤ s) (hn : s ≠ B) (p q r : Value) : ∃ b8 b9, Value.pointer (some ⟨B, 0, none⟩) = .pointer (some ⟨b8, 0, none⟩) ∧ Hid (Box4 ((((w46.setCell ⟨B, 0, none⟩ p).setCell ⟨B, 1, none⟩ q).setCell ⟨B, 2, none⟩ r).setCell ⟨B, 3, none⟩ (.slice (some ⟨s, 0, none⟩) 1 1)) b8 p q r (.slice (some ⟨b9, 0, none⟩) 1 1) ∧ w5.heap.size ≤ b8 ∧ w5.heap.size ≤ b9 ∧ b9 ≠ b8 ∧ Below w5.heap.size w5 ((((w46.setCell ⟨B, 0, none⟩ p).setCell ⟨B, 1, none⟩ q).setCell ⟨B, 2, none⟩ r).setCell ⟨B, 3, none⟩ (.slice (some ⟨s, 0, none⟩) 1 1)) ∧ ((((w46.setCell ⟨B, 0, none⟩ p).setCell ⟨B, 1, none⟩ q).setCell ⟨B, 2, none⟩ r).setCell ⟨B, 3, none⟩ (.slice (some ⟨s, 0, none⟩) 1 1)).cell? ⟨b9, 0, none⟩ = some v) :=
  ⟨B, s, rfl, Lib.hid ⟨hb.setAll _ _ _ _, h5, h6, hn, below_set4 h.h h5 _ _ _ _, set4_cell hs hn _ _ _ _⟩⟩
theorem cut_m5 {w5 w46 : World} (h : Bl w5 w46) {B : Nat} {x0 x1 x2 x3 : Value} (hb : Box4 w46 B x0 x1 x2 x3) (h5 : w5.heap.size ≤ B) (p q r v : Value) : ∃ b8 b9, Value.pointer (some ⟨B, 0, none⟩) = .pointer (some ⟨b8, 0, none⟩) ∧ Hid (Box4 (((((w46.alloc (.cells #[v] 3)).setCell ⟨B, 0, none⟩ p).setCell ⟨B, 1, none⟩ q).setCell ⟨B, 2, none⟩ r).setCell ⟨B, 3, none⟩ (.slice (some ⟨w46.heap.size, 0, none⟩) 1 1)) b8 p q r (.slice (some ⟨b9, 0, none⟩) 1 1) ∧ w5.heap.size ≤ b8 ∧ w5.heap.size ≤ b9 ∧ b9 ≠ b8 ∧ Below w5.heap.size w5 (((((w46.alloc (.cells #[v] 3)).setCell ⟨B, 0, none⟩ p).setCell ⟨B, 1, none⟩ q).setCell ⟨B, 2, none⟩ r).setCell ⟨B, 3, none⟩ (.slice (some ⟨w46.heap.size, 0, none⟩) 1 1)) ∧ (((((w46.alloc (.cells #[v] 3)).setCell ⟨B, 0, none⟩ p).setCell ⟨B, 1, none⟩ q).setCell ⟨B, 2, none⟩ r).setCell ⟨B, 3, none⟩ (.slice (some ⟨w46.heap.size, 0, none⟩) 1 1)).cell? ⟨b9, 0, none⟩ = some v) :=
  ⟨B, w46.heap.size, rfl, Lib.hid ⟨(hb.alloc _).setAll _ _ _ _, h5, h.h.size, box_ne hb, below_set4 (h.h.alloc h.h.size _) h5 _ _ _ _, set4_cell (one_cell (t := 3) (heap_alloc_new w46 _)) (box_ne hb) _ _ _ _⟩⟩
set_option maxHeartbeats 10000000 in
theorem vLay_any (V B mo : Nat) (x : VS) (s : ByteArray) (w : World) (hs : s.size ≤ 9223372036854775807) (hn : x.2.2 ≤ 1099511627776) (hx : VSt w V B mo x) (hm : mayB x.2.1 = true) : Calls Tryz.prog 13 #[.pointer (some ⟨V, 0, none⟩), .string s] w (StD w V B mo (LayS s x)) := by
  obtain ⟨v, hv⟩ := hx.v
  have kk := mayB_ok hm
  have HO := Lib.hid (opened_any V B mo x.2.1 x.2.2 v w hv)
  have HC := Lib.hid (fun W (hW : Below w.heap.size w W) => count_any V B mo x.2.1 x.2.2 v W (hv.below hW (Nat.le_refl _)) kk.b1 kk.b2 hn)
  have HX := Lib.hid hx
  have HV := Lib.hid hv
  have HT := Lib.hid hx.t
  have HM := Lib.hid hm
  have HN := Lib.hid hn
  have hb1 := kk.b1
  have hb2 := kk.b2
  have hg1 := kk.g1; have hg2 := kk.g2
  have hVl := hx.lt
  have hBl := hx.d.lt
  have HKK := Lib.hid kk
  clear kk hv hm
  by_cases h1 : 262144 < s.size
  · have h11 : decide (262144 < (s.size : Int)) = true := decide_eq_true (by omega)
    have h12 : decide (262144 < s.size) = true := decide_eq_true h1
    have hA : LayS s x = (x, 40) := if_pos (Or.inl h1)
    rw [hA]
    clear HC hx
    go_enter Tryz.func13, Tryz.ntmps13
    go_wp2_with fail
    refine HO.out.mono ?_
    rintro e w1 ⟨rfl, rfl⟩
    go_wp2
    go_ret
    exact ⟨rfl, HX.out, Gv.refl _ _ _⟩
  · have h11 : decide (262144 < (s.size : Int)) = false := decide_eq_false (by omega)
    have h12 : decide (262144 < s.size) = false := decide_eq_false h1
    by_cases h2 : (1099511627776 : Int) < x.2.1.base + (x.2.2 : Int)
    · have hA : LayS s x = (x, 40) := if_pos (Or.inr h2)
      have h21 : decide (x.2.1.base + (x.2.2 : Int) > 1099511627776) = true := decide_eq_true h2
      have h22 : decide ((1099511627776 : Int) < x.2.1.base + (x.2.2 : Int)) = true := decide_eq_true h2
      rw [hA]
      clear hx
      go_enter Tryz.func13, Tryz.ntmps13
      go_wp2_with fail
      refine HO.out.mono ?_
      rintro e w1 ⟨rfl, rfl⟩
      go_wp2_with fail
      refine (HC.out _ (Below.refl _ _)).mono ?_
      rintro e w2 ⟨rfl, hc⟩
      have HC2 := Lib.hid hc
      clear hc
      go_wp2
      go_ret
      exact ⟨rfl, HX.out.below HC2.out (Nat.le_refl _), Gv.of_below HC2.out _ _⟩
    · have h21 : decide (x.2.1.base + (x.2.2 : Int) > 1099511627776) = false := decide_eq_false h2
      have h22 : decide ((1099511627776 : Int) < x.2.1.base + (x.2.2 : Int)) = false := decide_eq_false h2
      have HU := Lib.hid (fun W (hW : Below w.heap.size w W) => up_any B x.1 W (hx.d.below hW hx.d.lt))
      have HO1 := Lib.hid (fun W (hW : Below w.heap.size w W) => HV.out.below hW (Nat.le_refl _))
      clear hx
      have HA0 : Hid (LayS s x = if x.1.dn = true then (x, 45) else if (1099511627776 : Int) ≤ x.2.1.gen then (x, 40) else layM s x (frL x.2.1 32)) := Lib.hid (if_neg (by intro h; rcases h with h | h; exact h1 h; exact h2 h))
      go_enter Tryz.func13, Tryz.ntmps13
      go_wp2_with fail
      refine HO.out.mono ?_
      rintro e w1 ⟨rfl, rfl⟩
      go_wp2_with fail
      refine (HC.out _ (Below.refl _ _)).mono ?_
      rintro e w2 ⟨rfl, hc⟩
      have HC2 := Lib.hid hc
      have hv2 := HO1.out w2 hc
      have q0 := hv2.on
      have qg := hv2.g
      have HU2 := Lib.hid (HU.out w2 hc)
      clear hc HU HO
      cases hdn : x.1.dn with
      | true =>
        rw [hdn] at HU2
        clear hv2
        go_wp2_with fail
        refine HU2.out.mono ?_
        rintro e w3 ⟨rfl, rfl⟩
        go_wp2
        go_ret
        rw [HA0.out, if_pos hdn]
        exact ⟨rfl, HX.out.below HC2.out (Nat.le_refl _), Gv.of_below HC2.out _ _⟩
      | false =>
        rw [hdn] at HU2
        have HA := Lib.hid (HA0.out.trans (if_neg (by rw [hdn]; simp)))
        clear HA0
        by_cases h3 : (1099511627776 : Int) ≤ x.2.1.gen
        · have h31 : decide ((1099511627776 : Int) ≤ x.2.1.gen) = true := decide_eq_true h3
          have h32 : decide (x.2.1.gen ≥ (1099511627776 : Int)) = true := decide_eq_true h3
          clear hv2
          go_wp2_with fail
          refine HU2.out.mono ?_
          rintro e w3 ⟨rfl, rfl⟩
          go_wp2
          go_ret
          rw [HA.out, if_pos h3]
          exact ⟨rfl, HX.out.below HC2.out (Nat.le_refl _), Gv.of_below HC2.out _ _⟩
        · have h31 : decide ((1099511627776 : Int) ≤ x.2.1.gen) = false := decide_eq_false h3
          have h32 : decide (x.2.1.gen ≥ (1099511627776 : Int)) = false := decide_eq_false h3
          have HA2 := Lib.hid (HA.out.trans (if_neg h3))
          clear HA
          have hv2' := hv2
          have qb := hv2.b; have qs := hv2.s; have ql := hv2.l
          obtain ⟨va, vc, hva⟩ := hv2.k.slice
          obtain ⟨L0, hL0⟩ : ∃ L0, x.2.1.log.length = L0 := ⟨_, rfl⟩
          rw [hL0] at hva
          rw [hva] at ql
          have HF := free_any x.2.1 v w2 hv2.k hv2.len
          unfold hval at HF
          rw [hva] at HF
          have HF2 := Lib.hid HF
          have hfl := frL_len x.2.1 32
          have HVA := Lib.hid hva
          clear hv2 hv2' HF hva hL0
          go_wp2_with fail
          refine HU2.out.mono ?_
          rintro e w3 ⟨rfl, rfl⟩
          go_wp2_with fail
          refine HF2.out.mono ?_
          rintro e w4 ⟨u, rfl, hu, hb4⟩
          have HB4 := Lib.hid (below_trans' HC2.out hb4)
          obtain ⟨ua, uc, hu2⟩ := hu.shape
          rw [List.length_map] at hu2
          clear hb4 qb qs ql q0 qg HF2
          by_cases h5 : (frL x.2.1 32).length < 2
          · have HA3 := Lib.hid (HA2.out.trans (lay_few s x _ h5))
            obtain ⟨L, hL⟩ : ∃ L, (frL x.2.1 32).length = L := ⟨_, rfl⟩
            rw [hL] at hu2 h5
            have h51 : decide ((L : Int) < 2) = true := decide_eq_true (by omega)
            have h52 : decide (L < 2) = true := decide_eq_true h5
            subst hu2
            clear hu hL HA2 hfl
            go_wp2
            go_ret
            rw [HA3.out]
            exact ⟨rfl, HX.out.below HB4.out (Nat.le_refl _), Gv.of_below HB4.out _ _⟩
          · obtain ⟨a, b, zs, hzs⟩ : ∃ a b zs, frL x.2.1 32 = a :: b :: zs := by
              match hq : frL x.2.1 32, h5 with
              | a :: b :: zs, _ => exact ⟨a, b, zs, rfl⟩
              | [], h => rw [hq] at h5; simp at h5
              | [_], h => rw [hq] at h5; simp at h5
            have HA3 : Hid (LayS s x = layC s a b x) := Lib.hid (HA2.out.trans (by rw [hzs]; rfl))
            rw [hzs] at hu hu2 hfl
            obtain ⟨M, hM⟩ : ∃ M, zs.length = M := ⟨_, rfl⟩
            have hl2 : (a :: b :: zs).length = M + 2 := by rw [← hM]; rfl
            rw [hl2] at hu2 hfl
            have hk := hu.kat'
            subst hu2
            obtain ⟨G, o, c, hg, -⟩ := hk.pos (by simp)
            injection hg with e1 e2 e3
            subst e1
            have z0 := hk.at 0 (by simp)
            have z1 := hk.at 1 (by simp)
            simp only [List.getElem_cons_zero, List.getElem_cons_succ] at z0 z1
            have h51 : decide (((M + 2 : Nat) : Int) < 2) = false := decide_eq_false (by omega)
            have h52 : decide (M + 2 < 2) = false := decide_eq_false (by omega)
            have hfrm := Lib.hid hfl
            have HMK := Lib.hid (make_ok 2 s (by decide) (by omega) w4 (Lib.hid (HX.out.below HB4.out (Nat.le_refl _)).t))
            change Hid (Calls Tryz.prog 54 #[.int .u8 2, .string s] w4 (Ret w4 (.tuple #[.string (Vt.fr2 s), .int .i64 0]))) at HMK
            have hfz : (Vt.fr2 s).size = s.size + 9 := Vt.fr2_size s
            obtain ⟨f, hf⟩ : ∃ f, Vt.fr2 s = f := ⟨_, rfl⟩
            rw [hf] at HMK hfz
            have HFE := Lib.hid hf
            clear hf hu HA2 h5 hzs hk hl2 hM e2 e3
            go_wp2_with fail
            refine HMK.out.mono ?_
            rintro e w5 ⟨rfl, hb5⟩
            have HB5 := Lib.hid (below_trans' HB4.out hb5)
            have y0 := (hb5.cell (World.block_lt_of_cell? w4 _ z0)).trans z0
            have y1 := (hb5.cell (World.block_lt_of_cell? w4 _ z1)).trans z1
            have hv5 := HV.out.below HB5.out (Nat.le_refl _)
            have qg := hv5.g
            have HSS : Hid (∀ W [Bl w5 W], W.cell? ⟨V, 2, none⟩ = some (.int .i64 x.2.1.gen) ∧ W.cell? ⟨G, o, none⟩ = some (.int .i64 a) ∧ W.cell? ⟨G, o + 1, none⟩ = some (.int .i64 b)) := Lib.hid fun W i => ⟨(i.h.cell (World.block_lt_of_cell? w5 _ qg)).trans qg, (i.h.cell (World.block_lt_of_cell? w5 _ y0)).trans y0, (i.h.cell (World.block_lt_of_cell? w5 _ y1)).trans y1⟩
            have HCL : Hid (∀ W [Bl w5 W], Calls Tryz.prog 14 #[.pointer (some ⟨V, 0, none⟩)] W (Ret W (.int .i64 (x.2.1.base + (x.2.2 : Int))))) := Lib.hid fun W i => HC.out W (HB5.out.trans (i.h.mono HB5.out.size))
            have hx0 : (0 : Int) < (M : Int) + 2 := by omega
            have hx1 : (1 : Int) < (M : Int) + 2 := by omega
            have hx2 : (0 : Int) < ((M + 2 : Nat) : Int) := by omega
            have hx3 : (1 : Int) < ((M + 2 : Nat) : Int) := by omega
            have hx4 : 1 < M + 2 := by omega
            have hx5 : 0 < M + 2 := by omega
            have hwr : IntKind.i64.wrap (x.2.1.gen + 1) = x.2.1.gen + 1 := by rw [Bt.wrap_i64]; omega
            clear hb5 HMK hv5 z0 z1
            go_upto_region 13 with fail
            go_cut [8] from 52 to 67 (fun y wx => ∃ b8 b9, y = .pointer (some ⟨b8, 0, none⟩) ∧ Hid (Box4 wx b8 (.int .i64 (x.2.1.gen + 1)) (.int .i64 (x.2.1.base + (x.2.2 : Int))) (.int .i64 a) (.slice (some ⟨b9, 0, none⟩) 1 1) ∧ w5.heap.size ≤ b8 ∧ w5.heap.size ≤ b9 ∧ b9 ≠ b8 ∧ Below w5.heap.size w5 wx ∧ wx.cell? ⟨b9, 0, none⟩ = some (.int .i64 b)))
            case first =>
              clear HU2 HA3 HT HM HN HC
              go_region_held3 (fun w' => w'.cell? ⟨V, 2, none⟩ = some (.int .i64 x.2.1.gen) ∧ w'.cell? ⟨G, o, none⟩ = some (.int .i64 a) ∧ w'.cell? ⟨G, o + 1, none⟩ = some (.int .i64 b)) (first | exact HSS.out _ | fail) (first
                | (go_at_call 14; refine (HCL.out _).mono ?_; rintro e w46 ⟨rfl, hb⟩; have i46 : Bl w5 w46 := Bl.tr inferInstance hb; (first
                  | (have hq : Below (w5.alloc Z40).heap.size (w5.alloc Z40) w46 := ⟨hb.os, hb.tape, hb.output, hb.size, hb.block⟩; have XB := Lib.hid ((Box4.new w5 (.int .i64 0) (.int .i64 0) (.int .i64 0) (.slice none 0 0)).below hq (Box4.new w5 (.int .i64 0) (.int .i64 0) (.int .i64 0) (.slice none 0 0)).lt); clear hq)
                  | (have hq : Below ((w5.alloc Z40).alloc (S1 b)).heap.size ((w5.alloc Z40).alloc (S1 b)) w46 := ⟨hb.os, hb.tape, hb.output, hb.size, hb.block⟩; have XB := Lib.hid (((Box4.new w5 (.int .i64 0) (.int .i64 0) (.int .i64 0) (.slice none 0 0)).alloc (S1 b)).below hq ((Box4.new w5 (.int .i64 0) (.int .i64 0) (.int .i64 0) (.slice none 0 0)).alloc (S1 b)).lt); have XS := Lib.hid (one_cell (t := 3) ((hq.block (w5.heap.size + 1) (by simp)).trans (hl_new1 w5 Z40 (S1 b)))); clear hq)
                  | (have hq : Below ((w5.alloc (S1 b)).alloc Z40).heap.size ((w5.alloc (S1 b)).alloc Z40) w46 := ⟨hb.os, hb.tape, hb.output, hb.size, hb.block⟩; have XB : Hid (Box4 w46 (w5.heap.size + 1) (.int .i64 0) (.int .i64 0) (.int .i64 0) (.slice none 0 0)) := Lib.hid ((hq.block (w5.heap.size + 1) (by simp)).trans (hl_new1 w5 (S1 b) Z40)); have XS := Lib.hid (one_cell (t := 3) ((hq.block w5.heap.size (by simp; omega)).trans (hl_new0 w5 (S1 b) Z40))); clear hq)
                  | (have hq : Below (w5.alloc (S1 b)).heap.size (w5.alloc (S1 b)) w46 := ⟨hb.os, hb.tape, hb.output, hb.size, hb.block⟩; have XS := Lib.hid (one_cell (t := 3) ((hq.block w5.heap.size (by simp)).trans (heap_alloc_new w5 (S1 b)))); clear hq)
                  | skip); (first
                  | (have hq46 := i46.h.size; have iS := fun W' j v [Bl w5 W'] => box_inst (w := w5) XB.out (by omega) W' j v; clear hq46; have XC := Lib.hid (XB.out.alloc (S1 b)); have y0 := XB.out.c0; have y1 := XB.out.c1; have y2 := XB.out.c2; have y3 := XB.out.c3; have f0 := XB.out.free 0; have f1 := XB.out.free 1; have f2 := XB.out.free 2; have f3 := XB.out.free 3; have g0 := XC.out.c0; have g1 := XC.out.c1; have g2 := XC.out.c2; have g3 := XC.out.c3; have k0 := XC.out.free 0; have k1 := XC.out.free 1; have k2 := XC.out.free 2; have k3 := XC.out.free 3)
                  | (have XC := Lib.hid ((Box4.new w46 (.int .i64 0) (.int .i64 0) (.int .i64 0) (.slice none 0 0)).alloc (S1 b)); have iS := fun W' j v [Bl w5 W'] => box_inst (w := w5) XC.out i46.h.size W' j v; have g0 := XC.out.c0; have g1 := XC.out.c1; have g2 := XC.out.c2; have g3 := XC.out.c3; have k0 := XC.out.free 0; have k1 := XC.out.free 1; have k2 := XC.out.free 2; have k3 := XC.out.free 3)
                  | skip); clear hb)
                | fail)
              all_goals (go_wp2_with fail; go_meet)
              all_goals (have hle := i46.h.size)
              · exact cut_m1 i46 _ _ _ _
              · exact cut_m2 i46 _ _ _ _
              · exact cut_m3 i46 XS.out (Nat.le_refl _) _ _ _
              · exact cut_m4 i46 XB.out XS.out (Nat.le_succ _) (Nat.le_refl _) (Nat.ne_of_lt (Nat.lt_succ_self _)) _ _ _
              · exact cut_m5 i46 XB.out (Nat.le_refl _) _ _ _ _
              · exact cut_m4 i46 XB.out XS.out (Nat.le_refl _) (Nat.le_succ _) (Nat.succ_ne_self _) _ _ _
            case rest =>
              obtain ⟨b8, b9, rfl, h8⟩ := hcut
              obtain ⟨x8, l8, l9, n98, bl8, c9⟩ := h8.out
              have hbc : Below w.heap.size w wc := HB5.out.trans (bl8.mono HB5.out.size)
              have HBC := Lib.hid hbc
              have hxc := HX.out.below hbc (Nat.le_refl _)
              have hvc := HV.out.below hbc (Nat.le_refl _)
              have HK9 : Hid (∀ W [Bl wc W], KAt W (.slice (some ⟨b9, 0, none⟩) 1 1) [b]) := Lib.hid fun W i => .inr ⟨b9, 0, 1, rfl, Nat.le_refl _, fun j hj => by
                match j, hj with
                | 0, _ => exact (i.h.cell (World.block_lt_of_cell? wc _ c9)).trans c9⟩
              obtain ⟨SZ, hSZ⟩ : ∃ SZ, sizR (Vt.lyH x.2.1 x.2.2 a b) = SZ := ⟨_, rfl⟩
              have hszn := sizR_le (Vt.lyH x.2.1 x.2.2 a b)
              rw [hSZ] at hszn
              have HSZ0 : Hid (∀ W [Bl wc W], Calls Tryz.prog 60 #[hval (Vt.lyH x.2.1 x.2.2 a b) (.slice (some ⟨b9, 0, none⟩) 1 1)] W (Ret W (.int .i64 (SZ : Int)))) := Lib.hid fun W i => by
                have := hsize_any (Vt.lyH x.2.1 x.2.2 a b) (.slice (some ⟨b9, 0, none⟩) 1 1) W (HK9.out W) (by show [b].length ≤ _; simp) (Lib.hid (hxc.t.below i.h))
                rwa [hSZ] at this
              have HSZ : Hid (∀ W [Bl wc W], Calls Tryz.prog 60 #[.agg #[.int .i64 (x.2.1.gen + 1), .int .i64 (x.2.1.base + (x.2.2 : Int)), .int .i64 a, .slice (some ⟨b9, 0, none⟩) 1 1]] W (Ret W (.int .i64 (SZ : Int)))) := HSZ0
              have HSP : Hid (∀ W [Bl wc W], Calls Tryz.prog 61 #[.pointer (some ⟨V, 0, none⟩)] W (Ret W (.int .i64 (ptT x.1 : Int)))) := Lib.hid fun W i => spare_any V B mo x.2.1 x.2.2 v x.1 W (hvc.below i.h (Nat.le_refl _)) (hxc.d.below i.h hxc.d.lt) hxc.ok (Lib.hid (hxc.t.below i.h))
              have HLC : Hid (LayS s x = if roomB x.1 (f.size : Int) [a] = true ∧ roomB x.1 ((f.size : Int) + (SZ : Int)) [a, (ptT x.1 : Int), b] = true then runS (lyL s a b x ++ (nmS x.2.1).map wiSt) x else (x, 44)) := Lib.hid (by rw [HA3.out]; unfold layC; rw [← hfz, hSZ, show ((f.size + SZ : Nat) : Int) = (f.size : Int) + (SZ : Int) by omega])
              obtain ⟨r1, hr1⟩ : ∃ r1, roomB x.1 (f.size : Int) [a] = r1 := ⟨_, rfl⟩
              obtain ⟨r2, hr2⟩ : ∃ r2, roomB x.1 ((f.size : Int) + (SZ : Int)) [a, (ptT x.1 : Int), b] = r2 := ⟨_, rfl⟩
              rw [hr1, hr2] at HLC
              have HR1 : Hid (∀ W [Bl wc W], Calls Tryz.prog 59 #[.pointer (some ⟨V, 0, none⟩), .int .i64 (f.size : Int), .slice (some ⟨W.heap.size, 0, none⟩) 1 1] (W.alloc (S1 a)).drew (Ret (W.alloc (S1 a)).drew (.bool r1))) := Lib.hid fun W i => by
                have hb := Below.drew (i.h.alloc i.h.size (S1 a))
                have := room_any V B mo x.2.1 x.2.2 v x.1 f.size [a] (.slice (some ⟨W.heap.size, 0, none⟩) 1 1) (W.alloc (S1 a)).drew (hvc.below hb (Nat.le_refl _)) (hxc.d.below hb hxc.d.lt) hxc.ok (by omega) (.inr ⟨W.heap.size, 0, 1, rfl, Nat.le_refl _, fun j hj => by
                  match j, hj with
                  | 0, _ => exact one_cell (t := 3) (heap_alloc_new W (S1 a))⟩) (by simp)
                rwa [hr1] at this
              have HR2 : Hid (∀ W [Bl wc W], Calls Tryz.prog 59 #[.pointer (some ⟨V, 0, none⟩), .int .i64 ((f.size : Int) + (SZ : Int)), .slice (some ⟨W.heap.size, 0, none⟩) 3 3] (W.alloc (.cells #[.int .i64 a, .int .i64 (ptT x.1 : Int), .int .i64 b] 3)) (Ret (W.alloc (.cells #[.int .i64 a, .int .i64 (ptT x.1 : Int), .int .i64 b] 3)) (.bool r2))) := Lib.hid fun W i => by
                have hb := i.h.alloc i.h.size (.cells #[.int .i64 a, .int .i64 (ptT x.1 : Int), .int .i64 b] 3)
                have := room_any V B mo x.2.1 x.2.2 v x.1 (f.size + SZ) [a, (ptT x.1 : Int), b] (.slice (some ⟨W.heap.size, 0, none⟩) 3 3) (W.alloc (.cells #[.int .i64 a, .int .i64 (ptT x.1 : Int), .int .i64 b] 3)) (hvc.below hb (Nat.le_refl _)) (hxc.d.below hb hxc.d.lt) hxc.ok (by omega) (.inr ⟨W.heap.size, 0, 3, rfl, Nat.le_refl _, fun j hj => by
                  rw [Nat.zero_add, World.cell?_alloc_mark]
                  match j, hj with
                  | 0, _ => rfl
                  | 1, _ => rfl
                  | 2, _ => rfl⟩) (by simp)
                rw [show ((f.size + SZ : Nat) : Int) = (f.size : Int) + (SZ : Int) by omega] at this
                rwa [hr2] at this
              have HS8 : Hid (∀ W [Bl wc W], W.cell? ⟨b8, 0, none⟩ = some (.int .i64 (x.2.1.gen + 1)) ∧ W.cell? ⟨b8, 1, none⟩ = some (.int .i64 (x.2.1.base + (x.2.2 : Int))) ∧ W.cell? ⟨b8, 2, none⟩ = some (.int .i64 a) ∧ W.cell? ⟨b8, 3, none⟩ = some (.slice (some ⟨b9, 0, none⟩) 1 1) ∧ W.cell? ⟨b9, 0, none⟩ = some (.int .i64 b)) := Lib.hid fun W i => by
                have X := x8.below i.h x8.lt
                exact ⟨X.c0, X.c1, X.c2, X.c3, (i.h.cell (World.block_lt_of_cell? wc _ c9)).trans c9⟩
              have hsum : IntKind.i64.wrap ((f.size : Int) + (SZ : Int)) = (f.size : Int) + (SZ : Int) := by rw [Bt.wrap_i64]; omega
              have X8 := Lib.hid x8
              have L8 := Lib.hid l8
              have L9 := Lib.hid l9
              have hw5c := bl8.size
              have q0 := x8.c0; have q1 := x8.c1; have q2 := x8.c2; have q3 := x8.c3
              have HR1E := Lib.hid hr1
              have HFZ := Lib.hid hfz
              have hfb : f.size ≤ 262153 := by omega
              clear hfz h8 x8 l8 l9 n98 bl8 hbc hxc hvc hSZ HSZ0 hr1 hr2 y0 y1 qg HSS HCL
              cases r1 with
              | false =>
                go_wp2_with fail
                go_region_with (first | (go_at_call 59; refine (HR1.out wc).mono ?_; rintro e w14 ⟨rfl, hb⟩; have i14 : Bl wc w14 := Bl.tr inferInstance hb; clear hb; rename_i hK; refine hK _ _ ?_; refine wpAny_take (i := 7) (v := .bool true) rfl (by kernel_rfl) (by kernel_rfl) (by kernel_rfl) (fun _ _ _ h => h) (Or.inl ⟨by kernel_rfl, fun _ => rfl⟩) ?_; refine wpAny_take (i := 8) (v := .bool true) rfl (by kernel_rfl) (by kernel_rfl) (by kernel_rfl) (fun _ _ _ h => h) (Or.inl ⟨by kernel_rfl, fun _ => rfl⟩) ?_; refine wpAny_take (i := 9) (v := undef) rfl (by kernel_rfl) (by kernel_rfl) (by kernel_rfl) (fun _ _ _ h => h) (Or.inr ⟨by kernel_rfl, rfl⟩) ?_; refine wpAny_take (i := 10) (v := undef) rfl (by kernel_rfl) (by kernel_rfl) (by kernel_rfl) (fun _ _ _ h => h) (Or.inr ⟨by kernel_rfl, rfl⟩) ?_; refine wpAny_take (i := 11) (v := undef) rfl (by kernel_rfl) (by kernel_rfl) (by kernel_rfl) (fun _ _ _ h => h) (Or.inr ⟨by kernel_rfl, rfl⟩) ?_; refine wpAny_take (i := 12) (v := undef) rfl (by kernel_rfl) (by kernel_rfl) (by kernel_rfl) (fun _ _ _ h => h) (Or.inr ⟨by kernel_rfl, rfl⟩) ?_; refine wpAny_take (i := 13) (v := undef) rfl (by kernel_rfl) (by kernel_rfl) (by kernel_rfl) (fun _ _ _ h => h) (Or.inr ⟨by kernel_rfl, rfl⟩) ?_; refine wpAny_take (i := 14) (v := undef) rfl (by kernel_rfl) (by kernel_rfl) (by kernel_rfl) (fun _ _ _ h => h) (Or.inr ⟨by kernel_rfl, rfl⟩) ?_; refine wpAny_take (i := 15) (v := undef) rfl (by kernel_rfl) (by kernel_rfl) (by kernel_rfl) (fun _ _ _ h => h) (Or.inr ⟨by kernel_rfl, rfl⟩) ?_; refine wpAny_take (i := 16) (v := undef) rfl (by kernel_rfl) (by kernel_rfl) (by kernel_rfl) (fun _ _ _ h => h) (Or.inr ⟨by kernel_rfl, rfl⟩) ?_; refine wpAny_take (i := 17) (v := undef) rfl (by kernel_rfl) (by kernel_rfl) (by kernel_rfl) (fun _ _ _ h => h) (Or.inr ⟨by kernel_rfl, rfl⟩) ?_; refine wpAny_take (i := 18) (v := undef) rfl (by kernel_rfl) (by kernel_rfl) (by kernel_rfl) (fun _ _ _ h => h) (Or.inr ⟨by kernel_rfl, rfl⟩) ?_; refine wpAny_take (i := 19) (v := undef) rfl (by kernel_rfl) (by kernel_rfl) (by kernel_rfl) (fun _ _ _ h => h) (Or.inr ⟨by kernel_rfl, rfl⟩) ?_; refine wpAny_take (i := 20) (v := undef) rfl (by kernel_rfl) (by kernel_rfl) (by kernel_rfl) (fun _ _ _ h => h) (Or.inr ⟨by kernel_rfl, rfl⟩) ?_; refine wpAny_take (i := 21) (v := undef) rfl (by kernel_rfl) (by kernel_rfl) (by kernel_rfl) (fun _ _ _ h => h) (Or.inr ⟨by kernel_rfl, rfl⟩) ?_; refine wpAny_take (i := 22) (v := undef) rfl (by kernel_rfl) (by kernel_rfl) (by kernel_rfl) (fun _ _ _ h => h) (Or.inr ⟨by kernel_rfl, rfl⟩) ?_; refine wpAny_take (i := 23) (v := undef) rfl (by kernel_rfl) (by kernel_rfl) (by kernel_rfl) (fun _ _ _ h => h) (Or.inr ⟨by kernel_rfl, rfl⟩) ?_; refine wpAny_take (i := 24) (v := undef) rfl (by kernel_rfl) (by kernel_rfl) (by kernel_rfl) (fun _ _ _ h => h) (Or.inr ⟨by kernel_rfl, rfl⟩) ?_; refine wpAny_take (i := 25) (v := undef) rfl (by kernel_rfl) (by kernel_rfl) (by kernel_rfl) (fun _ _ _ h => h) (Or.inr ⟨by kernel_rfl, rfl⟩) ?_) | fail)
                first | go_simp | skip
                go_wp2
                go_ret
                rw [HLC.out, if_neg (by simp)]
                exact ⟨rfl, HX.out.below (HBC.out.trans ((Bl.h (w := wc) (W := w14)).mono HBC.out.size)) (Nat.le_refl _), Gv.of_below (HBC.out.trans ((Bl.h (w := wc) (W := w14)).mono HBC.out.size)) _ _⟩
              | true =>
                go_wp2_with fail
                go_region_held3 (fun W => W.cell? ⟨b8, 0, none⟩ = some (.int .i64 (x.2.1.gen + 1)) ∧ W.cell? ⟨b8, 1, none⟩ = some (.int .i64 (x.2.1.base + (x.2.2 : Int))) ∧ W.cell? ⟨b8, 2, none⟩ = some (.int .i64 a) ∧ W.cell? ⟨b8, 3, none⟩ = some (.slice (some ⟨b9, 0, none⟩) 1 1) ∧ W.cell? ⟨b9, 0, none⟩ = some (.int .i64 b)) (first | exact HS8.out _ | fail) (first
                  | (go_at_call 60; refine (HSZ.out _).mono ?_; rintro e wS ⟨rfl, hb⟩; have iS : Bl wc wS := Bl.tr inferInstance hb; clear hb)
                  | (go_at_call 61; refine (HSP.out _).mono ?_; rintro e wP ⟨rfl, hb⟩; have iP : Bl wc wP := Bl.tr inferInstance hb; clear hb)
                  | (go_at_call 59; refine (HR2.out wP).mono ?_; rintro e w15 ⟨rfl, hb⟩; have i15 : Bl wc w15 := Bl.tr inferInstance hb; clear hb)
                  | (go_at_call 59; refine (HR1.out wc).mono ?_; rintro e w14 ⟨rfl, hb⟩; have i14 : Bl wc w14 := Bl.tr inferInstance hb; clear hb)
                  | fail)
                have HB15 := Lib.hid (HBC.out.trans (i15.h.mono HBC.out.size))
                have HS9 : Hid (∀ W, Below w15.heap.size w15 W → W.cell? ⟨b8, 0, none⟩ = some (.int .i64 (x.2.1.gen + 1)) ∧ W.cell? ⟨b8, 1, none⟩ = some (.int .i64 (x.2.1.base + (x.2.2 : Int))) ∧ W.cell? ⟨b8, 2, none⟩ = some (.int .i64 a) ∧ W.cell? ⟨b8, 3, none⟩ = some (.slice (some ⟨b9, 0, none⟩) 1 1) ∧ W.cell? ⟨b9, 0, none⟩ = some (.int .i64 b)) := Lib.hid fun W hW => by
                  have : Bl wc W := Bl.tr i15 hW
                  exact HS8.out W
                have HK15 : Hid (∀ W, Below w15.heap.size w15 W → KAt W (.slice (some ⟨b9, 0, none⟩) 1 1) [b]) := Lib.hid fun W hW => by
                  have : Bl wc W := Bl.tr i15 hW
                  exact HK9.out W
                clear q0 q1 q2 q3 HSZ HSP HR1 HR2 HK9 i14 iS iP
                cases r2 with
                | false =>
                  go_wp2
                  go_ret
                  rw [HLC.out, if_neg (by simp)]
                  exact ⟨rfl, HX.out.below HB15.out (Nat.le_refl _), Gv.of_below HB15.out _ _⟩
                | true =>
                  have HLD : Hid (LayS s x = runS (lyL s a b x ++ (nmS x.2.1).map wiSt) x) := Lib.hid (by rw [HLC.out, if_pos (by simp)])
                  have HLA := Lib.hid (fun W (hW : Below w.heap.size w W) => last_any V B mo x.2.1 x.2.2 v W (HV.out.below hW (Nat.le_refl _)) HKK.out.ne)
                  have HS1 := Lib.hid (fun t W (hW : Below w.heap.size w W) => toSync_any V B mo t W (Nat.lt_of_lt_of_le hBl hW.size) (Nat.lt_of_lt_of_le hVl hW.size))
                  have HS2 := Lib.hid (fun t W (hW : Below w.heap.size w W) => toWipe_any V B mo t W (Nat.lt_of_lt_of_le hBl hW.size) (Nat.lt_of_lt_of_le hVl hW.size))
                  have HS4 := Lib.hid (fun t W (hW : Below w.heap.size w W) => toWrite_any V B mo t f (by omega) W (Nat.lt_of_lt_of_le hBl hW.size) (Nat.lt_of_lt_of_le hVl hW.size))
                  have HS3 : Hid (∀ W, Below w15.heap.size w15 W → Calls Tryz.prog 64 #[.pointer (some ⟨V, 0, none⟩), .agg #[.int .i64 (x.2.1.gen + 1), .int .i64 (x.2.1.base + (x.2.2 : Int)), .int .i64 a, .slice (some ⟨b9, 0, none⟩) 1 1], .int .i64 0] W (MkP W V B mo (puSt (Vt.lyH x.2.1 x.2.2 a b) 0))) := Lib.hid fun W hW => toPut_any V B mo (Vt.lyH x.2.1 x.2.2 a b) 0 (.slice (some ⟨b9, 0, none⟩) 1 1) W (Nat.lt_of_lt_of_le hBl (HB15.out.trans (hW.mono HB15.out.size)).size) (Nat.lt_of_lt_of_le hVl (HB15.out.trans (hW.mono HB15.out.size)).size) (HK15.out W hW) (by show [b] ≠ []; simp) (by show [b].length ≤ _; simp) (fun q hq => by
                    have e1 : b9 = q := Option.some.inj hq
                    have := L9.out; have := HB5.out.size; omega)
                  go_upto_region 16 with fail
                  go_region_held3 (fun W => W.cell? ⟨b8, 0, none⟩ = some (.int .i64 (x.2.1.gen + 1)) ∧ W.cell? ⟨b8, 1, none⟩ = some (.int .i64 (x.2.1.base + (x.2.2 : Int))) ∧ W.cell? ⟨b8, 2, none⟩ = some (.int .i64 a) ∧ W.cell? ⟨b8, 3, none⟩ = some (.slice (some ⟨b9, 0, none⟩) 1 1) ∧ W.cell? ⟨b9, 0, none⟩ = some (.int .i64 b)) (first | exact HS9.out _ (kG.alloc kG.size _) | exact HS9.out _ kG | exact HS9.out _ kF | exact HS9.out _ kE | exact HS9.out _ kD | exact HS9.out _ kC | exact HS9.out _ kB | exact HS9.out _ kA | exact HS9.out _ (Below.drew (Below.refl _ _)) | fail) (first
                    | (have hx := kF; clear hx; go_at_call 64; refine (HS3.out wF kF).mono ?_; rintro e wG ⟨c6, bs6, rfl, hst6, hb6⟩; obtain ⟨F6, fi6, ca6⟩ := c6; unfold Clo.v; have kG : Below w15.heap.size w15 wG := kF.trans (hb6.mono kF.size); have ST1 := Lib.hid (ST1.out.below hb6); have ST2 := Lib.hid (ST2.out.below hb6); have ST3 := Lib.hid (ST3.out.below hb6); have ST4 := Lib.hid (ST4.out.below hb6); have ST5 := Lib.hid (ST5.out.below hb6); have ST6 := Lib.hid hst6; clear hst6 hb6)
                    | (have hx := kE; clear hx; go_at_call 62; refine (HS2.out b wE (HB15.out.trans (kE.mono HB15.out.size))).mono ?_; rintro e wF ⟨c5, bs5, rfl, hst5, -, hb6⟩; obtain ⟨F5, fi5, ca5⟩ := c5; unfold Clo.v; have kF : Below w15.heap.size w15 wF := kE.trans (hb6.mono kE.size); have ST1 := Lib.hid (ST1.out.below hb6); have ST2 := Lib.hid (ST2.out.below hb6); have ST3 := Lib.hid (ST3.out.below hb6); have ST4 := Lib.hid (ST4.out.below hb6); have ST5 := Lib.hid hst5; clear hst5 hb6)
                    | (have hx := kD; clear hx; go_at_call 56; refine (HS1.out a wD (HB15.out.trans (kD.mono HB15.out.size))).mono ?_; rintro e wE ⟨c4, bs4, rfl, hst4, -, hb6⟩; obtain ⟨F4, fi4, ca4⟩ := c4; unfold Clo.v; have kE : Below w15.heap.size w15 wE := kD.trans (hb6.mono kD.size); have ST1 := Lib.hid (ST1.out.below hb6); have ST2 := Lib.hid (ST2.out.below hb6); have ST3 := Lib.hid (ST3.out.below hb6); have ST4 := Lib.hid hst4; clear hst4 hb6)
                    | (have hx := kC; clear hx; go_at_call 63; refine (HS4.out a wC (HB15.out.trans (kC.mono HB15.out.size))).mono ?_; rintro e wD ⟨c3, bs3, rfl, hst3, -, hb6⟩; obtain ⟨F3, fi3, ca3⟩ := c3; unfold Clo.v; have kD : Below w15.heap.size w15 wD := kC.trans (hb6.mono kC.size); have ST1 := Lib.hid (ST1.out.below hb6); have ST2 := Lib.hid (ST2.out.below hb6); have ST3 := Lib.hid hst3; clear hst3 hb6)
                    | (have hx := kB; clear hx; go_at_call 62; refine (HS2.out a wB (HB15.out.trans (kB.mono HB15.out.size))).mono ?_; rintro e wC ⟨c2, bs2, rfl, hst2, -, hb6⟩; obtain ⟨F2, fi2, ca2⟩ := c2; unfold Clo.v; have kC : Below w15.heap.size w15 wC := kB.trans (hb6.mono kB.size); have ST1 := Lib.hid (ST1.out.below hb6); have ST2 := Lib.hid hst2; clear hst2 hb6)
                    | (have hx := kA; clear hx; go_at_call 56; refine (HS1.out _ wA (HB15.out.trans (kA.mono HB15.out.size))).mono ?_; rintro e wB ⟨c1, bs1, rfl, hst1, -, hb6⟩; obtain ⟨F1, fi1, ca1⟩ := c1; unfold Clo.v; have kB : Below w15.heap.size w15 wB := kA.trans (hb6.mono kA.size); have ST1 := Lib.hid hst1; clear hst1 hb6)
                    | (go_at_call 57; refine (HLA.out w15.drew (HB15.out.trans ((Below.drew (Below.refl w15.heap.size w15)).mono HB15.out.size))).mono ?_; rintro e wA ⟨rfl, hb6⟩; have kA : Below w15.heap.size w15 wA := below_undrew' hb6; clear hb6)
                    | fail)
                  have HWG := Lib.hid (HB15.out.trans (kG.mono HB15.out.size))
                  have HQ0 := Lib.hid (Sts.lit (w := wG) (V := V) (B := B) (mo := mo) (base := w.heap.size) (A := #[.func (.func F1) fi1 ca1, .func (.func F2) fi2 ca2, .func (.func F3) fi3 ca3, .func (.func F4) fi4 ca4, .func (.func F5) fi5 ca5, .func (.func F6) fi6 ca6]) (n := 6) (fs := lyL s a b x) [(⟨F1, fi1, ca1⟩, bs1, sySt (Vt.lz x.2.1.log)), (⟨F2, fi2, ca2⟩, bs2, wiSt a), (⟨F3, fi3, ca3⟩, bs3, wrSt a f), (⟨F4, fi4, ca4⟩, bs4, sySt a), (⟨F5, fi5, ca5⟩, bs5, wiSt b), (⟨F6, fi6, ca6⟩, bs6, puSt (Vt.lyH x.2.1 x.2.2 a b) 0)] HWG.out.size (by simp) (lit6 ST1.out ST2.out ST3.out ST4.out ST5.out ST6.out) rfl (by unfold lyL; rw [HFE.out]; rfl) rfl)
                  clear kA kB kC kD kE kF ST1 ST2 ST3 ST4 ST5 ST6 HS1 HS3 HS4 HLA
                  clear HS9 HS8 HK15 HLC
                  have HBS := Lib.hid (HWG.out.alloc HWG.out.size (.cells #[.func (.func F1) fi1 ca1, .func (.func F2) fi2 ca2, .func (.func F3) fi3 ca3, .func (.func F4) fi4 ca4, .func (.func F5) fi5 ca5, .func (.func F6) fi6 ca6] 84))
                  have HS0 := Lib.hid (show (Value.slice (some ⟨wG.heap.size, 0, none⟩) 6 6).ownBlock = some wG.heap.size from rfl)
                  obtain ⟨WS, hWS⟩ : ∃ WS, wG.alloc (.cells #[.func (.func F1) fi1 ca1, .func (.func F2) fi2 ca2, .func (.func F3) fi3 ca3, .func (.func F4) fi4 ca4, .func (.func F5) fi5 ca5, .func (.func F6) fi6 ca6] 84) = WS := ⟨_, rfl⟩
                  rw [hWS] at HBS HQ0
                  have hwsz : WS.heap.size = wG.heap.size + 1 := by rw [← hWS]; simp
                  rw [hWS]
                  clear hWS
                  have hvs := HV.out.below HBS.out (Nat.le_refl _)
                  have qg := hvs.g; have qb := hvs.b; have qs := hvs.s; have ql := hvs.l
                  rw [HVA.out] at ql
                  have HNM0 := named_any x.2.1 v WS hvs.k HM.out
                  unfold hval at HNM0
                  rw [HVA.out] at HNM0
                  have HNM := Lib.hid HNM0
                  have hnl := nms30 x.2.1
                  clear hvs HNM0 HVA
                  generalize nmS x.2.1 = l at *
                  obtain ⟨i0, hi, hz0, hz1, hz2⟩ := info_parts info84
                  obtain ⟨L, hL⟩ : ∃ L, l.length = L := ⟨_, rfl⟩
                  have HL := Lib.hid hL
                  go_wp2_with fail
                  refine HNM.out.mono ?_
                  rintro e wN ⟨un, rfl, hu, hbN⟩
                  obtain ⟨na, nc, hu2⟩ := hu.shape
                  rw [List.length_map, hL] at hu2
                  subst hu2
                  rw [hL] at hnl
                  have HKN := Lib.hid hu.kat'
                  have HUN := Lib.hid (fun q hq => (hu.lt q hq))
                  have HBN := Lib.hid (below_trans' HBS.out hbN)
                  have HQN := Lib.hid (HQ0.out.below hbN)
                  clear hu hL hbN qg qb qs ql HQ0 HNM
                  go_wp2
                  go_loopw [9, 128] (fun sv i wl => ∃ (k : Nat), i = .int .i64 (k : Int) ∧ k ≤ L ∧ Hid (Below w.heap.size w wl) ∧ Hid (KAt wl (.slice na L nc) l) ∧ Hid (∀ q, (Value.slice na L nc).ownBlock = some q → q < wl.heap.size ∧ sv.ownBlock ≠ some q) ∧ Hid (Sts wl V B mo w.heap.size sv (lyL s a b x ++ (l.take k).map wiSt))) (fun _ i _ => L - (intOf i).toNat)
                  case atStart => exact ⟨0, rfl, by omega, HBN, HKN, Lib.hid (fun q hq => ⟨(HUN.out q hq).2, fun e => by rw [HS0.out] at e; have := (HUN.out q hq).1; have := Option.some.inj e; omega⟩), Lib.hid (by rw [List.take_zero, List.map_nil, List.append_nil]; exact HQN.out)⟩
                  case round =>
                    obtain ⟨k, rfl, hk, HB, HC, HD, HQ⟩ := hrel
                    by_cases hlt : k < L
                    · have hkl : k < l.length := by rw [HL.out]; exact hlt
                      obtain ⟨g, o9, c9, hg, -⟩ := HC.out.pos (fun e => by rw [e] at hkl; simp at hkl)
                      injection hg with u1 u2 u3
                      subst u1
                      clear u2 u3
                      have hc := HC.out.at k hkl
                      have E1 : Hid (l.take (k + 1) = l.take k ++ [l[k]]) := Lib.hid (List.take_succ_eq_append_getElem hkl)
                      generalize l[k] = t at *
                      have E3 : Hid (lyL s a b x ++ (l.take (k + 1)).map wiSt = (lyL s a b x ++ (l.take k).map wiSt) ++ [wiSt t]) := Lib.hid (by rw [E1.out, List.map_append, List.append_assoc]; rfl)
                      have HLN : Hid ((lyL s a b x ++ (l.take k).map wiSt).length ≤ 100) := Lib.hid (by rw [List.length_append, List.length_map, List.length_take]; unfold lyL; simp; omega)
                      clear E1
                      generalize lyL s a b x ++ (l.take k).map wiSt = FS at *
                      go_wp2_with fail
                      refine (HS2.out t wr HB.out).mono ?_
                      rintro e w2 ⟨cl, bs, rfl, hst, hbs, hb2⟩
                      have hn : ∀ b ∈ bs, ∀ s0 fs0, Sts wr V B mo w.heap.size s0 fs0 → s0.ownBlock ≠ some b := fun b hb s0 fs0 ⟨_, _, y2, _⟩ e => by have := (y2.lt b e).2; have := hbs b hb; omega
                      have HN2 := Lib.hid (fun b hb => hn b hb _ _ HQ.out)
                      obtain ⟨Ls, q1, q2, q3⟩ := HQ.out.below hb2
                      have HO1 := Lib.hid q2
                      have HQ3 := Lib.hid (fun (o : Obj) => fun q hq => (⟨(q3 q hq).1.below (below_one w2 o), (q3 q hq).2⟩ : Stp (w2.alloc o) V B mo q.2.1 q.1 q.2.2 ∧ ∀ b ∈ q.2.1, _))
                      have HST := Lib.hid (fun (o : Obj) => hst.below (below_one w2 o))
                      have HZ := Lib.hid (show (Ls.map fun q => q.1.v).length ≤ 100 by rw [List.length_map]; have h9 := congrArg List.length q1; rw [List.length_map] at h9; rw [← h9]; exact HLN.out)
                      have HB2 := Lib.hid (below_trans' HB.out hb2)
                      have HC2 := Lib.hid (fun (o : Obj) => (HC.out.below hb2 (Nat.le_refl _)).below (below_one w2 o) (Nat.le_refl _))
                      have HD2 := Lib.hid (fun q hq => (⟨Nat.lt_of_lt_of_le (HD.out q hq).1 hb2.size, (HD.out q hq).2⟩ : q < w2.heap.size ∧ _))
                      have HE4 : Hid (lyL s a b x ++ (l.take (k + 1)).map wiSt = Ls.map (fun q => q.2.2) ++ [wiSt t]) := Lib.hid (by rw [E3.out, q1])
                      clear hn q1 q2 q3 hst hbs hb2 HQ HLN E3
                      obtain ⟨F, fi, ca⟩ := cl
                      unfold Clo.v
                      generalize hLv : (Ls.map fun q => q.1.v) = LV at *
                      have HLV := Lib.hid hLv
                      clear hLv
                      go_wp2_with (at_builtin; refine wpList_append_Own _ rfl (.tmp 132) (.tmp 136) 90 90 rfl w.heap.size 84 i0 .nilFunc 8 Tryz.underlying90 hi hz0 hz1 hz2 rfl _ LV rfl (HO1.out.alloc _) _ 1 [.func (.func F) fi ca] rfl (Src.one w2 Tryz.underlying90 _ _ rfl) ?c1 ?c2 ?c3 ?_; rotate_right; intro v' w3 hown1 hgr hwh; have HO2 := Lib.hid hown1; have HG := Lib.hid hgr; have HH := Lib.hid hwh; clear hown1 hgr hwh)
                      case c1 => have := HZ.out; omega
                      case c2 => have := HZ.out; omega
                      case c3 => exact Nat.le_trans HB2.out.size (by rw [World.size_alloc]; omega)
                      have HQN2 : Hid (Sts w3 V B mo w.heap.size v' (lyL s a b x ++ (l.take (k + 1)).map wiSt)) := Lib.hid (by
                        rw [HE4.out]
                        exact Sts.snoc (HQ3.out _) (HST.out _) HN2.out (by rw [HLV.out]; exact HO2.out) HG.out HH.out)
                      have HB3 := Lib.hid ((HB2.out.alloc HB2.out.size (.cells #[.func (.func F) fi ca] 84)).grown HG.out (Nat.le_trans HB2.out.size (by rw [World.size_alloc]; omega)) (fun q hq => (HO1.out.lt q hq).1))
                      have HC3 := Lib.hid ((HC2.out (.cells #[.func (.func F) fi ca] 84)).same fun g2 hg2 e2 => HG.out.block g2 hg2 (fun e3 => (HD2.out g2 e2).2 e3.symm))
                      have HD3 : Hid (∀ q, (Value.slice (some ⟨g, o9, none⟩) L nc).ownBlock = some q → q < w3.heap.size ∧ v'.ownBlock ≠ some q) := Lib.hid (fun q hq => ⟨Nat.lt_of_lt_of_le (HD2.out q hq).1 (Nat.le_trans (by rw [World.size_alloc]; omega) HG.out.size), fun e => by
                        rcases HH.out with e4 | e4
                        · exact (HD2.out q hq).2 (e4 ▸ e)
                        · have h7 := e4 q e; have := (HD2.out q hq).1; rw [World.size_alloc] at h7; omega⟩)
                      go_wp2
                      go_roundw
                      case rel => exact ⟨k + 1, by go_num, by omega, HB3, HC3, HD3, HQN2⟩
                      case measure => simp [intOf]; omega
                    · obtain rfl : k = L := by omega
                      have e2 : l.take k = l := by rw [← HL.out, List.take_length]
                      rw [e2] at HQ
                      have HF := Lib.hid (turn_sts (HX.out.below HB.out (Nat.le_refl _)) HQ.out (by omega) (by omega))
                      clear e2
                      go_wp2_with fail
                      refine HF.out.mono ?_
                      rintro e w4 ⟨rfl, hx4, hg4⟩
                      have HX4 := Lib.hid hx4
                      have HG4 := Lib.hid ((Gv.of_below HB.out B V).trans hg4)
                      clear hx4 hg4
                      go_wp2
                      go_ret
                      rw [HLD.out]
                      exact ⟨rfl, HX4.out, HG4.out⟩
end Go.Proofs.YtieemdcoomilaaaGreatDoor
