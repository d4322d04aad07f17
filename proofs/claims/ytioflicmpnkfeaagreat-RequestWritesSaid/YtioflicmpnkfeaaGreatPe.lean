/- The contract of readSeries. -/
import Derived.Test.YtioflicmpnkfeaaGreatPd
namespace Go.Proofs.YtioflicmpnkfeaaGreat
open Go Go.RowKit
set_option maxRecDepth 100000
def TellsR (w : World) (X : Sr × Nat) (e : Ending) (w' : World) : Prop := ∃ a b, e = .returned (.tuple #[.agg #[a, b], .int .i64 (X.2 : Int)]) ∧ Ol w' w.heap.size a X.1.ls ∧ Om w' w.heap.size b X.1.ss ∧ Below w.heap.size w w'
theorem gSr_eq (fs : List Fd) (hok : ∀ f ∈ fs, f.ok) : gSr fs = if bd 1 2 fs = true then (⟨[], []⟩, 4) else if bd 2 2 fs = true then (⟨[], []⟩, 4) else if (gts rLb (tx 1 fs)).2 ≠ 0 then (⟨[], []⟩, (gts rLb (tx 1 fs)).2) else if (gts rSm (tx 2 fs)).2 ≠ 0 then (⟨[], []⟩, (gts rSm (tx 2 fs)).2) else (⟨(gts rLb (tx 1 fs)).1, (gts rSm (tx 2 fs)).1⟩, 0) := by
  unfold gSr
  rw [bad2_bd fs hok, pts_tx, pts_tx]
  have g : ∀ {α : Type} (rd : List UInt8 → α × Nat) ts, (gts rd ts).2 = (pt rd ts).2 ∧ ((pt rd ts).2 = 0 → (gts rd ts).1 = (pt rd ts).1) := fun rd ts => by
    unfold gts
    split
    · exact ⟨rfl, fun h => absurd h (by assumption)⟩
    · exact ⟨rfl, fun _ => rfl⟩
  obtain ⟨a1, a2⟩ := g rLb (tx 1 fs)
  obtain ⟨b1, b2⟩ := g rSm (tx 2 fs)
  rw [a1, b1]
  by_cases h1 : bd 1 2 fs = true
  · simp [h1]
  · by_cases h2 : bd 2 2 fs = true
    · simp [h2]
    · rw [if_neg (by simp [h1, h2]), if_neg h1, if_neg h2]
      by_cases h3 : (pt rLb (tx 1 fs)).2 ≠ 0
      · rw [if_pos h3, if_pos h3]
      · rw [if_neg h3, if_neg h3]
        by_cases h4 : (pt rSm (tx 2 fs)).2 ≠ 0
        · rw [if_pos h4, if_pos h4]
        · rw [if_neg h4, if_neg h4, a2 (by omega), b2 (by omega)]
theorem tcs_map (ts : List (List UInt8)) : (ts.map bs).map (fun x : ByteArray => (.string x : Value)) = tcs ts := by simp [tcs]
theorem tx_lt {fs : List Fd} (h : ∀ f ∈ fs, f.t.length ≤ 1000000) (n : Nat) : ∀ t ∈ tx n fs, t.length ≤ 1000000 := by
  intro t ht
  unfold tx at ht
  obtain ⟨f, hf, rfl⟩ := List.mem_map.1 ht
  exact h f (List.mem_filter.1 hf).1
theorem O2.set2 {E E' : TypeId} {w : World} {base B : Nat} {v x y : Value} {l : List Pv} (h : O2 E w base v l) (hB : Box2 w B E' x y) (hE : E ≠ E') {a b : Value} : O2 E ((w.setCell ⟨B, 0, none⟩ a).setCell ⟨B, 1, none⟩ b) base v l :=
  h.same fun g _ e => by
    have hne := h.ne hB hE
    have : g ≠ B := fun e2 => hne (by rw [e, e2])
    rw [Below.heap_setCell _ _ _ _ (by simpa using this), Below.heap_setCell _ _ _ _ (by simpa using this)]
set_option maxHeartbeats 1000000 in
theorem rser_any (fs : List Fd) (hok : ∀ f ∈ fs, f.ok) (hl : fs.length ≤ 1000000) (htl : ∀ f ∈ fs, f.t.length ≤ 1000000) (v : Value) (w : World) (hv : GAt w v (fs.map gfd)) :
    Calls Tryz.prog 51 #[v] w (TellsR w (gSr fs)) := by
  have A1 := Lib.hid (fun W (hW : GAt W v (fs.map gfd)) => all_asT (fs.map gfd) (by simpa using hl) 1 v W hW)
  have A2 := Lib.hid (fun W (hW : GAt W v (fs.map gfd)) => all_asT (fs.map gfd) (by simpa using hl) 2 v W hW)
  rw [show alk asT (1 : Int) (fs.map gfd) [] = _ from alk_T 1 fs] at A1
  rw [show alk asT (2 : Int) (fs.map gfd) [] = _ from alk_T 2 fs] at A2
  have L1 := Lib.hid (fun b1 b2 b0 v W => listL_any (tx 1 fs) (tx_lt htl 1) (Nat.le_trans (tx_len 1 fs) hl) b1 b2 b0 v W)
  have L2 := Lib.hid (fun b1 b2 b0 v W => listM_any (tx 2 fs) (tx_lt htl 2) (Nat.le_trans (tx_len 2 fs) hl) b1 b2 b0 v W)
  rw [gSr_eq fs hok]
  have HA : Hid (Below w.heap.size w (w.alloc (.cells #[.slice none 0 0, .slice none 0 0] 29))) := Lib.hid ((Below.refl _ _).alloc (Nat.le_refl _) _)
  have HX : Hid (Box2 (w.alloc (.cells #[.slice none 0 0, .slice none 0 0] 29)) w.heap.size 29 (.slice none 0 0) (.slice none 0 0)) := Lib.hid (Box2.new _ _ _ _)
  have HV := Lib.hid hv
  obtain ⟨va, vc, hv2⟩ := hv.slice
  generalize (fs.map gfd).length = L at hv2
  subst hv2
  clear hok hl htl hv
  by_cases h1 : bd 1 2 fs = true
  · rw [if_pos h1] at A1
    rw [if_pos h1]
    clear h1
    go_enter Tryz.func51, Tryz.ntmps51

    go_wp2_with fail
    refine (A1.out _ (HV.out.below HA.out (Nat.le_refl _))).mono ?_
    rintro e w1 ⟨u1, rfl, ho1, hb1⟩
    have HX1 := Lib.hid (HX.out.below hb1 HX.out.lt)
    have HB1 := Lib.hid (HA.out.trans (hb1.mono HA.out.size))
    have HV1 := Lib.hid ((HV.out.below HA.out (Nat.le_refl _)).below hb1 (Nat.le_refl _))
    have HU1 := Lib.hid (vat_of ho1)
    clear ho1 hb1

    have f0 := HX1.out.free 0
    have f1 := HX1.out.free 1
    have x0 := HX1.out.c0
    have x1 := HX1.out.c1
    go_wp2
    exact retc2 Tryz.results51 two40 w.heap.size rfl rfl rfl (HX1.out.set _ _) ⟨_, _, rfl, O2.nil _ _ _, O2.nil _ _ _, below_set (below_set HB1.out (Nat.le_refl _) _) (Nat.le_refl _) _⟩
  · rw [if_neg h1] at A1
    rw [if_neg h1]
    dsimp only at A1
    rw [tcs_map] at A1
    clear h1
    by_cases h2 : bd 2 2 fs = true
    · rw [if_pos h2] at A2
      rw [if_pos h2]
      clear h2
      go_enter Tryz.func51, Tryz.ntmps51

      go_wp2_with fail
      refine (A1.out _ (HV.out.below HA.out (Nat.le_refl _))).mono ?_
      rintro e w1 ⟨u1, rfl, ho1, hb1⟩
      have HX1 := Lib.hid (HX.out.below hb1 HX.out.lt)
      have HB1 := Lib.hid (HA.out.trans (hb1.mono HA.out.size))
      have HV1 := Lib.hid ((HV.out.below HA.out (Nat.le_refl _)).below hb1 (Nat.le_refl _))
      have HU1 := Lib.hid (vat_of ho1)
      clear ho1 hb1

      go_wp2_with fail
      refine (A2.out _ HV1.out).mono ?_
      rintro e w2 ⟨u2, rfl, ho2, hb2⟩
      have HX2 := Lib.hid (HX1.out.below hb2 HX1.out.lt)
      have HB2 := Lib.hid (HB1.out.trans (hb2.mono HB1.out.size))
      have HU2 := Lib.hid (HU1.out.below hb2 (Nat.le_refl _))
      have HT2 := Lib.hid (vat_of ho2)
      clear ho2 hb2

      have f0 := HX2.out.free 0
      have f1 := HX2.out.free 1
      have x0 := HX2.out.c0
      have x1 := HX2.out.c1
      go_wp2
      exact retc2 Tryz.results51 two40 w.heap.size rfl rfl rfl (HX2.out.set _ _) ⟨_, _, rfl, O2.nil _ _ _, O2.nil _ _ _, below_set (below_set HB2.out (Nat.le_refl _) _) (Nat.le_refl _) _⟩
    · rw [if_neg h2] at A2
      rw [if_neg h2]
      dsimp only at A2
      rw [tcs_map] at A2
      clear h2
      generalize gts rLb (tx 1 fs) = X1 at *
      generalize gts rSm (tx 2 fs) = X2 at *
      obtain ⟨l1, e1⟩ := X1
      obtain ⟨l2, e2⟩ := X2
      dsimp only at L1 L2 ⊢
      by_cases h3 : e1 ≠ 0
      · rw [if_pos h3]
        have h3b : ((e1 : Int) != 0) = true := by rw [bne_iff_ne]; omega
        clear h3
        go_enter Tryz.func51, Tryz.ntmps51

        go_wp2_with fail
        refine (A1.out _ (HV.out.below HA.out (Nat.le_refl _))).mono ?_
        rintro e w1 ⟨u1, rfl, ho1, hb1⟩
        have HX1 := Lib.hid (HX.out.below hb1 HX.out.lt)
        have HB1 := Lib.hid (HA.out.trans (hb1.mono HA.out.size))
        have HV1 := Lib.hid ((HV.out.below HA.out (Nat.le_refl _)).below hb1 (Nat.le_refl _))
        have HU1 := Lib.hid (vat_of ho1)
        clear ho1 hb1

        obtain ⟨a1, c1, hu1⟩ := HU1.out.slice
        subst hu1

        go_wp2_with fail
        refine (A2.out _ HV1.out).mono ?_
        rintro e w2 ⟨u2, rfl, ho2, hb2⟩
        have HX2 := Lib.hid (HX1.out.below hb2 HX1.out.lt)
        have HB2 := Lib.hid (HB1.out.trans (hb2.mono HB1.out.size))
        have HU2 := Lib.hid (HU1.out.below hb2 (Nat.le_refl _))
        have HT2 := Lib.hid (vat_of ho2)
        clear ho2 hb2

        obtain ⟨a2, c2, hu2⟩ := HT2.out.slice
        subst hu2

        go_wp2_with fail
        refine (pairL_any _).mono ?_
        rintro e w3 ⟨rfl, hw3⟩
        have h3 : Below w2.heap.size w2 w3 := by rw [hw3]; exact (Below.refl _ _).alloc (Nat.le_refl _) _
        have HP3 : Hid (Boxed w3 w2.heap.size 120 (.func (.func 65) #[] #[])) := Lib.hid (by rw [hw3]; exact Boxed.new _ _ _)
        have HX3 := Lib.hid (HX2.out.below h3 HX2.out.lt)
        have HB3 := Lib.hid (HB2.out.trans (h3.mono HB2.out.size))
        have HU3 := Lib.hid (HU2.out.below h3 (Nat.le_refl _))
        have HT3 := Lib.hid (HT2.out.below h3 (Nat.le_refl _))
        clear hw3 h3
        go_wp2_with fail
        refine (partsL_any _ ⟨_, _, _, rfl⟩ _ _).mono ?_
        rintro e w4 ⟨rfl, hw4⟩
        have h4 : Below w3.heap.size w3 w4 := by rw [hw4]; exact below_two _ _ _
        have HQ4 : Hid (Boxed w4 w3.heap.size 90 (.slice a1 (tcs (tx 1 fs)).length c1)) := Lib.hid (by rw [hw4]; exact heap_alloc2_old _ _ _)
        have HR4 : Hid (Boxed w4 (w3.heap.size + 1) 118 (.func (.func 77) #[] #[.pointer (some ⟨w2.heap.size, 0, none⟩)])) := Lib.hid (by rw [hw4]; exact two_at _ _ _)
        have HP4 : Hid (Boxed w4 w2.heap.size 120 (.func (.func 65) #[] #[])) := Lib.hid ((h4.block _ HP3.out.lt).trans HP3.out)
        have HX4 := Lib.hid (HX3.out.below h4 HX3.out.lt)
        have HB4 := Lib.hid (HB3.out.trans (h4.mono HB3.out.size))
        have HU4 := Lib.hid (HU3.out.below h4 (Nat.le_refl _))
        have HT4 := Lib.hid (HT3.out.below h4 (Nat.le_refl _))
        clear hw4 h4
        go_wp2_with fail
        refine (L1.out _ _ _ _ _ HQ4.out HR4.out HP4.out HU4.out).mono ?_
        rintro e w5 ⟨u5, rfl, ho5, hb5⟩
        have HO5 := Lib.hid (O2.mono ho5 HB4.out.size)
        have HX5 := Lib.hid (HX4.out.below hb5 HX4.out.lt)
        have HB5 := Lib.hid (HB4.out.trans (hb5.mono HB4.out.size))
        have HT5 := Lib.hid (HT4.out.below hb5 (Nat.le_refl _))
        clear ho5 hb5

        obtain ⟨a5, c5, hu5⟩ := HO5.out.shape
        rw [List.length_map] at hu5
        subst hu5

        have f0 := HX5.out.free 0
        have f1 := HX5.out.free 1
        have x0 := HX5.out.c0
        have x1 := HX5.out.c1
        go_wp2
        exact retc2 Tryz.results51 two40 w.heap.size rfl rfl rfl (HX5.out.set _ _) ⟨_, _, rfl, O2.nil _ _ _, O2.nil _ _ _, below_set (below_set HB5.out (Nat.le_refl _) _) (Nat.le_refl _) _⟩
      · rw [if_neg h3]
        obtain rfl : e1 = 0 := by omega
        clear h3
        by_cases h4 : e2 ≠ 0
        · rw [if_pos h4]
          have h4b : ((e2 : Int) != 0) = true := by rw [bne_iff_ne]; omega
          clear h4
          go_enter Tryz.func51, Tryz.ntmps51

          go_wp2_with fail
          refine (A1.out _ (HV.out.below HA.out (Nat.le_refl _))).mono ?_
          rintro e w1 ⟨u1, rfl, ho1, hb1⟩
          have HX1 := Lib.hid (HX.out.below hb1 HX.out.lt)
          have HB1 := Lib.hid (HA.out.trans (hb1.mono HA.out.size))
          have HV1 := Lib.hid ((HV.out.below HA.out (Nat.le_refl _)).below hb1 (Nat.le_refl _))
          have HU1 := Lib.hid (vat_of ho1)
          clear ho1 hb1

          obtain ⟨a1, c1, hu1⟩ := HU1.out.slice
          subst hu1

          go_wp2_with fail
          refine (A2.out _ HV1.out).mono ?_
          rintro e w2 ⟨u2, rfl, ho2, hb2⟩
          have HX2 := Lib.hid (HX1.out.below hb2 HX1.out.lt)
          have HB2 := Lib.hid (HB1.out.trans (hb2.mono HB1.out.size))
          have HU2 := Lib.hid (HU1.out.below hb2 (Nat.le_refl _))
          have HT2 := Lib.hid (vat_of ho2)
          clear ho2 hb2

          obtain ⟨a2, c2, hu2⟩ := HT2.out.slice
          subst hu2

          go_wp2_with fail
          refine (pairL_any _).mono ?_
          rintro e w3 ⟨rfl, hw3⟩
          have h3 : Below w2.heap.size w2 w3 := by rw [hw3]; exact (Below.refl _ _).alloc (Nat.le_refl _) _
          have HP3 : Hid (Boxed w3 w2.heap.size 120 (.func (.func 65) #[] #[])) := Lib.hid (by rw [hw3]; exact Boxed.new _ _ _)
          have HX3 := Lib.hid (HX2.out.below h3 HX2.out.lt)
          have HB3 := Lib.hid (HB2.out.trans (h3.mono HB2.out.size))
          have HU3 := Lib.hid (HU2.out.below h3 (Nat.le_refl _))
          have HT3 := Lib.hid (HT2.out.below h3 (Nat.le_refl _))
          clear hw3 h3
          go_wp2_with fail
          refine (partsL_any _ ⟨_, _, _, rfl⟩ _ _).mono ?_
          rintro e w4 ⟨rfl, hw4⟩
          have h4 : Below w3.heap.size w3 w4 := by rw [hw4]; exact below_two _ _ _
          have HQ4 : Hid (Boxed w4 w3.heap.size 90 (.slice a1 (tcs (tx 1 fs)).length c1)) := Lib.hid (by rw [hw4]; exact heap_alloc2_old _ _ _)
          have HR4 : Hid (Boxed w4 (w3.heap.size + 1) 118 (.func (.func 77) #[] #[.pointer (some ⟨w2.heap.size, 0, none⟩)])) := Lib.hid (by rw [hw4]; exact two_at _ _ _)
          have HP4 : Hid (Boxed w4 w2.heap.size 120 (.func (.func 65) #[] #[])) := Lib.hid ((h4.block _ HP3.out.lt).trans HP3.out)
          have HX4 := Lib.hid (HX3.out.below h4 HX3.out.lt)
          have HB4 := Lib.hid (HB3.out.trans (h4.mono HB3.out.size))
          have HU4 := Lib.hid (HU3.out.below h4 (Nat.le_refl _))
          have HT4 := Lib.hid (HT3.out.below h4 (Nat.le_refl _))
          clear hw4 h4
          go_wp2_with fail
          refine (L1.out _ _ _ _ _ HQ4.out HR4.out HP4.out HU4.out).mono ?_
          rintro e w5 ⟨u5, rfl, ho5, hb5⟩
          have HO5 := Lib.hid (O2.mono ho5 HB4.out.size)
          have HX5 := Lib.hid (HX4.out.below hb5 HX4.out.lt)
          have HB5 := Lib.hid (HB4.out.trans (hb5.mono HB4.out.size))
          have HT5 := Lib.hid (HT4.out.below hb5 (Nat.le_refl _))
          clear ho5 hb5

          obtain ⟨a5, c5, hu5⟩ := HO5.out.shape
          rw [List.length_map] at hu5
          subst hu5

          go_wp2_with fail
          refine (pairM_any _).mono ?_
          rintro e w6 ⟨rfl, hw6⟩
          have h6 : Below w5.heap.size w5 w6 := by rw [hw6]; exact (Below.refl _ _).alloc (Nat.le_refl _) _
          have HP6 : Hid (Boxed w6 w5.heap.size 128 (.func (.func 69) #[] #[])) := Lib.hid (by rw [hw6]; exact Boxed.new _ _ _)
          have HX6 := Lib.hid (HX5.out.below h6 HX5.out.lt)
          have HB6 := Lib.hid (HB5.out.trans (h6.mono HB5.out.size))
          have HO6 := Lib.hid (HO5.out.below h6 (Nat.le_refl _))
          have HT6 := Lib.hid (HT5.out.below h6 (Nat.le_refl _))
          clear hw6 h6
          go_wp2_with fail
          refine (partsM_any _ ⟨_, _, _, rfl⟩ _ _).mono ?_
          rintro e w7 ⟨rfl, hw7⟩
          have h7 : Below w6.heap.size w6 w7 := by rw [hw7]; exact below_two _ _ _
          have HQ7 : Hid (Boxed w7 w6.heap.size 90 (.slice a2 (tcs (tx 2 fs)).length c2)) := Lib.hid (by rw [hw7]; exact heap_alloc2_old _ _ _)
          have HR7 : Hid (Boxed w7 (w6.heap.size + 1) 126 (.func (.func 81) #[] #[.pointer (some ⟨w5.heap.size, 0, none⟩)])) := Lib.hid (by rw [hw7]; exact two_at _ _ _)
          have HP7 : Hid (Boxed w7 w5.heap.size 128 (.func (.func 69) #[] #[])) := Lib.hid ((h7.block _ HP6.out.lt).trans HP6.out)
          have HX7 := Lib.hid (HX6.out.below h7 HX6.out.lt)
          have HB7 := Lib.hid (HB6.out.trans (h7.mono HB6.out.size))
          have HO7 := Lib.hid (HO6.out.below h7 (Nat.le_refl _))
          have HT7 := Lib.hid (HT6.out.below h7 (Nat.le_refl _))
          clear hw7 h7
          go_wp2_with fail
          refine (L2.out _ _ _ _ _ HQ7.out HR7.out HP7.out HT7.out).mono ?_
          rintro e w8 ⟨u8, rfl, ho8, hb8⟩
          have HM8 := Lib.hid (O2.mono ho8 HB7.out.size)
          have HX8 := Lib.hid (HX7.out.below hb8 HX7.out.lt)
          have HB8 := Lib.hid (HB7.out.trans (hb8.mono HB7.out.size))
          have HO8 := Lib.hid (HO7.out.below hb8 (Nat.le_refl _))
          clear ho8 hb8

          have f0 := HX8.out.free 0
          have f1 := HX8.out.free 1
          have x0 := HX8.out.c0
          have x1 := HX8.out.c1
          go_wp2
          exact retc2 Tryz.results51 two40 w.heap.size rfl rfl rfl (HX8.out.set _ _) ⟨_, _, rfl, O2.nil _ _ _, O2.nil _ _ _, below_set (below_set HB8.out (Nat.le_refl _) _) (Nat.le_refl _) _⟩
        · rw [if_neg h4]
          obtain rfl : e2 = 0 := by omega
          clear h4
          go_enter Tryz.func51, Tryz.ntmps51

          go_wp2_with fail
          refine (A1.out _ (HV.out.below HA.out (Nat.le_refl _))).mono ?_
          rintro e w1 ⟨u1, rfl, ho1, hb1⟩
          have HX1 := Lib.hid (HX.out.below hb1 HX.out.lt)
          have HB1 := Lib.hid (HA.out.trans (hb1.mono HA.out.size))
          have HV1 := Lib.hid ((HV.out.below HA.out (Nat.le_refl _)).below hb1 (Nat.le_refl _))
          have HU1 := Lib.hid (vat_of ho1)
          clear ho1 hb1

          obtain ⟨a1, c1, hu1⟩ := HU1.out.slice
          subst hu1

          go_wp2_with fail
          refine (A2.out _ HV1.out).mono ?_
          rintro e w2 ⟨u2, rfl, ho2, hb2⟩
          have HX2 := Lib.hid (HX1.out.below hb2 HX1.out.lt)
          have HB2 := Lib.hid (HB1.out.trans (hb2.mono HB1.out.size))
          have HU2 := Lib.hid (HU1.out.below hb2 (Nat.le_refl _))
          have HT2 := Lib.hid (vat_of ho2)
          clear ho2 hb2

          obtain ⟨a2, c2, hu2⟩ := HT2.out.slice
          subst hu2

          go_wp2_with fail
          refine (pairL_any _).mono ?_
          rintro e w3 ⟨rfl, hw3⟩
          have h3 : Below w2.heap.size w2 w3 := by rw [hw3]; exact (Below.refl _ _).alloc (Nat.le_refl _) _
          have HP3 : Hid (Boxed w3 w2.heap.size 120 (.func (.func 65) #[] #[])) := Lib.hid (by rw [hw3]; exact Boxed.new _ _ _)
          have HX3 := Lib.hid (HX2.out.below h3 HX2.out.lt)
          have HB3 := Lib.hid (HB2.out.trans (h3.mono HB2.out.size))
          have HU3 := Lib.hid (HU2.out.below h3 (Nat.le_refl _))
          have HT3 := Lib.hid (HT2.out.below h3 (Nat.le_refl _))
          clear hw3 h3
          go_wp2_with fail
          refine (partsL_any _ ⟨_, _, _, rfl⟩ _ _).mono ?_
          rintro e w4 ⟨rfl, hw4⟩
          have h4 : Below w3.heap.size w3 w4 := by rw [hw4]; exact below_two _ _ _
          have HQ4 : Hid (Boxed w4 w3.heap.size 90 (.slice a1 (tcs (tx 1 fs)).length c1)) := Lib.hid (by rw [hw4]; exact heap_alloc2_old _ _ _)
          have HR4 : Hid (Boxed w4 (w3.heap.size + 1) 118 (.func (.func 77) #[] #[.pointer (some ⟨w2.heap.size, 0, none⟩)])) := Lib.hid (by rw [hw4]; exact two_at _ _ _)
          have HP4 : Hid (Boxed w4 w2.heap.size 120 (.func (.func 65) #[] #[])) := Lib.hid ((h4.block _ HP3.out.lt).trans HP3.out)
          have HX4 := Lib.hid (HX3.out.below h4 HX3.out.lt)
          have HB4 := Lib.hid (HB3.out.trans (h4.mono HB3.out.size))
          have HU4 := Lib.hid (HU3.out.below h4 (Nat.le_refl _))
          have HT4 := Lib.hid (HT3.out.below h4 (Nat.le_refl _))
          clear hw4 h4
          go_wp2_with fail
          refine (L1.out _ _ _ _ _ HQ4.out HR4.out HP4.out HU4.out).mono ?_
          rintro e w5 ⟨u5, rfl, ho5, hb5⟩
          have HO5 := Lib.hid (O2.mono ho5 HB4.out.size)
          have HX5 := Lib.hid (HX4.out.below hb5 HX4.out.lt)
          have HB5 := Lib.hid (HB4.out.trans (hb5.mono HB4.out.size))
          have HT5 := Lib.hid (HT4.out.below hb5 (Nat.le_refl _))
          clear ho5 hb5

          obtain ⟨a5, c5, hu5⟩ := HO5.out.shape
          rw [List.length_map] at hu5
          subst hu5

          go_wp2_with fail
          refine (pairM_any _).mono ?_
          rintro e w6 ⟨rfl, hw6⟩
          have h6 : Below w5.heap.size w5 w6 := by rw [hw6]; exact (Below.refl _ _).alloc (Nat.le_refl _) _
          have HP6 : Hid (Boxed w6 w5.heap.size 128 (.func (.func 69) #[] #[])) := Lib.hid (by rw [hw6]; exact Boxed.new _ _ _)
          have HX6 := Lib.hid (HX5.out.below h6 HX5.out.lt)
          have HB6 := Lib.hid (HB5.out.trans (h6.mono HB5.out.size))
          have HO6 := Lib.hid (HO5.out.below h6 (Nat.le_refl _))
          have HT6 := Lib.hid (HT5.out.below h6 (Nat.le_refl _))
          clear hw6 h6
          go_wp2_with fail
          refine (partsM_any _ ⟨_, _, _, rfl⟩ _ _).mono ?_
          rintro e w7 ⟨rfl, hw7⟩
          have h7 : Below w6.heap.size w6 w7 := by rw [hw7]; exact below_two _ _ _
          have HQ7 : Hid (Boxed w7 w6.heap.size 90 (.slice a2 (tcs (tx 2 fs)).length c2)) := Lib.hid (by rw [hw7]; exact heap_alloc2_old _ _ _)
          have HR7 : Hid (Boxed w7 (w6.heap.size + 1) 126 (.func (.func 81) #[] #[.pointer (some ⟨w5.heap.size, 0, none⟩)])) := Lib.hid (by rw [hw7]; exact two_at _ _ _)
          have HP7 : Hid (Boxed w7 w5.heap.size 128 (.func (.func 69) #[] #[])) := Lib.hid ((h7.block _ HP6.out.lt).trans HP6.out)
          have HX7 := Lib.hid (HX6.out.below h7 HX6.out.lt)
          have HB7 := Lib.hid (HB6.out.trans (h7.mono HB6.out.size))
          have HO7 := Lib.hid (HO6.out.below h7 (Nat.le_refl _))
          have HT7 := Lib.hid (HT6.out.below h7 (Nat.le_refl _))
          clear hw7 h7
          go_wp2_with fail
          refine (L2.out _ _ _ _ _ HQ7.out HR7.out HP7.out HT7.out).mono ?_
          rintro e w8 ⟨u8, rfl, ho8, hb8⟩
          have HM8 := Lib.hid (O2.mono ho8 HB7.out.size)
          have HX8 := Lib.hid (HX7.out.below hb8 HX7.out.lt)
          have HB8 := Lib.hid (HB7.out.trans (hb8.mono HB7.out.size))
          have HO8 := Lib.hid (HO7.out.below hb8 (Nat.le_refl _))
          clear ho8 hb8

          obtain ⟨a8, c8, hu8⟩ := HM8.out.shape
          rw [List.length_map] at hu8
          subst hu8


          have f0 := HX8.out.free 0
          have f1 := HX8.out.free 1
          have x0 := HX8.out.c0
          have x1 := HX8.out.c1
          go_wp2
          exact retc2 Tryz.results51 two40 w.heap.size rfl rfl rfl (HX8.out.set _ _) ⟨_, _, rfl, HO8.out.set2 HX8.out (by decide), HM8.out.set2 HX8.out (by decide), below_set (below_set HB8.out (Nat.le_refl _) _) (Nat.le_refl _) _⟩
end Go.Proofs.YtioflicmpnkfeaaGreat
