/- add, Add, Sync. -/
import Derived.Test.YtieemdcoomilaaaGreatDoorWr
import Derived.Test.YtieemdcoomilaaaGreatDoorWs
import Derived.Test.YtieemdcoomilaaaGreatDoorVg
import Derived.Test.YtieemdcoomilaaaGreatDoorSh
import Derived.Test.YtieemdcoomilaaaGreatDoorVh
set_option linter.unusedVariables false
set_option linter.unusedSimpArgs false
namespace Go.Proofs.YtieemdcoomilaaaGreatDoor
open Go Go.RowKit Go.Sort
set_option maxRecDepth 100000
theorem runS_one (f : SF) (x : VS) : runS [f] x = f x := by
  show (if (f x).2 ≠ 0 then f x else ((f x).1, 0)) = f x
  by_cases h : (f x).2 ≠ 0
  · rw [if_pos h]
  · rw [if_neg h]; exact Prod.ext rfl (show 0 = (f x).2 by omega)
theorem lit1 {w : World} {V B mo : Nat} {b1 : List Nat} {c1 : Clo} {f1 : SF} (h1 : Stp w V B mo b1 c1 f1) : ∀ q ∈ [((c1, b1, f1) : Cq)], Stp w V B mo q.2.1 q.1 q.2.2 := fun q hq => by
  rw [List.mem_singleton] at hq
  subst hq
  exact h1
set_option maxHeartbeats 1000000 in
theorem vsync_any (V B mo : Nat) (x : VS) (w : World) (hx : VSt w V B mo x) (hne : x.2.1.log ≠ []) : Calls Tryz.prog 12 #[.pointer (some ⟨V, 0, none⟩)] w (StD w V B mo (sySt (Vt.lz x.2.1.log) x)) := by
  obtain ⟨v, hv⟩ := hx.v
  have HO := Lib.hid (opened_any V B mo x.2.1 x.2.2 v w hv)
  have HL := Lib.hid (last_any V B mo x.2.1 x.2.2 v w hv hne)
  have hBl := hx.d.lt
  have hVl := hx.lt
  have HX := Lib.hid hx
  rw [← runS_one (sySt (Vt.lz x.2.1.log)) x]
  clear hv hx hne
  go_enter Tryz.func12, Tryz.ntmps12
  go_wp2_with fail
  refine HO.out.mono ?_
  rintro e w1 ⟨rfl, rfl⟩
  go_wp2_with fail
  refine HL.out.mono ?_
  rintro e w2 ⟨rfl, hb2⟩
  have HB2 := Lib.hid hb2
  have HS := Lib.hid (toSync_any V B mo (Vt.lz x.2.1.log) w2 (Nat.lt_of_lt_of_le hBl hb2.size) (Nat.lt_of_lt_of_le hVl hb2.size))
  clear hb2
  go_wp2_with fail
  refine HS.out.mono ?_
  rintro e w3 ⟨c1, bs1, rfl, hst1, -, hb3⟩
  obtain ⟨F1, fi1, ca1⟩ := c1
  unfold Clo.v
  have HB3 := Lib.hid (below_trans' HB2.out hb3)
  have HQ := Lib.hid (Sts.lit (w := w3) (V := V) (B := B) (mo := mo) (base := w.heap.size) (A := #[.func (.func F1) fi1 ca1]) (n := 1) (fs := [sySt (Vt.lz x.2.1.log)]) [(⟨F1, fi1, ca1⟩, bs1, sySt (Vt.lz x.2.1.log))] HB3.out.size (by simp) (lit1 hst1) rfl rfl rfl)
  have HT := Lib.hid (turn_sts (HX.out.below (HB3.out.alloc HB3.out.size (.cells #[.func (.func F1) fi1 ca1] 84)) (Nat.le_refl _)) HQ.out hBl hVl)
  clear hst1 hb3
  go_wp2_with fail
  refine HT.out.mono ?_
  rintro e w4 ⟨rfl, hx4, hg4⟩
  have HX4 := Lib.hid hx4
  have HG4 := Lib.hid ((Gv.of_below (HB3.out.alloc HB3.out.size (.cells #[.func (.func F1) fi1 ca1] 84)) B V).trans hg4)
  clear hx4 hg4
  go_wp2
  go_ret
  exact ⟨rfl, HX4.out, HG4.out⟩
theorem vsync_nil (w : World) : Calls Tryz.prog 12 #[.pointer none] w fun e w' => e = .returned (.int .i64 2) ∧ w = w' := by
  have H := Lib.hid (opened_nil w)
  go_enter Tryz.func12, Tryz.ntmps12
  go_wp2_with fail
  refine H.out.mono ?_
  rintro e w' ⟨rfl, rfl⟩
  go_wp2
  go_ret
  exact ⟨rfl, rfl⟩
/-- What add does. -/
def adS (s : ByteArray) (mo : Nat) (x : VS) : VS × Nat :=
  if 0 < (readD x.1 (Vt.lz x.2.1.log)).1.size ∧ mo < (readD x.1 (Vt.lz x.2.1.log)).1.size + s.size then goS s x
  else if roomB x.1 (s.size : Int) [] = true then wrSt (Vt.lz x.2.1.log) s x else (x, 44)
set_option maxHeartbeats 1000000 in
theorem vadd_any (V B mo : Nat) (x : VS) (s : ByteArray) (w : World) (hs : s.size ≤ 1000000) (hx : VSt w V B mo x) (hm : mayB x.2.1 = true) : Calls Tryz.prog 55 #[.pointer (some ⟨V, 0, none⟩), .string s] w (StD w V B mo (adS s mo x)) := by
  obtain ⟨v, hv⟩ := hx.v
  have hne := (mayB_ok hm).ne
  have HL := Lib.hid (fun W (hW : Below w.heap.size w W) => last_any V B mo x.2.1 x.2.2 v W (hv.below hW (Nat.le_refl _)) hne)
  have HZ := Lib.hid (fun t W (hW : Below w.heap.size w W) => vsize_any V B mo x.2.1 x.2.2 v x.1 t W (hv.below hW (Nat.le_refl _)) (hx.d.below hW hx.d.lt))
  have HG := Lib.hid (fun W (hW : Below w.heap.size w W) => goOn_any V B mo x s W hs (hx.below hW (Nat.le_refl _)) hm)
  have HR := Lib.hid (fun W (hW : Below w.heap.size w W) => room_any V B mo x.2.1 x.2.2 v x.1 s.size [] (.slice none 0 0) W (hv.below hW (Nat.le_refl _)) (hx.d.below hW hx.d.lt) hx.ok (by omega) (KAt.nil W) (by simp))
  have hBl := hx.d.lt
  have hVl := hx.lt
  have HX := Lib.hid hx
  have HV := Lib.hid hv
  have hzl := readD_le hx.ok (Vt.lz x.2.1.log)
  have HA : Hid (adS s mo x = if 0 < (readD x.1 (Vt.lz x.2.1.log)).1.size ∧ mo < (readD x.1 (Vt.lz x.2.1.log)).1.size + s.size then goS s x else if roomB x.1 (s.size : Int) [] = true then wrSt (Vt.lz x.2.1.log) s x else (x, 44)) := Lib.hid rfl
  have HZ1 := Lib.hid (fun W hW => HZ.out (Vt.lz x.2.1.log) W hW)
  clear HZ hx hne hm
  generalize (readD x.1 (Vt.lz x.2.1.log)).1.size = Z at *
  go_enter Tryz.func55, Tryz.ntmps55
  go_wp2_with fail
  refine (HL.out w (Below.refl _ _)).mono ?_
  rintro e w1 ⟨rfl, hb1⟩
  have HB1 := Lib.hid hb1
  have hv1 := hv.below hb1 (Nat.le_refl _)
  have b1 := hv1.mo
  clear hb1 hv hv1
  go_wp2_with fail
  refine (HZ1.out w1 HB1.out).mono ?_
  rintro e w2 ⟨rfl, rfl⟩
  by_cases h0 : 0 < Z
  · have h01 : decide (0 < Z) = true := decide_eq_true h0
    have h02 : decide (0 < (Z : Int)) = true := decide_eq_true (by omega)
    by_cases h1 : mo < Z + s.size
    · have h11 : decide ((mo : Int) < (Z : Int) + (s.size : Int)) = true := decide_eq_true (by omega)
      have h12 : decide (mo < Z + s.size) = true := decide_eq_true h1
      have HA2 : Hid (adS s mo x = goS s x) := Lib.hid (HA.out.trans (if_pos ⟨h0, h1⟩))
      have HG2 := Lib.hid (HG.out w1 HB1.out)
      clear h0 h1 HA HL HR HG
      go_wp2_with fail
      refine HG2.out.mono ?_
      rintro e w4 ⟨rfl, hx4, hg4⟩
      have HX4 := Lib.hid hx4
      have HG4 := Lib.hid ((Gv.of_below HB1.out B V).trans hg4)
      clear hx4 hg4
      go_wp2
      go_ret
      rw [HA2.out]
      exact ⟨rfl, HX4.out, HG4.out⟩
    · have h11 : decide ((mo : Int) < (Z : Int) + (s.size : Int)) = false := decide_eq_false (by omega)
      have h12 : decide (mo < Z + s.size) = false := decide_eq_false h1
      have HA2 : Hid (adS s mo x = if roomB x.1 (s.size : Int) [] = true then wrSt (Vt.lz x.2.1.log) s x else (x, 44)) := Lib.hid (HA.out.trans (if_neg (fun h => h1 h.2)))
      clear HA HG
      have HR2 := Lib.hid (HR.out w1 HB1.out)
      clear HR
      cases hr : roomB x.1 (s.size : Int) [] with
      | false =>
        rw [hr] at HR2 HA2
        clear h0 HL
        go_wp2_with fail
        refine HR2.out.mono ?_
        rintro e w4 ⟨rfl, hb4⟩
        have HB4 := Lib.hid (below_trans' HB1.out hb4)
        clear hb4
        go_wp2
        go_ret
        rw [HA2.out]
        exact ⟨rfl, HX.out.below HB4.out (Nat.le_refl _), Gv.of_below HB4.out B V⟩
      | true =>
        rw [hr] at HR2 HA2
        clear h0
        go_wp2_with fail
        refine HR2.out.mono ?_
        rintro e w4 ⟨rfl, hb4⟩
        have HB4 := Lib.hid (below_trans' HB1.out hb4)
        clear hb4
        go_wp2_with fail
        refine (HL.out w4 HB4.out).mono ?_
        rintro e w5 ⟨rfl, hb5⟩
        have HB5 := Lib.hid (below_trans' HB4.out hb5)
        clear hb5 HL
        have HS := Lib.hid (toWrite_any V B mo (Vt.lz x.2.1.log) s (by omega) w5 (Nat.lt_of_lt_of_le hBl HB5.out.size) (Nat.lt_of_lt_of_le hVl HB5.out.size))
        go_wp2_with fail
        refine HS.out.mono ?_
        rintro e w6 ⟨c1, bs1, rfl, hst1, -, hb6⟩
        obtain ⟨F1, fi1, ca1⟩ := c1
        unfold Clo.v
        have HB6 := Lib.hid (below_trans' HB5.out hb6)
        have HQ := Lib.hid (Sts.lit (w := w6) (V := V) (B := B) (mo := mo) (base := w.heap.size) (A := #[.func (.func F1) fi1 ca1]) (n := 1) (fs := [wrSt (Vt.lz x.2.1.log) s]) [(⟨F1, fi1, ca1⟩, bs1, wrSt (Vt.lz x.2.1.log) s)] HB6.out.size (by simp) (lit1 hst1) rfl rfl rfl)
        have HT := Lib.hid (turn_sts (HX.out.below (HB6.out.alloc HB6.out.size (.cells #[.func (.func F1) fi1 ca1] 84)) (Nat.le_refl _)) HQ.out hBl hVl)
        clear hst1 hb6
        go_wp2_with fail
        refine HT.out.mono ?_
        rintro e w7 ⟨rfl, hx4, hg4⟩
        rw [runS_one] at hx4
        rw [runS_one]
        have HX4 := Lib.hid hx4
        have HG4 := Lib.hid ((Gv.of_below (HB6.out.alloc HB6.out.size (.cells #[.func (.func F1) fi1 ca1] 84)) B V).trans hg4)
        clear hx4 hg4
        go_wp2
        go_ret
        rw [HA2.out, if_pos trivial]
        exact ⟨rfl, HX4.out, HG4.out⟩
  · have h01 : decide (0 < Z) = false := decide_eq_false h0
    have h02 : decide (0 < (Z : Int)) = false := decide_eq_false (by omega)
    have HA2 : Hid (adS s mo x = if roomB x.1 (s.size : Int) [] = true then wrSt (Vt.lz x.2.1.log) s x else (x, 44)) := Lib.hid (HA.out.trans (if_neg (fun h => h0 h.1)))
    clear HA HG
    have HR2 := Lib.hid (HR.out w1 HB1.out)
    clear HR
    cases hr : roomB x.1 (s.size : Int) [] with
    | false =>
      rw [hr] at HR2 HA2
      clear h0 HL
      go_wp2_with fail
      refine HR2.out.mono ?_
      rintro e w4 ⟨rfl, hb4⟩
      have HB4 := Lib.hid (below_trans' HB1.out hb4)
      clear hb4
      go_wp2
      go_ret
      rw [HA2.out]
      exact ⟨rfl, HX.out.below HB4.out (Nat.le_refl _), Gv.of_below HB4.out B V⟩
    | true =>
      rw [hr] at HR2 HA2
      clear h0
      go_wp2_with fail
      refine HR2.out.mono ?_
      rintro e w4 ⟨rfl, hb4⟩
      have HB4 := Lib.hid (below_trans' HB1.out hb4)
      clear hb4
      go_wp2_with fail
      refine (HL.out w4 HB4.out).mono ?_
      rintro e w5 ⟨rfl, hb5⟩
      have HB5 := Lib.hid (below_trans' HB4.out hb5)
      clear hb5 HL
      have HS := Lib.hid (toWrite_any V B mo (Vt.lz x.2.1.log) s (by omega) w5 (Nat.lt_of_lt_of_le hBl HB5.out.size) (Nat.lt_of_lt_of_le hVl HB5.out.size))
      go_wp2_with fail
      refine HS.out.mono ?_
      rintro e w6 ⟨c1, bs1, rfl, hst1, -, hb6⟩
      obtain ⟨F1, fi1, ca1⟩ := c1
      unfold Clo.v
      have HB6 := Lib.hid (below_trans' HB5.out hb6)
      have HQ := Lib.hid (Sts.lit (w := w6) (V := V) (B := B) (mo := mo) (base := w.heap.size) (A := #[.func (.func F1) fi1 ca1]) (n := 1) (fs := [wrSt (Vt.lz x.2.1.log) s]) [(⟨F1, fi1, ca1⟩, bs1, wrSt (Vt.lz x.2.1.log) s)] HB6.out.size (by simp) (lit1 hst1) rfl rfl rfl)
      have HT := Lib.hid (turn_sts (HX.out.below (HB6.out.alloc HB6.out.size (.cells #[.func (.func F1) fi1 ca1] 84)) (Nat.le_refl _)) HQ.out hBl hVl)
      clear hst1 hb6
      go_wp2_with fail
      refine HT.out.mono ?_
      rintro e w7 ⟨rfl, hx4, hg4⟩
      rw [runS_one] at hx4
      rw [runS_one]
      have HX4 := Lib.hid hx4
      have HG4 := Lib.hid ((Gv.of_below (HB6.out.alloc HB6.out.size (.cells #[.func (.func F1) fi1 ca1] 84)) B V).trans hg4)
      clear hx4 hg4
      go_wp2
      go_ret
      rw [HA2.out, if_pos trivial]
      exact ⟨rfl, HX4.out, HG4.out⟩
/-- What Add does. -/
def AddS (r : ByteArray) (mo : Nat) (x : VS) : VS × Nat :=
  if 262144 < r.size ∨ (1099511627776 : Int) ≤ x.2.1.base + (x.2.2 : Int) then (x, 40) else if x.1.dn = true then (x, 45)
  else if (adS (Vt.fr1 r) mo x).2 = 0 then (((adS (Vt.fr1 r) mo x).1.1, (adS (Vt.fr1 r) mo x).1.2.1, (adS (Vt.fr1 r) mo x).1.2.2 + 1), 0) else adS (Vt.fr1 r) mo x
theorem adS_n (s : ByteArray) (mo : Nat) (x : VS) : (adS s mo x).1.2.2 = x.2.2 := by
  unfold adS
  split
  · unfold goS
    split
    · rfl
    · split
      · rfl
      · split
        · exact goRun_n _ _ _ _ _ _
        · rfl
  · split <;> rfl
theorem gv_setV (w : World) (B V j : Nat) (u : Value) : Gv w (w.setCell ⟨V, j, none⟩ u) B V :=
  ⟨rfl, rfl, rfl, by simp [World.setCell], fun k _ _ hv => Below.heap_setCell w _ _ k hv⟩
theorem VSt.setN {w : World} {V B mo : Nat} {x : VS} (h : VSt w V B mo x) (n : Nat) : VSt (w.setCell ⟨V, 6, none⟩ (.int .i64 (n : Int))) V B mo (x.1, x.2.1, n) := by
  obtain ⟨v, hv⟩ := h.v
  exact ⟨h.d.congr (Below.heap_setCell w _ _ B (Ne.symm h.ne)), h.ok, ⟨v, hv.setN n⟩, h.ne, (gv_setV w B V 6 _).tab h.t h.b0 h.v0, h.b0, h.v0⟩
set_option maxHeartbeats 1000000 in
theorem vAdd_any (V B mo : Nat) (x : VS) (r : ByteArray) (w : World) (hr : r.size ≤ 9223372036854775807) (hn : x.2.2 ≤ 1099511627776) (hx : VSt w V B mo x) (hm : mayB x.2.1 = true) : Calls Tryz.prog 11 #[.pointer (some ⟨V, 0, none⟩), .string r] w (StD w V B mo (AddS r mo x)) := by
  obtain ⟨v, hv⟩ := hx.v
  have kk := mayB_ok hm
  have HO := Lib.hid (opened_any V B mo x.2.1 x.2.2 v w hv)
  have HC := Lib.hid (count_any V B mo x.2.1 x.2.2 v w hv kk.b1 kk.b2 hn)
  have HX := Lib.hid hx
  have HT := Lib.hid hx.t
  have HM := Lib.hid hm
  have HN := Lib.hid hn
  have hb1 := kk.b1
  have hb2 := kk.b2
  clear kk hv hm
  by_cases h1 : 262144 < r.size
  · have h11 : decide (262144 < (r.size : Int)) = true := decide_eq_true (by omega)
    have h12 : decide (262144 < r.size) = true := decide_eq_true h1
    have hA : AddS r mo x = (x, 40) := if_pos (Or.inl h1)
    rw [hA]
    clear HC hx
    go_enter Tryz.func11, Tryz.ntmps11
    go_wp2_with fail
    refine HO.out.mono ?_
    rintro e w1 ⟨rfl, rfl⟩
    go_wp2
    go_ret
    exact ⟨rfl, HX.out, Gv.refl _ _ _⟩
  · have h11 : decide (262144 < (r.size : Int)) = false := decide_eq_false (by omega)
    have h12 : decide (262144 < r.size) = false := decide_eq_false h1
    by_cases h2 : (1099511627776 : Int) ≤ x.2.1.base + (x.2.2 : Int)
    · have hA : AddS r mo x = (x, 40) := if_pos (Or.inr h2)
      have h21 : decide (x.2.1.base + (x.2.2 : Int) ≥ 1099511627776) = true := decide_eq_true h2
      have h22 : decide ((1099511627776 : Int) ≤ x.2.1.base + (x.2.2 : Int)) = true := decide_eq_true h2
      rw [hA]
      clear hx
      go_enter Tryz.func11, Tryz.ntmps11
      go_wp2_with fail
      refine HO.out.mono ?_
      rintro e w1 ⟨rfl, rfl⟩
      go_wp2_with fail
      refine HC.out.mono ?_
      rintro e w2 ⟨rfl, hc⟩
      have HC2 := Lib.hid hc
      clear hc
      go_wp2
      go_ret
      exact ⟨rfl, HX.out.below HC2.out (Nat.le_refl _), Gv.of_below HC2.out _ _⟩
    · have h21 : decide (x.2.1.base + (x.2.2 : Int) ≥ 1099511627776) = false := decide_eq_false h2
      have h22 : decide ((1099511627776 : Int) ≤ x.2.1.base + (x.2.2 : Int)) = false := decide_eq_false h2
      have HU := Lib.hid (fun W (hW : Below w.heap.size w W) => up_any B x.1 W (hx.d.below hW hx.d.lt))
      have HO1 := Lib.hid (fun W (hW : Below w.heap.size w W) => (show W.cell? ⟨V, 0, none⟩ = some (.pointer (some ⟨B, 0, none⟩)) from by obtain ⟨v, hv⟩ := hx.v; exact (hW.cell hx.lt).trans hv.on))
      clear hx
      have HA0 : Hid (AddS r mo x = if x.1.dn = true then (x, 45) else if (adS (Vt.fr1 r) mo x).2 = 0 then (((adS (Vt.fr1 r) mo x).1.1, (adS (Vt.fr1 r) mo x).1.2.1, (adS (Vt.fr1 r) mo x).1.2.2 + 1), 0) else adS (Vt.fr1 r) mo x) := Lib.hid (if_neg (by intro h; rcases h with h | h; exact h1 h; exact h2 h))
      go_enter Tryz.func11, Tryz.ntmps11
      go_wp2_with fail
      refine HO.out.mono ?_
      rintro e w1 ⟨rfl, rfl⟩
      go_wp2_with fail
      refine HC.out.mono ?_
      rintro e w2 ⟨rfl, hc⟩
      have HC2 := Lib.hid hc
      have q0 := HO1.out w2 hc
      have HU2 := Lib.hid (HU.out w2 hc)
      clear hc HU HC HO
      cases hdn : x.1.dn with
      | true =>
        rw [hdn] at HU2
        go_wp2_with fail
        refine HU2.out.mono ?_
        rintro e w3 ⟨rfl, rfl⟩
        go_wp2
        go_ret
        rw [HA0.out, if_pos hdn]
        exact ⟨rfl, HX.out.below HC2.out (Nat.le_refl _), Gv.of_below HC2.out _ _⟩
      | false =>
        rw [hdn] at HU2
        have HA := Lib.hid (HA0.out.trans (if_neg (by rw [hdn]; simp)))
        clear HA0
        have HMK := Lib.hid (make_ok 1 r (by decide) (by omega) w2 (Lib.hid (HX.out.below HC2.out (Nat.le_refl _)).t))
        go_wp2_with fail
        refine HU2.out.mono ?_
        rintro e w3 ⟨rfl, rfl⟩
        go_wp2_with fail
        refine HMK.out.mono ?_
        rintro e w4 ⟨rfl, hb4⟩
        have HB4 := Lib.hid (below_trans' HC2.out hb4)
        clear hb4
        have HAD := Lib.hid (vadd_any V B mo x (Vt.fr1 r) w4 (by rw [Vt.fr1_size]; omega) (HX.out.below HB4.out (Nat.le_refl _)) HM.out)
        change Hid (Calls Tryz.prog 55 #[.pointer (some ⟨V, 0, none⟩), .string (bs (Fr.frm 1 r.data.toList))] w4 (StD w4 V B mo (adS (Vt.fr1 r) mo x))) at HAD
        go_wp2_with fail
        refine HAD.out.mono ?_
        rintro e w5 ⟨rfl, hx5, hg5⟩
        have HX5 := Lib.hid hx5
        have HG5 := Lib.hid ((Gv.of_below HB4.out B V).trans hg5)
        clear hx5 hg5 HAD HMK HU2
        have hnn := adS_n (Vt.fr1 r) mo x
        generalize adS (Vt.fr1 r) mo x = Y at *
        obtain ⟨Y1, Y2⟩ := Y
        cases Y2 with
        | zero =>
          have hne : ((0 : Nat) : Int) = 0 := rfl
          obtain ⟨v5, hv5⟩ := HX5.out.v
          dsimp only at hnn hv5
          have c6 := hv5.n
          rw [hnn] at c6
          have z6 := hv5.fz 6
          clear hv5
          have hwr : IntKind.i64.wrap ((x.2.2 : Int) + 1) = (x.2.2 : Int) + 1 := by rw [Bt.wrap_i64]; have := HN.out; omega
          go_wp2
          go_ret
          rw [HA.out]
          have := HX5.out.setN (x.2.2 + 1)
          refine ⟨rfl, ?_, ?_⟩
          · rw [if_pos trivial, hnn]; exact this
          · exact HG5.out.trans (gv_setV _ _ _ _ _)
        | succ k =>
          have h31 : decide (((k + 1 : Nat) : Int) = 0) = false := decide_eq_false (by omega)
          have h32 : (((k + 1 : Nat) : Int) == 0) = false := beq_eq_false_iff_ne.2 (by omega)
          go_wp2
          go_ret
          rw [HA.out, if_neg (by simp)]
          exact ⟨rfl, HX5.out, HG5.out⟩
theorem vAdd_nil (r : ByteArray) (w : World) : Calls Tryz.prog 11 #[.pointer none, .string r] w fun e w' => e = .returned (.int .i64 2) ∧ w = w' := by
  have H := Lib.hid (opened_nil w)
  go_enter Tryz.func11, Tryz.ntmps11
  go_wp2_with fail
  refine H.out.mono ?_
  rintro e w' ⟨rfl, rfl⟩
  go_wp2
  go_ret
  exact ⟨rfl, rfl⟩
end Go.Proofs.YtieemdcoomilaaaGreatDoor
namespace Go.Proofs.YtieemdcoomilaaaGreatDoor
open Go Go.RowKit Go.Sort
set_option maxRecDepth 100000
/-- The steps up to the new head, and the wipes behind it. -/
def lyL (s : ByteArray) (a b : Int) (x : VS) : List SF :=
  [sySt (Vt.lz x.2.1.log), wiSt a, wrSt a (Vt.fr2 s), sySt a, wiSt b, puSt (Vt.lyH x.2.1 x.2.2 a b) 0]
/-- What Lay does, with two free tapes. -/
def layC (s : ByteArray) (a b : Int) (x : VS) : VS × Nat :=
  if roomB x.1 ((s.size + 9 : Nat) : Int) [a] = true ∧ roomB x.1 ((s.size + 9 + sizR (Vt.lyH x.2.1 x.2.2 a b) : Nat) : Int) [a, (ptT x.1 : Int), b] = true then runS (lyL s a b x ++ (nmS x.2.1).map wiSt) x else (x, 44)
def layM (s : ByteArray) (x : VS) : List Int → VS × Nat
  | a :: b :: _ => layC s a b x
  | _ => (x, 44)
/-- What Lay does. -/
def LayS (s : ByteArray) (x : VS) : VS × Nat :=
  if 262144 < s.size ∨ (1099511627776 : Int) < x.2.1.base + (x.2.2 : Int) then (x, 40) else if x.1.dn = true then (x, 45)
  else if (1099511627776 : Int) ≤ x.2.1.gen then (x, 40) else layM s x (frL x.2.1 32)
end Go.Proofs.YtieemdcoomilaaaGreatDoor
