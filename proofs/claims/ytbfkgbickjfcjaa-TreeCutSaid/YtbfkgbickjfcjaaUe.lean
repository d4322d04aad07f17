/- weight, wide. -/
import Derived.Test.YtbfkgbickjfcjaaUd
namespace Go.Proofs.Ytbfkgbickjfcjaa
set_option linter.unusedVariables false
set_option linter.unusedSimpArgs false
open Go Go.RowKit
set_option maxRecDepth 100000
theorem min40 (n : Nat) : ∃ m : Nat, min (4000 : Int) (n : Int) = (m : Int) ∧ m ≤ 4000 := ⟨min 4000 n, by omega, by omega⟩
set_option maxHeartbeats 2000000 in
theorem weight_any (x : Tx) (vc vo : Value) (w : World) (h : TxV w vc vo x) (hlc : x.cs.length ≤ 9223372036854775807) (hlo : x.os.length ≤ 9223372036854775807) :
    Calls Try.prog 28 #[.agg #[vc, vo]] w fun e w' => (∃ n : Nat, e = .returned (.int .i64 (n : Int)) ∧ 10 ≤ n ∧ n ≤ 20000) ∧ Below w.heap.size w w' := by
  obtain ⟨ca, cc, rfl⟩ := h.1.slice
  obtain ⟨oa, oc, rfl⟩ := h.2.1.slice
  have hbl : Below w.heap.size w (w.alloc (.cells #[.slice ca x.cs.length cc, .slice oa x.os.length oc] 35)) := (Below.refl _ w).alloc (Nat.le_refl _) _
  have HX := Lib.hid (h.below hbl)
  have HBL := Lib.hid hbl
  have hbk : (w.alloc (.cells #[.slice ca x.cs.length cc, .slice oa x.os.length oc] 35)).heap[w.heap.size]? = some (.cells #[.slice ca x.cs.length cc, .slice oa x.os.length oc] 35 (0, 0)) := World.alloc_heap_new _ _
  clear h hbl
  obtain ⟨NC, hNC⟩ : ∃ n, x.cs.length = n := ⟨_, rfl⟩
  obtain ⟨NO, hNO⟩ : ∃ n, x.os.length = n := ⟨_, rfl⟩
  have HNC := Lib.hid hNC
  have HNO := Lib.hid hNO
  rw [hNC, hNO] at HX HBL hbk
  rw [hNC] at hlc ⊢
  rw [hNO] at hlo ⊢
  clear hNC hNO
  have k0 : (w.alloc (.cells #[.slice ca NC cc, .slice oa NO oc] 35)).cell? ⟨w.heap.size, 0, none⟩ = some (.slice ca NC cc) := by simp only [World.cell?, hbk]; rfl
  have k1 : (w.alloc (.cells #[.slice ca NC cc, .slice oa NO oc] 35)).cell? ⟨w.heap.size, 1, none⟩ = some (.slice oa NO oc) := by simp only [World.cell?, hbk]; rfl
  go_enter Try.func28, Try.ntmps28
  go_wp2_with fail
  generalize w.alloc (.cells #[.slice ca NC cc, .slice oa NO oc] 35) = w1 at *
  have HK : Hid (w1.cell? ⟨w.heap.size, 0, none⟩ = some (.slice ca NC cc) ∧ w1.cell? ⟨w.heap.size, 1, none⟩ = some (.slice oa NO oc)) := Lib.hid ⟨k0, k1⟩
  clear k0 k1 hbk
  go_loopw [3, 4] (fun u s wr => ∃ i a : Nat, s = .int .i64 i ∧ u = .int .i64 a ∧ i ≤ NC ∧ Hid (10 ≤ a ∧ a ≤ 8010) ∧ Hid (Below w1.heap.size w1 wr)) (fun _ s _ => NC - (intOf s).toNat)
  case atStart => exact ⟨0, 10, rfl, rfl, Nat.zero_le _, Lib.hid ⟨by omega, by omega⟩, Lib.hid (Below.refl _ _)⟩
  case round =>
    obtain ⟨i, a, rfl, rfl, hi, HA, HB⟩ := hrel
    have q0 := (HB.out.cell (p := ⟨w.heap.size, 0, none⟩) (cell_lt HK.out.1)).trans HK.out.1
    by_cases hlt : i < NC
    · by_cases ha : a < 4000
      · have hli : i < x.cs.length := by rw [HNC.out]; exact hlt
        obtain ⟨g, o, c', e1, -, hc⟩ := (HX.out.1.below HB.out).pos (by intro e; rw [e] at hli; exact absurd hli (by simp))
        injection e1 with e1 e3 e4
        subst e1
        obtain ⟨p0, -⟩ := RAt.atC hc i hli
        generalize x.cs[i] = y at *
        obtain ⟨m, hm, hm2⟩ := min40 y.k.size
        clear hc e3 e4
        generalize y.k = yk at *
        go_wp2
        go_roundw
        case rel => exact ⟨i + 1, a + 10 + m, by simp, by simp, by omega, Lib.hid ⟨by omega, by omega⟩, HB⟩
        case measure => (try simp [intOf]); (try omega)
      · have hd : decide ((a : Int) < 4000) = false := decide_eq_false (by omega)
        clear ha
        go_wp2_with fail
        go_loopw [3, 5] (fun u s wr => ∃ i a : Nat, s = .int .i64 i ∧ u = .int .i64 a ∧ i ≤ NO ∧ Hid (10 ≤ a ∧ a ≤ 12010) ∧ Hid (Below w1.heap.size w1 wr)) (fun _ s _ => NO - (intOf s).toNat)
        case atStart => exact ⟨0, a, rfl, rfl, Nat.zero_le _, Lib.hid ⟨HA.out.1, by have := HA.out.2; omega⟩, HB⟩
        case round =>
          obtain ⟨i, a, rfl, rfl, hi, HA, HB⟩ := hrel
          have q0 := (HB.out.cell (p := ⟨w.heap.size, 1, none⟩) (cell_lt HK.out.2)).trans HK.out.2
          by_cases hlt : i < NO
          · by_cases ha : a < 4000
            · have hli : i < x.os.length := by rw [HNO.out]; exact hlt
              obtain ⟨g, o, c', e1, -, hc⟩ := (HX.out.2.1.below HB.out).pos (by intro e; rw [e] at hli; exact absurd hli (by simp))
              injection e1 with e1 e3 e4
              subst e1
              obtain ⟨-, p0, p1⟩ := RAt.atO hc i hli
              generalize x.os[i] = y at *
              generalize y.k = yk at *
              generalize y.v = yv at *
              obtain ⟨m, hm, hm2⟩ := min40 yk.size
              obtain ⟨n, hn, hn2⟩ := min40 yv.size
              clear hc e3 e4
              go_wp2
              go_region
              go_wp2
              go_roundw
              case rel => exact ⟨i + 1, a + 10 + m + n, by simp, by simp, by omega, Lib.hid ⟨by omega, by omega⟩, Lib.hid (Below.drew HB.out)⟩
              case measure => (try simp [intOf]); (try omega)
            · have hd : decide ((a : Int) < 4000) = false := decide_eq_false (by omega)
              clear ha
              go_wp2
              go_ret
              exact ⟨⟨a, rfl, HA.out.1, by have := HA.out.2; omega⟩, HBL.out.trans (HB.out.mono HBL.out.size)⟩
          · go_wp2
            go_ret
            exact ⟨⟨a, rfl, HA.out.1, by have := HA.out.2; omega⟩, HBL.out.trans (HB.out.mono HBL.out.size)⟩
    · go_wp2_with fail
      go_loopw [3, 5] (fun u s wr => ∃ i a : Nat, s = .int .i64 i ∧ u = .int .i64 a ∧ i ≤ NO ∧ Hid (10 ≤ a ∧ a ≤ 12010) ∧ Hid (Below w1.heap.size w1 wr)) (fun _ s _ => NO - (intOf s).toNat)
      case atStart => exact ⟨0, a, rfl, rfl, Nat.zero_le _, Lib.hid ⟨HA.out.1, by have := HA.out.2; omega⟩, HB⟩
      case round =>
        obtain ⟨i, a, rfl, rfl, hi, HA, HB⟩ := hrel
        have q0 := (HB.out.cell (p := ⟨w.heap.size, 1, none⟩) (cell_lt HK.out.2)).trans HK.out.2
        by_cases hlt : i < NO
        · by_cases ha : a < 4000
          · have hli : i < x.os.length := by rw [HNO.out]; exact hlt
            obtain ⟨g, o, c', e1, -, hc⟩ := (HX.out.2.1.below HB.out).pos (by intro e; rw [e] at hli; exact absurd hli (by simp))
            injection e1 with e1 e3 e4
            subst e1
            obtain ⟨-, p0, p1⟩ := RAt.atO hc i hli
            generalize x.os[i] = y at *
            generalize y.k = yk at *
            generalize y.v = yv at *
            obtain ⟨m, hm, hm2⟩ := min40 yk.size
            obtain ⟨n, hn, hn2⟩ := min40 yv.size
            clear hc e3 e4
            go_wp2
            go_region
            go_wp2
            go_roundw
            case rel => exact ⟨i + 1, a + 10 + m + n, by simp, by simp, by omega, Lib.hid ⟨by omega, by omega⟩, Lib.hid (Below.drew HB.out)⟩
            case measure => (try simp [intOf]); (try omega)
          · have hd : decide ((a : Int) < 4000) = false := decide_eq_false (by omega)
            clear ha
            go_wp2
            go_ret
            exact ⟨⟨a, rfl, HA.out.1, by have := HA.out.2; omega⟩, HBL.out.trans (HB.out.mono HBL.out.size)⟩
        · go_wp2
          go_ret
          exact ⟨⟨a, rfl, HA.out.1, by have := HA.out.2; omega⟩, HBL.out.trans (HB.out.mono HBL.out.size)⟩
end Go.Proofs.Ytbfkgbickjfcjaa
