/- many; what HeadSwaps asks of the tapes. -/
import Derived.Test.YtpcpbdcdapmlnaaDoorOx
namespace Go.Proofs.YtpcpbdcdapmlnaaDoor
open Go Go.RowKit
set_option maxRecDepth 100000
theorem At2.at2 {w : World} {g o c n : Nat} {l : List Pv} (h : At2 w (.slice (some ⟨g, o, none⟩) n c) l) (j : Nat) (hj : j < l.length) : w.cell? ⟨g, o + j * 2, none⟩ = some l[j].1 ∧ w.cell? ⟨g, o + j * 2 + 1, none⟩ = some l[j].2 := by
  rcases h with ⟨rfl, _⟩ | ⟨g', o', c', e, h⟩
  · simp at hj
  · cases e
    exact h j hj
theorem At2.pos {w : World} {v : Value} {l : List Pv} (h : At2 w v l) (hl : l ≠ []) : ∃ g o c, v = .slice (some ⟨g, o, none⟩) l.length c := by
  rcases h with ⟨rfl, _⟩ | ⟨g', o', c', e, _⟩
  · exact absurd rfl hl
  · exact ⟨g', o', c', e⟩
set_option maxHeartbeats 1000000 in
theorem many_any (l : List Tq) (v : Value) (w : World) (hv : Tps w v l) : Calls Tryd.prog 31 #[v] w fun e w' => ∃ b : Bool, e = .returned (.bool b) ∧ Below w.heap.size w w' := by
  obtain ⟨va, vc, hs⟩ := At2.slice hv.at'
  rw [List.length_map] at hs
  obtain ⟨L, hL⟩ : ∃ L, L = l.length := ⟨_, rfl⟩
  rw [← hL] at hs
  have HL := Lib.hid hL
  have hlen : L ≤ 9223372036854775807 := by rw [hL]; exact hv.len
  have HV := Lib.hid hv
  subst hs
  clear hv hL
  go_enter Tryd.func31, Tryd.ntmps31
  go_wp2
  go_loopw [3, 4] (fun n i wl => ∃ k m : Nat, i = .int .i64 (k : Int) ∧ n = .int .i64 (m : Int) ∧ k ≤ L ∧ m ≤ 40000 ∧ Hid (Below w.heap.size w wl)) (fun _ i _ => L - (intOf i).toNat)
  case atStart => exact ⟨0, 0, rfl, rfl, by omega, by omega, Lib.hid (Below.refl _ _)⟩
  case round =>
    obtain ⟨k, m, rfl, rfl, hk, hm, HB⟩ := hrel
    by_cases hlt : k < L
    · by_cases hm2 : m < 10000
      · have hkl : k < l.length := by rw [← HL.out]; exact hlt
        obtain ⟨g, o, c, e⟩ := At2.pos HV.out.at' (fun e => by have := congrArg List.length e; rw [List.length_map, List.length_nil] at this; omega)
        cases e
        obtain ⟨p0, p1⟩ := At2.at2 (At2.below HV.out.at' HB.out (Nat.le_refl _)) k (by rw [List.length_map]; exact hkl)
        rw [List.getElem_map] at p0 p1
        obtain ⟨w1, w2⟩ := HV.out.wide _ (List.getElem_mem hkl)
        generalize l[k] = q at *
        obtain ⟨x, y⟩ := q
        unfold tq at p0 p1
        dsimp only at p0 p1 w1 w2
        have m1 : ∃ a : Nat, min (x.size : Int) 10000 = (a : Int) ∧ a ≤ 10000 := ⟨min x.size 10000, by omega, by omega⟩
        have m2 : ∃ a : Nat, min (y.size : Int) 10000 = (a : Int) ∧ a ≤ 10000 := ⟨min y.size 10000, by omega, by omega⟩
        obtain ⟨A, hA, hA2⟩ := m1
        obtain ⟨B, hB, hB2⟩ := m2
        go_wp2
        go_quiet (fail)
        go_wp2
        go_roundw
        case rel => exact ⟨k + 1, m + 10 + A + B, by go_num, by go_num, by omega, by omega, Lib.hid (below_drewN HB.out _)⟩
        case measure => simp [intOf]; omega
      · go_wp2
        go_ret
        exact ⟨_, rfl, HB.out⟩
    · go_wp2
      go_ret
      exact ⟨_, rfl, HB.out⟩
end Go.Proofs.YtpcpbdcdapmlnaaDoor
