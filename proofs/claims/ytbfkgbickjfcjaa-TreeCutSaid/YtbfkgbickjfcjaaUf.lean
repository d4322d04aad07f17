/- wide. -/
import Derived.Test.YtbfkgbickjfcjaaUe
namespace Go.Proofs.Ytbfkgbickjfcjaa
set_option linter.unusedVariables false
set_option linter.unusedSimpArgs false
open Go Go.RowKit
set_option maxRecDepth 100000
set_option maxHeartbeats 1000000 in
theorem wide_any (l : List Ti) (v : Value) (w : World) (h : Txs w v l) (hl : l.length ≤ 9223372036854775807) :
    Calls Try.prog 44 #[v] w fun e w' => ∃ b, e = .returned (.bool b) ∧ (b = false → l.length ≤ 500) ∧ Below w.heap.size w w' := by
  have HT := Lib.hid h
  obtain ⟨ad, c, rfl⟩ := h.row.slice
  obtain ⟨N, hN⟩ : ∃ n, l.length = n := ⟨_, rfl⟩
  have HL := Lib.hid hN
  rw [hN] at hl HT ⊢
  clear h hN
  go_enter Try.func44, Try.ntmps44
  go_wp2_with fail
  go_loopw [3, 4] (fun u s wr => ∃ i a : Nat, s = .int .i64 i ∧ u = .int .i64 a ∧ i ≤ N ∧ Hid (10 * i ≤ a ∧ a ≤ 25000) ∧ Hid (Below w.heap.size w wr)) (fun _ s _ => N - (intOf s).toNat)
  case atStart => exact ⟨0, 0, rfl, rfl, Nat.zero_le _, Lib.hid ⟨by omega, by omega⟩, Lib.hid (Below.refl _ _)⟩
  case round =>
    obtain ⟨i, a, rfl, rfl, hi, HA, HB⟩ := hrel
    by_cases hlt : i < N
    · by_cases ha : a < 5000
      · have hli : i < l.length := by rw [HL.out]; exact hlt
        obtain ⟨t, ht⟩ : ∃ t, l[i] = t := ⟨_, rfl⟩
        have hX := HT.out.below HB.out
        obtain ⟨g, o, c', e1, -, hc⟩ := hX.row.pos (by intro e; rw [e] at hli; exact absurd hli (by simp))
        injection e1 with e1 e3 e4
        subst e1
        obtain ⟨q0, q1⟩ := RAt.atT hc i hli
        rw [ht] at q0 q1
        obtain ⟨hx, hx1, hx2⟩ := hX.each t (by rw [← ht]; exact List.getElem_mem _)
        have HD := Lib.hid (weight_any t.x t.vc t.vo wr hx hx1 hx2)
        obtain ⟨ca, cc, hvc⟩ := hx.1.slice
        obtain ⟨oa, oc, hvo⟩ := hx.2.1.slice
        rw [hvc] at q0 HD
        rw [hvo] at q1 HD
        clear hX hc e3 e4 hx hx1 hx2 ht hli hvc hvo
        generalize t.x.cs.length = n1 at *
        generalize t.x.os.length = n2 at *
        go_wp2_with fail
        refine HD.out.mono ?_
        rintro e w' ⟨⟨n, rfl, hn1, hn2⟩, hb⟩
        have HB2 := Lib.hid (HB.out.trans (hb.mono HB.out.size))
        clear hb
        go_wp2
        go_roundw
        case rel => exact ⟨i + 1, a + n, by simp, by simp, by omega, Lib.hid ⟨by have := HA.out.1; omega, by omega⟩, HB2⟩
        case measure => (try simp [intOf]); (try omega)
      · have hd : decide ((a : Int) < 5000) = false := decide_eq_false (by omega)
        have hd2 : decide ((5000 : Int) ≤ (a : Int)) = true := decide_eq_true (by omega)
        clear ha
        go_wp2
        go_ret
        exact ⟨_, rfl, (fun h => by cases h), HB.out⟩
    · by_cases ha : a < 5000
      · have hd2 : decide ((5000 : Int) ≤ (a : Int)) = false := decide_eq_false (by omega)
        have HF : Hid (N ≤ 500) := Lib.hid (by have := HA.out.1; omega)
        clear ha
        go_wp2
        go_ret
        exact ⟨_, rfl, fun _ => HF.out, HB.out⟩
      · have hd2 : decide ((5000 : Int) ≤ (a : Int)) = true := decide_eq_true (by omega)
        clear ha
        go_wp2
        go_ret
        exact ⟨_, rfl, (fun h => by cases h), HB.out⟩
end Go.Proofs.Ytbfkgbickjfcjaa
