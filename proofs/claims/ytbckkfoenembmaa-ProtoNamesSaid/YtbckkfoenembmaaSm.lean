/- The contract of the document's Same, of the same fields. -/
import Derived.Test.YtbckkfoenembmaaDr
namespace Go.Proofs.Ytbckkfoenembmaa
open Go.RowKit
set_option maxRecDepth 100000 in
set_option maxHeartbeats 1000000 in
theorem same_any (l : List Ff) (hl : l.length ≤ 1000000000) (v u : Value) (w : World) (hv : FAt w v l) (hu : FAt w u l) :
    Calls Try.prog 15 #[v, u] w (Ret w (.bool true)) := by
  have HV := Lib.hid hv
  have HU := Lib.hid hu
  obtain ⟨va, vc, hv2⟩ := hv.slice
  obtain ⟨ua, uc, hu2⟩ := hu.slice
  clear hv hu
  generalize hL : l.length = L at *
  have HL := Lib.hid hL
  clear hL
  subst hv2
  subst hu2
  have hLL : (L != L) = false := by simp
  go_enter Try.func15, Try.ntmps15
  go_wp2
  go_loopw [5] (fun i wr => ∃ k : Nat, i = .int .i64 (k : Int) ∧ k ≤ L ∧ Hid (Below w.heap.size w wr)) (fun i _ => L - (intOf i).toNat)
  case atStart => exact ⟨0, rfl, by omega, Lib.hid (Below.refl _ _)⟩
  case round =>
    obtain ⟨k, rfl, hk, HB⟩ := hrel
    by_cases hlt : k < L
    · have hkl : k < l.length := by have := HL.out; omega
      rcases (HV.out.below HB.out (Nat.le_refl _)) with ⟨h0, _⟩ | ⟨g, o, c, hg, hcs⟩
      · have := HL.out; rw [h0] at this; simp at this; omega
      rcases (HU.out.below HB.out (Nat.le_refl _)) with ⟨h0, _⟩ | ⟨g2, o2, c2, hg2, hcs2⟩
      · have := HL.out; rw [h0] at this; simp at this; omega
      obtain ⟨q0, q1, q2, q3⟩ := hcs k hkl
      obtain ⟨r0, r1, r2, r3⟩ := hcs2 k hkl
      clear hcs hcs2
      generalize l[k] = P at *
      obtain ⟨pn, pw, pv, pt⟩ := P
      dsimp only at q0 q1 q2 q3 r0 r1 r2 r3
      generalize (pw : Int) = pw at *
      generalize (pv : Int) = pv at *
      cases hg
      cases hg2
      go_wp2
      go_big_quiet (fail)
      go_wp2
      go_roundw
      case rel => exact ⟨k + 1, by go_num, by omega, Lib.hid (below_drewN HB.out _)⟩
      case measure => simp [intOf]; omega
    · obtain rfl : k = L := by omega
      go_wp2
      go_ret
      exact ⟨rfl, HB.out⟩
end Go.Proofs.Ytbckkfoenembmaa
