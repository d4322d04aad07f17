/- The law's is. -/
import Derived.Test.YtpcpbdcdapmlnaaDoorJg
namespace Go.Proofs.YtpcpbdcdapmlnaaDoor
open Go Go.RowKit
set_option maxRecDepth 100000
set_option maxHeartbeats 1000000 in
theorem is_any (x y : He) (base : Nat) (u v : Value) (w : World) (hu : Own w base u (x.log.map iv)) (hv : KAt w v y.log) (hb : base ≤ w.heap.size) (hl : x.log.length ≤ 9223372036854775807) (hm : y.log.length ≤ 9223372036854775807) : Calls Tryd.prog 29 #[hval x u, hval y v] w fun e w' => e = .returned (.bool (sameB x y)) ∧ Below base w w' ∧ w.grownBy w' u.ownBlock := by
  have HA : Hid (Below w.heap.size w ((w.alloc (.cells #[.int .i64 x.gen, .int .i64 x.base, .int .i64 x.snap, u] 26)).alloc (.cells #[.int .i64 y.gen, .int .i64 y.base, .int .i64 y.snap, v] 26))) := Lib.hid (below_two _ _ _)
  have X0 := Lib.hid ((Box4.new w (.int .i64 x.gen) (.int .i64 x.base) (.int .i64 x.snap) u).alloc (.cells #[.int .i64 y.gen, .int .i64 y.base, .int .i64 y.snap, v] 26))
  have HE := Lib.hid (rsame_any x y u v _ (hu.kat.below HA.out (Nat.le_refl _)) (hv.below HA.out (Nat.le_refl _)) hl hm)
  have HO := Lib.hid (hu.belowAll HA.out)
  have HBL := Lib.hid (fun k hk => (hu.lt k hk).2)
  have HLU := Lib.hid hu.lt
  obtain ⟨ua, uc, e⟩ := hu.shape
  rw [List.length_map] at e
  generalize sameB x y = R at *
  clear hv hm hu
  have HLN : Hid ((x.log.map iv).length = x.log.length) := Lib.hid (by rw [List.length_map])
  generalize x.log.map iv = zs0 at *
  generalize x.log.length = N at *
  subst e
  unfold hval at *
  go_enter Tryd.func29, Tryd.ntmps29
  go_wp2_with fail
  refine HE.out.mono ?_
  rintro e w1 ⟨rfl, hb1⟩
  have X1 := Lib.hid (X0.out.below hb1 X0.out.lt)
  have O1 := Lib.hid (HO.out.belowAll hb1)
  have B1 := Lib.hid ((below_trans' HA.out hb1).mono hb)
  have G1 := Lib.hid (grown_below (below_trans' HA.out hb1) (Value.ownBlock (.slice ua N uc)))
  clear hb1 X0 HO HA HE
  go_wp2
  go_loopw [6] (fun i wl => ∃ (k : Nat) (zs : List Value), i = .int .i64 (k : Int) ∧ k ≤ N ∧ Hid (zs.length = N) ∧ Hid (Own wl base (.slice ua N uc) zs) ∧ Hid (Box4 wl w.heap.size (.int .i64 x.gen) (.int .i64 x.base) (.int .i64 x.snap) (.slice ua N uc)) ∧ Hid (Below base w wl) ∧ Hid (w.grownBy wl (Value.ownBlock (.slice ua N uc)))) (fun i _ => N - (intOf i).toNat)
  case atStart => exact ⟨0, zs0, rfl, by omega, HLN, O1, X1, B1, G1⟩
  case round =>
    obtain ⟨k, zs, rfl, hk, HZ, HO, HX, HB, HG⟩ := hrel
    have q3 := HX.out.c3
    by_cases hlt : k < N
    · have hz := HZ.out
      obtain ⟨g, cap, e, hbg, hg, hc, hcs⟩ := Own.pos HO.out (by omega)
      injection e with ea en ec
      subst ea ec
      have hge := (HBL.out g rfl)
      obtain ⟨j1, j2⟩ := hcs k (by omega)
      have hx : ∃ z, wr.cell? ⟨g, k, none⟩ = some z := ⟨zs[k], by rw [j1, List.getElem?_eq_getElem]⟩
      obtain ⟨z, hzc⟩ := hx
      have hkc : k < uc := by omega
      have HO2 := Lib.hid (Own.stored' HO.out k (by omega) (.int .i64 (-7)))
      have HX2 := Lib.hid (HX.out.apart (a := ⟨g, k, none⟩) (by show w.heap.size ≠ g; omega) (.int .i64 (-7)))
      have HB2 := Lib.hid (below_setD HB.out hbg k (.int .i64 (-7)))
      have HZ2 : Hid ((zs.set k (.int .i64 (-7))).length = N) := Lib.hid (by rw [List.length_set]; exact hz)
      have HG2 : Hid (w.grownBy (wr.setCell ⟨g, k, none⟩ (.int .i64 (-7))) (Value.ownBlock (.slice (some ⟨g, 0, none⟩) N uc))) := Lib.hid (grown_trans HG.out (grown_setCell wr g k _))
      clear hcs j1 hz en hc
      go_wp2
      go_roundw
      case rel => exact ⟨k + 1, _, by go_num, by omega, HZ2, HO2, HX2, HB2, HG2⟩
      case measure => simp [intOf]; omega
    · go_wp2
      go_ret
      exact ⟨rfl, HB.out, HG.out⟩
end Go.Proofs.YtpcpbdcdapmlnaaDoor
