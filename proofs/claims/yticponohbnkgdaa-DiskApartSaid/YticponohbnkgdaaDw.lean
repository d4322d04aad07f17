/- long: what it tells. -/
import Derived.Test.YticponohbnkgdaaDv
namespace Go.Proofs.Yticponohbnkgdaa
open Go Go.RowKit
set_option maxRecDepth 100000
def stA (n : Nat) (a : Ac) : Nat := if n < 20000 then n + 20 + min a.s.size 20000 + min a.ks.length 20000 else n
def stT (n : Nat) (q : Tq) : Nat := if n < 20000 then n + 20 + min q.a.size 20000 + min q.b.size 20000 else n
def lnA (n : Nat) (l : List Ac) : Nat := l.foldl stA n
def lnT (n : Nat) (l : List Tq) : Nat := l.foldl stT n
def longN (l : List Ac) (t : List Tq) : Nat := lnT (lnA 0 l) t
theorem lnA_snoc (n : Nat) (l : List Ac) (a : Ac) : lnA n (l ++ [a]) = stA (lnA n l) a := by simp [lnA]
theorem lnT_snoc (n : Nat) (l : List Tq) (a : Tq) : lnT n (l ++ [a]) = stT (lnT n l) a := by simp [lnT]
theorem lnA_big : ∀ (l : List Ac) (n : Nat), 20000 ≤ n → lnA n l = n
  | [], _, _ => rfl
  | a :: r, n, h => by show lnA (stA n a) r = n; unfold stA; rw [if_neg (by omega)]; exact lnA_big r n h
theorem lnT_big : ∀ (l : List Tq) (n : Nat), 20000 ≤ n → lnT n l = n
  | [], _, _ => rfl
  | a :: r, n, h => by show lnT (stT n a) r = n; unfold stT; rw [if_neg (by omega)]; exact lnT_big r n h
theorem lnA_stay {n : Nat} (p l : List Ac) (k : Nat) (hp : p = l.take k) (h : 20000 ≤ lnA n p) : lnA n p = lnA n l := by
  have : l = p ++ l.drop k := by rw [hp, List.take_append_drop]
  rw [this]
  show lnA n p = List.foldl stA n (p ++ l.drop k)
  rw [List.foldl_append]
  exact (lnA_big _ _ h).symm
theorem lnT_stay {n : Nat} (p l : List Tq) (k : Nat) (hp : p = l.take k) (h : 20000 ≤ lnT n p) : lnT n p = lnT n l := by
  have : l = p ++ l.drop k := by rw [hp, List.take_append_drop]
  rw [this]
  show lnT n p = List.foldl stT n (p ++ l.drop k)
  rw [List.foldl_append]
  exact (lnT_big _ _ h).symm
set_option maxHeartbeats 1000000 in
theorem long_det (acs : List Ac) (ts : List Tq) (u v : Value) (w : World) (ha : At5 w u acs) (hk : ∀ a ∈ acs, KAt w a.v a.ks ∧ a.s.size ≤ 9223372036854775807 ∧ a.ks.length ≤ 9223372036854775807) (ht : TAt w v ts) (htw : ∀ q ∈ ts, q.a.size ≤ 9223372036854775807 ∧ q.b.size ≤ 9223372036854775807) (hal : acs.length ≤ 9223372036854775807) (htl : ts.length ≤ 9223372036854775807) :
    Calls Try.prog 26 #[u, v] w fun e w' => e = .returned (.bool (decide (20000 ≤ longN acs ts))) ∧ Below w.heap.size w w' := by
  obtain ⟨ua, uc, hu⟩ := ha.slice
  obtain ⟨va, vc, hv⟩ := At2.slice ht
  rw [List.length_map] at hv
  have HA := Lib.hid ha
  have HK := Lib.hid hk
  have HT := Lib.hid ht
  have HW := Lib.hid htw
  clear ha hk ht htw
  generalize hLa : acs.length = La at *
  generalize hLt : ts.length = Lt at *
  have HLa := Lib.hid hLa
  have HLt := Lib.hid hLt
  clear hLa hLt
  subst hu hv
  go_enter Try.func26, Try.ntmps26
  go_wp2
  go_loopw [5, 6] (fun n i wl => ∃ k m : Nat, i = .int .i64 (k : Int) ∧ n = .int .i64 (m : Int) ∧ k ≤ La ∧ m ≤ 100000 ∧ Hid (m = lnA 0 (acs.take k)) ∧ Hid (Below w.heap.size w wl)) (fun _ i _ => La - (intOf i).toNat)
  case atStart => exact ⟨0, 0, rfl, rfl, by omega, by omega, Lib.hid rfl, Lib.hid (Below.refl _ _)⟩
  case round =>
    obtain ⟨k, m, rfl, rfl, hk, hm, HM, HB⟩ := hrel
    by_cases hlt : k < La
    · by_cases hm2 : m < 20000
      · have hkl : k < acs.length := by have := HLa.out; omega
        rcases At5.below HA.out HB.out (Nat.le_refl _) with ⟨h0, _⟩ | ⟨g, o, e, hg, hcs⟩
        · have := congrArg List.length h0; rw [List.length_nil] at this; omega
        obtain ⟨-, -, -, q3, q4⟩ := hcs k hkl
        rw [HLa.out] at hg
        cases hg
        obtain ⟨kk, k1, k2⟩ := HK.out _ (List.getElem_mem hkl)
        obtain ⟨xa, xc, hx⟩ := kk.slice
        rw [hx] at q4
        clear hcs kk hx
        have HMN : Hid (lnA 0 (acs.take (k + 1)) = stA m acs[k]) := Lib.hid (by rw [List.take_succ_eq_append_getElem hkl, lnA_snoc, ← HM.out])
        unfold stA at HMN
        rw [if_pos hm2] at HMN
        generalize acs[k].s = S at *
        generalize acs[k].ks.length = KL at *
        have hp1 : min S.size 20000 ≤ 20000 := Nat.min_le_right _ _
        have hp2 : min KL 20000 ≤ 20000 := Nat.min_le_right _ _
        go_wp2
        go_big_quiet (fail)
        go_wp2
        go_roundw
        case rel => exact ⟨k + 1, m + 20 + min S.size 20000 + min KL 20000, by go_num, by go_num, by omega, by omega, Lib.hid HMN.out.symm, Lib.hid (below_drewN HB.out _)⟩
        case measure => simp [intOf]; omega
      · have hm' : 20000 ≤ m := by omega
        have HMA : Hid (m = lnA 0 acs) := Lib.hid (by rw [HM.out, lnA_stay (acs.take k) acs k rfl (by rw [← HM.out]; exact hm')])
        clear HM
        go_wp2
        go_loopw [5, 7] (fun n i wm => ∃ k2 m2 : Nat, i = .int .i64 (k2 : Int) ∧ n = .int .i64 (m2 : Int) ∧ k2 ≤ Lt ∧ m2 ≤ 200000 ∧ Hid (m2 = lnT m (ts.take k2)) ∧ Hid (Below w.heap.size w wm)) (fun _ i _ => Lt - (intOf i).toNat)
        case atStart => exact ⟨0, m, rfl, rfl, by omega, by omega, Lib.hid rfl, HB⟩
        case round =>
          clear HB
          obtain ⟨k2, m2, rfl, rfl, hk2, hm2', HM2, HB⟩ := hrel
          by_cases hlt2 : k2 < Lt
          · by_cases hm3 : m2 < 20000
            · have hkl : k2 < ts.length := by have := HLt.out; omega
              rcases At2.below HT.out HB.out (Nat.le_refl _) with ⟨h0, _⟩ | ⟨g, o, e, hg, hcs⟩
              · have := congrArg List.length h0; rw [List.length_map, List.length_nil] at this; omega
              obtain ⟨q0, q1⟩ := hcs k2 (by rw [List.length_map]; exact hkl)
              rw [List.getElem_map] at q0 q1
              rw [List.length_map, HLt.out] at hg
              cases hg
              obtain ⟨k1, k2'⟩ := HW.out _ (List.getElem_mem hkl)
              clear hcs
              have HMN : Hid (lnT m (ts.take (k2 + 1)) = stT m2 ts[k2]) := Lib.hid (by rw [List.take_succ_eq_append_getElem hkl, lnT_snoc, ← HM2.out])
              unfold stT at HMN
              rw [if_pos hm3] at HMN
              generalize ts[k2] = Q at *
              obtain ⟨S, S2⟩ := Q
              unfold tq at q0 q1
              dsimp only at q0 q1 k1 k2'
              have hp1 : min S.size 20000 ≤ 20000 := Nat.min_le_right _ _
              have hp2 : min S2.size 20000 ≤ 20000 := Nat.min_le_right _ _
              go_wp2
              go_big_quiet (fail)
              go_wp2
              go_roundw
              case rel => exact ⟨k2 + 1, m2 + 20 + min S.size 20000 + min S2.size 20000, by go_num, by go_num, by omega, by omega, Lib.hid HMN.out.symm, Lib.hid (below_drewN HB.out _)⟩
              case measure => simp [intOf]; omega
            · have HL : Hid (longN acs ts = m2) := Lib.hid (by unfold longN; rw [← HMA.out, HM2.out, lnT_stay (ts.take k2) ts k2 rfl (by rw [← HM2.out]; omega)])
              have hz : 20000 ≤ m2 := by omega
              go_wp2
              go_ret
              exact ⟨by rw [HL.out, decide_eq_true hz]; rfl, HB.out⟩
          · obtain rfl : k2 = Lt := by omega
            have HL : Hid (longN acs ts = m2) := Lib.hid (by unfold longN; rw [← HMA.out, HM2.out, List.take_of_length_le (by have := HLt.out; omega)])
            by_cases hz : 20000 ≤ m2
            · have hzi : decide ((20000 : Int) ≤ (m2 : Int)) = true := decide_eq_true (by omega)
              go_wp2
              go_ret
              exact ⟨by rw [HL.out, decide_eq_true hz]; rfl, HB.out⟩
            · have hzi : decide ((20000 : Int) ≤ (m2 : Int)) = false := decide_eq_false (by omega)
              go_wp2
              go_ret
              exact ⟨by rw [HL.out, decide_eq_false hz]; rfl, HB.out⟩
    · obtain rfl : k = La := by omega
      have HMA : Hid (m = lnA 0 acs) := Lib.hid (by rw [HM.out, List.take_of_length_le (by have := HLa.out; omega)])
      clear HM
      go_wp2
      go_loopw [5, 7] (fun n i wm => ∃ k2 m2 : Nat, i = .int .i64 (k2 : Int) ∧ n = .int .i64 (m2 : Int) ∧ k2 ≤ Lt ∧ m2 ≤ 200000 ∧ Hid (m2 = lnT m (ts.take k2)) ∧ Hid (Below w.heap.size w wm)) (fun _ i _ => Lt - (intOf i).toNat)
      case atStart => exact ⟨0, m, rfl, rfl, by omega, by omega, Lib.hid rfl, HB⟩
      case round =>
        clear HB
        obtain ⟨k2, m2, rfl, rfl, hk2, hm2', HM2, HB⟩ := hrel
        by_cases hlt2 : k2 < Lt
        · by_cases hm3 : m2 < 20000
          · have hkl : k2 < ts.length := by have := HLt.out; omega
            rcases At2.below HT.out HB.out (Nat.le_refl _) with ⟨h0, _⟩ | ⟨g, o, e, hg, hcs⟩
            · have := congrArg List.length h0; rw [List.length_map, List.length_nil] at this; omega
            obtain ⟨q0, q1⟩ := hcs k2 (by rw [List.length_map]; exact hkl)
            rw [List.getElem_map] at q0 q1
            rw [List.length_map, HLt.out] at hg
            cases hg
            obtain ⟨k1, k2'⟩ := HW.out _ (List.getElem_mem hkl)
            clear hcs
            have HMN : Hid (lnT m (ts.take (k2 + 1)) = stT m2 ts[k2]) := Lib.hid (by rw [List.take_succ_eq_append_getElem hkl, lnT_snoc, ← HM2.out])
            unfold stT at HMN
            rw [if_pos hm3] at HMN
            generalize ts[k2] = Q at *
            obtain ⟨S, S2⟩ := Q
            unfold tq at q0 q1
            dsimp only at q0 q1 k1 k2'
            have hp1 : min S.size 20000 ≤ 20000 := Nat.min_le_right _ _
            have hp2 : min S2.size 20000 ≤ 20000 := Nat.min_le_right _ _
            go_wp2
            go_big_quiet (fail)
            go_wp2
            go_roundw
            case rel => exact ⟨k2 + 1, m2 + 20 + min S.size 20000 + min S2.size 20000, by go_num, by go_num, by omega, by omega, Lib.hid HMN.out.symm, Lib.hid (below_drewN HB.out _)⟩
            case measure => simp [intOf]; omega
          · have HL : Hid (longN acs ts = m2) := Lib.hid (by unfold longN; rw [← HMA.out, HM2.out, lnT_stay (ts.take k2) ts k2 rfl (by rw [← HM2.out]; omega)])
            have hz : 20000 ≤ m2 := by omega
            go_wp2
            go_ret
            exact ⟨by rw [HL.out, decide_eq_true hz]; rfl, HB.out⟩
        · obtain rfl : k2 = Lt := by omega
          have HL : Hid (longN acs ts = m2) := Lib.hid (by unfold longN; rw [← HMA.out, HM2.out, List.take_of_length_le (by have := HLt.out; omega)])
          by_cases hz : 20000 ≤ m2
          · have hzi : decide ((20000 : Int) ≤ (m2 : Int)) = true := decide_eq_true (by omega)
            go_wp2
            go_ret
            exact ⟨by rw [HL.out, decide_eq_true hz]; rfl, HB.out⟩
          · have hzi : decide ((20000 : Int) ≤ (m2 : Int)) = false := decide_eq_false (by omega)
            go_wp2
            go_ret
            exact ⟨by rw [HL.out, decide_eq_false hz]; rfl, HB.out⟩
end Go.Proofs.Yticponohbnkgdaa
