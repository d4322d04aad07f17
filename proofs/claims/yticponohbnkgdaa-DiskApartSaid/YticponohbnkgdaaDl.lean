/- Acts; long; do. -/
import Derived.Test.YticponohbnkgdaaDk
namespace Go.Proofs.Yticponohbnkgdaa
open Go Go.RowKit
set_option maxRecDepth 100000
/-- An act. -/
structure Ac where
  what : Nat
  t : Int
  n : Int
  s : ByteArray
  ks : List Int
  v : Value
def acV (a : Ac) : Value := .agg #[.int .u8 (a.what : Int), .int .i64 a.t, .int .i64 a.n, .string a.s, a.v]
/-- What an act may be, and where its numbers lie. -/
structure Ac.fit (w : World) (a : Ac) : Prop where
  what : a.what < 256
  t : (Lit.int .i64 a.t).wf = true
  n : (Lit.int .i64 a.n).wf = true
  s : a.s.size ≤ 9223372036854775807
  len : a.ks.length ≤ 9223372036854775807
  at' : KAt w a.v a.ks
/-- The cells of acts. -/
def At5 (W : World) (v : Value) (l : List Ac) : Prop :=
  (l = [] ∧ ∃ a c, v = .slice a 0 c) ∨ ∃ g o c, v = .slice (some ⟨g, o, none⟩) l.length c ∧ ∀ j (h : j < l.length),
    W.cell? ⟨g, o + j * 5, none⟩ = some (.int .u8 (l[j].what : Int)) ∧ W.cell? ⟨g, o + j * 5 + 1, none⟩ = some (.int .i64 l[j].t) ∧ W.cell? ⟨g, o + j * 5 + 2, none⟩ = some (.int .i64 l[j].n) ∧ W.cell? ⟨g, o + j * 5 + 3, none⟩ = some (.string l[j].s) ∧ W.cell? ⟨g, o + j * 5 + 4, none⟩ = some l[j].v
theorem At5.same {w w' : World} {v : Value} {l : List Ac} (h : At5 w v l) (hb : ∀ g, g < w.heap.size → v.ownBlock = some g → w'.heap[g]? = w.heap[g]?) : At5 w' v l := by
  rcases h with h | ⟨g, o, c, rfl, h⟩
  · exact .inl h
  · refine .inr ⟨g, o, c, rfl, fun j hj => ?_⟩
    have hlt := World.block_lt_of_cell? w ⟨g, _, none⟩ (h j hj).1
    have e : ∀ o, w'.cell? ⟨g, o, none⟩ = w.cell? ⟨g, o, none⟩ := fun o => World.cell?_of_block (a := ⟨g, o, none⟩) (hb g hlt rfl)
    rw [e, e, e, e, e]
    exact h j hj
theorem At5.below {w w' : World} {v : Value} {l : List Ac} (h : At5 w v l) {m : Nat} (hb : Below m w w') (hn : w.heap.size ≤ m) : At5 w' v l := h.same fun g hg _ => hb.block g (by omega)
theorem At5.slice {w : World} {v : Value} {l : List Ac} (h : At5 w v l) : ∃ a c, v = .slice a l.length c := by
  rcases h with ⟨rfl, a, c, rfl⟩ | ⟨g, o, c, rfl, _⟩
  · exact ⟨_, _, rfl⟩
  · exact ⟨_, _, rfl⟩
theorem below_drewN {B : Nat} {a w : World} (h : Below B a w) (n : Nat) : Below B a (w.drewN n) := ⟨h.os, h.tape, h.output, h.size, h.block⟩
set_option maxHeartbeats 1000000 in
theorem long_any (acs : List Ac) (ts : List Tq) (u v : Value) (w : World) (ha : At5 w u acs) (hk : ∀ a ∈ acs, KAt w a.v a.ks ∧ a.s.size ≤ 9223372036854775807 ∧ a.ks.length ≤ 9223372036854775807) (ht : TAt w v ts) (htw : ∀ q ∈ ts, q.a.size ≤ 9223372036854775807 ∧ q.b.size ≤ 9223372036854775807) (hal : acs.length ≤ 9223372036854775807) (htl : ts.length ≤ 9223372036854775807) :
    Calls Try.prog 26 #[u, v] w fun e w' => ∃ b : Bool, e = .returned (.bool b) ∧ Below w.heap.size w w' := by
  obtain ⟨ua, uc, hu⟩ := ha.slice
  obtain ⟨va, vc, hv⟩ := At2.slice ht
  rw [List.length_map] at hv
  have HA := Lib.hid ha
  have HK := Lib.hid hk
  have HT := Lib.hid ht
  have HW := Lib.hid htw
  clear ha hk ht htw
  generalize hLa : acs.length = La at *
  generalize hLt : ts.length = Lt at *
  have HLa := Lib.hid hLa
  have HLt := Lib.hid hLt
  clear hLa hLt
  subst hu hv
  go_enter Try.func26, Try.ntmps26
  go_wp2
  go_loopw [5, 6] (fun n i wl => ∃ k m : Nat, i = .int .i64 (k : Int) ∧ n = .int .i64 (m : Int) ∧ k ≤ La ∧ m ≤ 100000 ∧ Hid (Below w.heap.size w wl)) (fun _ i _ => La - (intOf i).toNat)
  case atStart => exact ⟨0, 0, rfl, rfl, by omega, by omega, Lib.hid (Below.refl _ _)⟩
  case round =>
    obtain ⟨k, m, rfl, rfl, hk, hm, HB⟩ := hrel
    by_cases hlt : k < La
    · by_cases hm2 : m < 20000
      · have hkl : k < acs.length := by have := HLa.out; omega
        rcases At5.below HA.out HB.out (Nat.le_refl _) with ⟨h0, _⟩ | ⟨g, o, e, hg, hcs⟩
        · have := congrArg List.length h0; rw [List.length_nil] at this; omega
        obtain ⟨-, -, -, q3, q4⟩ := hcs k hkl
        rw [HLa.out] at hg
        cases hg
        obtain ⟨kk, k1, k2⟩ := HK.out _ (List.getElem_mem hkl)
        obtain ⟨xa, xc, hx⟩ := kk.slice
        rw [hx] at q4
        clear hcs kk hx
        generalize acs[k].s = S at *
        generalize acs[k].ks.length = KL at *
        have hp1 : min S.size 20000 ≤ 20000 := Nat.min_le_right _ _
        have hp2 : min KL 20000 ≤ 20000 := Nat.min_le_right _ _
        go_wp2
        go_big_quiet (fail)
        go_wp2
        go_roundw
        case rel => exact ⟨k + 1, m + 20 + min S.size 20000 + min KL 20000, by go_num, by go_num, by omega, by omega, Lib.hid (below_drewN HB.out _)⟩
        case measure => simp [intOf]; omega
      · have hm' : 20000 ≤ m := by omega
        go_wp2
        go_loopw [5, 7] (fun n i wm => ∃ k2 m2 : Nat, i = .int .i64 (k2 : Int) ∧ n = .int .i64 (m2 : Int) ∧ k2 ≤ Lt ∧ m2 ≤ 200000 ∧ Hid (Below w.heap.size w wm)) (fun _ i _ => Lt - (intOf i).toNat)
        case atStart => exact ⟨0, m, rfl, rfl, by omega, by omega, HB⟩
        case round =>
          clear HB
          obtain ⟨k2, m2, rfl, rfl, hk2, hm2', HB⟩ := hrel
          by_cases hlt2 : k2 < Lt
          · by_cases hm3 : m2 < 20000
            · have hkl : k2 < ts.length := by have := HLt.out; omega
              rcases At2.below HT.out HB.out (Nat.le_refl _) with ⟨h0, _⟩ | ⟨g, o, e, hg, hcs⟩
              · have := congrArg List.length h0; rw [List.length_map, List.length_nil] at this; omega
              obtain ⟨q0, q1⟩ := hcs k2 (by rw [List.length_map]; exact hkl)
              rw [List.getElem_map] at q0 q1
              rw [List.length_map, HLt.out] at hg
              cases hg
              obtain ⟨k1, k2'⟩ := HW.out _ (List.getElem_mem hkl)
              clear hcs
              generalize ts[k2] = Q at *
              obtain ⟨S, S2⟩ := Q
              unfold tq at q0 q1
              dsimp only at q0 q1 k1 k2'
              have hp1 : min S.size 20000 ≤ 20000 := Nat.min_le_right _ _
              have hp2 : min S2.size 20000 ≤ 20000 := Nat.min_le_right _ _
              go_wp2
              go_big_quiet (fail)
              go_wp2
              go_roundw
              case rel => exact ⟨k2 + 1, m2 + 20 + min S.size 20000 + min S2.size 20000, by go_num, by go_num, by omega, by omega, Lib.hid (below_drewN HB.out _)⟩
              case measure => simp [intOf]; omega
            · go_wp2
              go_ret
              exact ⟨_, rfl, HB.out⟩
          · obtain rfl : k2 = Lt := by omega
            go_wp2
            go_ret
            exact ⟨_, rfl, HB.out⟩
    · obtain rfl : k = La := by omega
      go_wp2
      go_loopw [5, 7] (fun n i wm => ∃ k2 m2 : Nat, i = .int .i64 (k2 : Int) ∧ n = .int .i64 (m2 : Int) ∧ k2 ≤ Lt ∧ m2 ≤ 200000 ∧ Hid (Below w.heap.size w wm)) (fun _ i _ => Lt - (intOf i).toNat)
      case atStart => exact ⟨0, m, rfl, rfl, by omega, by omega, HB⟩
      case round =>
        clear HB
        obtain ⟨k2, m2, rfl, rfl, hk2, hm2', HB⟩ := hrel
        by_cases hlt2 : k2 < Lt
        · by_cases hm3 : m2 < 20000
          · have hkl : k2 < ts.length := by have := HLt.out; omega
            rcases At2.below HT.out HB.out (Nat.le_refl _) with ⟨h0, _⟩ | ⟨g, o, e, hg, hcs⟩
            · have := congrArg List.length h0; rw [List.length_map, List.length_nil] at this; omega
            obtain ⟨q0, q1⟩ := hcs k2 (by rw [List.length_map]; exact hkl)
            rw [List.getElem_map] at q0 q1
            rw [List.length_map, HLt.out] at hg
            cases hg
            obtain ⟨k1, k2'⟩ := HW.out _ (List.getElem_mem hkl)
            clear hcs
            generalize ts[k2] = Q at *
            obtain ⟨S, S2⟩ := Q
            unfold tq at q0 q1
            dsimp only at q0 q1 k1 k2'
            have hp1 : min S.size 20000 ≤ 20000 := Nat.min_le_right _ _
            have hp2 : min S2.size 20000 ≤ 20000 := Nat.min_le_right _ _
            go_wp2
            go_big_quiet (fail)
            go_wp2
            go_roundw
            case rel => exact ⟨k2 + 1, m2 + 20 + min S.size 20000 + min S2.size 20000, by go_num, by go_num, by omega, by omega, Lib.hid (below_drewN HB.out _)⟩
            case measure => simp [intOf]; omega
          · go_wp2
            go_ret
            exact ⟨_, rfl, HB.out⟩
        · obtain rfl : k2 = Lt := by omega
          go_wp2
          go_ret
          exact ⟨_, rfl, HB.out⟩
end Go.Proofs.Yticponohbnkgdaa
