/- Parts as an argument has them; how long they are; the bytes of their frames, and what they are to be scanned as. -/
import Derived.Test.YtkbifmgddbilmaaDoorAw
import Derived.Deep.SlicePairs
import Derived.OpenShut
import Derived.ProofKit
namespace Go.Proofs.YtkbifmgddbilmaaDoor
open Go Go.ChangeShapes Go.WideShapes Go.ChangeAt Go.Deep Go.RowKit
set_option maxRecDepth 100000
structure Prt where
  k : UInt8
  p : ByteArray
/-- Parts, read wherever they begin. -/
def PAt (W : World) (v : Value) (l : List Prt) : Prop :=
  (l = [] ∧ ∃ a c, v = .slice a 0 c) ∨ ∃ g o c, v = .slice (some ⟨g, o, none⟩) l.length c ∧
    ∀ j (h : j < l.length), W.cell? ⟨g, o + j * 2, none⟩ = some (.int .u8 (l[j].k.toNat : Int)) ∧ W.cell? ⟨g, o + j * 2 + 1, none⟩ = some (.string l[j].p)
structure Arg (w : World) (v : Value) (l : List Prt) : Prop where
  at' : PAt w v l
  len : l.length ≤ maxLen
  wide : ∀ x ∈ l, x.p.size ≤ maxLen
theorem PAt.below {w w' : World} {v : Value} {l : List Prt} {m : Nat} (h : PAt w v l) (hb : Below m w w') (hn : w.heap.size ≤ m) : PAt w' v l := by
  rcases h with h | ⟨g, o, c, rfl, h⟩
  · exact .inl h
  · refine .inr ⟨g, o, c, rfl, fun j hj => ?_⟩
    have hlt := World.block_lt_of_cell? w ⟨g, _, none⟩ (h j hj).1
    have e : ∀ o, w'.cell? ⟨g, o, none⟩ = w.cell? ⟨g, o, none⟩ := fun o => World.cell?_of_block (a := ⟨g, o, none⟩) (hb.block g (Nat.lt_of_lt_of_le hlt hn))
    rw [e, e]
    exact h j hj
theorem open_parts {H : Type} {enc : TypeId × Value → H} {w : World} {base b0 : Nat} {spare : Nat → Bool} {held : Bool} {r : Reach} {v : Value} {d : DataW H} {p : List MemPlace} (hv : Value.okWide Tryd.prog w r b0 50 v) (h : DataW.Trod enc Tryd.prog w base spare held 50 v d p) : ∃ l : List Prt, Arg w v l := by
  obtain ⟨a0, l0, c0, rfl⟩ := okWide_slice Tryd.underlying50 hv
  obtain ⟨fuel, hf⟩ := h
  rcases open_slice_pairs Tryd.underlying50 Tryd.underlying74 (by kernel_rfl) rfl rfl (by kernel_rfl) (by kernel_rfl) hf with ⟨h0, _⟩ | ⟨a, len, cap, m, n, V0, V1, D0, D1, P0, P1, h0, _, hlc, hcm, hm, _, hk⟩
  · cases h0; exact ⟨[], .inl ⟨rfl, _, _, rfl⟩, Nat.zero_le _, fun p hp => by cases hp⟩
  · cases h0
    rcases Nat.eq_zero_or_pos l0 with h0 | h0
    · subst h0; exact ⟨[], .inl ⟨rfl, _, _, rfl⟩, Nat.zero_le _, fun p hp => by cases hp⟩
    · have hlm : l0 ≤ m := by rw [hm]; split <;> omega
      have hsp : a.spot = none := by
        obtain ⟨hu, _⟩ := hk 0 (by omega)
        simpa [Addr.add] using World.cell?_spot hu
      obtain ⟨b, off, spot⟩ := a
      subst hsp
      have hq : ∀ i, i < l0 → ∃ q : Prt, w.cell? ⟨b, off + i * 2, none⟩ = some (.int .u8 (q.k.toNat : Int)) ∧ w.cell? ⟨b, off + i * 2 + 1, none⟩ = some (.string q.p) ∧ q.p.size ≤ maxLen := by
        intro i hi
        obtain ⟨e0, e1, g0, g1⟩ := hk i (by omega)
        obtain ⟨z0, k0, _, f0⟩ := DataW.trod_int Tryd.underlying5 g0
        obtain ⟨z1, k1, _, f1⟩ := DataW.trod_string Tryd.underlying9 g1
        simp only [List.cons.injEq, and_true] at k0 k1
        rw [k0, Go.WideShapes.add_plain] at e0
        rw [k1, Go.WideShapes.add_plain, ← Nat.add_assoc] at e1
        obtain ⟨b0, b1⟩ := bounds_u8 f0
        refine ⟨⟨UInt8.ofNat z0.toNat, z1⟩, ?_, e1, f1⟩
        rw [e0]
        dsimp only
        rw [Bt.ofNat_toNat (by omega), Int.toNat_of_nonneg b0]
      have : ∀ i : Fin l0, ∃ q : Prt, w.cell? ⟨b, off + i.1 * 2, none⟩ = some (.int .u8 (q.k.toNat : Int)) ∧ w.cell? ⟨b, off + i.1 * 2 + 1, none⟩ = some (.string q.p) ∧ q.p.size ≤ maxLen := fun i => hq i.1 i.2
      obtain ⟨q, hq'⟩ := Classical.axiomOfChoice this
      refine ⟨List.ofFn q, .inr ⟨b, off, c0, by rw [List.length_ofFn], fun j hj => ?_⟩, by rw [List.length_ofFn]; omega, fun p hp => ?_⟩
      · rw [List.length_ofFn] at hj
        have e := hq' ⟨j, hj⟩
        rw [List.getElem_ofFn]
        exact ⟨e.1, e.2.1⟩
      · obtain ⟨i, rfl⟩ := (List.mem_ofFn ..).1 hp
        exact (hq' i).2.2
/-- How long parts are, up to 6000. -/
def lgn : List Prt → Nat
  | [] => 0
  | x :: r => 40 + min 6000 x.p.size + lgn r
theorem lgn_append : ∀ (a b : List Prt), lgn (a ++ b) = lgn a + lgn b
  | [], b => by rw [List.nil_append, lgn, Nat.zero_add]
  | x :: a, b => by rw [List.cons_append, lgn, lgn, lgn_append a b]; omega
theorem lgn_take (l : List Prt) (i : Nat) (h : i < l.length) : lgn (l.take (i + 1)) = lgn (l.take i) + (40 + min 6000 l[i].p.size) := by
  rw [List.take_succ_eq_append_getElem h, lgn_append]; rfl
theorem lgn_take_le : ∀ (l : List Prt) (i : Nat), lgn (l.take i) ≤ lgn l
  | [], i => by simp [lgn]
  | x :: r, 0 => by simp [lgn]
  | x :: r, i + 1 => by rw [List.take_succ_cons, lgn, lgn]; have := lgn_take_le r i; omega
set_option maxHeartbeats 2000000 in
theorem long_any (l : List Prt) (v : Value) (w : World) (h : Arg w v l) : Calls Tryd.prog 26 #[v] w fun e w' => e = .returned (.bool (decide (6000 ≤ lgn l))) ∧ w = w' := by
  have hlen := h.len
  have hwide := h.wide
  unfold maxLen at hlen
  have hz : lgn l = lgn (l.take l.length) := by rw [List.take_length]
  have HZ := Lib.hid hz
  have HN := Lib.hid (lgn_take l)
  have HLE := Lib.hid (lgn_take_le l)
  rcases h.at' with ⟨h0, a, c, rfl⟩ | ⟨g, o, c, rfl, hc⟩
  · subst h0
    clear hlen hwide hz HZ HN HLE h
    go_enter Tryd.func26, Tryd.ntmps26
    go_wp2
    go_loop [3, 4] (fun n i => n = .int .i64 0 ∧ i = .int .i64 0) (fun _ _ => 0)
    case atStart => exact ⟨rfl, rfl⟩
    case round =>
      obtain ⟨rfl, rfl⟩ := hrel
      go_wp2
      go_ret
      exact ⟨rfl, rfl⟩
  · have HC := Lib.hid hc
    have HW := Lib.hid hwide
    obtain ⟨L, hL⟩ : ∃ L, l.length = L := ⟨_, rfl⟩
    have HL := Lib.hid hL
    rw [hL] at hlen HZ ⊢
    obtain ⟨R, hR⟩ : ∃ R, decide (6000 ≤ lgn l) = R := ⟨_, rfl⟩
    rw [hR]
    have HR := Lib.hid hR
    clear hc hwide hz h hL hR
    go_enter Tryd.func26, Tryd.ntmps26
    go_wp2
    go_loop [3, 4] (fun n i => ∃ (j m : Nat), j ≤ L ∧ m ≤ 12100 ∧ n = .int .i64 (m : Int) ∧ i = .int .i64 (j : Int) ∧ Hid (m = lgn (l.take j))) (fun _ i => L - (intOf i).toNat)
    case atStart => exact ⟨0, 0, by omega, by omega, rfl, rfl, Lib.hid rfl⟩
    case round =>
      obtain ⟨j, m, hj, hm, rfl, rfl, HM⟩ := hrel
      by_cases hlt : j < L
      · by_cases hm6 : m < 6000
        · have hjl : j < l.length := by rw [HL.out]; exact hlt
          obtain ⟨x0, x1⟩ := HC.out j hjl
          have hn := HN.out j hjl
          have hsz : l[j].p.size ≤ 9223372036854775807 := HW.out _ (List.getElem_mem hjl)
          rw [← HM.out] at hn
          generalize l[j].p = T at *
          have HN1 := Lib.hid hn.symm
          have hmin : min (6000 : Int) (T.size : Int) = ((min 6000 T.size : Nat) : Int) := by omega
          have hmin2 : min 6000 T.size ≤ 6000 := by omega
          clear hn x0
          by_cases ht : 6000 ≤ T.size
          · have HN2 : Hid (m + (40 + 6000) = lgn (l.take (j + 1))) := Lib.hid (by rw [← HN1.out, Nat.min_eq_left ht])
            clear hmin hmin2
            go_wp2
            go_round
            case rel => exact ⟨j + 1, m + (40 + 6000), by omega, by omega, by go_num, by go_num, HN2⟩
            case measure => simp [intOf]; omega
          · have HN2 : Hid (m + (40 + T.size) = lgn (l.take (j + 1))) := Lib.hid (by rw [← HN1.out, Nat.min_eq_right (by omega)])
            have ht2 : T.size < 6000 := by omega
            clear hmin hmin2 ht
            go_wp2
            go_round
            case rel => exact ⟨j + 1, m + (40 + T.size), by omega, by omega, by go_num, by go_num, HN2⟩
            case measure => simp [intOf]; omega
        · have hle : R = true := by rw [← HR.out]; exact decide_eq_true (by have := HLE.out j; have := HM.out; omega)
          have HRT := Lib.hid hle
          have hm7 : 6000 ≤ m := by omega
          clear hle hm6
          go_wp2
          go_ret
          exact ⟨by rw [HRT.out]; simp, rfl⟩
      · obtain rfl : j = L := by omega
        have hle : R = decide (6000 ≤ m) := by rw [← HR.out, HZ.out, ← HM.out]
        have HRT := Lib.hid hle
        clear hle
        go_wp2
        go_ret
        exact ⟨by rw [HRT.out]; simp; omega, rfl⟩
end Go.Proofs.YtkbifmgddbilmaaDoor
