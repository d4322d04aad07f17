/- The contracts of package sum's functions that make no memory. -/
import Derived.Test.YtmbndjdpbpajmaaDoorProg
import Derived.Test.YtmbndjdpbpajmaaDoorMa
import Derived.WalkKit
import Derived.WalkLawsBesides
import Derived.WalkSpells
import Derived.Deep.LoopGhost
import Derived.Lib.Hide
import Derived.Below
namespace Go.Proofs.YtmbndjdpbpajmaaDoor
open Go.RowKit
/-- The table lies where its initialiser lays it. -/
def Tab (w : World) : Prop := 0 < w.heap.size ∧ ∀ i, i < 16 → w.cell? ⟨0, i, none⟩ = some (.int .u32 ((Sm.tab.getD i 0 : Nat) : Int))
theorem Tab.below {w w' : World} (h : Tab w) (hb : Below w.heap.size w w') : Tab w' :=
  ⟨Nat.lt_of_lt_of_le h.1 hb.size, fun i hi => (hb.cell (p := ⟨0, i, none⟩) h.1).trans (h.2 i hi)⟩
theorem ret_u32 {a b : Int} (h : a = b) : Ending.returned (.int .u32 a) = .returned (.int .u32 b) := by rw [h]
theorem and15 (c : Nat) (hc : c < 4294967296) : bits .and .u32 (c : Int) 15 = ((c % 16 : Nat) : Int) := by
  have := u32_and_nat c 15 hc (by omega)
  rw [nat_mask4] at this
  simpa using this
theorem four_walk (c : Nat) (hc : c < 4294967296) : bits .xor .u32 ((c : Int) / 16) ((Sm.tab.getD (c % 16) 0 : Nat) : Int) = ((Sm.it 4 c : Nat) : Int) := by
  rw [Sm.four, show ((c : Int) / 16) = ((c / 16 : Nat) : Int) from by omega, u32_xor_nat _ _ (by omega) (Sm.tab_lt _ (by omega))]
set_option maxRecDepth 100000 in
set_option maxHeartbeats 1000000 in
theorem overByte_in (c r t x r' t' x' : Nat) (w : World) (h1 : w.cell? ⟨0, r, none⟩ = some (.int .u32 (t : Int))) (h2 : w.cell? ⟨0, r', none⟩ = some (.int .u32 (t' : Int)))
    (_hc : c < 4294967296) (_hx : x < 4294967296) (hr : r < 16) (hr' : r' < 16) (e1 : bits .and .u32 (c : Int) 15 = (r : Int)) (e2 : bits .xor .u32 ((c : Int) / 16) (t : Int) = (x : Int)) (e3 : bits .and .u32 (x : Int) 15 = (r' : Int)) (e4 : bits .xor .u32 ((x : Int) / 16) (t' : Int) = (x' : Int)) :
   Calls Tryd.prog 23 #[.int .u32 c] w fun e w' => e = .returned (.int .u32 x') ∧ w = w' := by
  go_enter Tryd.func23, Tryd.ntmps23
  go_wp2
  go_ret
  exact ⟨rfl, rfl⟩
theorem overByte_any (c : Nat) (w : World) (hc : c < 4294967296) (hT : Hid (Tab w)) :
   Calls Tryd.prog 23 #[.int .u32 c] w fun e w' => e = .returned (.int .u32 (Sm.it 8 c : Nat)) ∧ w = w' := by
  have hx := Sm.it_lt 4 hc
  rw [Sm.eight]
  exact overByte_in c _ _ _ _ _ _ w (hT.out.2 (c % 16) (by omega)) (hT.out.2 (Sm.it 4 c % 16) (by omega)) hc hx (by omega) (by omega) (and15 c hc) (four_walk c hc) (and15 _ hx) (four_walk _ hx)

theorem and1 (c : Nat) (hc : c < 4294967296) : bits .and .u32 (c : Int) 1 = ((c % 2 : Nat) : Int) := by
  have := u32_and_nat c 1 hc (by omega)
  rw [nat_mask1] at this
  simpa using this
theorem xor_nat (a b : Nat) (ha : a < 4294967296) (hb : b < 4294967296) : bits .xor .u32 (a : Int) (b : Int) = ((a ^^^ b : Nat) : Int) := u32_xor_nat a b ha hb
theorem ones_xor (a : Nat) (ha : a < 4294967296) : bits .xor .u32 IntKind.u32.max (a : Int) = ((4294967295 ^^^ a : Nat) : Int) := u32_xor_nat 4294967295 a (by omega) ha
set_option maxRecDepth 100000 in
set_option maxHeartbeats 1000000 in
theorem overBit_any (c : Nat) (w : World) (hc : c < 4294967296) :
   Calls Tryd.prog 29 #[.int .u32 c] w fun e w' => e = .returned (.int .u32 (Sm.st c : Nat)) ∧ w = w' := by
  have e1 := and1 c hc
  by_cases h : c % 2 = 1
  · have e2 : bits .xor .u32 ((c : Int) / 2) 2197175160 = ((Sm.st c : Nat) : Int) := by
      unfold Sm.st
      rw [if_pos h, show ((c : Int) / 2) = ((c / 2 : Nat) : Int) from by omega]
      exact u32_xor_nat _ 2197175160 (by omega) (by omega)
    rw [h] at e1
    go_enter Tryd.func29, Tryd.ntmps29
    go_wp2
    go_ret
    exact ⟨rfl, rfl⟩
  · have e2 : ((c : Int) / 2) = ((Sm.st c : Nat) : Int) := by unfold Sm.st; rw [if_neg h]; omega
    rw [show c % 2 = 0 from by omega] at e1
    go_enter Tryd.func29, Tryd.ntmps29
    go_wp2
    go_ret
    exact ⟨rfl, rfl⟩
theorem take_snoc (s : ByteArray) (k : Nat) (h : k < s.size) : s.data.toList.take (k + 1) = s.data.toList.take k ++ [s[k]] := by
  rw [List.take_succ_eq_append_getElem (by simpa using h)]; rfl
set_option maxRecDepth 100000 in
set_option maxHeartbeats 1000000 in
theorem add_in (c C R : Nat) (s : ByteArray) (w : World) (hs : s.size ≤ 140737488351232) (hT : Hid (Tab w)) (hC : C < 4294967296)
    (e1 : bits .xor .u32 IntKind.u32.max (c : Int) = (C : Int)) (e2 : Hid (bits .xor .u32 IntKind.u32.max ((Sm.crc C s.data.toList : Nat) : Int) = (R : Int))) :
   Calls Tryd.prog 14 #[.int .u32 c, .string s] w fun e w' => e = .returned (.int .u32 R) ∧ w = w' := by
  go_enter Tryd.func14, Tryd.ntmps14
  go_wp2
  go_loop [0, 10] (fun n x => ∃ (k r : Nat), k ≤ s.size ∧ Hid (r = Sm.crc C (s.data.toList.take k)) ∧ n = .int .u32 r ∧ x = .int .i64 k) (fun _ x => s.size - (intOf x).toNat)
  case atStart => exact ⟨0, C, by omega, Lib.hid rfl, rfl, rfl⟩
  case round =>
    obtain ⟨k, r, hk, HR, rfl, rfl⟩ := hrel
    have hr : r < 4294967296 := by rw [HR.out]; exact Sm.crc_lt hC _
    by_cases hlt : k < s.size
    · have hb := (s[k]).toNat_lt
      have hx : r ^^^ (s[k]).toNat < 4294967296 := Sm.xor_lt hr (by omega)
      have e3 := u32_xor_nat r (s[k]).toNat hr (by omega)
      have HS : Hid (Sm.it 8 (r ^^^ (s[k]).toNat) = Sm.crc C (s.data.toList.take (k + 1))) := Lib.hid (by rw [take_snoc s k hlt, Sm.crc_snoc, ← HR.out])
      go_wp2_with (go_at_call 23; refine (overByte_any _ _ hx hT).mono ?_; rintro e w' ⟨rfl, rfl⟩)
      go_round
      case rel => exact ⟨k + 1, _, by omega, HS, rfl, by go_num⟩
      case measure => simp [intOf]; omega
    · obtain rfl : k = s.size := by omega
      have e4 : bits .xor .u32 IntKind.u32.max ((r : Nat) : Int) = (R : Int) := by rw [HR.out, List.take_of_length_le (by simp)]; exact e2.out
      go_wp2
      go_ret
      exact ⟨rfl, rfl⟩
theorem add_any (c : Nat) (s : ByteArray) (w : World) (hc : c < 4294967296) (hs : s.size ≤ 140737488351232) (hT : Hid (Tab w)) :
   Calls Tryd.prog 14 #[.int .u32 c, .string s] w fun e w' => e = .returned (.int .u32 (Sm.add c s.data.toList : Nat)) ∧ w = w' :=
  add_in c (4294967295 ^^^ c) (Sm.add c s.data.toList) s w hs hT (Sm.xor_lt (by omega) hc) (ones_xor c hc) (Lib.hid (ones_xor _ (Sm.crc_lt (Sm.xor_lt (by omega) hc) _)))
set_option maxRecDepth 100000 in
set_option maxHeartbeats 1000000 in
theorem of_any (s : ByteArray) (w : World) (hs : s.size ≤ 140737488351232) (hT : Hid (Tab w)) :
   Calls Tryd.prog 13 #[.string s] w fun e w' => e = .returned (.int .u32 (Sm.add 0 s.data.toList : Nat)) ∧ w = w' := by
  go_enter Tryd.func13, Tryd.ntmps13
  go_wp2_with (go_at_call 14; refine (add_any 0 _ _ (by omega) hs hT).mono ?_; rintro e w' ⟨rfl, rfl⟩)
  go_ret
  exact ⟨rfl, rfl⟩
theorem or_rot (c : Nat) (hc : c < 4294967296) : bits .or .u32 ((c : Int) / 32768) ((c : Int) * 131072 % 4294967296) = (Sm.rot c : Nat) := by
  rw [show (c : Int) / 32768 = ((c / 32768 : Nat) : Int) from by omega, show (c : Int) * 131072 % 4294967296 = ((c % 32768 * 131072 : Nat) : Int) from by omega,
    u32_or_nat _ _ (by omega) (by omega), Nat.or_comm, nat_join 17 _ _ (by omega) (by omega), Nat.add_comm]
  rfl
theorem or_back (c : Nat) (hc : c < 4294967296) : bits .or .u32 ((c : Int) * 32768 % 4294967296) ((c : Int) / 131072) = (Sm.back c : Nat) := by
  rw [show (c : Int) / 131072 = ((c / 131072 : Nat) : Int) from by omega, show (c : Int) * 32768 % 4294967296 = ((c % 131072 * 32768 : Nat) : Int) from by omega,
    u32_or_nat _ _ (by omega) (by omega), nat_join 15 _ _ (by omega) (by omega)]
  rfl
set_option maxRecDepth 100000 in
set_option maxHeartbeats 1000000 in
theorem mask_any (c : Nat) (w : World) (hc : c < 4294967296) :
   Calls Tryd.prog 16 #[.int .u32 c] w fun e w' => e = .returned (.int .u32 (Sm.mask c : Nat)) ∧ w = w' := by
  go_enter Tryd.func16, Tryd.ntmps16
  go_wp2
  go_ret
  refine ⟨ret_u32 ?_, rfl⟩
  rw [or_rot c hc]
  show _ = (((Sm.rot c + 2726488792) % 4294967296 : Nat) : Int)
  omega
set_option maxRecDepth 100000 in
set_option maxHeartbeats 1000000 in
theorem plain_any (c : Nat) (w : World) (hc : c < 4294967296) :
   Calls Tryd.prog 17 #[.int .u32 c] w fun e w' => e = .returned (.int .u32 (Sm.plain c : Nat)) ∧ w = w' := by
  go_enter Tryd.func17, Tryd.ntmps17
  go_wp2
  go_ret
  refine ⟨ret_u32 ?_, rfl⟩
  rw [show ((c : Int) - 2726488792) % 4294967296 = ((Sm.down c : Nat) : Int) from by unfold Sm.down; omega]
  exact or_back _ (Sm.down_lt c)
theorem beq_nat (a b : Nat) : ((a : Int) == (b : Int)) = (a == b) := by
  by_cases h : a = b
  · subst h; simp
  · rw [beq_eq_false_iff_ne.2 h, beq_eq_false_iff_ne.2 (by omega)]
set_option maxRecDepth 100000 in
set_option maxHeartbeats 1000000 in
theorem same_any (s : ByteArray) (m : Nat) (w : World) (hs : s.size ≤ 140737488351232) (hT : Hid (Tab w)) :
   Calls Tryd.prog 21 #[.string s, .int .u32 m] w fun e w' => e = .returned (.bool (Sm.mask (Sm.add 0 s.data.toList) == m)) ∧ w = w' := by
  have hA := Sm.add_lt (c := 0) (by omega) s.data.toList
  go_enter Tryd.func21, Tryd.ntmps21
  go_wp2_with (first | (go_at_call 13; refine (of_any _ _ hs hT).mono ?_; rintro e w' ⟨rfl, rfl⟩) | (go_at_call 16; refine (mask_any _ _ hA).mono ?_; rintro e w' ⟨rfl, rfl⟩))
  go_ret
  exact ⟨congrArg (fun b => Ending.returned (.bool b)) (beq_nat _ _), rfl⟩
set_option maxRecDepth 100000 in
set_option maxHeartbeats 1000000 in
theorem times_any (a b n : Nat) (w : World) (ha : a < 4294967296) (hb : Hid (b = Sm.it n 2147483648)) :
   Calls Tryd.prog 26 #[.int .u32 a, .int .u32 b] w fun e w' => e = .returned (.int .u32 (Sm.it n a : Nat)) ∧ w = w' := by
  go_enter Tryd.func26, Tryd.ntmps26
  go_wp2
  go_loop [1, 5, 6] (fun y p x => ∃ (i c p' q : Nat), i ≤ 32 ∧ c < 4294967296 ∧ p' < 4294967296 ∧ q < 4294967296 ∧ Hid (c = Sm.it (n + i) 2147483648) ∧ Hid (q = 2147483648 / 2 ^ i) ∧ Hid (p' ^^^ Sm.it n (a % 2 ^ (32 - i)) = Sm.it n a) ∧ y = .int .u32 c ∧ p = .int .u32 p' ∧ x = .int .u32 q) (fun _ _ x => (intOf x).toNat)
  case atStart =>
    have hb0 : b < 4294967296 := by rw [hb.out]; exact Sm.it_lt _ (by omega)
    exact ⟨0, b, 0, 2147483648, by omega, hb0, by omega, by omega, hb, Lib.hid (by rw [Nat.pow_zero, Nat.div_one]), Lib.hid (by rw [Nat.zero_xor, Nat.mod_eq_of_lt (by simpa using ha)]), rfl, rfl, rfl⟩
  case round =>
    obtain ⟨i, c, p', q, hi, hc, hp, hq, HC, HQ, HP, rfl, rfl, rfl⟩ := hrel
    by_cases hlt : i ≤ 31
    · have hq0 : q ≠ 0 := by rw [HQ.out]; exact Sm.unit_ne i hlt
      have hst := Sm.times_step n a i p' q c hlt HQ.out HC.out HP.out
      have e1 := u32_and_nat a q ha hq
      have e2 : Hid (Sm.st c = Sm.it (n + (i + 1)) 2147483648) := Lib.hid (by rw [HC.out, Sm.st_it]; rfl)
      have e3 : Hid (q / 2 = 2147483648 / 2 ^ (i + 1)) := Lib.hid (by rw [HQ.out, Sm.unit_half])
      have hc' := Sm.st_lt hc
      by_cases hz : a &&& q = 0
      · have HS := Lib.hid (hst.1 hz)
        rw [hz] at e1
        clear hst hz
        go_wp2_with (go_at_call 29; refine (overBit_any _ _ hc).mono ?_; rintro e w' ⟨rfl, rfl⟩)
        go_round
        case rel => exact ⟨i + 1, _, _, q / 2, by omega, hc', hp, by omega, e2, e3, HS, rfl, rfl, by go_num⟩
        case measure => simp [intOf]; omega
      · have HS := Lib.hid (hst.2 hz)
        have e4 := u32_xor_nat p' c hp hc
        have hx := Sm.xor_lt hp hc
        have hz' : ((a &&& q : Nat) : Int) ≠ 0 := by omega
        generalize a &&& q = z at *
        clear hst hz
        go_wp2_with (go_at_call 29; refine (overBit_any _ _ hc).mono ?_; rintro e w' ⟨rfl, rfl⟩)
        go_round
        case rel => exact ⟨i + 1, _, _, q / 2, by omega, hc', hx, by omega, e2, e3, HS, rfl, rfl, by go_num⟩
        case measure => simp [intOf]; omega
    · obtain rfl : i = 32 := by omega
      have hq0 : q = 0 := by rw [HQ.out]
      subst hq0
      have e5 : Hid (p' = Sm.it n a) := Lib.hid (by have := HP.out; rwa [Sm.times_end, Nat.xor_zero] at this)
      go_wp2
      go_ret
      exact ⟨ret_u32 (by rw [e5.out]), rfl⟩
end Go.Proofs.YtmbndjdpbpajmaaDoor
