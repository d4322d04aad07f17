/- The contracts of package sum's functions that make no memory. -/
import Derived.Test.YtpcpbdcdapmlnaaDoorProg
import Derived.Test.YtpcpbdcdapmlnaaDoorSa
import Derived.WalkKit
import Derived.WalkLawsBesides
import Derived.WalkSpells
import Derived.Deep.LoopGhost
import Derived.Lib.Hide
import Derived.Below
namespace Go.Proofs.YtpcpbdcdapmlnaaDoor
open Go.RowKit
/-- The table lies where its initialiser lays it. -/
def Tab (w : World) : Prop := 0 < w.heap.size ∧ ∀ i, i < 16 → w.cell? ⟨0, i, none⟩ = some (.int .u32 ((Sm.tab.getD i 0 : Nat) : Int))
theorem Tab.below {w w' : World} (h : Tab w) (hb : Below w.heap.size w w') : Tab w' :=
  ⟨Nat.lt_of_lt_of_le h.1 hb.size, fun i hi => (hb.cell (p := ⟨0, i, none⟩) h.1).trans (h.2 i hi)⟩
theorem ret_u32 {a b : Int} (h : a = b) : Ending.returned (.int .u32 a) = .returned (.int .u32 b) := by rw [h]
theorem and15 (c : Nat) (hc : c < 4294967296) : bits .and .u32 (c : Int) 15 = ((c % 16 : Nat) : Int) := by
  have := u32_and_nat c 15 hc (by omega)
  rw [nat_mask4] at this
  simpa using this
theorem four_walk (c : Nat) (hc : c < 4294967296) : bits .xor .u32 ((c : Int) / 16) ((Sm.tab.getD (c % 16) 0 : Nat) : Int) = ((Sm.it 4 c : Nat) : Int) := by
  rw [Sm.four, show ((c : Int) / 16) = ((c / 16 : Nat) : Int) from by omega, u32_xor_nat _ _ (by omega) (Sm.tab_lt _ (by omega))]
set_option maxRecDepth 100000 in
set_option maxHeartbeats 1000000 in
theorem overByte_in (c r t x r' t' x' : Nat) (w : World) (h1 : w.cell? ⟨0, r, none⟩ = some (.int .u32 (t : Int))) (h2 : w.cell? ⟨0, r', none⟩ = some (.int .u32 (t' : Int)))
    (_hc : c < 4294967296) (_hx : x < 4294967296) (hr : r < 16) (hr' : r' < 16) (e1 : bits .and .u32 (c : Int) 15 = (r : Int)) (e2 : bits .xor .u32 ((c : Int) / 16) (t : Int) = (x : Int)) (e3 : bits .and .u32 (x : Int) 15 = (r' : Int)) (e4 : bits .xor .u32 ((x : Int) / 16) (t' : Int) = (x' : Int)) :
   Calls Tryd.prog 93 #[.int .u32 c] w fun e w' => e = .returned (.int .u32 x') ∧ w = w' := by
  go_enter Tryd.func93, Tryd.ntmps93
  go_wp2
  go_ret
  exact ⟨rfl, rfl⟩
theorem overByte_any (c : Nat) (w : World) (hc : c < 4294967296) (hT : Hid (Tab w)) :
   Calls Tryd.prog 93 #[.int .u32 c] w fun e w' => e = .returned (.int .u32 (Sm.it 8 c : Nat)) ∧ w = w' := by
  have hx := Sm.it_lt 4 hc
  rw [Sm.eight]
  exact overByte_in c _ _ _ _ _ _ w (hT.out.2 (c % 16) (by omega)) (hT.out.2 (Sm.it 4 c % 16) (by omega)) hc hx (by omega) (by omega) (and15 c hc) (four_walk c hc) (and15 _ hx) (four_walk _ hx)
theorem xor_nat (a b : Nat) (ha : a < 4294967296) (hb : b < 4294967296) : bits .xor .u32 (a : Int) (b : Int) = ((a ^^^ b : Nat) : Int) := u32_xor_nat a b ha hb
theorem ones_xor (a : Nat) (ha : a < 4294967296) : bits .xor .u32 IntKind.u32.max (a : Int) = ((4294967295 ^^^ a : Nat) : Int) := u32_xor_nat 4294967295 a (by omega) ha
theorem take_snoc (s : ByteArray) (k : Nat) (h : k < s.size) : s.data.toList.take (k + 1) = s.data.toList.take k ++ [s[k]] := by
  rw [List.take_succ_eq_append_getElem (by simpa using h)]; rfl
set_option maxRecDepth 100000 in
set_option maxHeartbeats 1000000 in
theorem add_in (c C R : Nat) (s : ByteArray) (w : World) (hs : s.size ≤ 140737488351232) (hT : Hid (Tab w)) (hC : C < 4294967296)
    (e1 : bits .xor .u32 IntKind.u32.max (c : Int) = (C : Int)) (e2 : Hid (bits .xor .u32 IntKind.u32.max ((Sm.crc C s.data.toList : Nat) : Int) = (R : Int))) :
   Calls Tryd.prog 92 #[.int .u32 c, .string s] w fun e w' => e = .returned (.int .u32 R) ∧ w = w' := by
  go_enter Tryd.func92, Tryd.ntmps92
  go_wp2
  go_loop [0, 10] (fun n x => ∃ (k r : Nat), k ≤ s.size ∧ Hid (r = Sm.crc C (s.data.toList.take k)) ∧ n = .int .u32 r ∧ x = .int .i64 k) (fun _ x => s.size - (intOf x).toNat)
  case atStart => exact ⟨0, C, by omega, Lib.hid rfl, rfl, rfl⟩
  case round =>
    obtain ⟨k, r, hk, HR, rfl, rfl⟩ := hrel
    have hr : r < 4294967296 := by rw [HR.out]; exact Sm.crc_lt hC _
    by_cases hlt : k < s.size
    · have hb := (s[k]).toNat_lt
      have hx : r ^^^ (s[k]).toNat < 4294967296 := Sm.xor_lt hr (by omega)
      have e3 := u32_xor_nat r (s[k]).toNat hr (by omega)
      have HS : Hid (Sm.it 8 (r ^^^ (s[k]).toNat) = Sm.crc C (s.data.toList.take (k + 1))) := Lib.hid (by rw [take_snoc s k hlt, Sm.crc_snoc, ← HR.out])
      go_wp2_with (go_at_call 93; refine (overByte_any _ _ hx hT).mono ?_; rintro e w' ⟨rfl, rfl⟩)
      go_round
      case rel => exact ⟨k + 1, _, by omega, HS, rfl, by go_num⟩
      case measure => simp [intOf]; omega
    · obtain rfl : k = s.size := by omega
      have e4 : bits .xor .u32 IntKind.u32.max ((r : Nat) : Int) = (R : Int) := by rw [HR.out, List.take_of_length_le (by simp)]; exact e2.out
      go_wp2
      go_ret
      exact ⟨rfl, rfl⟩
theorem add_any (c : Nat) (s : ByteArray) (w : World) (hc : c < 4294967296) (hs : s.size ≤ 140737488351232) (hT : Hid (Tab w)) :
   Calls Tryd.prog 92 #[.int .u32 c, .string s] w fun e w' => e = .returned (.int .u32 (Sm.add c s.data.toList : Nat)) ∧ w = w' :=
  add_in c (4294967295 ^^^ c) (Sm.add c s.data.toList) s w hs hT (Sm.xor_lt (by omega) hc) (ones_xor c hc) (Lib.hid (ones_xor _ (Sm.crc_lt (Sm.xor_lt (by omega) hc) _)))
set_option maxRecDepth 100000 in
set_option maxHeartbeats 1000000 in
theorem of_any (s : ByteArray) (w : World) (hs : s.size ≤ 140737488351232) (hT : Hid (Tab w)) :
   Calls Tryd.prog 85 #[.string s] w fun e w' => e = .returned (.int .u32 (Sm.add 0 s.data.toList : Nat)) ∧ w = w' := by
  go_enter Tryd.func85, Tryd.ntmps85
  go_wp2_with (go_at_call 92; refine (add_any 0 _ _ (by omega) hs hT).mono ?_; rintro e w' ⟨rfl, rfl⟩)
  go_ret
  exact ⟨rfl, rfl⟩
theorem or_rot (c : Nat) (hc : c < 4294967296) : bits .or .u32 ((c : Int) / 32768) ((c : Int) * 131072 % 4294967296) = (Sm.rot c : Nat) := by
  rw [show (c : Int) / 32768 = ((c / 32768 : Nat) : Int) from by omega, show (c : Int) * 131072 % 4294967296 = ((c % 32768 * 131072 : Nat) : Int) from by omega,
    u32_or_nat _ _ (by omega) (by omega), Nat.or_comm, nat_join 17 _ _ (by omega) (by omega), Nat.add_comm]
  rfl
set_option maxRecDepth 100000 in
set_option maxHeartbeats 1000000 in
theorem mask_any (c : Nat) (w : World) (hc : c < 4294967296) :
   Calls Tryd.prog 84 #[.int .u32 c] w fun e w' => e = .returned (.int .u32 (Sm.mask c : Nat)) ∧ w = w' := by
  go_enter Tryd.func84, Tryd.ntmps84
  go_wp2
  go_ret
  refine ⟨ret_u32 ?_, rfl⟩
  rw [or_rot c hc]
  show _ = (((Sm.rot c + 2726488792) % 4294967296 : Nat) : Int)
  omega
theorem beq_nat (a b : Nat) : ((a : Int) == (b : Int)) = (a == b) := by
  by_cases h : a = b
  · subst h; simp
  · rw [beq_eq_false_iff_ne.2 h, beq_eq_false_iff_ne.2 (by omega)]
set_option maxRecDepth 100000 in
set_option maxHeartbeats 1000000 in
theorem same_any (s : ByteArray) (m : Nat) (w : World) (hs : s.size ≤ 140737488351232) (hT : Hid (Tab w)) :
   Calls Tryd.prog 77 #[.string s, .int .u32 m] w fun e w' => e = .returned (.bool (Sm.mask (Sm.add 0 s.data.toList) == m)) ∧ w = w' := by
  have hA := Sm.add_lt (c := 0) (by omega) s.data.toList
  go_enter Tryd.func77, Tryd.ntmps77
  go_wp2_with (first | (go_at_call 85; refine (of_any _ _ hs hT).mono ?_; rintro e w' ⟨rfl, rfl⟩) | (go_at_call 84; refine (mask_any _ _ hA).mono ?_; rintro e w' ⟨rfl, rfl⟩))
  go_ret
  exact ⟨congrArg (fun b => Ending.returned (.bool b)) (beq_nat _ _), rfl⟩
end Go.Proofs.YtpcpbdcdapmlnaaDoor
