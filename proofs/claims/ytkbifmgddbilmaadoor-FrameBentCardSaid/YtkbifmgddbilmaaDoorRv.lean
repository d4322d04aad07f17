/- The contracts of the document's writing: Varint, Fixed, Text, Zig, Zag, over the seat's own program. -/
import Derived.Test.YtkbifmgddbilmaaDoorPu
import Derived.Test.YtkbifmgddbilmaaDoorMb
import Derived.Deep.RegionWith
import Derived.Deep.RegionHeld3
import Derived.Handy
namespace Go.Proofs.YtkbifmgddbilmaaDoor
open Go.RowKit
theorem bs_append (a b : List UInt8) : bs a ++ bs b = bs (a ++ b) := by
  apply ByteArray.ext; simp [bs]
/-- string(b) of one byte, wherever it lies. -/
theorem run_string_one (c : UInt8) (x : Int) (hx : x = (c.toNat : Int)) (W : World) (g : Nat) (h : W.cell? ⟨g, 0, none⟩ = some (.int .u8 x)) :
    Sem.run Tryd.prog (convert 46 9 (.slice (some ⟨g, 0, none⟩) 1 1)) W = .ok (.string (bs [c])) W := by
  refine run_convert_bytes_back W 46 9 5 ⟨g, 0, none⟩ 1 [c] Tryd.underlying46 Tryd.underlying5 Tryd.underlying9 (fun j hj => ?_)
  have : j = 0 := by simpa using hj
  subst this
  have hadd : (⟨g, 0, none⟩ : Addr).add 0 = ⟨g, 0, none⟩ := by unfold Addr.add; simp
  rw [hadd, h, hx]
  rfl
theorem finA {w w1 : World} {o : Obj} (hb : Below (w.alloc o).drew.heap.size (w.alloc o).drew w1) : Below w.heap.size w w1 :=
  (((Below.refl w.heap.size w).alloc (Nat.le_refl _) o).drew).trans (hb.mono (by simp))
theorem ret_str {a b : ByteArray} (h : a = b) : Ending.returned (.string a) = .returned (.string b) := by rw [h]
set_option maxRecDepth 100000 in
set_option maxHeartbeats 1000000 in
theorem rfixed_any (n z : Nat) (w : World) (hn : n ≤ 18446744073709551615) (hz : z ≤ 8) :
   Calls Tryd.prog 39 #[.int .u64 n, .int .i64 z] w fun e w' => e = .returned (.string (bs (Bt.fx z n))) ∧ Below w.heap.size w w' := by
  go_enter Tryd.func39, Tryd.ntmps39
  go_wp2
  go_loopw [0, 5, 6] (fun x t i wr => ∃ (m k : Nat) (pre : List UInt8), k ≤ z ∧ i = .int .i64 k ∧ x = .int .u64 m ∧ m ≤ 18446744073709551615 ∧ t = .string (bs pre) ∧ Hid ((bs pre).size = k) ∧ Hid (pre ++ Bt.fx (z - k) m = Bt.fx z n) ∧ Hid (Below w.heap.size w wr)) (fun _ _ i _ => z - (intOf i).toNat)
  case atStart => exact ⟨n, 0, [], by omega, rfl, rfl, by omega, rfl, Lib.hid rfl, Lib.hid rfl, Lib.hid (Below.refl _ _)⟩
  case round =>
    obtain ⟨m, k, pre, hk, rfl, rfl, hm, rfl, HS, HP, HB⟩ := hrel
    by_cases hlt : k < z
    · have e1 : (m : Int) % 256 = ((m % 256 : Nat) : Int) := by omega
      have HM : Hid (UInt8.ofNat (m % 256) = UInt8.ofNat m) := Lib.hid (Bt.ofNat_mod m)
      have hm2 : m % 256 ≤ 255 := by omega
      generalize m % 256 = r at *
      have e2 : IntKind.u8.wrap (r : Int) = (r : Int) := by rw [Bt.wrap_u8]; omega
      have hcv := run_string_one (UInt8.ofNat r) (r : Int) (Bt.ofNat_toNat (by omega)).symm
      have HA : Hid (bs pre ++ bs [UInt8.ofNat r] = bs (pre ++ [UInt8.ofNat m])) := by rw [bs_append, HM.out]; exact rfl
      have hs1 : (bs pre).size ≤ 8 := by have := HS.out; omega
      have hs2 : (bs [UInt8.ofNat r]).size = 1 := rfl
      have hs3 : (bs (pre ++ [UInt8.ofNat m])).size = k + 1 := by
        have := HS.out
        rw [bs_size] at this ⊢
        simp; omega
      have HS3 := Lib.hid hs3
      clear hs3
      generalize bs [UInt8.ofNat r] = u at *
      go_wp2
      go_roundw
      case rel =>
        refine ⟨m / 256, k + 1, pre ++ [UInt8.ofNat m], by omega, by go_num, by go_num, by omega, ?_, HS3, Lib.hid ?_, Lib.hid ?_⟩
        · rw [HA.out]
        · rw [← HP.out, show z - k = (z - (k + 1)) + 1 from by omega, Bt.fx]; simp
        · exact HB.out.alloc HB.out.size _
      case measure => simp [intOf]; omega
    · obtain rfl : k = z := by omega
      go_wp2
      go_ret
      refine ⟨ret_str ?_, HB.out⟩
      rw [← HP.out, Nat.sub_self, Bt.fx, List.append_nil]
end Go.Proofs.YtkbifmgddbilmaaDoor
