/- The contracts of the document's writing: Varint, Fixed, Text, Zig, Zag, over the seat's own program. -/
import Derived.Test.YtpcpbdcdapmlnaaDoorPu
import Derived.Test.YtpcpbdcdapmlnaaDoorMa
import Derived.Deep.RegionWith
import Derived.Deep.RegionHeld3
import Derived.Handy
namespace Go.Proofs.YtpcpbdcdapmlnaaDoor
open Go.RowKit
theorem bs_append (a b : List UInt8) : bs a ++ bs b = bs (a ++ b) := by
  apply ByteArray.ext; simp [bs]
/-- string(b) of one byte, wherever it lies. -/
theorem run_string_one (c : UInt8) (x : Int) (hx : x = (c.toNat : Int)) (W : World) (g : Nat) (h : W.cell? ⟨g, 0, none⟩ = some (.int .u8 x)) :
    Sem.run Tryd.prog (convert 65 9 (.slice (some ⟨g, 0, none⟩) 1 1)) W = .ok (.string (bs [c])) W := by
  refine run_convert_bytes_back W 65 9 5 ⟨g, 0, none⟩ 1 [c] Tryd.underlying65 Tryd.underlying5 Tryd.underlying9 (fun j hj => ?_)
  have : j = 0 := by simpa using hj
  subst this
  have hadd : (⟨g, 0, none⟩ : Addr).add 0 = ⟨g, 0, none⟩ := by unfold Addr.add; simp
  rw [hadd, h, hx]
  rfl
theorem finA {w w1 : World} {o : Obj} (hb : Below (w.alloc o).drew.heap.size (w.alloc o).drew w1) : Below w.heap.size w w1 :=
  (((Below.refl w.heap.size w).alloc (Nat.le_refl _) o).drew).trans (hb.mono (by simp))
theorem finC {w w1 : World} {o : Obj} (hb : Below w.drew.heap.size w.drew w1) : Below w.heap.size w (w1.alloc o) :=
  Below.alloc (a := w) (w := w1) ⟨hb.os, hb.tape, hb.output, hb.size, hb.block⟩ hb.size o
theorem ret_str {a b : ByteArray} (h : a = b) : Ending.returned (.string a) = .returned (.string b) := by rw [h]
set_option maxRecDepth 100000 in
set_option maxHeartbeats 1000000 in
theorem rvint_small (n : Nat) (w : World) (hn : n < 128) :
   Calls Tryd.prog 57 #[.int .u64 n] w fun e w' => e = .returned (.string (bs (Bt.vint n))) ∧ Below w.heap.size w w' := by
  have HV := Lib.hid (Bt.vint_small hn)
  have hcv := run_string_one (UInt8.ofNat n) n (Bt.ofNat_toNat (by omega)).symm
  go_enter Tryd.func57, Tryd.ntmps57
  go_wp2
  go_ret
  exact ⟨ret_str (by rw [HV.out]), (Below.refl _ _).alloc (Nat.le_refl _) _⟩
set_option maxRecDepth 100000 in
set_option maxHeartbeats 1000000 in
theorem rvint_any (k : Nat) : ∀ (n : Nat) (w : World), n < 128 ^ (k + 1) → n ≤ 18446744073709551615 →
   Calls Tryd.prog 57 #[.int .u64 n] w fun e w' => e = .returned (.string (bs (Bt.vint n))) ∧ Below w.heap.size w w' := by
  induction k with
  | zero =>
    intro n w hk hn
    exact rvint_small n w (by simpa using hk)
  | succ k ih =>
    intro n w hk hn
    have IH := Lib.hid ih
    clear ih
    by_cases h : n < 128
    · exact rvint_small n w h
    · have hg : 128 ≤ n := by omega
      have HV := Lib.hid (Bt.vint_big hg)
      have HK : Hid (n / 128 < 128 ^ (k + 1)) := by
        refine Lib.hid ?_
        rw [Nat.div_lt_iff_lt_mul (by omega)]; rw [Nat.pow_succ] at hk; exact hk
      clear hk
      have e1 : (n : Int).tmod 128 = ((n % 128 : Nat) : Int) := by rw [Int.tmod_eq_emod_of_nonneg (by omega)]; omega
      have e5 : (n : Int) / 128 = ((n / 128 : Nat) : Int) := by omega
      have hq : n / 128 ≤ 144115188075855871 := by omega
      have hm : n % 128 ≤ 127 := by omega
      generalize n % 128 = m at *
      generalize n / 128 = q at *
      have e2 : IntKind.u8.wrap (m : Int) = (m : Int) := by rw [Bt.wrap_u8]; omega
      have e3 : IntKind.u8.wrap ((m : Int) + 128) = (m : Int) + 128 := by rw [Bt.wrap_u8]; omega
      have e6 : IntKind.u64.wrap (q : Int) = (q : Int) := by rw [IntKind.wrap_u64]; omega
      have hcv := run_string_one (UInt8.ofNat (m + 128)) ((m : Int) + 128) (by rw [Bt.ofNat_toNat (by omega)]; omega)
      have hz1 : (bs [UInt8.ofNat (m + 128)]).size = 1 := rfl
      have hz2 : (bs (Bt.vint q)).size ≤ 10 := by rw [bs_size, Bt.vint_length]; exact Bt.vlen_u64 (by omega)
      have HE : Hid (bs [UInt8.ofNat (m + 128)] ++ bs (Bt.vint q) = bs (Bt.vint n)) := by rw [bs_append, HV.out]; rfl
      have C := fun w => IH.out q w HK.out (by omega)
      generalize bs [UInt8.ofNat (m + 128)] = u at *
      generalize bs (Bt.vint q) = t at *
      have D := Lib.hid C
      clear C HV
      go_enter Tryd.func57, Tryd.ntmps57
      go_wp2_with fail
      go_region_with (first | (go_at_call 57; refine (D.out _).mono ?_; rintro e w1 ⟨rfl, hb⟩; have hc := hb.cell (p := ⟨w.heap.size, 0, none⟩)))
      all_goals
        go_wp2
        go_ret
        first
          | exact ⟨ret_str HE.out, finA hb⟩
          | exact ⟨ret_str HE.out, finC hb⟩
theorem rvint (n : Nat) (w : World) (hn : n ≤ 18446744073709551615) :
   Calls Tryd.prog 57 #[.int .u64 n] w fun e w' => e = .returned (.string (bs (Bt.vint n))) ∧ Below w.heap.size w w' :=
  rvint_any 9 n w (by have e : (128 : Nat) ^ 10 = 1180591620717411303424 := by decide
                      omega) hn
end Go.Proofs.YtpcpbdcdapmlnaaDoor
