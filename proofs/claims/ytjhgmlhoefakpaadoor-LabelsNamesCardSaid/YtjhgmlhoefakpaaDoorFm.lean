/- The contract of strconv.FormatInt at base 16, of runes' numbers. -/
import Derived.Test.YtjhgmlhoefakpaaDoorCb
namespace Go.Proofs.YtjhgmlhoefakpaaDoor
open Go.RowKit
set_option maxRecDepth 100000
set_option maxHeartbeats 1000000
theorem pow2_any (w : World) : Calls Tryd.prog 108 #[.int .i64 16] w fun e w' => e = .returned (.bool true) ∧ w = w' := by
  go_enter Tryd.func108, Tryd.ntmps108
  go_wp2
  go_ret
  exact ⟨by first | rfl | decide, rfl⟩
theorem tz64_any (w : World) (hT : Tab w) : Calls Tryd.prog 115 #[.int .u64 16] w fun e w' => e = .returned (.int .i64 4) ∧ w = w' := by
  have hc := hT.bru
  have h0 : IntKind.u64.wrap (-16) = 18446744073709551600 := by decide
  have h1 : bits BinOp.and IntKind.u64 16 18446744073709551600 = 16 := by decide
  have h2 : IntKind.u64.wrap (16 * 285870213051353865) / 288230376151711744 = 15 := by decide
  have h3 : IntKind.u64.wrap 4573923408821661840 / 288230376151711744 = 15 := by decide
  clear hT
  go_enter Tryd.func115, Tryd.ntmps115
  go_wp2
  go_ret
  exact ⟨rfl, rfl⟩
theorem tz_any (w : World) (hT : Tab w) : Calls Tryd.prog 109 #[.int .u64 16] w fun e w' => e = .returned (.int .i64 4) ∧ w = w' := by
  have H := Lib.hid (tz64_any w hT)
  clear hT
  go_enter Tryd.func109, Tryd.ntmps109
  go_wp2_with (go_at_call 115; refine H.out.mono ?_; rintro e w' ⟨rfl, rfl⟩)
  go_ret
  exact ⟨rfl, rfl⟩
theorem and15 (u : Nat) (h : u ≤ 1114111) : bits .and .u64 (u : Int) 15 = ((u % 16 : Nat) : Int) := by
  have e : ((15 : Int)) = ((15 : Nat) : Int) := rfl
  rw [e, u64_and_nat _ _ (by omega) (by omega)]
  congr 1
  exact Nat.and_two_pow_sub_one_eq_mod u 4
theorem dig_at (d : Nat) (h : d < 16) (h2 : d < ({ data := #[48, 49, 50, 51, 52, 53, 54, 55, 56, 57, 97, 98, 99, 100, 101, 102, 103, 104, 105, 106, 107, 108, 109, 110, 111, 112, 113, 114, 115, 116, 117, 118, 119, 120, 121, 122] } : ByteArray).size) : ({ data := #[48, 49, 50, 51, 52, 53, 54, 55, 56, 57, 97, 98, 99, 100, 101, 102, 103, 104, 105, 106, 107, 108, 109, 110, 111, 112, 113, 114, 115, 116, 117, 118, 119, 120, 121, 122] } : ByteArray)[d]'h2 = dg d := by
  have : ∀ d : Fin 16, ∀ h2, ({ data := #[48, 49, 50, 51, 52, 53, 54, 55, 56, 57, 97, 98, 99, 100, 101, 102, 103, 104, 105, 106, 107, 108, 109, 110, 111, 112, 113, 114, 115, 116, 117, 118, 119, 120, 121, 122] } : ByteArray)[d.val]'h2 = dg d.val := by decide
  exact this ⟨d, h⟩ h2
/-- The array that digits are written into, from its end. -/
def Ar (W : World) (B i : Nat) (ds : List UInt8) : Prop := (∀ q, q < 65 → (∃ x, W.cell? ⟨B, q, none⟩ = some x) ∧ W.frozen? ⟨B, q, none⟩ = false) ∧ ∀ q (h : q < ds.length), W.cell? ⟨B, i + q, none⟩ = some (.int .u8 ds[q].toNat)
theorem Ar.new (w : World) : Ar (w.alloc (.cells Tryd.zeroCells127 127)) w.heap.size 65 [] := by
  have hz : Tryd.zeroCells127.size = 65 := by kernel_rfl
  refine ⟨fun q hq => ⟨?_, ?_⟩, fun q h => by simp at h⟩
  · rw [World.cell?_alloc_mark]
    exact ⟨_, Array.getElem?_eq_getElem (by rw [hz]; exact hq)⟩
  · simp only [World.frozen?, heap_alloc_new]; first | done | simp
theorem Ar.put {W : World} {B i : Nat} {ds : List UInt8} (h : Ar W B (i + 1) ds) (hi : i < 65) (y : UInt8) : Ar (W.setCell ⟨B, i, none⟩ (.int .u8 y.toNat)) B i (y :: ds) := by
  refine ⟨fun q hq => ⟨?_, by rw [World.frozen?_setCell]; exact (h.1 q hq).2⟩, fun q hq => ?_⟩
  · obtain ⟨x, hx⟩ := (h.1 q hq).1
    by_cases e : q = i
    · subst e; exact ⟨_, World.cell?_setCell_same _ _ _ hx⟩
    · rw [World.cell?_setCell_other _ _ _ _ (by simp; try omega)]; exact ⟨x, hx⟩
  · rcases q with _ | q
    · obtain ⟨x, hx⟩ := (h.1 i hi).1
      exact World.cell?_setCell_same _ _ _ hx
    · rw [World.cell?_setCell_other _ _ _ _ (by simp)]
      have := h.2 q (by simpa using hq)
      rw [show i + 1 + q = i + (q + 1) by omega] at this
      simpa using this
theorem digF_succ (k n : Nat) : digF (k + 1) n = if n < 16 then [n] else digF k (n / 16) ++ [n % 16] := rfl
theorem digF_small (k n : Nat) (h : n < 16) : digF k n = [n] := by
  cases k with
  | zero => simp [digF]; omega
  | succ k => rw [digF_succ, if_pos h]
theorem digF_big {k n j : Nat} (hn : 16 ≤ n) (hj : n * 16 ^ j ≤ 1114111) (hk : k + j = 5) : ∃ k', k = k' + 1 ∧ digF k n = digF k' (n / 16) ++ [n % 16] := by
  rcases k with _ | k
  · obtain rfl : j = 5 := by omega
    omega
  · exact ⟨k, rfl, by rw [digF_succ, if_neg (by omega)]⟩
theorem slice65 (W : World) (B M : Nat) (h : M < 65) : (Instr.sliceAt 127 (.pointer (some ⟨B, 0, none⟩)) (some (.int .i64 (M : Int))) none none).run Tryd.prog W = .ok (.slice (some ⟨B, M, none⟩) (65 - M) (65 - M)) W := by
  have hA : Tryd.prog.arrayLen 127 = 65 := by kernel_rfl
  have hE : Tryd.prog.elem 127 = 5 := by kernel_rfl
  rw [run_sliceAt_array_l W 127 ⟨B, 0, none⟩ (by rw [hA, hE]; exact Tryd.underlying127) .i64 (M : Int) (by omega) (by rw [hA]; omega), hE, hA, Tryd.sizeOf5]
  simp only [Result.andThen, slicedAt, Int.toNat_natCast]
  rw [if_neg (by omega), Go.WideShapes.add_plain]
  simp
theorem fbits_any (c : Nat) (hc : c ≤ 1114111) (w : World) (hT : Tab w) : Calls Tryd.prog 92 #[.slice none 0 0, .int .u64 c, .int .i64 16, .bool false, .bool false] w fun e w' => e = .returned (.tuple #[.slice none 0 0, .string (bs (hexs c))]) ∧ Below w.heap.size w w' := by
  have HP := Lib.hid (fun W => pow2_any W)
  have HT := Lib.hid hT
  clear hT
  go_enter Tryd.func92, Tryd.ntmps92
  go_wp2_with (first | (go_at_call 108; refine (HP.out _).mono ?_; rintro e w' ⟨rfl, rfl⟩) | (go_at_call 109; refine (tz_any _ (HT.out.below (((Below.refl w.heap.size w).alloc (Nat.le_refl _) _)) (Nat.le_refl _))).mono ?_; rintro e w' ⟨rfl, rfl⟩))
  go_loopw [1, 13] (fun u i wr => ∃ (n j k m : Nat) (ds : List UInt8), u = .int .u64 (n : Int) ∧ i = .int .i64 (m : Int) ∧ m + j = 65 ∧ n ≤ 1114111 ∧ Hid (n * 16 ^ j ≤ 1114111 ∧ k + j = 5 ∧ ds.length = j ∧ hexs c = (digF k n).map dg ++ ds) ∧ Hid (Ar wr w.heap.size m ds) ∧ Hid (Below w.heap.size w wr)) (fun u _ _ => (intOf u).toNat)
  case atStart => exact ⟨c, 0, 5, 65, [], rfl, rfl, rfl, hc, Lib.hid ⟨by simpa using hc, rfl, rfl, by rw [List.append_nil]; rfl⟩, Lib.hid (Ar.new w), Lib.hid ((Below.refl w.heap.size w).alloc (Nat.le_refl _) _)⟩
  case round =>
    obtain ⟨n, j, k, m, ds, rfl, rfl, hm, hn, HE, HA, HB⟩ := hrel
    have hjl : j ≤ 5 := by have := HE.out.2.1; omega
    obtain ⟨M, hM⟩ : ∃ M, m = M + 1 := ⟨m - 1, by omega⟩
    have hMz : (m : Int) - 1 = (M : Int) := by omega
    have hM65 : M < 65 := by omega
    obtain ⟨⟨x, hx⟩, hfz⟩ := HA.out.1 M hM65
    by_cases hlt : n < 16
    · have hltz : decide ((16 : Int) ≤ (n : Int)) = false := decide_eq_false (by omega)
      have hsz : n < ({ data := #[48, 49, 50, 51, 52, 53, 54, 55, 56, 57, 97, 98, 99, 100, 101, 102, 103, 104, 105, 106, 107, 108, 109, 110, 111, 112, 113, 114, 115, 116, 117, 118, 119, 120, 121, 122] } : ByteArray).size := by show n < 36; omega
      obtain ⟨y, hy⟩ : ∃ y, ({ data := #[48, 49, 50, 51, 52, 53, 54, 55, 56, 57, 97, 98, 99, 100, 101, 102, 103, 104, 105, 106, 107, 108, 109, 110, 111, 112, 113, 114, 115, 116, 117, 118, 119, 120, 121, 122] } : ByteArray)[n]'hsz = y := ⟨_, rfl⟩
      have HY := Lib.hid (show y = dg n by rw [← hy]; exact dig_at n hlt hsz)
      have HA2 : Hid (Ar (wr.setCell ⟨w.heap.size, M, none⟩ (.int .u8 y.toNat)) w.heap.size M (y :: ds)) := Lib.hid (Ar.put (by rw [← hM]; exact HA.out) hM65 y)
      have HL : Hid ((y :: ds).length = 65 - M) := Lib.hid (by rw [List.length_cons, HE.out.2.2.1]; omega)
      have hcv : (convert 26 9 (.slice (some ⟨w.heap.size, M, none⟩) (65 - M) (65 - M))).run Tryd.prog (wr.setCell ⟨w.heap.size, M, none⟩ (.int .u8 y.toNat)) = .ok (.string ⟨(y :: ds).toArray⟩) (wr.setCell ⟨w.heap.size, M, none⟩ (.int .u8 y.toNat)) := by
        have h1 := run_convert_bytes_back (P := Tryd.prog) (wr.setCell ⟨w.heap.size, M, none⟩ (.int .u8 y.toNat)) 26 9 5 ⟨w.heap.size, M, none⟩ (65 - M) (y :: ds) Tryd.underlying26 Tryd.underlying5 Tryd.underlying9 (fun q hq => by
          rw [Go.WideShapes.add_plain]
          exact HA2.out.2 q hq)
        rw [HL.out] at h1
        exact h1
      have HR : Hid ((⟨(y :: ds).toArray⟩ : ByteArray) = bs (hexs c)) := Lib.hid (by
        rw [HE.out.2.2.2, digF_small k n hlt, HY.out]; rfl)
      have HM := Lib.hid hM
      have HH := Lib.hid hm
      have hsl := slice65 (wr.setCell ⟨w.heap.size, M, none⟩ (.int .u8 y.toNat)) w.heap.size M hM65
      go_wp2
      go_ret2
      refine ⟨?_, HB.out.setCell (p := ⟨w.heap.size, M, none⟩) (Nat.le_refl _) _⟩
      rw [← HR.out]
      rfl
    · have hltz : decide ((16 : Int) ≤ (n : Int)) = true := decide_eq_true (by omega)
      obtain ⟨d, hd⟩ : ∃ d, n % 16 = d := ⟨_, rfl⟩
      have hd16 : d < 16 := by omega
      have hand := and15 n hn
      rw [hd] at hand
      obtain ⟨n2, hn2⟩ : ∃ n2, n / 16 = n2 := ⟨_, rfl⟩
      have hdiv : (n : Int) / 16 = (n2 : Int) := by omega
      have hsz : d < ({ data := #[48, 49, 50, 51, 52, 53, 54, 55, 56, 57, 97, 98, 99, 100, 101, 102, 103, 104, 105, 106, 107, 108, 109, 110, 111, 112, 113, 114, 115, 116, 117, 118, 119, 120, 121, 122] } : ByteArray).size := by show d < 36; omega
      obtain ⟨y, hy⟩ : ∃ y, ({ data := #[48, 49, 50, 51, 52, 53, 54, 55, 56, 57, 97, 98, 99, 100, 101, 102, 103, 104, 105, 106, 107, 108, 109, 110, 111, 112, 113, 114, 115, 116, 117, 118, 119, 120, 121, 122] } : ByteArray)[d]'hsz = y := ⟨_, rfl⟩
      have HY := Lib.hid (show y = dg d by rw [← hy]; exact dig_at d hd16 hsz)
      have HA2 : Hid (Ar (wr.setCell ⟨w.heap.size, M, none⟩ (.int .u8 y.toNat)) w.heap.size M (y :: ds)) := Lib.hid (Ar.put (by rw [← hM]; exact HA.out) hM65 y)
      have HE2 : Hid (∃ k', n2 * 16 ^ (j + 1) ≤ 1114111 ∧ k' + (j + 1) = 5 ∧ (y :: ds).length = j + 1 ∧ hexs c = (digF k' n2).map dg ++ (y :: ds)) := Lib.hid (by
        obtain ⟨e1, e2, e3, e4⟩ := HE.out
        obtain ⟨k', rfl, hk'⟩ := digF_big (by omega) e1 e2
        refine ⟨k', ?_, by omega, by rw [List.length_cons, e3], ?_⟩
        · have h1 : n2 * 16 ≤ n := by omega
          have h2 : n2 * 16 * 16 ^ j ≤ n * 16 ^ j := Nat.mul_le_mul_right _ h1
          rw [Nat.pow_succ, Nat.mul_comm (16 ^ j) 16, ← Nat.mul_assoc]
          omega
        · rw [e4, hk', hn2, hd, HY.out]
          simp)
      have HNN := Lib.hid (show n2 ≤ 1114111 ∧ n2 < n from ⟨by omega, by omega⟩)
      have HM := Lib.hid hM
      clear hn2 hd hM
      go_wp2
      go_roundw
      case rel =>
        obtain ⟨k', e1, e2, e3, e4⟩ := HE2.out
        exact ⟨n2, j + 1, k', M, y :: ds, by first | rfl | simp, by first | rfl | simp, by have := HM.out; omega, HNN.out.1, Lib.hid ⟨e1, e2, e3, e4⟩, HA2, Lib.hid (HB.out.setCell (p := ⟨w.heap.size, M, none⟩) (Nat.le_refl _) _)⟩
      case measure =>
        have := HNN.out.2
        (try simp [intOf])
        (try omega)
theorem fint_any (c : Nat) (hc : c ≤ 1114111) (w : World) (hT : Tab w) : Calls Tryd.prog 63 #[.int .i64 c, .int .i64 16] w fun e w' => e = .returned (.string (bs (hexs c))) ∧ Below w.heap.size w w' := by
  have H : Hid (Calls Tryd.prog 80 #[.int .i64 c, .int .i64 16] w fun e w' => e = .returned (.string (bs (hexs c))) ∧ Below w.heap.size w w') := Lib.hid (by
    have H := Lib.hid (fbits_any c hc w hT)
    clear hT
    go_enter Tryd.func80, Tryd.ntmps80
    go_wp2_with (go_at_call 92; refine H.out.mono ?_; rintro e w' ⟨rfl, hb⟩)
    go_ret
    exact ⟨rfl, hb⟩)
  clear hT
  go_enter Tryd.func63, Tryd.ntmps63
  go_wp2_with (go_at_call 80; refine H.out.mono ?_; rintro e w' ⟨rfl, hb⟩)
  go_ret
  exact ⟨rfl, hb⟩
end Go.Proofs.YtjhgmlhoefakpaaDoor
