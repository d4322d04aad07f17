/- Package keys: the contract of 'awake': true, and nothing that was there has turned. -/
import Derived.Test.YtbiokdphjildcaaKe
namespace Go.Proofs.Ytbiokdphjildcaa
open Go Go.RowKit
set_option maxRecDepth 100000
set_option maxHeartbeats 2000000
theorem read_at (l r1 r2 : List UInt8) (b : Bool) (h : rd l = (r1, r2, b)) (hl : l.length ≤ 1000) (w : World) :
    Calls Try.prog 16 #[.string (bs l)] w fun e w' => e = .returned (.tuple #[.string (bs r1), .string (bs r2), .bool b]) ∧ Below w.heap.size w w' := by
  have := read_any (bs l) (by rw [bs_size]; omega) w
  rw [bs_data, h] at this
  exact this
theorem end_at (l r : List UInt8) (h : endL l = r) (w : World) : Calls Try.prog 14 #[.string (bs l)] w fun e w' => e = .returned (.string (bs r)) ∧ Below w.heap.size w w' := by
  have := end_any (bs l) w
  rw [bs_data, h] at this
  exact this
theorem name_at (l : List UInt8) (b : Bool) (h : nameB l = b) (w : World) : Calls Try.prog 11 #[.string (bs l)] w fun e w' => e = .returned (.bool b) ∧ w = w' := by
  have := name_any (bs l) w
  rw [bs_data, h] at this
  exact this
theorem key_at (l : List UInt8) (b : Bool) (h : keyB l = b) (w : World) : Calls Try.prog 12 #[.string (bs l)] w fun e w' => e = .returned (.bool b) ∧ w = w' := by
  have := key_any (bs l) w
  rw [bs_data, h] at this
  exact this
theorem prefix_at (l : List UInt8) (b : Bool) (h : prefB l = b) (w : World) : Calls Try.prog 13 #[.string (bs l)] w fun e w' => e = .returned (.bool b) ∧ w = w' := by
  have := prefix_any (bs l) w
  rw [bs_data, h] at this
  exact this
def cluL (t c : List UInt8) : List UInt8 := if (nameB t && nameB c) = true then 99 :: 47 :: (t ++ 47 :: c) else []
def tenL (t : List UInt8) : List UInt8 := if nameB t = true then 116 :: 47 :: t else []
def clsL (t : List UInt8) : List UInt8 := if nameB t = true then 99 :: 47 :: (t ++ [47]) else []
theorem cluB_eq (t c : ByteArray) : cluB t c = bs (cluL t.data.toList c.data.toList) := by
  apply bs_ext
  unfold cluB cluL
  split
  · simp
  · rfl
theorem tenB_eq (t : ByteArray) : tenB t = bs (tenL t.data.toList) := by
  apply bs_ext
  unfold tenB tenL
  split
  · simp
  · rfl
theorem clsB_eq (t : ByteArray) : clsB t = bs (clsL t.data.toList) := by
  apply bs_ext
  unfold clsB clsL
  split
  · simp
  · rfl
theorem cluster_at (t c r : List UInt8) (h : cluL t c = r) (w : World) : Calls Try.prog 15 #[.string (bs t), .string (bs c)] w fun e w' => e = .returned (.string (bs r)) ∧ w = w' := by
  have := cluster_any (bs t) (bs c) w
  rw [cluB_eq, bs_data, bs_data, h] at this
  exact this
theorem tenant_at (t r : List UInt8) (h : tenL t = r) (w : World) : Calls Try.prog 18 #[.string (bs t)] w fun e w' => e = .returned (.string (bs r)) ∧ w = w' := by
  have := tenant_any (bs t) w
  rw [tenB_eq, bs_data, h] at this
  exact this
theorem clusters_at (t r : List UInt8) (h : clsL t = r) (w : World) : Calls Try.prog 17 #[.string (bs t)] w fun e w' => e = .returned (.string (bs r)) ∧ w = w' := by
  have := clusters_any (bs t) w
  rw [clsB_eq, bs_data, h] at this
  exact this
theorem toL_mk (l : List UInt8) : ({ data := l.toArray } : ByteArray).toList = l := toL_bs l
theorem awake_any (w : World) : Calls Try.prog 10 #[] w fun e w' => e = .returned (.bool true) ∧ Below w.heap.size w w' := by
  have C1 := read_at [99, 47, 97, 99, 109, 101, 47, 101, 97, 115, 116, 45, 49] [97, 99, 109, 101] [101, 97, 115, 116, 45, 49] true (by decide +kernel) (by decide)
  have C2 := read_at [116, 47, 97, 99, 109, 101] [97, 99, 109, 101] [] true (by decide +kernel) (by decide)
  have C3 := read_at [99, 47, 97, 99, 109, 101] [] [] false (by decide +kernel) (by decide)
  have C4 := read_at [116, 47, 97, 47, 98] [] [] false (by decide +kernel) (by decide)
  have C5 := cluster_at [97, 99, 109, 101] [101, 97, 115, 116, 45, 49] [99, 47, 97, 99, 109, 101, 47, 101, 97, 115, 116, 45, 49] (by decide +kernel)
  have C6 := tenant_at [97, 99, 109, 101] [116, 47, 97, 99, 109, 101] (by decide +kernel)
  have C7 := end_at [99, 47, 97] [99, 47, 98] (by decide +kernel)
  have C8 := end_at [] [] (by decide +kernel)
  have C9 := name_at [97, 47, 98] false (by decide +kernel)
  have C10 := key_at [97, 47, 98] true (by decide +kernel)
  simp only [bs] at C1
  have H1 := Lib.hid C1
  simp only [bs] at C2
  have H2 := Lib.hid C2
  simp only [bs] at C3
  have H3 := Lib.hid C3
  simp only [bs] at C4
  have H4 := Lib.hid C4
  simp only [bs] at C5
  have H5 := Lib.hid C5
  simp only [bs] at C6
  have H6 := Lib.hid C6
  simp only [bs] at C7
  have H7 := Lib.hid C7
  simp only [bs] at C8
  have H8 := Lib.hid C8
  simp only [bs] at C9
  have H9 := Lib.hid C9
  simp only [bs] at C10
  have H10 := Lib.hid C10
  clear C1 C2 C3 C4 C5 C6 C7 C8 C9 C10
  have HB0 : Hid (Below w.heap.size w w) := Lib.hid (Below.refl _ _)
  go_enter Try.func10, Try.ntmps10
  go_wp2_with fail
  refine (H1.out _).mono ?_
  rintro e w1 ⟨rfl, hb⟩
  have HB1 := Lib.hid (below_trans' HB0.out hb)
  clear hb
  go_wp2_with fail
  refine (H2.out _).mono ?_
  rintro e w2 ⟨rfl, hb⟩
  have HB2 := Lib.hid (below_trans' HB1.out hb)
  clear hb
  go_wp2_with fail
  refine (H3.out _).mono ?_
  rintro e w3 ⟨rfl, hb⟩
  have HB3 := Lib.hid (below_trans' HB2.out hb)
  clear hb
  go_wp2_with fail
  refine (H4.out _).mono ?_
  rintro e w4 ⟨rfl, hb⟩
  have HB4 := Lib.hid (below_trans' HB3.out hb)
  clear hb
  go_wp2_with fail
  refine (H5.out _).mono ?_
  rintro e w' ⟨rfl, rfl⟩
  go_wp2_with fail
  refine (H6.out _).mono ?_
  rintro e w' ⟨rfl, rfl⟩
  go_wp2_with fail
  refine (H7.out _).mono ?_
  rintro e w5 ⟨rfl, hb⟩
  have HB5 := Lib.hid (below_trans' HB4.out hb)
  clear hb
  go_wp2_with fail
  refine (H8.out _).mono ?_
  rintro e w6 ⟨rfl, hb⟩
  have HB6 := Lib.hid (below_trans' HB5.out hb)
  clear hb
  go_wp2_with fail
  refine (H9.out _).mono ?_
  rintro e w' ⟨rfl, rfl⟩
  go_wp2_with fail
  refine (H10.out _).mono ?_
  rintro e w' ⟨rfl, rfl⟩
  go_wp2
  go_ret
  exact ⟨rfl, HB6.out⟩
end Go.Proofs.Ytbiokdphjildcaa
