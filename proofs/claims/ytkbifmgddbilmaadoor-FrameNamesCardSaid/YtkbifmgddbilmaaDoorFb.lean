/- frame.Read where the checksum, or the kind, is wrong, and where it reads. -/
import Derived.Test.YtkbifmgddbilmaaDoorFa
import Derived.BigRegion
import Derived.BigQuiet
import Derived.Deep.RegionWith
import Derived.Deep.RegionHeld3
namespace Go.Proofs.YtkbifmgddbilmaaDoor
open Go Go.RowKit
set_option maxRecDepth 100000
theorem isKind_any (k : UInt8) (w : World) :
    Calls Tryd.prog 31 #[.int .u8 k.toNat] w fun e w' => e = .returned (.bool (decide (1 ≤ k.toNat ∧ k.toNat ≤ 3))) ∧ w = w' := by
  have hk := k.toNat_lt
  by_cases h : 1 ≤ k.toNat
  · go_enter Tryd.func31, Tryd.ntmps31
    go_wp2
    go_ret
    exact ⟨by simp [h]; omega, rfl⟩
  · go_enter Tryd.func31, Tryd.ntmps31
    go_wp2
    go_ret
    exact ⟨by simp [h], rfl⟩
set_option maxHeartbeats 1000000 in
theorem read_sum (s : ByteArray) (a n c X : Nat) (w : World) (hs : s.size ≤ 140737488351232) (h9 : a + 9 ≤ s.size) (h1 : Fx s a n (a + 4)) (h2 : Fx s (a + 4) c (a + 8)) (hn : n ≤ 262144) (hX : a + 9 + n = X) (hc : X ≤ s.size) (hc4 : c < 4294967296) (T : ByteArray) (hT : s.extract (a + 8) X = T)
    (hS : ∀ w', Below w.heap.size w w' → Calls Tryd.prog 30 #[.string T, .int .u32 c] w' fun e w'' => e = .returned (.bool false) ∧ w' = w'') :
    Calls Tryd.prog 12 #[.string s, .int .i64 a] w (Ret w (noV 42)) := by
  have hd : decide (0 ≤ (a : Int) ∧ (a : Int) ≤ (s.size : Int)) = true := decide_eq_true (by omega)
  have H1 := Lib.hid h1
  have H2 := Lib.hid h2
  have HS := Lib.hid (hS (w.alloc (.cells #[.int .u8 0, .string ⟨#[]⟩, .int .i64 0] 24)) (below_one _ _))
  have e1 : (a : Int) + 9 + (n : Int) = (X : Int) := by omega
  have hX1 : a + 8 ≤ X := by omega
  clear h1 h2 hS hX
  go_enter Tryd.func12, Tryd.ntmps12
  go_wp2_with (go_at_call 28; refine (fplace_any _ _ _).mono ?_; rintro e w' ⟨rfl, rfl⟩; simp only [hd])
  refine (H1.out _).mono ?_
  rintro e w' ⟨rfl, rfl⟩
  go_wp2_with fail
  refine (H2.out _).mono ?_
  rintro e w' ⟨rfl, rfl⟩
  go_wp2_with fail
  refine HS.out.mono ?_
  rintro e w' ⟨rfl, rfl⟩
  go_wp2
  exact ret3 Tryd.results12 tri24 w.heap.size rfl rfl rfl rfl (heap_alloc_new w _) ⟨rfl, below_one _ _⟩
set_option maxHeartbeats 1000000 in
theorem read_kind (s : ByteArray) (a n c X : Nat) (w : World) (hs : s.size ≤ 140737488351232) (h9 : a + 9 ≤ s.size) (h1 : Fx s a n (a + 4)) (h2 : Fx s (a + 4) c (a + 8)) (hn : n ≤ 262144) (hX : a + 9 + n = X) (hc : X ≤ s.size) (hc4 : c < 4294967296) (T : ByteArray) (hT : s.extract (a + 8) X = T)
    (hS : ∀ w', Below w.heap.size w w' → Calls Tryd.prog 30 #[.string T, .int .u32 c] w' fun e w'' => e = .returned (.bool true) ∧ w' = w'') (hz : 0 < T.size) (k : UInt8) (hk : T[0] = k) (hkk : ¬ (1 ≤ k.toNat ∧ k.toNat ≤ 3)) :
    Calls Tryd.prog 12 #[.string s, .int .i64 a] w (Ret w (noV 4)) := by
  have hd : decide (0 ≤ (a : Int) ∧ (a : Int) ≤ (s.size : Int)) = true := decide_eq_true (by omega)
  have H1 := Lib.hid h1
  have H2 := Lib.hid h2
  have HS := Lib.hid (hS (w.alloc (.cells #[.int .u8 0, .string ⟨#[]⟩, .int .i64 0] 24)) (below_one _ _))
  have e1 : (a : Int) + 9 + (n : Int) = (X : Int) := by omega
  have hX1 : a + 8 ≤ X := by omega
  have HK := fun w => Lib.hid (isKind_any k w)
  rw [decide_eq_false hkk] at HK
  have HK := Lib.hid HK
  clear h1 h2 hS hX
  go_enter Tryd.func12, Tryd.ntmps12
  go_wp2_with (go_at_call 28; refine (fplace_any _ _ _).mono ?_; rintro e w' ⟨rfl, rfl⟩; simp only [hd])
  refine (H1.out _).mono ?_
  rintro e w' ⟨rfl, rfl⟩
  go_wp2_with fail
  refine (H2.out _).mono ?_
  rintro e w' ⟨rfl, rfl⟩
  go_wp2_with fail
  refine HS.out.mono ?_
  rintro e w' ⟨rfl, rfl⟩
  go_wp2_with fail
  refine (HK.out _).out.mono ?_
  rintro e w' ⟨rfl, rfl⟩
  go_wp2
  exact ret3 Tryd.results12 tri24 w.heap.size rfl rfl rfl rfl (heap_alloc_new w _) ⟨rfl, below_one _ _⟩
set_option maxHeartbeats 1000000 in
theorem read_right (s : ByteArray) (a n c X : Nat) (w : World) (hs : s.size ≤ 140737488351232) (h9 : a + 9 ≤ s.size) (h1 : Fx s a n (a + 4)) (h2 : Fx s (a + 4) c (a + 8)) (hn : n ≤ 262144) (hX : a + 9 + n = X) (hc : X ≤ s.size) (hc4 : c < 4294967296) (T : ByteArray) (hT : s.extract (a + 8) X = T)
    (hS : ∀ w', Below w.heap.size w w' → Calls Tryd.prog 30 #[.string T, .int .u32 c] w' fun e w'' => e = .returned (.bool true) ∧ w' = w'') (hz : 0 < T.size) (k : UInt8) (hk : T[0] = k) (hkk : 1 ≤ k.toNat ∧ k.toNat ≤ 3) (Q : ByteArray) (hQ : T.extract 1 T.size = Q) :
    Calls Tryd.prog 12 #[.string s, .int .i64 a] w (Ret w (.tuple #[fv k.toNat Q a, .int .i64 X, .int .i64 0])) := by
  have hd : decide (0 ≤ (a : Int) ∧ (a : Int) ≤ (s.size : Int)) = true := decide_eq_true (by omega)
  have H1 := Lib.hid h1
  have H2 := Lib.hid h2
  have HS := Lib.hid (hS (w.alloc (.cells #[.int .u8 0, .string ⟨#[]⟩, .int .i64 0] 24)) (below_one _ _))
  have e1 : (a : Int) + 9 + (n : Int) = (X : Int) := by omega
  have hX1 : a + 8 ≤ X := by omega
  have HK := fun w => Lib.hid (isKind_any k w)
  rw [decide_eq_true hkk] at HK
  have HK := Lib.hid HK
  clear h1 h2 hS hX
  go_enter Tryd.func12, Tryd.ntmps12
  go_wp2_with (go_at_call 28; refine (fplace_any _ _ _).mono ?_; rintro e w' ⟨rfl, rfl⟩; simp only [hd])
  refine (H1.out _).mono ?_
  rintro e w' ⟨rfl, rfl⟩
  go_wp2_with fail
  refine (H2.out _).mono ?_
  rintro e w' ⟨rfl, rfl⟩
  go_wp2_with fail
  refine HS.out.mono ?_
  rintro e w' ⟨rfl, rfl⟩
  go_wp2_with fail
  refine (HK.out _).out.mono ?_
  rintro e w' ⟨rfl, rfl⟩
  go_wp2
  go_region
  go_wp2
  exact ret3 Tryd.results12 tri24 w.heap.size rfl rfl rfl rfl (heap_alloc_new w _) ⟨rfl, Below.drew (below_one _ _)⟩
end Go.Proofs.YtkbifmgddbilmaaDoor
