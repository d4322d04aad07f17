/- 'awake': true, and nothing that was there has turned. -/
import Derived.Test.YtmbndjdpbpajmaaDoorJo
namespace Go.Proofs.YtmbndjdpbpajmaaDoor
open Go.RowKit
theorem of_lit (s : ByteArray) (R : Nat) (w : World) (hs : s.size ≤ 140737488351232) (hT : Hid (Tab w)) (e : Sm.add 0 s.data.toList = R) :
   Calls Tryd.prog 13 #[.string s] w fun e w' => e = .returned (.int .u32 R) ∧ w = w' := by
  rw [← e]; exact of_any s w hs hT
theorem mask_lit (c R : Nat) (w : World) (hc : c < 4294967296) (e : Sm.mask c = R) :
   Calls Tryd.prog 16 #[.int .u32 c] w fun e w' => e = .returned (.int .u32 R) ∧ w = w' := by
  rw [← e]; exact mask_any c w hc
theorem join_lit (a b : Nat) (n : Int) (R : Nat) (w : World) (ha : a < 4294967296) (hb : b < 4294967296) (h0 : -9223372036854775808 ≤ n) (h1 : n ≤ 9223372036854775807) (hT : Hid (Tab w)) (e : Sm.join a b n = R) :
   Calls Tryd.prog 19 #[.int .u32 a, .int .u32 b, .int .i64 n] w fun e w' => e = .returned (.int .u32 R) ∧ Below w.heap.size w w' := by
  rw [← e]; exact join_any a b n w ha hb h0 h1 hT
theorem k0 : Sm.add 0 [] = 0 := by decide +kernel
theorem k1 : Sm.add 0 [97] = 3251651376 := by decide +kernel
theorem k9 : Sm.add 0 [49, 50, 51, 52, 53, 54, 55, 56, 57] = 3808858755 := by decide +kernel
theorem km : Sm.mask 0 = 2726488792 := by decide +kernel
theorem kj0 : Sm.join 1 2 0 = 3 := by decide +kernel
theorem kj1 : Sm.join 1 0 1 = 4067132163 := by decide +kernel
set_option maxRecDepth 100000 in
set_option maxHeartbeats 1000000 in
theorem awake_any (w : World) (hT : Hid (Tab w)) :
   Calls Tryd.prog 10 #[] w fun e w' => e = .returned (.bool true) ∧ Below w.heap.size w w' := by
  have C0 := Lib.hid (of_lit ⟨#[]⟩ 0 w (by decide) hT k0)
  have C1 := Lib.hid (of_lit ⟨#[97]⟩ 3251651376 w (by decide) hT k1)
  have C9 := Lib.hid (of_lit ⟨#[49, 50, 51, 52, 53, 54, 55, 56, 57]⟩ 3808858755 w (by decide) hT k9)
  have CM := Lib.hid (mask_lit 0 2726488792 w (by decide) km)
  have CJ := fun w h => Lib.hid (join_lit 1 2 0 3 w (by decide) (by decide) (by decide) (by decide) h kj0)
  have CK := fun w h => Lib.hid (join_lit 1 0 1 4067132163 w (by decide) (by decide) (by decide) (by decide) h kj1)
  have DJ := Lib.hid CJ
  have DK := Lib.hid CK
  clear CJ CK
  go_enter Tryd.func10, Tryd.ntmps10
  go_wp2_with fail
  refine C0.out.mono ?_
  rintro e w' ⟨rfl, rfl⟩
  go_wp2_with fail
  refine C1.out.mono ?_
  rintro e w' ⟨rfl, rfl⟩
  go_wp2_with fail
  refine C9.out.mono ?_
  rintro e w' ⟨rfl, rfl⟩
  go_wp2_with fail
  refine CM.out.mono ?_
  rintro e w' ⟨rfl, rfl⟩
  go_wp2_with fail
  refine (DJ.out _ hT).out.mono ?_
  rintro e w1 ⟨rfl, hb1⟩
  have HB1 := Lib.hid hb1; clear hb1
  go_wp2_with fail
  refine (DK.out _ (Lib.hid (hT.out.below HB1.out))).out.mono ?_
  rintro e w2 ⟨rfl, hb2⟩
  have HB2 := Lib.hid hb2; clear hb2
  go_wp2
  go_ret
  exact ⟨rfl, HB1.out.trans (HB2.out.mono HB1.out.size)⟩
/-- One call more. -/
theorem below_on {w a b : World} (h : Below w.heap.size w a) (h' : Below a.heap.size a b) : Below w.heap.size w b := h.trans (h'.mono h.size)
end Go.Proofs.YtmbndjdpbpajmaaDoor
