/- The contract of 'awake': true, and nothing that was there has turned. -/
import Derived.Test.YtnoejddhdgmkcaaPu
namespace Go.Proofs.Ytnoejddhdgmkcaa
open Go.RowKit
theorem vint300 : Bt.vint 300 = [172, 2] := by
  rw [Bt.vint_big (by omega), Bt.vint_small (by omega)]; rfl
theorem vlen300 : Bt.vlen 300 = 2 := by
  rw [Bt.vlen_big (by omega), Bt.vlen_small (by omega)]
set_option maxRecDepth 100000 in
set_option maxHeartbeats 1000000 in
theorem awake_any (w : World) :
   Calls Try.prog 12 #[] w fun e w' => e = .returned (.bool true) ∧ Below w.heap.size w w' := by
  have C1 := fun w => Lib.hid (uvarint_in ⟨#[172, 130, 0]⟩ 0 w (by decide) (by decide) 300 3 0 (by decide))
  have C2 := fun w => put_any 300 (by omega) w
  rw [vint300] at C2
  have C3 := fun w => len_any 300 w (by omega)
  rw [vlen300] at C3
  have C4 := fun w => zig_any (-1) w (by omega) (by omega)
  rw [show Bt.zig (-1) = 1 from by decide] at C4
  have C5 := fun w => zig_any 1 w (by omega) (by omega)
  rw [show Bt.zig 1 = 2 from by decide] at C5
  have C6 := fun w => zig_any (-9223372036854775808) w (by omega) (by omega)
  rw [show Bt.zig (-9223372036854775808) = 18446744073709551615 from by decide] at C6
  have D2 := Lib.hid C2
  have D3 := Lib.hid C3
  have D4 := Lib.hid C4
  have D5 := Lib.hid C5
  have D6 := Lib.hid C6
  clear C2 C3 C4 C5 C6
  have hb2 := bs_toList [172, 2]
  have hb4 := bs_toList [2, 1, 0, 0]
  go_enter Try.func12, Try.ntmps12
  go_wp2_with fail
  refine (C1 _).out.mono ?_
  rintro e w1 ⟨rfl, rfl⟩
  go_wp2_with fail
  refine (D2.out _).mono ?_
  rintro e w1 ⟨rfl, hb1⟩
  have HB1 := Lib.hid hb1; clear hb1
  go_wp2_with fail
  refine (D3.out _).mono ?_
  rintro e w2 ⟨rfl, rfl⟩
  go_wp2_with fail
  refine (D4.out _).mono ?_
  rintro e w2 ⟨rfl, rfl⟩
  go_wp2_with fail
  refine (D5.out _).mono ?_
  rintro e w2 ⟨rfl, rfl⟩
  go_wp2_with fail
  refine (D6.out _).mono ?_
  rintro e w2 ⟨rfl, rfl⟩
  go_wp2_with fail
  refine (putFixed_4 258 w1.heap.size (.slice none 0 0) [] w1 (Own.nil _ _) (Nat.le_refl _) (by simp)).mono ?_
  rintro e w2 ⟨v1, rfl, hO1, hS1⟩
  have hr := run_string_Own w2 w1.heap.size 41 9 5 v1 _ hO1 Try.underlying41 Try.underlying5 Try.underlying9
  have HS1 := Lib.hid hS1
  clear hO1 hS1
  rw [show ([] ++ Bt.fx 4 258 : List UInt8) = [2, 1, 0, 0] from by decide] at hr
  go_wp2
  go_ret
  refine ⟨rfl, HB1.out.trans (HS1.out.below (Nat.le_refl _) (fun k hk => by cases hk) |>.mono HB1.out.size)⟩
end Go.Proofs.Ytnoejddhdgmkcaa
