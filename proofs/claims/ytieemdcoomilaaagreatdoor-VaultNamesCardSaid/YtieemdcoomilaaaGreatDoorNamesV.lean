/- VaultNames: the law answers true. Condition: the table of package sum reads as its initialiser lays it (tied to the program's text by the card). -/
import Derived.Test.YtieemdcoomilaaaGreatDoorCards
import Derived.Test.YtieemdcoomilaaaGreatDoorTie
import Derived.Test.YtieemdcoomilaaaGreatDoorSa
import Derived.Test.YtieemdcoomilaaaGreatDoorXr
import Derived.Test.YtieemdcoomilaaaGreatDoorXo
import Derived.Test.YtieemdcoomilaaaGreatDoorWv
import Derived.SevenTiedAt
set_option linter.unusedVariables false
set_option linter.unusedSimpArgs false
namespace Go.Proofs.YtieemdcoomilaaaGreatDoor.vaultNames
open Go Go.ChangeShapes Go.WideShapes Go.ChangeAt Go.RowKit
open Go.ChangeMaps (open_string shut_string)
set_option linter.unusedVariables false
open Go.Sort
set_option maxRecDepth 100000
def zFive : ByteArray := ⟨#[102, 105, 118, 101]⟩
def zSix : ByteArray := ⟨#[115, 105, 120]⟩
def zX : ByteArray := ⟨#[120]⟩
def y0 : Vt.Zs := Vt.newZ 10000
def y1 : Vt.Zs := getZ (Vt.addZ y0 30 (zs 6) 6)
theorem yt1 : Vt.addZ y0 30 (zs 6) (zs 6).size = (some y1, 0) := by kernel_rfl
def y2 : Vt.Zs := getZ (Vt.addZ y1 30 (zs 6) 6)
theorem yt2 : Vt.addZ y1 30 (zs 6) (zs 6).size = (some y2, 0) := by kernel_rfl
def y3 : Vt.Zs := getZ (Vt.addZ y2 30 (zE) 0)
theorem yt3 : Vt.addZ y2 30 (zE) (zE).size = (some y3, 0) := by kernel_rfl
def y4 : Vt.Zs := getZ (Vt.addZ y3 30 (zs 40) 40)
theorem yt4 : Vt.addZ y3 30 (zs 40) (zs 40).size = (some y4, 0) := by kernel_rfl
def y5 : Vt.Zs := getZ (Vt.addZ y4 30 (zE) 0)
theorem yt5 : Vt.addZ y4 30 (zE) (zE).size = (some y5, 0) := by kernel_rfl
def y6 : Vt.Zs := getZ (Vt.layZ y5 (zFive) 4)
theorem yt6 : Vt.layZ y5 (zFive) (zFive).size = (some y6, 0) := by kernel_rfl
def y7 : Vt.Zs := getZ (Vt.addZ y6 30 (zX) 1)
theorem yt7 : Vt.addZ y6 30 (zX) (zX).size = (some y7, 0) := by kernel_rfl
def y8 : Vt.Zs := getZ (Vt.layZ y7 (zSix) 3)
theorem yt8 : Vt.layZ y7 (zSix) (zSix).size = (some y8, 0) := by kernel_rfl
theorem yl0 : y0.L.length ≤ 1099511627776 := by decide +kernel
theorem yl1 : y1.L.length ≤ 1099511627776 := by decide +kernel
theorem yl2 : y2.L.length ≤ 1099511627776 := by decide +kernel
theorem yl3 : y3.L.length ≤ 1099511627776 := by decide +kernel
theorem yl4 : y4.L.length ≤ 1099511627776 := by decide +kernel
theorem yl5 : y5.L.length ≤ 1099511627776 := by decide +kernel
theorem yl6 : y6.L.length ≤ 1099511627776 := by decide +kernel
theorem yl7 : y7.L.length ≤ 1099511627776 := by decide +kernel
theorem yl8 : y8.L.length ≤ 1099511627776 := by decide +kernel
theorem big_size : (zs 262145).size = 262145 := zs_size _
theorem y_no : Vt.addZ y8 30 (zs 262145) (zs 262145).size = (none, 40) := by rw [big_size]; unfold Vt.addZ; rw [if_pos (by decide +kernel)]
theorem y_nl : Vt.layZ y8 (zs 262145) (zs 262145).size = (none, 40) := by rw [big_size]; unfold Vt.layZ; rw [if_pos (by decide +kernel)]
theorem kat_new (W : World) (l : List Int) (t : TypeId) (hne : 0 < l.length) : KAt (W.alloc (.cells (l.map iv).toArray t)) (.slice (some ⟨W.heap.size, 0, none⟩) l.length l.length) l :=
  .inr ⟨_, _, _, rfl, Nat.le_refl _, fun j hj => by
    rw [Nat.zero_add, World.cell?_alloc_new]
    simp [hj, iv]⟩
theorem same0 (W : World) : Calls Tryz.prog 16 #[.agg #[.int .i64 0, .int .i64 0, .int .i64 0, .slice none 0 0], .agg #[.int .i64 0, .int .i64 0, .int .i64 0, .slice none 0 0]] W (Ret W (.bool true)) :=
  rsame_any ⟨0, 0, 0, []⟩ ⟨0, 0, 0, []⟩ (.slice none 0 0) (.slice none 0 0) W (.inl ⟨rfl, _, _, rfl⟩) (.inl ⟨rfl, _, _, rfl⟩) (by decide) (by decide)
set_option maxHeartbeats 16000000 in
theorem core (w : World) (hT : Hid (Tab w)) : Calls Tryz.prog 3 #[] w fun e w' => e = .returned (.bool true) ∧ Below w.heap.size w w' := by
  have HAW := Lib.hid (awake_any w hT.out)
  have HON := Lib.hid (fun W (hW : Below w.heap.size w W) => room_on 10000 30 10000 30 rfl rfl (by decide) (by decide) (by decide) (by decide) W (hT.out.below hW))
  have HRO := Lib.hid (fun W (hW : Below w.heap.size w W) => room21_any W (hT.out.below hW))
  have HWR := Lib.hid (fun W (hW : Below w.heap.size w W) => wrong_any W (hT.out.below hW))
  have ON := Lib.hid (fun W => open_nil 0 W)
  have OB0 := Lib.hid (fun B W => open_bad B 0 W (by decide))
  have OB1 := Lib.hid (fun B W => open_bad B 1048577 W (by decide))
  unfold foundV at ON OB0 OB1
  have M6 := Lib.hid (fun W => many_any 6 (by decide) W)
  rw [show ((6 : Nat) : Int) = 6 from rfl] at M6
  have M40 := Lib.hid (fun W => many_any 40 (by decide) W)
  rw [show ((40 : Nat) : Int) = 40 from rfl] at M40
  have M262145 := Lib.hid (fun W => many_any 262145 (by decide) W)
  rw [show ((262145 : Nat) : Int) = 262145 from rfl] at M262145
  have T1 := Lib.hid (fun V B W (h : VZ W V B 30 y0) => vz_add (by decide) (zs 6) (by rw [zs_size]; decide) yl0 yt1 h)
  have T2 := Lib.hid (fun V B W (h : VZ W V B 30 y1) => vz_add (by decide) (zs 6) (by rw [zs_size]; decide) yl1 yt2 h)
  have T3 := Lib.hid (fun V B W (h : VZ W V B 30 y2) => vz_add (by decide) (zE) (by decide) yl2 yt3 h)
  have T4 := Lib.hid (fun V B W (h : VZ W V B 30 y3) => vz_add (by decide) (zs 40) (by rw [zs_size]; decide) yl3 yt4 h)
  have T5 := Lib.hid (fun V B W (h : VZ W V B 30 y4) => vz_add (by decide) (zE) (by decide) yl4 yt5 h)
  have T6 := Lib.hid (fun V B W (h : VZ W V B 30 y5) => vz_lay (zFive) (by decide) yl5 yt6 h)
  have T7 := Lib.hid (fun V B W (h : VZ W V B 30 y6) => vz_add (by decide) (zX) (by decide) yl6 yt7 h)
  have T8 := Lib.hid (fun V B W (h : VZ W V B 30 y7) => vz_lay (zSix) (by decide) yl7 yt8 h)
  unfold zE at T3 T5
  unfold zFive at T6
  unfold zX at T7
  unfold zSix at T8
  have I2 := Lib.hid (fun V B W u (h : VZ W V B 30 y2) (hu : KAt W u [2]) => vz_is (x := ⟨1, 0, 0, [2]⟩) h hu (by decide) (by decide +kernel))
  have I3 := Lib.hid (fun V B W u (h : VZ W V B 30 y3) (hu : KAt W u [2, 3]) => vz_is (x := ⟨2, 0, 0, [2, 3]⟩) h hu (by decide) (by decide +kernel))
  have I4 := Lib.hid (fun V B W u (h : VZ W V B 30 y4) (hu : KAt W u [2, 3, 4]) => vz_is (x := ⟨3, 0, 0, [2, 3, 4]⟩) h hu (by decide) (by decide +kernel))
  have I5 := Lib.hid (fun V B W u (h : VZ W V B 30 y5) (hu : KAt W u [2, 3, 4, 5]) => vz_is (x := ⟨4, 0, 0, [2, 3, 4, 5]⟩) h hu (by decide) (by decide +kernel))
  have I6 := Lib.hid (fun V B W u (h : VZ W V B 30 y6) (hu : KAt W u [7]) => vz_is (x := ⟨5, 5, 6, [7]⟩) h hu (by decide) (by decide +kernel))
  have I8 := Lib.hid (fun V B W u (h : VZ W V B 30 y8) (hu : KAt W u [3]) => vz_is (x := ⟨6, 6, 2, [3]⟩) h hu (by decide) (by decide +kernel))
  have S5 := Lib.hid (fun V B W (h : VZ W V B 30 y5) => vz_since h)
  have C5 := Lib.hid (fun V B W (h : VZ W V B 30 y5) => vz_count h yl5)
  rw [show (y5.L.length : Int) = 5 from by decide +kernel] at S5 C5
  rw [show y5.h.base + 5 = 5 from by decide +kernel] at C5
  have F8 := Lib.hid (fun V B W v (h : VZ W V B 30 y8) (hv : SAt W v []) (hvB : ∀ q, v.ownBlock = some q → q ≠ B) => vz_finds' true ⟨#[115, 105, 120]⟩ [] (by kernel_rfl) (by kernel_rfl) (by kernel_rfl) (by decide) (by decide) h hv hvB (by decide))
  rw [show ((30 : Nat) : Int) = 30 from rfl] at F8
  have N8 := Lib.hid (fun V B W (h : VZ W V B 30 y8) => vz_add_no (by decide) (zs 262145) (by rw [zs_size]; decide) yl8 y_no (by decide) h)
  have K8 := Lib.hid (fun V B W (h : VZ W V B 30 y8) => vz_lay_no (zs 262145) (by rw [zs_size]; decide) yl8 y_nl (by decide) h)
  clear hT
  go_enter Tryz.func3, Tryz.ntmps3
  go_wp2_with fail
  refine HAW.out.mono ?_
  rintro e w1 ⟨rfl, hb⟩
  have HW1 := Lib.hid hb
  clear hb
  go_wp2_with fail
  refine (ON.out _).mono ?_
  rintro e w2 ⟨rfl, hb⟩
  have HW2 := Lib.hid ((below_trans' HW1.out hb).alloc (below_trans' HW1.out hb).size (.cells #[.bool false, .string ⟨#[]⟩, .slice none 0 0] 26))
  clear hb
  go_wp2_with fail
  refine (HON.out _ HW2.out).mono ?_
  rintro e w3 ⟨B, V, rfl, hB, hV, hz, hb⟩
  have HBB : Hid (w.heap.size ≤ B) := Lib.hid (Nat.le_trans HW2.out.size hB)
  have HVV : Hid (w.heap.size ≤ V) := Lib.hid (Nat.le_trans HW2.out.size hV)
  have HZ3 := Lib.hid hz
  have HW3 := Lib.hid (below_trans' HW2.out hb)
  clear hB hV hz hb
  go_wp2_with fail
  refine (OB0.out _ _).mono ?_
  rintro e w4 ⟨rfl, hb⟩
  have HZ4 := Lib.hid ((HZ3.out.below hb).below (below_one w4 (.cells #[.bool false, .string ⟨#[]⟩, .slice none 0 0] 26)))
  have HW4 := Lib.hid ((below_trans' HW3.out hb).alloc (below_trans' HW3.out hb).size (.cells #[.bool false, .string ⟨#[]⟩, .slice none 0 0] 26))
  clear hb
  go_wp2_with fail
  refine (OB1.out _ _).mono ?_
  rintro e w5 ⟨rfl, hb⟩
  have HZ5 := Lib.hid ((HZ4.out.below hb).below (below_one w5 (.cells #[.bool false, .string ⟨#[]⟩, .slice none 0 0] 26)))
  have HW5 := Lib.hid ((below_trans' HW4.out hb).alloc (below_trans' HW4.out hb).size (.cells #[.bool false, .string ⟨#[]⟩, .slice none 0 0] 26))
  clear hb
  go_wp2_with fail
  refine (vAdd_nil ⟨#[]⟩ _).mono ?_
  rintro e wz ⟨rfl, rfl⟩
  go_wp2_with fail
  refine (vsync_nil _).mono ?_
  rintro e wz ⟨rfl, rfl⟩
  go_wp2_with fail
  refine (vLay_nil ⟨#[]⟩ _).mono ?_
  rintro e wz ⟨rfl, rfl⟩
  go_wp2_with fail
  refine (count_nil _).mono ?_
  rintro e wz ⟨rfl, rfl⟩
  go_wp2_with fail
  refine (since_nil _).mono ?_
  rintro e wz ⟨rfl, rfl⟩
  go_wp2_with fail
  refine (vHead_nil _).mono ?_
  rintro e w6 ⟨rfl, hb⟩
  have HZ6 := Lib.hid (HZ5.out.below hb)
  have HW6 := Lib.hid (below_trans' HW5.out hb)
  clear hb
  go_wp2_with fail
  refine (same0 _).mono ?_
  rintro e w7 ⟨rfl, hb⟩
  have HZ7 := Lib.hid (HZ6.out.below hb)
  have HW7 := Lib.hid (below_trans' HW6.out hb)
  clear hb
  go_wp2_with fail
  refine (M6.out _).mono ?_
  rintro e w8 ⟨rfl, hb⟩
  have HZ8 := Lib.hid (HZ7.out.below hb)
  have HW8 := Lib.hid (below_trans' HW7.out hb)
  clear hb
  go_wp2_with fail
  refine (T1.out _ _ _ HZ8.out).mono ?_
  rintro e w9 ⟨rfl, hz, hg⟩
  have HZ9 := Lib.hid hz
  have HW9 := Lib.hid (below_gv HW8.out hg HW8.out.size HBB.out HVV.out)
  clear hz hg
  go_wp2_with fail
  refine (M6.out _).mono ?_
  rintro e w10 ⟨rfl, hb⟩
  have HZ10 := Lib.hid (HZ9.out.below hb)
  have HW10 := Lib.hid (below_trans' HW9.out hb)
  clear hb
  go_wp2_with fail
  refine (T2.out _ _ _ HZ10.out).mono ?_
  rintro e w11 ⟨rfl, hz, hg⟩
  have HZ11 := Lib.hid hz
  have HW11 := Lib.hid (below_gv HW10.out hg HW10.out.size HBB.out HVV.out)
  clear hz hg
  go_wp2_with fail
  refine (I2.out _ _ _ _ (HZ11.out.below (below_one _ _)) (kat_new w11 [2] 3 (by decide))).mono ?_
  rintro e w12 ⟨rfl, hb⟩
  have HZ12 := Lib.hid ((HZ11.out.below (below_one _ _)).below hb)
  have HW12 := Lib.hid (below_alloc_trans HW11.out hb)
  clear hb
  go_wp2_with fail
  refine (T3.out _ _ _ HZ12.out).mono ?_
  rintro e w13 ⟨rfl, hz, hg⟩
  have HZ13 := Lib.hid hz
  have HW13 := Lib.hid (below_gv HW12.out hg HW12.out.size HBB.out HVV.out)
  clear hz hg
  go_wp2_with fail
  refine (I3.out _ _ _ _ (HZ13.out.below (below_one _ _)) (kat_new w13 [2, 3] 3 (by decide))).mono ?_
  rintro e w14 ⟨rfl, hb⟩
  have HZ14 := Lib.hid ((HZ13.out.below (below_one _ _)).below hb)
  have HW14 := Lib.hid (below_alloc_trans HW13.out hb)
  clear hb
  go_wp2_with fail
  refine (M40.out _).mono ?_
  rintro e w15 ⟨rfl, hb⟩
  have HZ15 := Lib.hid (HZ14.out.below hb)
  have HW15 := Lib.hid (below_trans' HW14.out hb)
  clear hb
  go_wp2_with fail
  refine (T4.out _ _ _ HZ15.out).mono ?_
  rintro e w16 ⟨rfl, hz, hg⟩
  have HZ16 := Lib.hid hz
  have HW16 := Lib.hid (below_gv HW15.out hg HW15.out.size HBB.out HVV.out)
  clear hz hg
  go_wp2_with fail
  refine (I4.out _ _ _ _ (HZ16.out.below (below_one _ _)) (kat_new w16 [2, 3, 4] 3 (by decide))).mono ?_
  rintro e w17 ⟨rfl, hb⟩
  have HZ17 := Lib.hid ((HZ16.out.below (below_one _ _)).below hb)
  have HW17 := Lib.hid (below_alloc_trans HW16.out hb)
  clear hb
  go_wp2_with fail
  refine (T5.out _ _ _ HZ17.out).mono ?_
  rintro e w18 ⟨rfl, hz, hg⟩
  have HZ18 := Lib.hid hz
  have HW18 := Lib.hid (below_gv HW17.out hg HW17.out.size HBB.out HVV.out)
  clear hz hg
  go_wp2_with fail
  refine (I5.out _ _ _ _ (HZ18.out.below (below_one _ _)) (kat_new w18 [2, 3, 4, 5] 3 (by decide))).mono ?_
  rintro e w19 ⟨rfl, hb⟩
  have HZ19 := Lib.hid ((HZ18.out.below (below_one _ _)).below hb)
  have HW19 := Lib.hid (below_alloc_trans HW18.out hb)
  clear hb
  go_wp2_with fail
  refine (S5.out _ _ _ HZ19.out).mono ?_
  rintro e wz ⟨rfl, rfl⟩
  go_wp2_with fail
  refine (C5.out _ _ _ HZ19.out).mono ?_
  rintro e w20 ⟨rfl, hb⟩
  have HZ20 := Lib.hid (HZ19.out.below hb)
  have HW20 := Lib.hid (below_trans' HW19.out hb)
  clear hb
  go_wp2_with fail
  refine (T6.out _ _ _ HZ20.out).mono ?_
  rintro e w21 ⟨rfl, hz, hg⟩
  have HZ21 := Lib.hid hz
  have HW21 := Lib.hid (below_gv HW20.out hg HW20.out.size HBB.out HVV.out)
  clear hz hg
  go_wp2_with fail
  refine (I6.out _ _ _ _ (HZ21.out.below (below_one _ _)) (kat_new w21 [7] 3 (by decide))).mono ?_
  rintro e w22 ⟨rfl, hb⟩
  have HZ22 := Lib.hid ((HZ21.out.below (below_one _ _)).below hb)
  have HW22 := Lib.hid (below_alloc_trans HW21.out hb)
  clear hb
  go_wp2_with fail
  refine (T7.out _ _ _ HZ22.out).mono ?_
  rintro e w23 ⟨rfl, hz, hg⟩
  have HZ23 := Lib.hid hz
  have HW23 := Lib.hid (below_gv HW22.out hg HW22.out.size HBB.out HVV.out)
  clear hz hg
  go_wp2_with fail
  refine (T8.out _ _ _ HZ23.out).mono ?_
  rintro e w24 ⟨rfl, hz, hg⟩
  have HZ24 := Lib.hid hz
  have HW24 := Lib.hid (below_gv HW23.out hg HW23.out.size HBB.out HVV.out)
  clear hz hg
  go_wp2_with fail
  refine (I8.out _ _ _ _ (HZ24.out.below (below_one _ _)) (kat_new w24 [3] 3 (by decide))).mono ?_
  rintro e w25 ⟨rfl, hb⟩
  have HZ25 := Lib.hid ((HZ24.out.below (below_one _ _)).below hb)
  have HW25 := Lib.hid (below_alloc_trans HW24.out hb)
  clear hb
  go_wp2_with fail
  refine (F8.out _ _ _ _ HZ25.out (SAt.nil _) (fun q hq => by cases hq)).mono ?_
  rintro e w26 ⟨rfl, hz, hg⟩
  have HZ26 := Lib.hid hz
  have HW26 := Lib.hid (below_gr HW25.out hg HW25.out.size HBB.out)
  clear hz hg
  go_wp2_with fail
  refine (M262145.out _).mono ?_
  rintro e w27 ⟨rfl, hb⟩
  have HZ27 := Lib.hid (HZ26.out.below hb)
  have HW27 := Lib.hid (below_trans' HW26.out hb)
  clear hb
  go_wp2_with fail
  refine (N8.out _ _ _ HZ27.out).mono ?_
  rintro e w28 ⟨rfl, hz, hg⟩
  have HZ28 := Lib.hid hz
  have HW28 := Lib.hid (below_gv HW27.out hg HW27.out.size HBB.out HVV.out)
  clear hz hg
  go_wp2_with fail
  refine (M262145.out _).mono ?_
  rintro e w29 ⟨rfl, hb⟩
  have HZ29 := Lib.hid (HZ28.out.below hb)
  have HW29 := Lib.hid (below_trans' HW28.out hb)
  clear hb
  go_wp2_with fail
  refine (K8.out _ _ _ HZ29.out).mono ?_
  rintro e w30 ⟨rfl, hz, hg⟩
  have HZ30 := Lib.hid hz
  have HW30 := Lib.hid (below_gv HW29.out hg HW29.out.size HBB.out HVV.out)
  clear hz hg
  go_wp2_with fail
  refine (HRO.out _ HW30.out).mono ?_
  rintro e wr ⟨rfl, hb⟩
  have HWr := Lib.hid (below_trans' HW30.out hb)
  clear hb
  go_wp2_with fail
  refine (HWR.out _ HWr.out).mono ?_
  rintro e wt ⟨rfl, hb⟩
  go_wp2
  go_ret
  exact ⟨rfl, below_trans' HWr.out hb⟩
set_option maxRecDepth 100000 in
theorem lifted (os : Os) (started : os.Started) (H : Type) (enc : TypeId × Value → H) :
    ReturnsInHanded {} Tryz.checked os 3 .any (fun w args => (Rows.vaultNamesSpec.pre enc Tryz.prog Tryz.f3 [] false w args ∧ laidMetH Tryz.prog laid w) ∧ sizedMet enc Tryz.prog Tryz.f3 (OpenSpec.ofChange Rows.vaultNamesSpec) false w args)
      (Rows.vaultNamesSpec.post enc Tryz.prog Tryz.f3 false true false false) := by
  refine returnsInHanded_of_change_and (C := Tryz.checked) (X := fun w _ => laidMetH Tryz.prog laid w) (fun _ _ _ hh h => h.of_heap hh) own started (by kernel_rfl) Tryz.func3
    (ChangeSpec.witness_shaped (enc := enc) (C := Tryz.checked) (os := os) (X := fun w _ => laidMetH Tryz.prog laid w) false (World.doorLaid Tryz.prog doorSteps os) #[] 8 rfl (World.shaped_of_RefB (by kernel_rfl) (by kernel_rfl)) (by kernel_rfl) (by kernel_rfl) (by kernel_rfl) (door_met os _)) ?_
  intro W base args ds gs before hval0 hW hcnd hwt hL _
  have hval : ∀ (j : Nat) t v, Tryz.f3.params[j]? = some t → args[j]? = some v → Value.okWide Tryz.prog W .any base t v := hval0
  have hW' := hW
  obtain ⟨p, q, hA0, hV, rfl, hfz, hnd⟩ := hW
  have hA : DataW.TrodAll enc Tryz.prog W 0 (fun _ => true) true Tryz.f3.params.toList args.toList ds p := hA0
  rw [Tryz.params3] at hA hval
  obtain ⟨hargs, rfl, rfl⟩ := trodAll_nil hA
  obtain rfl : args = #[] := by cases args; simp_all
  obtain ⟨rfl, rfl⟩ := trodVars_none hV
  clear hA0 hval0
  refine (core  W  (Lib.hid (of_laid hL))).mono fun e W' ⟨he, bel⟩ => ?_
  subst he
  exact ⟨_, rfl, _, _, _, [], _, [], hW', trodAll_mk1 (shut_bool Tryz.underlying4 _), trodAll_mk0, rfl, bel.frame _, fun h => by cases h⟩
theorem over : Rows.vaultNamesRow.holds Tryz.pinned (OpenSpec.ofChange Rows.vaultNamesSpec) :=
  OpenClaim.holds_of_wide 3 Tryz.f3 rfl rfl rfl rfl rfl rfl rfl ⟨rfl, rfl, rfl, rfl, rfl⟩ rfl rfl rfl rfl rfl (by kernel_rfl) Tryz.func3 (by kernel_rfl)
    (of_decide_eq_true (by kernel_rfl)) (by unfold Func.isWrapper; first | (rw [if_pos (by decide +kernel)]; kernel_rfl) | (rw [if_neg (by decide +kernel)]; exact ⟨rfl, rfl⟩))
    (fun os started H enc _ => lifted os started H enc)
theorem proved : Rows.VaultNamesCardSaid :=
  Claim7.holds_tied_plain_at .later [] [.data] true (true, "37c87dc470550fd111a986e1b62c126974cbdbcc6bcfa932071678cf252ffab1") false
    over (fun _ h => by cases h) (by kernel_rfl) (fun _ h => by cases h) vaultNames_row_tie rfl ⟨rfl, rfl⟩ (by kernel_rfl) rfl
    (fun f fn hf hfn => by
      obtain rfl : f = 3 := Option.some.inj ((show Tryz.prog.funcNamed "baton/batonlaw10.VaultNames" = some 3 by kernel_rfl).symm.trans hf) |>.symm
      obtain rfl : fn = Tryz.f3 := (Option.some.inj (Tryz.func3.symm.trans hfn)).symm
      exact ⟨by kernel_rfl, fun j t ht => by
        rw [Tryz.params3] at ht
        simp at ht⟩)
    (by kernel_rfl)
end Go.Proofs.YtieemdcoomilaaaGreatDoor.vaultNames
