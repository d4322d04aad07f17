/- VaultNames: wrong (22). -/
import Derived.Test.YtieemdcoomilaaaGreatDoorXo
set_option linter.unusedVariables false
set_option linter.unusedSimpArgs false
namespace Go.Proofs.YtieemdcoomilaaaGreatDoor
open Go Go.RowKit Go.Sort
set_option maxRecDepth 100000
theorem kat_two (W : World) (n m : Int) : KAt (W.alloc (.cells #[.int .i64 n, .int .i64 m] 3)) (.slice (some ⟨W.heap.size, 0, none⟩) 2 2) [n, m] :=
  .inr ⟨_, _, _, rfl, Nat.le_refl _, fun j hj => by
    have hj2 : j < 2 := by simpa using hj
    rw [Nat.zero_add, World.cell?_alloc_new]
    match j, hj2 with
    | 0, _ => rfl
    | 1, _ => rfl⟩
theorem loaded_lit (l : List ByteArray) (E : Nat) (e : Int) (he : (E : Int) = e) (hl : l.length ≤ 20) (hs : ∀ x ∈ l, x.size ≤ 1000) (h0 : loadE 1000000 (tapesOf wH l) = 0) (hE : (Vt.opD (made0 1000000 (tapesOf wH l))).1.2 = E) (u v : Value) (w : World) (hT : Tab w) (hu : KAt w u [3, 4]) (hv : SAt w v l) :
    Calls Tryz.prog 68 #[.agg #[.int .i64 7, .int .i64 3, .int .i64 2, u], v] w (Ret w (.int .i64 e)) := by
  subst he
  exact loaded_any l u v E w hT hu hv hl hs h0 hE
theorem put_sn : bs (mdl 2 ⟨#[115]⟩) = sn := by kernel_rfl
theorem put_rc : bs (mdl 1 ⟨#[114]⟩) = rc := by kernel_rfl
set_option maxHeartbeats 16000000 in
theorem wrong_any (w : World) (hT : Tab w) : Calls Tryz.prog 22 #[] w fun e w' => e = .returned (.bool true) ∧ Below w.heap.size w w' := by
  have HT := Lib.hid hT
  have P2 := Lib.hid (fun W => put67_any 2 ⟨#[115]⟩ W)
  have P1 := Lib.hid (fun W => put67_any 1 ⟨#[114]⟩ W)
  rw [put_sn, show ((UInt8.toNat 2 : Nat) : Int) = 2 from rfl] at P2
  rw [put_rc, show ((UInt8.toNat 1 : Nat) : Int) = 1 from rfl] at P1
  have L0 := Lib.hid (loaded_lit [sn, rc, rc] 0 0 rfl (by decide) (by decide +kernel) (by kernel_rfl) (by kernel_rfl))
  have L1 := Lib.hid (loaded_lit [rc, rc, rc] 4 4 rfl (by decide) (by decide +kernel) (by kernel_rfl) (by kernel_rfl))
  have L2 := Lib.hid (loaded_lit [sn ++ xx, rc, rc] 4 4 rfl (by decide) (by decide +kernel) (by kernel_rfl) (by kernel_rfl))
  have L3 := Lib.hid (loaded_lit [⟨#[]⟩, rc, rc] 4 4 rfl (by decide) (by decide +kernel) (by kernel_rfl) (by kernel_rfl))
  have L4 := Lib.hid (loaded_lit [sn, sn, rc] 4 4 rfl (by decide) (by decide +kernel) (by kernel_rfl) (by kernel_rfl))
  have L5 := Lib.hid (loaded_lit [sn, rc ++ xx, rc] 42 42 rfl (by decide) (by decide +kernel) (by kernel_rfl) (by kernel_rfl))
  have L6 := Lib.hid (loaded_lit [sn, rc, rc ++ xx] 0 0 rfl (by decide) (by decide +kernel) (by kernel_rfl) (by kernel_rfl))
  have L7 := Lib.hid (loaded_lit [sn, rc, rc ++ sn] 4 4 rfl (by decide) (by decide +kernel) (by kernel_rfl) (by kernel_rfl))
  have L8 := Lib.hid (loaded_lit [sn, rc ++ sn ++ xx, rc] 4 4 rfl (by decide) (by decide +kernel) (by kernel_rfl) (by kernel_rfl))
  have LE := Lib.hid (fun W u (hu : KAt W u [3]) => rencode_any wL u W hu (by decide))
  rw [la_enc] at LE
  unfold hval at LE
  have LE : Hid (∀ W u, KAt W u [3] → Calls Tryz.prog 69 #[.agg #[.int .i64 1099511627776, .int .i64 1099511627776, .int .i64 2, u]] W (Ret W (.tuple #[.string (encR wL).1, .int .i64 0]))) := LE
  have LP := Lib.hid (fun W => put67_any 3 (encR wL).1 W)
  rw [la_put, show ((UInt8.toNat 3 : Nat) : Int) = 3 from rfl] at LP
  generalize (encR wL).1 = PL at *
  unfold xx at L2 L5 L6 L8
  clear hT
  go_enter Tryz.func22, Tryz.ntmps22
  go_wp2_with fail
  have HK0 := Lib.hid ((kat_two w 3 4).below (below_one _ (.cells #[.int .i64 7, .int .i64 3, .int .i64 2, .slice (some ⟨w.heap.size, 0, none⟩) 2 2] 40)) (Nat.le_refl _))
  have HR0 : Hid (Box4 ((w.alloc (.cells #[.int .i64 3, .int .i64 4] 3)).alloc (.cells #[.int .i64 7, .int .i64 3, .int .i64 2, .slice (some ⟨w.heap.size, 0, none⟩) 2 2] 40)) (w.heap.size + 1) (.int .i64 7) (.int .i64 3) (.int .i64 2) (.slice (some ⟨w.heap.size, 0, none⟩) 2 2)) := Lib.hid (by have h := heap_alloc_new (w.alloc (.cells #[.int .i64 3, .int .i64 4] 3)) (.cells #[.int .i64 7, .int .i64 3, .int .i64 2, .slice (some ⟨w.heap.size, 0, none⟩) 2 2] 40); rw [World.size_alloc] at h; exact h)
  have HW0 : Hid (Below w.heap.size w ((w.alloc (.cells #[.int .i64 3, .int .i64 4] 3)).alloc (.cells #[.int .i64 7, .int .i64 3, .int .i64 2, .slice (some ⟨w.heap.size, 0, none⟩) 2 2] 40))) := Lib.hid (((Below.refl _ _).alloc (Nat.le_refl _) _).alloc (by simp) _)
  refine (P2.out _).mono ?_
  rintro e w1 ⟨rfl, hb⟩
  have HK1 := Lib.hid (HK0.out.below hb (Nat.le_refl _))
  have HR1 := Lib.hid (HR0.out.below hb HR0.out.lt)
  have HW1 := Lib.hid (below_trans' HW0.out hb)
  clear hb
  have r10 := HR1.out.c0
  have r11 := HR1.out.c1
  have r12 := HR1.out.c2
  have r13 := HR1.out.c3
  go_wp2_with fail
  clear r10 r11 r12 r13
  refine (P1.out _).mono ?_
  rintro e w2 ⟨rfl, hb⟩
  have HK2 := Lib.hid (HK1.out.below hb (Nat.le_refl _))
  have HR2 := Lib.hid (HR1.out.below hb HR1.out.lt)
  have HW2 := Lib.hid (below_trans' HW1.out hb)
  clear hb
  have r20 := HR2.out.c0
  have r21 := HR2.out.c1
  have r22 := HR2.out.c2
  have r23 := HR2.out.c3
  go_wp2_with fail
  clear r20 r21 r22 r23
  refine (L0.out _ _ _ (HT.out.below (HW2.out.alloc HW2.out.size _)) (HK2.out.below (below_one _ _) (Nat.le_refl _)) (sat_new w2 [sn, rc, rc] 9 (by decide))).mono ?_
  rintro e w3 ⟨rfl, hb⟩
  have HK3 := Lib.hid ((HK2.out.below (below_one _ _) (Nat.le_refl _)).below hb (Nat.le_refl _))
  have HR3 := Lib.hid ((HR2.out.below (below_one _ _) HR2.out.lt).below hb (HR2.out.below (below_one _ _) HR2.out.lt).lt)
  have HW3 := Lib.hid (below_alloc_trans HW2.out hb)
  clear hb
  have r30 := HR3.out.c0
  have r31 := HR3.out.c1
  have r32 := HR3.out.c2
  have r33 := HR3.out.c3
  go_wp2_with fail
  clear r30 r31 r32 r33
  refine (L1.out _ _ _ (HT.out.below (HW3.out.alloc HW3.out.size _)) (HK3.out.below (below_one _ _) (Nat.le_refl _)) (sat_new w3 [rc, rc, rc] 9 (by decide))).mono ?_
  rintro e w4 ⟨rfl, hb⟩
  have HK4 := Lib.hid ((HK3.out.below (below_one _ _) (Nat.le_refl _)).below hb (Nat.le_refl _))
  have HR4 := Lib.hid ((HR3.out.below (below_one _ _) HR3.out.lt).below hb (HR3.out.below (below_one _ _) HR3.out.lt).lt)
  have HW4 := Lib.hid (below_alloc_trans HW3.out hb)
  clear hb
  have r40 := HR4.out.c0
  have r41 := HR4.out.c1
  have r42 := HR4.out.c2
  have r43 := HR4.out.c3
  go_wp2_with fail
  clear r40 r41 r42 r43
  refine (L2.out _ _ _ (HT.out.below (HW4.out.alloc HW4.out.size _)) (HK4.out.below (below_one _ _) (Nat.le_refl _)) (sat_new w4 [sn ++ ⟨#[120]⟩, rc, rc] 9 (by decide))).mono ?_
  rintro e w5 ⟨rfl, hb⟩
  have HK5 := Lib.hid ((HK4.out.below (below_one _ _) (Nat.le_refl _)).below hb (Nat.le_refl _))
  have HR5 := Lib.hid ((HR4.out.below (below_one _ _) HR4.out.lt).below hb (HR4.out.below (below_one _ _) HR4.out.lt).lt)
  have HW5 := Lib.hid (below_alloc_trans HW4.out hb)
  clear hb
  have r50 := HR5.out.c0
  have r51 := HR5.out.c1
  have r52 := HR5.out.c2
  have r53 := HR5.out.c3
  go_wp2_with fail
  clear r50 r51 r52 r53
  refine (L3.out _ _ _ (HT.out.below (HW5.out.alloc HW5.out.size _)) (HK5.out.below (below_one _ _) (Nat.le_refl _)) (sat_new w5 [⟨#[]⟩, rc, rc] 9 (by decide))).mono ?_
  rintro e w6 ⟨rfl, hb⟩
  have HK6 := Lib.hid ((HK5.out.below (below_one _ _) (Nat.le_refl _)).below hb (Nat.le_refl _))
  have HR6 := Lib.hid ((HR5.out.below (below_one _ _) HR5.out.lt).below hb (HR5.out.below (below_one _ _) HR5.out.lt).lt)
  have HW6 := Lib.hid (below_alloc_trans HW5.out hb)
  clear hb
  have r60 := HR6.out.c0
  have r61 := HR6.out.c1
  have r62 := HR6.out.c2
  have r63 := HR6.out.c3
  go_wp2_with fail
  clear r60 r61 r62 r63
  refine (L4.out _ _ _ (HT.out.below (HW6.out.alloc HW6.out.size _)) (HK6.out.below (below_one _ _) (Nat.le_refl _)) (sat_new w6 [sn, sn, rc] 9 (by decide))).mono ?_
  rintro e w7 ⟨rfl, hb⟩
  have HK7 := Lib.hid ((HK6.out.below (below_one _ _) (Nat.le_refl _)).below hb (Nat.le_refl _))
  have HR7 := Lib.hid ((HR6.out.below (below_one _ _) HR6.out.lt).below hb (HR6.out.below (below_one _ _) HR6.out.lt).lt)
  have HW7 := Lib.hid (below_alloc_trans HW6.out hb)
  clear hb
  have r70 := HR7.out.c0
  have r71 := HR7.out.c1
  have r72 := HR7.out.c2
  have r73 := HR7.out.c3
  go_wp2_with fail
  clear r70 r71 r72 r73
  refine (L5.out _ _ _ (HT.out.below (HW7.out.alloc HW7.out.size _)) (HK7.out.below (below_one _ _) (Nat.le_refl _)) (sat_new w7 [sn, rc ++ ⟨#[120]⟩, rc] 9 (by decide))).mono ?_
  rintro e w8 ⟨rfl, hb⟩
  have HK8 := Lib.hid ((HK7.out.below (below_one _ _) (Nat.le_refl _)).below hb (Nat.le_refl _))
  have HR8 := Lib.hid ((HR7.out.below (below_one _ _) HR7.out.lt).below hb (HR7.out.below (below_one _ _) HR7.out.lt).lt)
  have HW8 := Lib.hid (below_alloc_trans HW7.out hb)
  clear hb
  have r80 := HR8.out.c0
  have r81 := HR8.out.c1
  have r82 := HR8.out.c2
  have r83 := HR8.out.c3
  go_wp2_with fail
  clear r80 r81 r82 r83
  refine (L6.out _ _ _ (HT.out.below (HW8.out.alloc HW8.out.size _)) (HK8.out.below (below_one _ _) (Nat.le_refl _)) (sat_new w8 [sn, rc, rc ++ ⟨#[120]⟩] 9 (by decide))).mono ?_
  rintro e w9 ⟨rfl, hb⟩
  have HK9 := Lib.hid ((HK8.out.below (below_one _ _) (Nat.le_refl _)).below hb (Nat.le_refl _))
  have HR9 := Lib.hid ((HR8.out.below (below_one _ _) HR8.out.lt).below hb (HR8.out.below (below_one _ _) HR8.out.lt).lt)
  have HW9 := Lib.hid (below_alloc_trans HW8.out hb)
  clear hb
  have r90 := HR9.out.c0
  have r91 := HR9.out.c1
  have r92 := HR9.out.c2
  have r93 := HR9.out.c3
  go_wp2_with fail
  clear r90 r91 r92 r93
  refine (L7.out _ _ _ (HT.out.below (HW9.out.alloc HW9.out.size _)) (HK9.out.below (below_one _ _) (Nat.le_refl _)) (sat_new w9 [sn, rc, rc ++ sn] 9 (by decide))).mono ?_
  rintro e w10 ⟨rfl, hb⟩
  have HK10 := Lib.hid ((HK9.out.below (below_one _ _) (Nat.le_refl _)).below hb (Nat.le_refl _))
  have HR10 := Lib.hid ((HR9.out.below (below_one _ _) HR9.out.lt).below hb (HR9.out.below (below_one _ _) HR9.out.lt).lt)
  have HW10 := Lib.hid (below_alloc_trans HW9.out hb)
  clear hb
  have r100 := HR10.out.c0
  have r101 := HR10.out.c1
  have r102 := HR10.out.c2
  have r103 := HR10.out.c3
  go_wp2_with fail
  clear r100 r101 r102 r103
  refine (L8.out _ _ _ (HT.out.below (HW10.out.alloc HW10.out.size _)) (HK10.out.below (below_one _ _) (Nat.le_refl _)) (sat_new w10 [sn, rc ++ sn ++ ⟨#[120]⟩, rc] 9 (by decide))).mono ?_
  rintro e w11 ⟨rfl, hb⟩
  have HK11 := Lib.hid ((HK10.out.below (below_one _ _) (Nat.le_refl _)).below hb (Nat.le_refl _))
  have HR11 := Lib.hid ((HR10.out.below (below_one _ _) HR10.out.lt).below hb (HR10.out.below (below_one _ _) HR10.out.lt).lt)
  have HW11 := Lib.hid (below_alloc_trans HW10.out hb)
  clear hb
  have r110 := HR11.out.c0
  have r111 := HR11.out.c1
  have r112 := HR11.out.c2
  have r113 := HR11.out.c3
  go_wp2_with fail
  clear r110 r111 r112 r113
  have HX : Hid (Below w.heap.size w ((w11.alloc (.cells #[.int .i64 3] 3)).alloc (.cells #[.int .i64 1099511627776, .int .i64 1099511627776, .int .i64 2, .slice (some ⟨w11.heap.size, 0, none⟩) 1 1] 40))) := Lib.hid ((HW11.out.alloc HW11.out.size _).alloc (by rw [World.size_alloc]; exact Nat.le_succ_of_le HW11.out.size) _)
  refine (LE.out _ _ ((kat_one w11 3).below (below_one _ _) (Nat.le_refl _))).mono ?_
  rintro e x1 ⟨rfl, hb⟩
  have HX1 := Lib.hid (below_trans' HX.out hb)
  clear hb
  go_wp2_with fail
  refine (LP.out _).mono ?_
  rintro e x2 ⟨rfl, hb⟩
  have HX2 := Lib.hid (below_trans' HX1.out hb)
  clear hb
  go_wp2_with fail
  refine (load_any 100000 (tapesOf wL [sn]) _ _ (la_tat x2) (by decide) (by decide) la_small).mono ?_
  rintro e x3 ⟨hb, hh⟩
  rcases hh with ⟨hh, -⟩ | ⟨-, c, hc, hok, B, hB, rfl, hd⟩
  · exact absurd la_load hh
  obtain rfl : c = 100000 := by omega
  have HX3 := Lib.hid (below_alloc_trans HX2.out hb)
  have HBB : Hid (w.heap.size ≤ B) := Lib.hid (by have h := HX2.out.size; rw [World.size_alloc] at hB; omega)
  have HB0 : Hid (B ≠ 0) := Lib.hid (by have := HBB.out; have := HT.out.1; omega)
  have HD := Lib.hid hd
  have HO := Lib.hid hok
  clear hb hok hB hd hc
  go_wp2_with fail
  refine (la_open B x3 HD.out HO.out (HT.out.below HX3.out) HB0.out).mono ?_
  rintro e x4 ⟨hg, V, a, c, rfl, hV, hx⟩
  have HX4 := Lib.hid (below_gr HX3.out hg HX3.out.size HBB.out)
  have HVV : Hid (w.heap.size ≤ V) := Lib.hid (Nat.le_trans HX3.out.size hV)
  have HS := Lib.hid (hx.below (below_one x4 (.cells #[.bool true, .string ⟨#[115]⟩, .slice a 0 c] 26)) (Nat.le_refl _))
  have HX5 := Lib.hid (HX4.out.alloc HX4.out.size (.cells #[.bool true, .string ⟨#[115]⟩, .slice a 0 c] 26))
  clear hg hV hx
  go_wp2_with fail
  refine (la_count HS.out).mono ?_
  rintro e x6 ⟨rfl, hb⟩
  have HS6 := Lib.hid (HS.out.below hb (Nat.le_refl _))
  have HX6 := Lib.hid (below_trans' HX5.out hb)
  clear hb
  go_wp2_with fail
  refine (la_add HS6.out).mono ?_
  rintro e x7 ⟨rfl, hx, hg⟩
  have HS7 := Lib.hid hx
  have HX7 := Lib.hid (below_gv HX6.out hg HX6.out.size HBB.out HVV.out)
  clear hx hg
  go_wp2_with fail
  refine (la_lay HS7.out).mono ?_
  rintro e x8 ⟨rfl, hx, hg⟩
  have HS8 := Lib.hid hx
  have HX8 := Lib.hid (below_gv HX7.out hg HX7.out.size HBB.out HVV.out)
  clear hx hg
  go_wp2_with fail
  refine (la_sync HS8.out).mono ?_
  rintro e x9 ⟨rfl, hg⟩
  have HX9 := Lib.hid (below_gv HX8.out hg HX8.out.size HBB.out HVV.out)
  clear hg
  go_wp2
  go_ret
  exact ⟨rfl, HX9.out⟩
end Go.Proofs.YtieemdcoomilaaaGreatDoor
namespace Go.Proofs.YtieemdcoomilaaaGreatDoor
open Go Go.RowKit Go.Sort
set_option maxRecDepth 100000
theorem ln0 (c : Nat) : (Vt.newZ c).L.length ≤ 1099511627776 := by simp [Vt.newZ]
theorem ra_l1 : rA1.L.length ≤ 1099511627776 := by decide +kernel
theorem rb_l1 : rB1.L.length ≤ 1099511627776 := by decide +kernel
theorem rb_l2 : rB2.L.length ≤ 1099511627776 := by decide +kernel
theorem rb_l3 : rB3.L.length ≤ 1099511627776 := by decide +kernel
theorem rc_l2 (i : Nat) (h : i < 31) : (rC i).L.length ≤ 1099511627776 := by rw [rc_l i h]; omega
theorem room_on (c mo : Nat) (C M : Int) (hC : (c : Int) = C) (hM : (mo : Int) = M) (h1 : 14 ≤ c) (h2 : c ≤ 1000000000) (h3 : 1 ≤ mo) (h4 : mo ≤ 1048576) (w : World) (hT : Tab w) :
    Calls Tryz.prog 10 #[.int .i64 C, .int .i64 M] w fun e w' => ∃ B V, e = .returned (.tuple #[.pointer (some ⟨B, 0, none⟩), .pointer (some ⟨V, 0, none⟩)]) ∧ w.heap.size ≤ B ∧ w.heap.size ≤ V ∧ VZ w' V B mo (Vt.newZ c) ∧ Below w.heap.size w w' := by
  subst hC hM
  exact vz_on c mo h1 h2 h3 h4 w hT
theorem room_head {W : World} {V B : Nat} (h : VZ W V B 1 (rC 30)) : Calls Tryz.prog 17 #[.pointer (some ⟨V, 0, none⟩)] W fun e w' => ∃ x s a c, e = .returned (.agg #[.int .i64 30, .int .i64 x, .int .i64 s, .slice a 30 c]) ∧ Below W.heap.size W w' := by
  refine (vz_head h).mono ?_
  rintro e w' ⟨u, rfl, ho, hb⟩
  obtain ⟨a, c, hu⟩ := ho.shape
  rw [List.length_map, rc_log.1] at hu
  subst hu
  refine ⟨(rC 30).h.base, (rC 30).h.snap, a, c, ?_, hb⟩
  unfold hval
  rw [rc_log.2]
theorem fld40_3 (a b c : Int) (u : Option Addr) (n k : Nat) (w : World) : (Instr.field 40 (.agg #[.int .i64 a, .int .i64 b, .int .i64 c, .slice u n k]) 3).run Tryz.prog w = .ok (.slice u n k) w := by kernel_rfl
theorem fld40_0 (a b c : Int) (u : Option Addr) (n k : Nat) (w : World) : (Instr.field 40 (.agg #[.int .i64 a, .int .i64 b, .int .i64 c, .slice u n k]) 0).run Tryz.prog w = .ok (.int .i64 a) w := by kernel_rfl
theorem gv_dat3 {w w' : World} {B V C : Nat} {d : Dk} (h : DAt w C d) (hg : Gv w w' B V) (h1 : C ≠ B) (h2 : C ≠ V) : DAt w' C d := h.congr (hg.block C h.lt h1 h2)
theorem VnZ.below {W W' : World} {V B mo n : Nat} {x : He} (h : VnZ W V B mo x n) (hb : Below W.heap.size W W') : VnZ W' V B mo x n := by
  obtain ⟨d, hx, h1, h2, h3⟩ := h
  exact ⟨d, hx.below hb (Nat.le_refl _), h1, h2, h3⟩
theorem up3 {W : World} {B : Nat} {d : Dk} (h : DAt W B d) (hd : d.dn = false) : Calls Tryz.prog 27 #[.pointer (some ⟨B, 0, none⟩)] W fun e w' => e = .returned (.bool true) ∧ W = w' := by
  have k := up_any B d W h
  rw [hd] at k
  exact k
theorem ra_b : rA1.h.base + rA1.L.length < 1099511627776 := by decide +kernel
set_option maxHeartbeats 16000000 in
theorem room21_any (w : World) (hT : Tab w) : Calls Tryz.prog 21 #[] w fun e w' => e = .returned (.bool true) ∧ Below w.heap.size w w' := by
  have HT := Lib.hid hT
  have O1 := Lib.hid (fun W (hW : Below w.heap.size w W) => room_on 30 100 30 100 rfl rfl (by decide) (by decide) (by decide) (by decide) W (HT.out.below hW))
  have O2 := Lib.hid (fun W (hW : Below w.heap.size w W) => room_on 47 100 47 100 rfl rfl (by decide) (by decide) (by decide) (by decide) W (HT.out.below hW))
  have O3 := Lib.hid (fun W (hW : Below w.heap.size w W) => room_on 100000 1 100000 1 rfl rfl (by decide) (by decide) (by decide) (by decide) W (HT.out.below hW))
  have M2 := Lib.hid (fun W => many_any 2 (by decide) W)
  have M7 := Lib.hid (fun W => many_any 7 (by decide) W)
  have M8 := Lib.hid (fun W => many_any 8 (by decide) W)
  have ML := Lib.hid (fun W => many_any 262145 (by decide) W)
  rw [show ((2 : Nat) : Int) = 2 from rfl] at M2
  rw [show ((7 : Nat) : Int) = 7 from rfl] at M7
  rw [show ((8 : Nat) : Int) = 8 from rfl] at M8
  rw [show ((262145 : Nat) : Int) = 262145 from rfl] at ML
  have zl2 := Lib.hid (zs_size 2)
  have zl7 := Lib.hid (zs_size 7)
  have zl8 := Lib.hid (zs_size 8)
  have A1 := Lib.hid (fun V B W (h : VZ W V B 100 (Vt.newZ 30)) => vz_add_no (by decide) (zs 8) (by rw [zs_size]; decide) (ln0 30) ra0 (by decide) h)
  have A2 := Lib.hid (fun V B W (h : VZ W V B 100 (Vt.newZ 30)) => vz_add (by decide) (zs 7) (by rw [zs_size]; decide) (ln0 30) ra1 h)
  have A3 := Lib.hid (fun V B W (h : VZ W V B 100 rA1) => vz_add_no (by decide) zE (by decide) ra_l1 ra2 (by decide) h)
  have U0 := Lib.hid (fun V B W (h : VZ W V B 100 (Vt.newZ 30)) => vz_used h)
  have U1 := Lib.hid (fun V B W (h : VZ W V B 100 rA1) => vz_used h)
  rw [ra_u0, show ((14 : Nat) : Int) = 14 from rfl] at U0
  rw [ra_u1, show ((30 : Nat) : Int) = 30 from rfl] at U1
  have E1 := Lib.hid (fun V B W (h : VZ W V B 100 (Vt.newZ 47)) => vz_add (by decide) zE (by decide) (ln0 47) rb1 h)
  have E2 := Lib.hid (fun V B W (h : VZ W V B 100 rB1) => vz_lay_no (zs 2) (by rw [zs_size]; decide) rb_l1 rb2 (by decide) h)
  have E3 := Lib.hid (fun V B W (h : VZ W V B 100 rB1) => vz_lay zS (by decide) rb_l1 rb3 h)
  have E4 := Lib.hid (fun V B W (h : VZ W V B 100 rB2) => vz_used h)
  have E5 := Lib.hid (fun V B W (h : VZ W V B 100 rB2) => vz_add (by decide) zE (by decide) rb_l2 rb4 h)
  have E6 := Lib.hid (fun V B W (h : VZ W V B 100 rB3) => vz_add_no (by decide) zE (by decide) rb_l3 rb5 (by decide) h)
  rw [rb_u, show ((38 : Nat) : Int) = 38 from rfl] at E4
  have C1 := Lib.hid (fun i (hi : i < 30) V B W (h : VZ W V B 1 (rC i)) => vz_add (by decide) zR (by decide) (rc_l2 i (by omega)) (rc_step i hi) h)
  have C2 := Lib.hid (fun V B W (h : VZ W V B 1 (rC 30)) => vz_add_no (by decide) zR (by decide) (rc_l2 30 (by decide)) rc_no (by decide) h)
  have C3 := Lib.hid (fun V B W (h : VZ W V B 1 (rC 30)) => vz_lay_no zS (by decide) (rc_l2 30 (by decide)) rc_lay (by decide) h)
  unfold zE at A3 E1 E5 E6
  unfold zS at E3 C3
  unfold zR at C1 C2
  clear hT
  go_enter Tryz.func21, Tryz.ntmps21
  have HW0 : Hid (Below w.heap.size w w) := Lib.hid (Below.refl _ _)
  go_wp2_with fail
  refine (O1.out _ HW0.out).mono ?_
  rintro e w1 ⟨B1, V1, rfl, hB, hV, hz, hb⟩
  have HP1 := Lib.hid HW0.out
  have HB1 := Lib.hid hB
  have HV1 := Lib.hid hV
  have HZ1_1 := Lib.hid hz
  have HQ1_1 := Lib.hid hb
  have HW1 := Lib.hid (below_trans' HW0.out hb)
  clear hB hV hz hb
  go_wp2_with fail
  refine (U0.out _ _ _ HZ1_1.out).mono ?_
  rintro e w2 ⟨rfl, hb⟩
  have HZ1_2 := Lib.hid (HZ1_1.out.below hb)
  have HQ1_2 := Lib.hid (below_trans' HQ1_1.out hb)
  have HW2 := Lib.hid (below_trans' HW1.out hb)
  clear hb
  go_wp2_with fail
  refine (M8.out _).mono ?_
  rintro e w3 ⟨rfl, hb⟩
  have HZ1_3 := Lib.hid (HZ1_2.out.below hb)
  have HQ1_3 := Lib.hid (below_trans' HQ1_2.out hb)
  have HW3 := Lib.hid (below_trans' HW2.out hb)
  clear hb
  go_wp2_with fail
  refine (A1.out _ _ _ HZ1_3.out).mono ?_
  rintro e w4 ⟨rfl, hz, hg⟩
  have HZ1_4 := Lib.hid (hz)
  have HQ1_4 := Lib.hid (below_gv HQ1_3.out hg HQ1_3.out.size HB1.out HV1.out)
  have HW4 := Lib.hid (below_gv HW3.out hg HW3.out.size (Nat.le_trans HP1.out.size HB1.out) (Nat.le_trans HP1.out.size HV1.out))
  clear hz hg
  go_wp2_with fail
  refine (M7.out _).mono ?_
  rintro e w5 ⟨rfl, hb⟩
  have HZ1_5 := Lib.hid (HZ1_4.out.below hb)
  have HQ1_5 := Lib.hid (below_trans' HQ1_4.out hb)
  have HW5 := Lib.hid (below_trans' HW4.out hb)
  clear hb
  go_wp2_with fail
  refine (A2.out _ _ _ HZ1_5.out).mono ?_
  rintro e w6 ⟨rfl, hz, hg⟩
  have HZ1_6 := Lib.hid (hz)
  have HQ1_6 := Lib.hid (below_gv HQ1_5.out hg HQ1_5.out.size HB1.out HV1.out)
  have HW6 := Lib.hid (below_gv HW5.out hg HW5.out.size (Nat.le_trans HP1.out.size HB1.out) (Nat.le_trans HP1.out.size HV1.out))
  clear hz hg
  go_wp2_with fail
  refine (A3.out _ _ _ HZ1_6.out).mono ?_
  rintro e w7 ⟨rfl, hz, hg⟩
  have HZ1_7 := Lib.hid (hz)
  have HQ1_7 := Lib.hid (below_gv HQ1_6.out hg HQ1_6.out.size HB1.out HV1.out)
  have HW7 := Lib.hid (below_gv HW6.out hg HW6.out.size (Nat.le_trans HP1.out.size HB1.out) (Nat.le_trans HP1.out.size HV1.out))
  clear hz hg
  go_wp2_with fail
  refine (U1.out _ _ _ HZ1_7.out).mono ?_
  rintro e w8 ⟨rfl, hb⟩
  have HZ1_8 := Lib.hid (HZ1_7.out.below hb)
  have HQ1_8 := Lib.hid (below_trans' HQ1_7.out hb)
  have HW8 := Lib.hid (below_trans' HW7.out hb)
  clear hb
  go_wp2_with fail
  refine (O2.out _ HW8.out).mono ?_
  rintro e w9 ⟨B2, V2, rfl, hB, hV, hz, hb⟩
  have HP2 := Lib.hid HW8.out
  have HB2 := Lib.hid hB
  have HV2 := Lib.hid hV
  have HZ2_9 := Lib.hid hz
  have HQ2_9 := Lib.hid hb
  have HW9 := Lib.hid (below_trans' HW8.out hb)
  clear hB hV hz hb
  go_wp2_with fail
  refine (E1.out _ _ _ HZ2_9.out).mono ?_
  rintro e w10 ⟨rfl, hz, hg⟩
  have HZ2_10 := Lib.hid (hz)
  have HQ2_10 := Lib.hid (below_gv HQ2_9.out hg HQ2_9.out.size HB2.out HV2.out)
  have HW10 := Lib.hid (below_gv HW9.out hg HW9.out.size (Nat.le_trans HP2.out.size HB2.out) (Nat.le_trans HP2.out.size HV2.out))
  clear hz hg
  go_wp2_with fail
  refine (M2.out _).mono ?_
  rintro e w11 ⟨rfl, hb⟩
  have HZ2_11 := Lib.hid (HZ2_10.out.below hb)
  have HQ2_11 := Lib.hid (below_trans' HQ2_10.out hb)
  have HW11 := Lib.hid (below_trans' HW10.out hb)
  clear hb
  go_wp2_with fail
  refine (E2.out _ _ _ HZ2_11.out).mono ?_
  rintro e w12 ⟨rfl, hz, hg⟩
  have HZ2_12 := Lib.hid (hz)
  have HQ2_12 := Lib.hid (below_gv HQ2_11.out hg HQ2_11.out.size HB2.out HV2.out)
  have HW12 := Lib.hid (below_gv HW11.out hg HW11.out.size (Nat.le_trans HP2.out.size HB2.out) (Nat.le_trans HP2.out.size HV2.out))
  clear hz hg
  go_wp2_with fail
  refine (E3.out _ _ _ HZ2_12.out).mono ?_
  rintro e w13 ⟨rfl, hz, hg⟩
  have HZ2_13 := Lib.hid (hz)
  have HQ2_13 := Lib.hid (below_gv HQ2_12.out hg HQ2_12.out.size HB2.out HV2.out)
  have HW13 := Lib.hid (below_gv HW12.out hg HW12.out.size (Nat.le_trans HP2.out.size HB2.out) (Nat.le_trans HP2.out.size HV2.out))
  clear hz hg
  go_wp2_with fail
  refine (E4.out _ _ _ HZ2_13.out).mono ?_
  rintro e w14 ⟨rfl, hb⟩
  have HZ2_14 := Lib.hid (HZ2_13.out.below hb)
  have HQ2_14 := Lib.hid (below_trans' HQ2_13.out hb)
  have HW14 := Lib.hid (below_trans' HW13.out hb)
  clear hb
  go_wp2_with fail
  refine (E5.out _ _ _ HZ2_14.out).mono ?_
  rintro e w15 ⟨rfl, hz, hg⟩
  have HZ2_15 := Lib.hid (hz)
  have HQ2_15 := Lib.hid (below_gv HQ2_14.out hg HQ2_14.out.size HB2.out HV2.out)
  have HW15 := Lib.hid (below_gv HW14.out hg HW14.out.size (Nat.le_trans HP2.out.size HB2.out) (Nat.le_trans HP2.out.size HV2.out))
  clear hz hg
  go_wp2_with fail
  refine (E6.out _ _ _ HZ2_15.out).mono ?_
  rintro e w16 ⟨rfl, hz, hg⟩
  have HZ2_16 := Lib.hid (hz)
  have HQ2_16 := Lib.hid (below_gv HQ2_15.out hg HQ2_15.out.size HB2.out HV2.out)
  have HW16 := Lib.hid (below_gv HW15.out hg HW15.out.size (Nat.le_trans HP2.out.size HB2.out) (Nat.le_trans HP2.out.size HV2.out))
  clear hz hg
  go_wp2_with fail
  refine (O3.out _ HW16.out).mono ?_
  rintro e w17 ⟨B3, V3, rfl, hB, hV, hz, hb⟩
  have HP3 := Lib.hid HW16.out
  have HB3 := Lib.hid hB
  have HV3 := Lib.hid hV
  have HZ3_17 := Lib.hid hz
  have HQ3_17 := Lib.hid hb
  have HW17 := Lib.hid (below_trans' HW16.out hb)
  clear hB hV hz hb
  go_wp2
  go_loopw [7] (fun i wr => ∃ j : Nat, i = .int .i64 j ∧ j ≤ 30 ∧ Hid (VZ wr V3 B3 1 (rC j)) ∧ Hid (Below w16.heap.size w16 wr) ∧ Hid (Below w.heap.size w wr)) (fun i _ => 30 - (intOf i).toNat)
  case atStart => exact ⟨0, rfl, by omega, HZ3_17, HQ3_17, HW17⟩
  case round =>
    obtain ⟨j, rfl, hj, HZ, HQ, HW⟩ := hrel
    by_cases hlt : j < 30
    · go_wp2_with fail
      refine (C1.out j hlt _ _ _ HZ.out).mono ?_
      rintro e wn ⟨rfl, hz, hg⟩
      have HZn := Lib.hid hz
      have HQn := Lib.hid (below_gv HQ.out hg HQ.out.size HB3.out HV3.out)
      have HWn := Lib.hid (below_gv HW.out hg HW.out.size (Nat.le_trans HP3.out.size HB3.out) (Nat.le_trans HP3.out.size HV3.out))
      clear hz hg
      go_wp2
      go_roundw
      case rel => exact ⟨j + 1, by simp, by omega, HZn, HQn, HWn⟩
      case measure => (try simp [intOf]); (try omega)
    · obtain rfl : j = 30 := by omega
      clear hlt hj
      have FL3 := fld40_3
      have FL0 := fld40_0
      have HQa := Lib.hid HQ.out
      have HZa := Lib.hid HZ.out
      go_wp2_with fail
      refine (C2.out _ _ _ HZa.out).mono ?_
      rintro e u1 ⟨rfl, hz, hg⟩
      have HZ_1 := Lib.hid hz
      have HQ_1 := Lib.hid (below_gv HQa.out hg HQa.out.size HB3.out HV3.out)
      have HW_1 := Lib.hid (below_gv HW.out hg HW.out.size (Nat.le_trans HP3.out.size HB3.out) (Nat.le_trans HP3.out.size HV3.out))
      clear hz hg
      go_wp2_with fail
      refine (C3.out _ _ _ HZ_1.out).mono ?_
      rintro e u2 ⟨rfl, hz, hg⟩
      have HZ_2 := Lib.hid hz
      have HQ_2 := Lib.hid (below_gv HQ_1.out hg HQ_1.out.size HB3.out HV3.out)
      have HW_2 := Lib.hid (below_gv HW_1.out hg HW_1.out.size (Nat.le_trans HP3.out.size HB3.out) (Nat.le_trans HP3.out.size HV3.out))
      clear hz hg
      go_wp2_with fail
      refine (room_head HZ_2.out).mono ?_
      rintro e u3 ⟨x3, s3, a3, c3, rfl, hb⟩
      have HZ_3 := Lib.hid (HZ_2.out.below hb)
      have HQ_3 := Lib.hid (below_trans' HQ_2.out hb)
      have HW_3 := Lib.hid (below_trans' HW_2.out hb)
      clear hb
      go_wp2_with fail
      refine (room_head HZ_3.out).mono ?_
      rintro e u4 ⟨x4, s4, a4, c4, rfl, hb⟩
      have HZ_4 := Lib.hid (HZ_3.out.below hb)
      have HQ_4 := Lib.hid (below_trans' HQ_3.out hb)
      have HW_4 := Lib.hid (below_trans' HW_3.out hb)
      clear hb
      have HY1 := Lib.hid (HZ1_8.out.below (below_trans' HQ2_16.out HQ_4.out))
      obtain ⟨d1, hx1, -⟩ := HZ1_8.out
      have hl1 := hx1.d.lt
      have hl2 := hx1.lt
      have hs2 := HQ2_16.out.size
      have hb3 := HB3.out
      have N1 : Hid (B3 ≠ B1) := Lib.hid (by omega)
      have N2 : Hid (B3 ≠ V1) := Lib.hid (by omega)
      clear hx1 hl1 hl2 hs2 hb3
      obtain ⟨d3, hx3, i3⟩ := HZ_4.out
      have hup := i3.c.dn
      have HUP : Hid (d3.dn = false) := Lib.hid hup
      have HD_4 := Lib.hid hx3.d
      clear hx3 i3 hup d1
      go_wp2_with fail
      refine (vf_fail HY1.out ra_l1).mono ?_
      rintro e u5 ⟨rfl, hz, hg⟩
      have HY_5 := Lib.hid hz
      have HD_5 := Lib.hid (gv_dat3 HD_4.out hg N1.out N2.out)
      have HW_5 := Lib.hid (below_gv HW_4.out hg HW_4.out.size (Nat.le_trans HP1.out.size HB1.out) (Nat.le_trans HP1.out.size HV1.out))
      clear hz hg
      go_wp2_with fail
      refine (vf_sync HY_5.out).mono ?_
      rintro e u6 ⟨rfl, hz, hg⟩
      have HY_6 := Lib.hid hz
      have HD_6 := Lib.hid (gv_dat3 HD_5.out hg N1.out N2.out)
      have HW_6 := Lib.hid (below_gv HW_5.out hg HW_5.out.size (Nat.le_trans HP1.out.size HB1.out) (Nat.le_trans HP1.out.size HV1.out))
      clear hz hg
      go_wp2_with fail
      refine (vn_add ⟨#[]⟩ (by decide) ra_b HY_6.out).mono ?_
      rintro e u7 ⟨rfl, hz, hg⟩
      have HY_7 := Lib.hid hz
      have HD_7 := Lib.hid (gv_dat3 HD_6.out hg N1.out N2.out)
      have HW_7 := Lib.hid (below_gv HW_6.out hg HW_6.out.size (Nat.le_trans HP1.out.size HB1.out) (Nat.le_trans HP1.out.size HV1.out))
      clear hz hg
      go_wp2_with fail
      refine (vn_lay ⟨#[]⟩ (by decide) (Int.le_of_lt ra_b) HY_7.out).mono ?_
      rintro e u8 ⟨rfl, hz, hg⟩
      have HY_8 := Lib.hid hz
      have HD_8 := Lib.hid (gv_dat3 HD_7.out hg N1.out N2.out)
      have HW_8 := Lib.hid (below_gv HW_7.out hg HW_7.out.size (Nat.le_trans HP1.out.size HB1.out) (Nat.le_trans HP1.out.size HV1.out))
      clear hz hg
      go_wp2_with fail
      refine (ML.out _).mono ?_
      rintro e u9 ⟨rfl, hb⟩
      have HY_9 := Lib.hid (HY_8.out.below hb)
      have HD_9 := Lib.hid (HD_8.out.below hb HD_8.out.lt)
      have HW_9 := Lib.hid (below_trans' HW_8.out hb)
      clear hb
      go_wp2_with fail
      refine (vn_add_big (zs 262145) (by rw [zs_size]; decide) (by rw [zs_size]; decide) HY_9.out).mono ?_
      rintro e u10 ⟨rfl, hz, hg⟩
      have HY_10 := Lib.hid hz
      have HD_10 := Lib.hid (gv_dat3 HD_9.out hg N1.out N2.out)
      have HW_10 := Lib.hid (below_gv HW_9.out hg HW_9.out.size (Nat.le_trans HP1.out.size HB1.out) (Nat.le_trans HP1.out.size HV1.out))
      clear hz hg
      go_wp2_with fail
      refine (up3 HD_10.out HUP.out).mono ?_
      rintro e u11 ⟨rfl, rfl⟩
      go_wp2
      go_ret
      exact ⟨rfl, HW_10.out⟩
end Go.Proofs.YtieemdcoomilaaaGreatDoor
