/- VaultAgain: the law answers true. Condition: the table of package sum reads as its initialiser lays it (tied to the program's text by the card). -/
import Derived.Test.YtieemdcoomilaaaGreatDoorCards
import Derived.Test.YtieemdcoomilaaaGreatDoorTie
import Derived.Test.YtieemdcoomilaaaGreatDoorSa
import Derived.Test.YtieemdcoomilaaaGreatDoorXe
import Derived.Test.YtieemdcoomilaaaGreatDoorDx
import Derived.Test.YtieemdcoomilaaaGreatDoorVi
import Derived.Test.YtieemdcoomilaaaGreatDoorOx
import Derived.SevenTiedAt
set_option linter.unusedVariables false
set_option linter.unusedSimpArgs false
namespace Go.Proofs.YtieemdcoomilaaaGreatDoor.vaultAgain
open Go Go.ChangeShapes Go.WideShapes Go.ChangeAt Go.RowKit
open Go.ChangeMaps (open_string shut_string)
set_option linter.unusedVariables false
open Go.Sort
set_option maxRecDepth 100000
theorem rem_m (u : Nat) : ∃ k M : Nat, (u : Int).tmod 1048576 = (k : Int) ∧ k < 1048576 ∧ (1 : Int) + (k : Int) = (M : Int) ∧ 1 ≤ M ∧ M ≤ 1048576 := by
  refine ⟨u % 1048576, u % 1048576 + 1, ?_, by omega, by omega, by omega, by omega⟩
  rw [Int.tmod_eq_emod_of_nonneg (by omega)]; omega
theorem u64_nat (o : Int) : ∃ u : Nat, IntKind.u64.wrap o = (u : Int) ∧ u < 18446744073709551616 := ⟨(o % 18446744073709551616).toNat, by rw [IntKind.wrap_u64]; omega, by omega⟩
theorem wf_ge {n : Int} (h : (Lit.int .i64 n).wf = true) : -9223372036854775808 ≤ n := by
  have h1 : IntKind.i64.min = -9223372036854775808 := by decide
  have h2 : (decide (IntKind.i64.min ≤ n) && decide (n ≤ IntKind.i64.max)) = true := h
  rw [h1, Bool.and_eq_true, decide_eq_true_eq] at h2
  exact h2.1
theorem own_ne {w : World} {base : Nat} {v : Value} {xs : List Value} {B : Nat} (h : Own w base v xs) (hB : B < base) : ∀ q, v.ownBlock = some q → q ≠ B := fun q hq => by have := (h.lt q hq).1; omega
set_option maxHeartbeats 8000000 in
theorem core (c : Int) (v : Value) (l : List Tq) (m o : Int) (w : World) (wc : (Lit.int .i64 c).wf = true) (wl : Tps w v l) (wm : (Lit.int .i64 m).wf = true) (wo : (Lit.int .i64 o).wf = true) (hT : Hid (Tab w)) :
    Calls Tryz.prog 5 #[.int .i64 c, v, .int .i64 m, .int .i64 o] w fun e w' => e = .returned (.bool true) ∧ Below w.heap.size w w' := by
  have HLA := Lib.hid (large_any l v w wl.at' wl.len)
  have HAW := Lib.hid (fun W (hW : Below w.heap.size w W) => awake_any W (hT.out.below hW))
  have HLD := Lib.hid (fun W (hW : Below w.heap.size w W) => load_any c l v W (At2.below wl.at' hW (Nat.le_refl _)) wc wl.len wl.wide)
  have HOB := Lib.hid (fun B W h => open_bad B m W h)
  have HOP := Lib.hid (fun B (mo : Nat) d W h1 h2 hd hok hT hB => open_any B mo d W h1 h2 hd hok hT hB)
  have HCP := Lib.hid (fun B d W h => copy_any B d W h)
  have HSM := Lib.hid (fun A B d W h k => same_yes A B d W h k)
  obtain ⟨u, hu, hu2⟩ := u64_nat o
  obtain ⟨k, M, hk, hk2, hM, hM1, hM2⟩ := rem_m u
  have HM := Lib.hid (And.intro hM1 hM2)
  obtain ⟨va, vc, hv⟩ : ∃ a c, v = .slice a l.length c := by
    rcases wl.at' with ⟨e, a, c, rfl⟩ | ⟨g, o, c, rfl, -⟩
    · exact ⟨a, c, by have : l = [] := by simpa using e
                      rw [this]; rfl⟩
    · exact ⟨_, _, by rw [List.length_map]⟩
  generalize l.length = ll at hv
  have hm0 := wf_ge wm
  have hm9 := wf_le wm
  clear wl wc wm wo hM1 hM2
  subst hv
  go_enter Tryz.func5, Tryz.ntmps5
  go_wp2_with fail
  refine HLA.out.mono ?_
  rintro e w1 ⟨b, rfl, hb⟩
  have HB1 := Lib.hid hb
  clear hb
  cases b with
  | true =>
    go_wp2_with fail
    refine (HAW.out _ HB1.out).mono ?_
    rintro e w2 ⟨rfl, hb⟩
    have HB2 := Lib.hid (below_trans' HB1.out hb)
    clear hb
    go_wp2
    go_ret
    exact ⟨rfl, HB2.out⟩
  | false =>
    go_wp2_with fail
    refine (HAW.out _ HB1.out).mono ?_
    rintro e w2 ⟨rfl, hb⟩
    have HB2 := Lib.hid (below_trans' HB1.out hb)
    clear hb
    go_wp2_with fail
    refine (HLD.out _ HB2.out).mono ?_
    rintro e w3 ⟨hb, ⟨hE, rfl⟩ | ⟨hE, c', rfl, hok, B, hB, rfl, hd⟩⟩
    · have HB3 := Lib.hid (below_trans' HB2.out hb)
      have hne : ((loadE c l : Int) != 0) = true := by rw [bne_iff_ne]; omega
      clear hb hE
      generalize loadE c l = E at *
      go_wp2
      go_ret
      exact ⟨rfl, HB3.out⟩
    · have HB3 := Lib.hid (below_trans' HB2.out hb)
      have HBge : Hid (w.heap.size ≤ B) := Lib.hid (Nat.le_trans HB2.out.size hB)
      have HD := Lib.hid hd
      have HOK := Lib.hid hok
      have HT3 := Lib.hid (hT.out.below HB3.out)
      clear hb hE hB hd hok
      by_cases hm : m < 1 ∨ 1048576 < m
      · have HM0 := Lib.hid hm
        go_wp2_with fail
        refine (HOB.out _ _ HM0.out).mono ?_
        rintro e w4 ⟨rfl, hb⟩
        have HB4 := Lib.hid (below_trans' HB3.out hb)
        clear hb
        unfold foundV
        go_wp2
        go_ret
        exact ⟨rfl, HB4.out.alloc HB4.out.size _⟩
      · obtain ⟨mo, rfl⟩ : ∃ mo : Nat, m = (mo : Int) := ⟨m.toNat, by omega⟩
        have HMO : Hid (1 ≤ mo ∧ mo ≤ 1048576) := Lib.hid (by omega)
        have HB0 : Hid (B ≠ 0) := Lib.hid (by have := hT.out.1; have := HBge.out; omega)
        have HG := Lib.hid (fun h0 => Vt.open_gen (d := made0 c' l) rfl HOK.out rfl h0)
        clear hm hm0 hm9
        go_wp2_with fail
        refine (HOP.out B mo (made0 c' l) w3 HMO.out.1 HMO.out.2 HD.out HOK.out HT3.out HB0.out).mono ?_
        generalize Vt.opD (made0 c' l) = X at *
        obtain ⟨⟨d1, er⟩, h, S, R⟩ := X
        dsimp only at HG
        rintro e w4 ⟨hg, hd1, hok1, ⟨her, rfl⟩ | ⟨her, V, rv, rfl, hV, hx, hmay, hown, hq, hlen⟩⟩
        · dsimp only at her
          have HB4 := Lib.hid (HB3.out.grown hg HB3.out.size (fun k hk => by cases hk; exact HBge.out))
          have hne : ((er : Int) != 0) = true := by rw [bne_iff_ne]; omega
          clear hg hd1 hok1 her
          unfold foundV
          dsimp only
          go_wp2
          go_ret
          exact ⟨rfl, HB4.out.alloc HB4.out.size _⟩
        · dsimp only at her hx hmay hown hok1 hd1 hlen
          have HG := HG.out her
          have HB4 := Lib.hid (HB3.out.grown hg HB3.out.size (fun k hk => by cases hk; exact HBge.out))
          have HX4 := Lib.hid hx
          have HOW4 := Lib.hid hown
          have HOK1 := Lib.hid hok1
          have HS : Hid (Vt.opD d1 = ((d1, 0), h, S, R)) := Lib.hid (by have := Vt.open_same HG.u.dn HG.std HG.emp HG.fm; rw [List.append_nil] at this; exact this)
          have kk := mayB_ok hmay
          have HKK := Lib.hid kk
          have HBlt : Hid (B < w3.heap.size) := Lib.hid HD.out.lt
          have hRl : R.length ≤ 100000000 := hlen
          obtain ⟨ra, rc, er2⟩ := hown.shape
          have HRV := Lib.hid er2
          clear hg hd1 hok1 her hx hmay hown hq hlen hV HG kk
          generalize hR2 : (strs R).length = RL at *
          subst er2
          unfold foundV
          dsimp only
          generalize hs1 : S.isSome = s1 at *
          generalize hs2 : S.getD { data := #[] } = s2 at *
          have e1 : (s1 == s1) = true := by simp
          have e2 : (s2.toList == s2.toList) = true := by simp
          have HX5 := Lib.hid (HX4.out.below (below_one w4 (.cells #[.bool s1, .string s2, .slice ra RL rc] 26)) (Nat.le_refl _))
          have HW5 := Lib.hid (HOW4.out.alloc (.cells #[.bool s1, .string s2, .slice ra RL rc] 26))
          have HF5 := Lib.hid (heap_alloc_new w4 (.cells #[.bool s1, .string s2, .slice ra RL rc] 26))
          have HB5 := Lib.hid (HB4.out.alloc HB4.out.size (.cells #[.bool s1, .string s2, .slice ra RL rc] 26))
          go_wp2_with fail
          refine (HCP.out _ _ _ HX5.out.d).mono ?_
          rintro e w6 ⟨rfl, hdc, hb⟩
          have HDC := Lib.hid hdc
          have HB6 := Lib.hid (below_trans' HB5.out hb)
          have HX6 := Lib.hid (HX5.out.below hb (Nat.le_refl _))
          have HW6 := Lib.hid (HW5.out.belowAll hb)
          have HF6 := Lib.hid ((hb.block w4.heap.size (by rw [World.size_alloc]; omega)).trans HF5.out)
          have HC5 : Hid ((w4.alloc (.cells #[.bool s1, .string s2, .slice ra RL rc] 26)).heap.size = w4.heap.size + 1) := Lib.hid (by rw [World.size_alloc])
          have HZ6 : Hid (w4.heap.size + 1 < w6.heap.size) := Lib.hid (by have := hdc.lt; rw [World.size_alloc] at this; exact this)
          rw [World.size_alloc] at HDC
          clear hdc hb
          have HB40 : Hid (B < w4.heap.size) := Lib.hid (Nat.lt_of_lt_of_le (HX4.out.d.lt) (Nat.le_refl _))
          go_wp2_with fail
          refine (HOP.out B M d1 w6 HM.out.1 HM.out.2 HX6.out.d HX6.out.ok HX6.out.t HX6.out.b0).mono ?_
          rw [HS.out]
          rintro e w7 ⟨hg, hd7, hok7, ⟨her, rfl⟩ | ⟨her, V2, rv2, rfl, hV2, hx2, hmay2, hown2, hq2, hlen2⟩⟩
          · exact absurd rfl her
          dsimp only at hd7 hok7 hx2 hown2
          have HX7 := Lib.hid (HX6.out.regrow hg hd7 hok7)
          have HY7 := Lib.hid hx2
          have HW7 := Lib.hid (HW6.out.sat.grown hg (own_ne HW6.out HBlt.out))
          have HR7 := Lib.hid hown2.sat
          have HF7 := Lib.hid ((hg.block w4.heap.size (by have := HZ6.out; omega) (fun e => by have := HB40.out; cases e; omega)).trans HF6.out)
          have HDC7 := Lib.hid (HDC.out.congr (hg.block _ HDC.out.lt (fun e => by have := HB40.out; cases e; omega)))
          have HB7 := Lib.hid (HB6.out.grown hg HB6.out.size (fun k hk => by cases hk; exact HBge.out))
          have hz7 : w4.heap.size < w7.heap.size := Nat.lt_of_lt_of_le (by have := HZ6.out; omega) hg.size
          obtain ⟨ra2, rc2, er2⟩ := hown2.shape
          rw [hR2] at er2
          clear hg hd7 hok7 her hV2 hx2 hmay2 hown2 hq2 hlen2
          subst er2
          have c0 : w7.cell? ⟨w4.heap.size, 0, none⟩ = some (.bool s1) := by simp [World.cell?, HF7.out]
          have c1 : w7.cell? ⟨w4.heap.size, 1, none⟩ = some (.string s2) := by simp [World.cell?, HF7.out]
          have c2 : w7.cell? ⟨w4.heap.size, 2, none⟩ = some (.slice ra RL rc) := by simp [World.cell?, HF7.out]
          unfold foundV
          dsimp only
          rw [hs1, hs2]
          have HTX := Lib.hid (fun W h1 h2 => texts_any R R (.slice ra RL rc) (.slice ra2 RL rc2) W h1 h2 (by omega) (by omega))
          rw [decide_eq_true (p := R = R) rfl] at HTX
          go_wp2_with fail
          refine (HTX.out _ (HW7.out.below (below_one _ _)) (HR7.out.below (below_one _ _))).mono ?_
          rintro e w8 ⟨rfl, hb⟩
          have HB8 := Lib.hid (below_alloc_trans HB7.out hb)
          have HX8 := Lib.hid ((HX7.out.below (below_one _ _) (Nat.le_refl _)).below hb (Nat.le_refl _))
          have HY8 := Lib.hid ((HY7.out.below (below_one _ _) (Nat.le_refl _)).below hb (Nat.le_refl _))
          have HD8 := Lib.hid ((HDC7.out.below (below_one w7 (.cells #[.bool s1, .string s2, .slice ra2 RL rc2] 26)) HDC7.out.lt).below hb (Nat.lt_of_lt_of_le HDC7.out.lt (below_one w7 (.cells #[.bool s1, .string s2, .slice ra2 RL rc2] 26)).size))
          have HKK2 := HKK.out
          have HHD := Lib.hid (fun V mo v W (a : VAt W V B mo h R.length v) => head_any V B mo h R.length v W a HKK.out.ne (by have := HKK.out.len; omega))
          have HCN := Lib.hid (fun V mo v W (a : VAt W V B mo h R.length v) => count_any V B mo h R.length v W a HKK.out.b1 HKK.out.b2 (by omega))
          have HSN := Lib.hid (fun V mo v W (a : VAt W V B mo h R.length v) => since_any V B mo h R.length v W a)
          have HRS := Lib.hid (fun u u2 W (k1 : KAt W u h.log) (k2 : KAt W u2 h.log) => rsame_any h h u u2 W k1 k2 (by have := HKK.out.len; omega) (by have := HKK.out.len; omega))
          rw [show sameB h h = true from by unfold sameB; simp] at HRS
          obtain ⟨y1, hy1⟩ := HX8.out.v
          obtain ⟨y2, hy2⟩ := HY8.out.v
          have HV1 := Lib.hid hy1
          have HV2 := Lib.hid hy2
          generalize hcn : h.base + (R.length : Int) = CN at *
          generalize hrl : R.length = RN at *
          generalize hll : h.log.length = LN at *
          have HLL := Lib.hid hll
          have eCN : (CN == CN) = true := by simp
          have eRN : ((RN : Int) == (RN : Int)) = true := by simp
          clear hb hy1 hy2 c0 c1 c2 HKK2 hcn hrl hll
          go_wp2_with fail
          refine (HHD.out _ _ _ _ HV1.out).mono ?_
          rintro e w9 ⟨u1, rfl, ho1, hb⟩
          have HO1 := Lib.hid ho1
          have HB9 := Lib.hid (below_trans' HB8.out hb)
          have HV19 := Lib.hid (HV1.out.below hb (Nat.le_refl _))
          have HV29 := Lib.hid (HV2.out.below hb (Nat.le_refl _))
          have HD9 := Lib.hid (HD8.out.below hb HD8.out.lt)
          have HX9 := Lib.hid (HX8.out.d.below hb HX8.out.d.lt)
          obtain ⟨p1, q1, hp1⟩ := ho1.shape
          rw [List.length_map, HLL.out] at hp1
          clear hb ho1
          subst hp1
          unfold hval at *
          go_wp2_with fail
          refine (HHD.out _ _ _ _ HV29.out).mono ?_
          rintro e w10 ⟨u2, rfl, ho2, hb⟩
          have HO2 := Lib.hid ho2
          have HO1' := Lib.hid (HO1.out.belowAll hb)
          have HB10 := Lib.hid (below_trans' HB9.out hb)
          have HV1a := Lib.hid (HV19.out.below hb (Nat.le_refl _))
          have HV2a := Lib.hid (HV29.out.below hb (Nat.le_refl _))
          have HDa := Lib.hid (HD9.out.below hb HD9.out.lt)
          have HXa := Lib.hid (HX9.out.below hb HX9.out.lt)
          obtain ⟨p2, q2, hp2⟩ := ho2.shape
          rw [List.length_map, HLL.out] at hp2
          clear hb ho2
          subst hp2
          unfold hval at *
          go_wp2_with fail
          refine (HRS.out _ _ _ HO1'.out.kat HO2.out.kat).mono ?_
          rintro e w11 ⟨rfl, hb⟩
          have HB11 := Lib.hid (below_trans' HB10.out hb)
          have HV1b := Lib.hid (HV1a.out.below hb (Nat.le_refl _))
          have HV2b := Lib.hid (HV2a.out.below hb (Nat.le_refl _))
          have HDb := Lib.hid (HDa.out.below hb HDa.out.lt)
          have HXb := Lib.hid (HXa.out.below hb HXa.out.lt)
          clear hb
          go_wp2_with fail
          refine (HCN.out _ _ _ _ HV1b.out).mono ?_
          rintro e w12 ⟨rfl, hb⟩
          have HB12 := Lib.hid (below_trans' HB11.out hb)
          have HV1c := Lib.hid (HV1b.out.below hb (Nat.le_refl _))
          have HV2c := Lib.hid (HV2b.out.below hb (Nat.le_refl _))
          have HDc := Lib.hid (HDb.out.below hb HDb.out.lt)
          have HXc := Lib.hid (HXb.out.below hb HXb.out.lt)
          clear hb
          go_wp2_with fail
          refine (HCN.out _ _ _ _ HV2c.out).mono ?_
          rintro e w13 ⟨rfl, hb⟩
          have HB13 := Lib.hid (below_trans' HB12.out hb)
          have HV1d := Lib.hid (HV1c.out.below hb (Nat.le_refl _))
          have HV2d := Lib.hid (HV2c.out.below hb (Nat.le_refl _))
          have HDd := Lib.hid (HDc.out.below hb HDc.out.lt)
          have HXd := Lib.hid (HXc.out.below hb HXc.out.lt)
          clear hb
          go_wp2_with fail
          refine (HSN.out _ _ _ _ HV1d.out).mono ?_
          rintro e w14 ⟨rfl, rfl⟩
          go_wp2_with fail
          refine (HSN.out _ _ _ _ HV2d.out).mono ?_
          rintro e w14 ⟨rfl, rfl⟩
          go_wp2_with fail
          refine (HSM.out _ _ _ _ HDd.out HXd.out).mono ?_
          rintro e w14 ⟨rfl, hb⟩
          have HB14 := Lib.hid (below_trans' HB13.out hb)
          clear hb
          go_wp2
          go_ret
          exact ⟨rfl, HB14.out⟩
set_option maxRecDepth 100000 in
theorem lifted (os : Os) (started : os.Started) (H : Type) (enc : TypeId × Value → H) :
    ReturnsInHanded {} Tryz.checked os 5 .any (fun w args => (Rows.vaultAgainSpec.pre enc Tryz.prog Tryz.f5 [] false w args ∧ laidMetH Tryz.prog laid w) ∧ sizedMet enc Tryz.prog Tryz.f5 (OpenSpec.ofChange Rows.vaultAgainSpec) false w args)
      (Rows.vaultAgainSpec.post enc Tryz.prog Tryz.f5 false true false false) := by
  refine returnsInHanded_of_change_and (C := Tryz.checked) (X := fun w _ => laidMetH Tryz.prog laid w) (fun _ _ _ hh h => h.of_heap hh) own started (by kernel_rfl) Tryz.func5
    (ChangeSpec.witness_shaped (enc := enc) (C := Tryz.checked) (os := os) (X := fun w _ => laidMetH Tryz.prog laid w) false (World.doorLaid Tryz.prog doorSteps os) #[.int .i64 0, .slice none 0 0, .int .i64 0, .int .i64 0] 8 rfl (World.shaped_of_RefB (by kernel_rfl) (by kernel_rfl)) (by kernel_rfl) (by kernel_rfl) (by kernel_rfl) (door_met os _)) ?_
  intro W base args ds gs before hval0 hW hcnd hwt hL _
  have hval : ∀ (j : Nat) t v, Tryz.f5.params[j]? = some t → args[j]? = some v → Value.okWide Tryz.prog W .any base t v := hval0
  have hW' := hW
  obtain ⟨p, q, hA0, hV, rfl, hfz, hnd⟩ := hW
  have hA : DataW.TrodAll enc Tryz.prog W 0 (fun _ => true) true Tryz.f5.params.toList args.toList ds p := hA0
  rw [Tryz.params5] at hA hval
  obtain ⟨v0, vs0, d0, ds0, p0, q0, hargs, rfl, rfl, h0, r0⟩ := trodAll_cons hA
  obtain ⟨v1, vs1, d1, ds1, p1, q1, rfl, rfl, rfl, h1, r1⟩ := trodAll_cons r0
  obtain ⟨v2, vs2, d2, ds2, p2, q2, rfl, rfl, rfl, h2, r2⟩ := trodAll_cons r1
  obtain ⟨v3, vs3, d3, ds3, p3, q3, rfl, rfl, rfl, h3, r3⟩ := trodAll_cons r2
  obtain ⟨rfl, rfl, rfl⟩ := trodAll_nil r3
  obtain rfl : args = #[v0, v1, v2, v3] := by cases args; simp_all
  obtain ⟨rfl, rfl⟩ := trodVars_none hV
  have k0 := h0
  have lt0 : ∀ x ∈ p0, x.block < W.heap.size := by obtain ⟨m, hm⟩ := k0; exact DataW.trod_lt m _ _ _ hm
  have k1 := h1
  have lt1 : ∀ x ∈ p1, x.block < W.heap.size := by obtain ⟨m, hm⟩ := k1; exact DataW.trod_lt m _ _ _ hm
  have k2 := h2
  have lt2 : ∀ x ∈ p2, x.block < W.heap.size := by obtain ⟨m, hm⟩ := k2; exact DataW.trod_lt m _ _ _ hm
  have k3 := h3
  have lt3 : ∀ x ∈ p3, x.block < W.heap.size := by obtain ⟨m, hm⟩ := k3; exact DataW.trod_lt m _ _ _ hm
  obtain ⟨a0, rfl, rfl, rfl, w0⟩ := open_int Tryz.underlying3 (hval 0 3 v0 rfl rfl) h0
  obtain ⟨a1, w1⟩ := open_tapes (hval 1 56 v1 rfl rfl) h1
  obtain ⟨a2, rfl, rfl, rfl, w2⟩ := open_int Tryz.underlying3 (hval 2 3 v2 rfl rfl) h2
  obtain ⟨a3, rfl, rfl, rfl, w3⟩ := open_int Tryz.underlying3 (hval 3 3 v3 rfl rfl) h3
  clear hA0 hval0
  refine (core a0 v1 a1 a2 a3 W w0 w1 w2 w3 (Lib.hid (of_laid hL))).mono fun e W' ⟨he, bel⟩ => ?_
  subst he
  exact ⟨_, rfl, _, _, _, [], _, [], hW', trodAll_mk1 (shut_bool Tryz.underlying4 _), (trodAll_cons_mk (Below.trod laidOut (by kernel_rfl) (of_decide_eq_true (by kernel_rfl)) k0 bel lt0) (trodAll_cons_mk (Below.trod laidOut (by kernel_rfl) (of_decide_eq_true (by kernel_rfl)) k1 bel lt1) (trodAll_cons_mk (Below.trod laidOut (by kernel_rfl) (of_decide_eq_true (by kernel_rfl)) k2 bel lt2) (trodAll_cons_mk (Below.trod laidOut (by kernel_rfl) (of_decide_eq_true (by kernel_rfl)) k3 bel lt3) trodAll_mk0)))), rfl, bel.frame _, fun h => by cases h⟩
theorem over : Rows.vaultAgainRow.holds Tryz.pinned (OpenSpec.ofChange Rows.vaultAgainSpec) :=
  OpenClaim.holds_of_wide 5 Tryz.f5 rfl rfl rfl rfl rfl rfl rfl ⟨rfl, rfl, rfl, rfl, rfl⟩ rfl rfl rfl rfl rfl (by kernel_rfl) Tryz.func5 (by kernel_rfl)
    (of_decide_eq_true (by kernel_rfl)) (by unfold Func.isWrapper; first | (rw [if_pos (by decide +kernel)]; kernel_rfl) | (rw [if_neg (by decide +kernel)]; exact ⟨rfl, rfl⟩))
    (fun os started H enc _ => lifted os started H enc)
theorem proved : Rows.VaultAgainCardSaid :=
  Claim7.holds_tied_plain_at .later [] [.data] true (true, "37c87dc470550fd111a986e1b62c126974cbdbcc6bcfa932071678cf252ffab1") false
    over (fun _ h => by cases h) (by kernel_rfl) (fun _ h => by cases h) vaultAgain_row_tie rfl ⟨rfl, rfl⟩ (by kernel_rfl) rfl
    (fun f fn hf hfn => by
      obtain rfl : f = 5 := Option.some.inj ((show Tryz.prog.funcNamed "baton/batonlaw10.VaultAgain" = some 5 by kernel_rfl).symm.trans hf) |>.symm
      obtain rfl : fn = Tryz.f5 := (Option.some.inj (Tryz.func5.symm.trans hfn)).symm
      exact ⟨by kernel_rfl, fun j t ht => by
        rw [Tryz.params5] at ht
        have hm : t ∈ [3, 56, 3, 3] := by simpa using Array.mem_of_getElem? ht
        have hall : ([3, 56, 3, 3].all fun u => !Tryz.prog.wantsStandIn u) = true := by kernel_rfl
        exact (show Tryz.prog.wantsStandIn t = false by simpa using List.all_eq_true.1 hall t hm)⟩)
    (by kernel_rfl)
end Go.Proofs.YtieemdcoomilaaaGreatDoor.vaultAgain
