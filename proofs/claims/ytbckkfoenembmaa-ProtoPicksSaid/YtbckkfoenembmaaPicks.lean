/- ProtoPicks: for any fields, any number and any known numbers the law answers true. No condition. -/
import Derived.Test.YtbckkfoenembmaaRows
import Derived.Test.YtbckkfoenembmaaPk
import Derived.WalkKit
import Derived.ProofKit
import Derived.OpenShut
import Derived.ShutString
namespace Go.Proofs.Ytbckkfoenembmaa.protoPicks
open Go.ChangeShapes Go.WideShapes Go.ChangeAt Go.RowKit
open Go.ChangeMaps (open_string shut_string)
set_option linter.unusedVariables false
set_option maxRecDepth 100000 in
set_option maxHeartbeats 3000000 in
theorem core (v : Value) (l : List Ff) (num : Int) (u : Value) (kn : List Int) (wn : (Lit.int .i64 num).wf = true) (w : World) (h : Arg w v l) (hkn : Kn w u kn) :
    Calls Try.prog 5 #[v, .int .i64 num, u] w fun e w' => e = .returned (.bool true) ∧ Below w.heap.size w w' := by
  obtain ⟨hA, hlm, hwd⟩ := h
  obtain ⟨hI, hkm, hkw⟩ := hkn
  have HLG := Lib.hid (fun W (hW : FAt W v l) => large_any l hlm hwd v W hW)
  have HS := Lib.hid (St.mk0 hA hI)
  obtain ⟨va, vc, hv⟩ := hA.slice
  obtain ⟨ka, kc, hu⟩ := hI.slice
  generalize hLL : l.length = LL at hv
  clear hLL
  subst hv
  obtain ⟨KN, hKN⟩ : ∃ KN, KN = kn.length := ⟨_, rfl⟩
  rw [← hKN] at hu hkm
  have HKN := Lib.hid hKN
  clear hA hI hKN
  subst hu
  by_cases hb : 10000 ≤ lng l 0
  · have hd : decide (10000 ≤ lng l 0) = true := decide_eq_true hb
    clear hb
    rw [hd] at HLG
    clear hd hwd hlm hkw hkm
    go_enter Try.func5, Try.ntmps5
    go_wp2_with fail
    refine (HLG.out _ HS.out.f0).mono ?_
    rintro e w1 ⟨rfl, rfl⟩
    go_wp2_with fail
    refine (awake_any _).mono ?_
    rintro e w1 ⟨rfl, hb1⟩
    have HB1 := Lib.hid hb1
    clear hb1
    go_wp2
    go_ret
    exact ⟨rfl, HB1.out⟩
  have hd : decide (10000 ≤ lng l 0) = false := decide_eq_false hb
  rw [hd] at HLG
  have F := fit_of hwd (by omega)
  clear hd hwd hlm hb
  by_cases hbig : 100 < KN
  · clear F hkw
    go_enter Try.func5, Try.ntmps5
    go_wp2_with fail
    refine (HLG.out _ HS.out.f0).mono ?_
    rintro e w1 ⟨rfl, rfl⟩
    go_wp2_with fail
    refine (awake_any _).mono ?_
    rintro e w1 ⟨rfl, hb1⟩
    have HB1 := Lib.hid hb1
    clear hb1
    go_wp2
    go_ret
    exact ⟨rfl, HB1.out⟩
  obtain ⟨gs, fs, T0, K0, X0, B0, D0, T1, K1, X1, B1, D1, T5, K5, X5, B5, D5, bt, os, ro, C⟩ := pc_of F num kn (by rw [← HKN.out]; omega) hkw
  clear F hkw
  have HMD := Lib.hid C.md
  have HST := Lib.hid C.st
  have HTX := Lib.hid C.tx
  have HOT := Lib.hid C.ot
  have HPL := Lib.hid C.pl
  have HRT := Lib.hid C.rt
  have HSM := Lib.hid C.sm
  have HPS := Lib.hid C.ps
  have HWH := Lib.hid C.wh
  have HALL0 := Lib.hid C.k0.all
  have HRAL0 := Lib.hid C.k0.ral
  have HLAS0 := Lib.hid C.k0.las
  have HPIC0 := Lib.hid C.k0.pic
  have HOK0 := Lib.hid C.k0.ok
  have hl0 := C.k0.len
  have HALL1 := Lib.hid C.k1.all
  have HRAL1 := Lib.hid C.k1.ral
  have HLAS1 := Lib.hid C.k1.las
  have HPIC1 := Lib.hid C.k1.pic
  have HOK1 := Lib.hid C.k1.ok
  have hl1 := C.k1.len
  have HALL5 := Lib.hid C.k5.all
  have HRAL5 := Lib.hid C.k5.ral
  have HLAS5 := Lib.hid C.k5.las
  have HPIC5 := Lib.hid C.k5.pic
  have HOK5 := Lib.hid C.k5.ok
  have hl5 := C.k5.len
  have HBD := Lib.hid C.bd
  have hx50 := C.x0
  have hx51 := C.x1
  clear C
  obtain ⟨i0, hi, hz0, hz1, hz2⟩ := info_parts Try.info45
  go_enter Try.func5, Try.ntmps5
  go_wp2_with fail
  refine (HLG.out _ HS.out.f0).mono ?_
  rintro e w0 ⟨rfl, rfl⟩
  go_wp2_with fail
  refine (HMD.out _ _ HS.out.f0).mono ?_
  rintro e wa ⟨v7, rfl, hoa, hba⟩
  have HSa := Lib.hid ((HS.out.below hba).addG hoa.at)
  clear hoa hba HS
  go_wp2_with fail
  refine (HST.out _ _ HSa.out.f0).mono ?_
  rintro e wb ⟨v8, rfl, hob, hbb⟩
  have HS0 := Lib.hid ((HSa.out.below hbb).addF hob.at)
  clear hob hbb HSa
  go_wp2_with fail
  refine (HALL0.out _ _ HS0.out.g0).mono ?_
  rintro e wA0 ⟨vA0, rfl, hoA, hbA⟩
  have HSA0 := Lib.hid (HS0.out.below hbA)
  have HVA0 := Lib.hid (vat_of hoA)
  obtain ⟨aA0, cA0, hvA⟩ := HVA0.out.slice
  rw [List.length_map] at hvA
  obtain ⟨N0, hN⟩ : ∃ N, N = T0.length := ⟨_, rfl⟩
  rw [← hN] at hvA hl0
  have HN0 := Lib.hid hN
  clear hN hoA hbA HS0 HALL0
  subst hvA
  go_wp2
  go_loopw [9, 14] (fun u i wr => ∃ k : Nat, i = .int .i64 (k : Int) ∧ k ≤ N0 ∧ Hid (wr.ownsRow wA0.heap.size 45 1 u k ((T0.map fun f : Ff => (.int .u64 (f.v : Int) : Value)).take k)) ∧ Hid (Below wA0.heap.size wA0 wr)) (fun _ i _ => N0 - (intOf i).toNat)
  case atStart => exact ⟨0, rfl, by omega, Lib.hid (World.ownsRow_nil _ _ _ _), Lib.hid (Below.refl _ _)⟩
  case round =>
    obtain ⟨k0, rfl, hk, HO, HB⟩ := hrel
    obtain ⟨ua0, uc0, hu⟩ := ownsRow_shape HO.out
    subst hu
    have HSZ : Hid (wA0.heap.size ≤ wr.heap.size) := Lib.hid HB.out.size
    by_cases hlt : k0 < N0
    · have hkl : k0 < T0.length := by have := HN0.out; omega
      rcases (HVA0.out.below HB.out (Nat.le_refl _)) with ⟨h0, _⟩ | ⟨g, og, cg, hg, hcs⟩
      · have := congrArg List.length h0; rw [List.length_map, List.length_nil] at this; omega
      have q0 := hcs k0 (by rw [List.length_map]; exact hkl)
      rw [List.getElem_map] at q0
      clear hcs
      have HTK : Hid ((T0.map fun f : Ff => (.int .u64 (f.v : Int) : Value)).take (k0 + 1) = (T0.map fun f : Ff => (.int .u64 (f.v : Int) : Value)).take k0 ++ [.int .u64 (T0[k0].v : Int)]) := Lib.hid (by rw [List.take_succ_eq_append_getElem (by rw [List.length_map]; exact hkl), List.getElem_map])
      generalize (T0.map fun f : Ff => (.int .u64 (f.v : Int) : Value)).take k0 = CK at *
      generalize (T0[k0].v : Int) = x at *
      rw [List.length_map, ← HN0.out] at hg
      cases hg
      clear hkl
      go_wp2_with (at_builtin; refine wpList_append_own_at _ rfl (.tmp 60) (.tmp 65) 51 rfl wA0.heap.size 45 i0 _ 1 8 Try.underlying51 hi hz0 hz1 hz2 (by rfl) (by decide) (.slice ua0 k0 uc0) k0 CK rfl (World.ownsRow.alloc HO.out _) ⟨wr.heap.size, 0, none⟩ 1 1 [.int .u64 x] rfl rfl (cells_new1 _ _ _) (one1 rfl) (by unfold maxLen; omega) (by omega) (by have := HSZ.out; simp; omega) ?_; intro v' w6 hown' hgrow hnil hloc; have HON := Lib.hid hown'; have HB6 := Lib.hid ((HB.out.alloc HB.out.size (.cells #[.int .u64 x] 45)).grown hgrow (by have := HSZ.out; simp; omega) (fun g hg => (own_lt HO.out g hg).1)); clear hown' hgrow hnil hloc)
      go_roundw
      case rel => exact ⟨k0 + 1, by go_num, by omega, Lib.hid (by rw [HTK.out]; exact HON.out), HB6⟩
      case measure => simp [intOf]; omega
    · obtain rfl : k0 = N0 := by omega
      have HO' := HO.out
      rw [List.take_of_length_le (by rw [List.length_map]; have := HN0.out; omega)] at HO'
      have HSL0 := Lib.hid ((HSA0.out.below HB.out).addV (vat_of HO'))
      obtain ⟨wl0, hwo⟩ : ∃ wo, wo = wr := ⟨_, rfl⟩
      subst hwo
      clear HO HB HO' HSA0 HVA0 HN0 hk hlt HSZ
      go_wp2_with fail
      refine (HALL1.out _ _ HSL0.out.g0).mono ?_
      rintro e wA1 ⟨vA1, rfl, hoA, hbA⟩
      have HSA1 := Lib.hid (HSL0.out.below hbA)
      have HVA1 := Lib.hid (vat_of hoA)
      obtain ⟨aA1, cA1, hvA⟩ := HVA1.out.slice
      rw [List.length_map] at hvA
      obtain ⟨N1, hN⟩ : ∃ N, N = T1.length := ⟨_, rfl⟩
      rw [← hN] at hvA hl1
      have HN1 := Lib.hid hN
      clear hN hoA hbA HSL0 HALL1
      subst hvA
      go_wp2
      go_loopw [10, 17] (fun u i wr => ∃ k : Nat, i = .int .i64 (k : Int) ∧ k ≤ N1 ∧ Hid (wr.ownsRow wA1.heap.size 45 1 u k ((T1.map fun f : Ff => (.int .u64 (f.v : Int) : Value)).take k)) ∧ Hid (Below wA1.heap.size wA1 wr)) (fun _ i _ => N1 - (intOf i).toNat)
      case atStart => exact ⟨0, rfl, by omega, Lib.hid (World.ownsRow_nil _ _ _ _), Lib.hid (Below.refl _ _)⟩
      case round =>
        obtain ⟨k1, rfl, hk, HO, HB⟩ := hrel
        obtain ⟨ua1, uc1, hu⟩ := ownsRow_shape HO.out
        subst hu
        have HSZ : Hid (wA1.heap.size ≤ wr.heap.size) := Lib.hid HB.out.size
        by_cases hlt : k1 < N1
        · have hkl : k1 < T1.length := by have := HN1.out; omega
          rcases (HVA1.out.below HB.out (Nat.le_refl _)) with ⟨h0, _⟩ | ⟨g, og, cg, hg, hcs⟩
          · have := congrArg List.length h0; rw [List.length_map, List.length_nil] at this; omega
          have q0 := hcs k1 (by rw [List.length_map]; exact hkl)
          rw [List.getElem_map] at q0
          clear hcs
          have HTK : Hid ((T1.map fun f : Ff => (.int .u64 (f.v : Int) : Value)).take (k1 + 1) = (T1.map fun f : Ff => (.int .u64 (f.v : Int) : Value)).take k1 ++ [.int .u64 (T1[k1].v : Int)]) := Lib.hid (by rw [List.take_succ_eq_append_getElem (by rw [List.length_map]; exact hkl), List.getElem_map])
          generalize (T1.map fun f : Ff => (.int .u64 (f.v : Int) : Value)).take k1 = CK at *
          generalize (T1[k1].v : Int) = x at *
          rw [List.length_map, ← HN1.out] at hg
          cases hg
          clear hkl
          go_wp2_with (at_builtin; refine wpList_append_own_at _ rfl (.tmp 79) (.tmp 84) 51 rfl wA1.heap.size 45 i0 _ 1 8 Try.underlying51 hi hz0 hz1 hz2 (by rfl) (by decide) (.slice ua1 k1 uc1) k1 CK rfl (World.ownsRow.alloc HO.out _) ⟨wr.heap.size, 0, none⟩ 1 1 [.int .u64 x] rfl rfl (cells_new1 _ _ _) (one1 rfl) (by unfold maxLen; omega) (by omega) (by have := HSZ.out; simp; omega) ?_; intro v' w6 hown' hgrow hnil hloc; have HON := Lib.hid hown'; have HB6 := Lib.hid ((HB.out.alloc HB.out.size (.cells #[.int .u64 x] 45)).grown hgrow (by have := HSZ.out; simp; omega) (fun g hg => (own_lt HO.out g hg).1)); clear hown' hgrow hnil hloc)
          go_roundw
          case rel => exact ⟨k1 + 1, by go_num, by omega, Lib.hid (by rw [HTK.out]; exact HON.out), HB6⟩
          case measure => simp [intOf]; omega
        · obtain rfl : k1 = N1 := by omega
          have HO' := HO.out
          rw [List.take_of_length_le (by rw [List.length_map]; have := HN1.out; omega)] at HO'
          have HSL1 := Lib.hid ((HSA1.out.below HB.out).addV (vat_of HO'))
          obtain ⟨wl1, hwo⟩ : ∃ wo, wo = wr := ⟨_, rfl⟩
          subst hwo
          clear HO HB HO' HSA1 HVA1 HN1 hk hlt HSZ
          go_wp2_with fail
          refine (HALL5.out _ _ HSL1.out.g0).mono ?_
          rintro e wA5 ⟨vA5, rfl, hoA, hbA⟩
          have HSA5 := Lib.hid (HSL1.out.below hbA)
          have HVA5 := Lib.hid (vat_of hoA)
          obtain ⟨aA5, cA5, hvA⟩ := HVA5.out.slice
          rw [List.length_map] at hvA
          obtain ⟨N5, hN⟩ : ∃ N, N = T5.length := ⟨_, rfl⟩
          rw [← hN] at hvA hl5
          have HN5 := Lib.hid hN
          clear hN hoA hbA HSL1 HALL5
          subst hvA
          go_wp2
          go_loopw [11, 20] (fun u i wr => ∃ k : Nat, i = .int .i64 (k : Int) ∧ k ≤ N5 ∧ Hid (wr.ownsRow wA5.heap.size 45 1 u k ((T5.map fun f : Ff => (.int .u64 (f.v : Int) : Value)).take k)) ∧ Hid (Below wA5.heap.size wA5 wr)) (fun _ i _ => N5 - (intOf i).toNat)
          case atStart => exact ⟨0, rfl, by omega, Lib.hid (World.ownsRow_nil _ _ _ _), Lib.hid (Below.refl _ _)⟩
          case round =>
            obtain ⟨k5, rfl, hk, HO, HB⟩ := hrel
            obtain ⟨ua5, uc5, hu⟩ := ownsRow_shape HO.out
            subst hu
            have HSZ : Hid (wA5.heap.size ≤ wr.heap.size) := Lib.hid HB.out.size
            by_cases hlt : k5 < N5
            · have hkl : k5 < T5.length := by have := HN5.out; omega
              rcases (HVA5.out.below HB.out (Nat.le_refl _)) with ⟨h0, _⟩ | ⟨g, og, cg, hg, hcs⟩
              · have := congrArg List.length h0; rw [List.length_map, List.length_nil] at this; omega
              have q0 := hcs k5 (by rw [List.length_map]; exact hkl)
              rw [List.getElem_map] at q0
              clear hcs
              have hx := HBD.out _ (List.getElem_mem hkl)
              have hx0 : (0 : Int) ≤ (T5[k5].v : Int) := by omega
              have hx1 : (T5[k5].v : Int) < 4294967296 := by omega
              clear hx
              have HTK : Hid ((T5.map fun f : Ff => (.int .u64 (f.v : Int) : Value)).take (k5 + 1) = (T5.map fun f : Ff => (.int .u64 (f.v : Int) : Value)).take k5 ++ [.int .u64 (T5[k5].v : Int)]) := Lib.hid (by rw [List.take_succ_eq_append_getElem (by rw [List.length_map]; exact hkl), List.getElem_map])
              generalize (T5.map fun f : Ff => (.int .u64 (f.v : Int) : Value)).take k5 = CK at *
              generalize (T5[k5].v : Int) = x at *
              rw [List.length_map, ← HN5.out] at hg
              cases hg
              clear hkl
              go_wp2_with (at_builtin; refine wpList_append_own_at _ rfl (.tmp 98) (.tmp 104) 51 rfl wA5.heap.size 45 i0 _ 1 8 Try.underlying51 hi hz0 hz1 hz2 (by rfl) (by decide) (.slice ua5 k5 uc5) k5 CK rfl (World.ownsRow.alloc HO.out _) ⟨wr.heap.size, 0, none⟩ 1 1 [.int .u64 x] rfl rfl (cells_new1 _ _ _) (one1 rfl) (by unfold maxLen; omega) (by omega) (by have := HSZ.out; simp; omega) ?_; intro v' w6 hown' hgrow hnil hloc; have HON := Lib.hid hown'; have HB6 := Lib.hid ((HB.out.alloc HB.out.size (.cells #[.int .u64 x] 45)).grown hgrow (by have := HSZ.out; simp; omega) (fun g hg => (own_lt HO.out g hg).1)); clear hown' hgrow hnil hloc)
              go_roundw
              case rel => exact ⟨k5 + 1, by go_num, by omega, Lib.hid (by rw [HTK.out]; exact HON.out), HB6⟩
              case measure => simp [intOf]; omega
            · obtain rfl : k5 = N5 := by omega
              have HO' := HO.out
              rw [List.take_of_length_le (by rw [List.length_map]; have := HN5.out; omega)] at HO'
              have HSL5 := Lib.hid ((HSA5.out.below HB.out).addV (vat_of HO'))
              obtain ⟨wl5, hwo⟩ : ∃ wo, wo = wr := ⟨_, rfl⟩
              subst hwo
              clear HO HB HO' HSA5 HVA5 HN5 hk hlt HSZ
              go_wp2_with fail
              refine (HRAL0.out _ _ HSL5.out.f0).mono ?_
              rintro e wq1 ⟨vq1, rfl, ho, hb⟩
              have HQ1 := Lib.hid ((HSL5.out.below hb).addF ho.at)
              clear hb ho HSL5
              go_wp2_with fail
              refine (HRAL1.out _ _ HQ1.out.f1).mono ?_
              rintro e wq2 ⟨vq2, rfl, ho, hb⟩
              have HQ2 := Lib.hid ((HQ1.out.below hb).addF ho.at)
              clear hb ho HQ1
              go_wp2_with fail
              refine (HRAL5.out _ _ HQ2.out.f2).mono ?_
              rintro e wq3 ⟨vq3, rfl, ho, hb⟩
              have HQ3 := Lib.hid ((HQ2.out.below hb).addF ho.at)
              clear hb ho HQ2
              have e0 : ((K0 : Int) != (K0 : Int)) = false := by simp
              have e1 : ((K1 : Int) != (K1 : Int)) = false := by simp
              have e5 : ((K5 : Int) != (K5 : Int)) = false := by simp
              go_wp2_with fail
              refine (HPIC0.out _ _ _ HQ3.out.v2 HQ3.out.f2).mono ?_
              rintro e wq4 ⟨rfl, hb⟩
              have HQ4 := Lib.hid (HQ3.out.below hb)
              clear hb HQ3
              go_wp2_with fail
              refine (HPIC1.out _ _ _ HQ4.out.v1 HQ4.out.f1).mono ?_
              rintro e wq5 ⟨rfl, hb⟩
              have HQ5 := Lib.hid (HQ4.out.below hb)
              clear hb HQ4
              go_wp2_with fail
              refine (HPIC5.out _ _ _ HQ5.out.v0 HQ5.out.f0).mono ?_
              rintro e wq6 ⟨rfl, hb⟩
              have HQ6 := Lib.hid (HQ5.out.below hb)
              clear hb HQ5
              go_wp2_with fail
              refine (HLAS0.out _ _ HQ6.out.g0).mono ?_
              rintro e wq7 ⟨rfl, hb⟩
              have HQ7 := Lib.hid (HQ6.out.below hb)
              clear hb HQ6
              go_wp2_with fail
              refine (HLAS1.out _ _ HQ7.out.g0).mono ?_
              rintro e wq8 ⟨rfl, hb⟩
              have HQ8 := Lib.hid (HQ7.out.below hb)
              clear hb HQ7
              go_wp2_with fail
              refine (HLAS5.out _ _ HQ8.out.g0).mono ?_
              rintro e wq9 ⟨rfl, hb⟩
              have HQ9 := Lib.hid (HQ8.out.below hb)
              clear hb HQ8
              go_wp2_with fail
              refine (HOK0.out _ _ HQ9.out.f2).mono ?_
              rintro e wq10 ⟨rfl, hb⟩
              have HQ10 := Lib.hid (HQ9.out.below hb)
              clear hb HQ9
              go_wp2_with fail
              refine (HOK1.out _ _ HQ10.out.f1).mono ?_
              rintro e wq11 ⟨rfl, hb⟩
              have HQ11 := Lib.hid (HQ10.out.below hb)
              clear hb HQ10
              go_wp2_with fail
              refine (HOK5.out _ _ HQ11.out.f0).mono ?_
              rintro e wq12 ⟨rfl, hb⟩
              have HQ12 := Lib.hid (HQ11.out.below hb)
              clear hb HQ11
              go_wp2_with fail
              refine (HTX.out _ _ _ HQ12.out.g0 HQ12.out.f3).mono ?_
              rintro e wq13 ⟨rfl, hb⟩
              have HQ13 := Lib.hid (HQ12.out.below hb)
              clear hb HQ12
              go_wp2_with fail
              refine (HOT.out _ _ _ HQ13.out.g0 HQ13.out.i0).mono ?_
              rintro e wq14 ⟨vq14, rfl, ho, hb⟩
              have HQ14 := Lib.hid ((HQ13.out.below hb).addG ho.at)
              clear hb ho HQ13
              go_wp2_with fail
              refine (HPL.out _ _ HQ14.out.g0).mono ?_
              rintro e wq15 ⟨vq15, rfl, ho, hb⟩
              have HQ15 := Lib.hid ((HQ14.out.below hb).addF ho.at)
              clear hb ho HQ14
              go_wp2_with fail
              refine (HRT.out _ _ _ HQ15.out.f4 HQ15.out.i0).mono ?_
              rintro e wq16 ⟨vq16, rfl, ho, hb⟩
              have HQ16 := Lib.hid ((HQ15.out.below hb).addF ho.at)
              clear hb ho HQ15
              go_wp2_with fail
              refine (HSM.out _ _ _ HQ16.out.f1 HQ16.out.f0).mono ?_
              rintro e wq17 ⟨rfl, hb⟩
              have HQ17 := Lib.hid (HQ16.out.below hb)
              clear hb HQ16
              go_wp2_with fail
              refine (HMD.out _ _ HQ17.out.f6).mono ?_
              rintro e wq18 ⟨vq18, rfl, ho, hb⟩
              have HQ18 := Lib.hid ((HQ17.out.below hb).addG ho.at)
              clear hb ho HQ17
              go_wp2_with fail
              refine (HPS.out _ _ _ HQ18.out.g2 HQ18.out.g0).mono ?_
              rintro e wq19 ⟨rfl, hb⟩
              have HQ19 := Lib.hid (HQ18.out.below hb)
              clear hb HQ18
              go_wp2_with fail
              refine (HWH.out _ _ HQ19.out.f6).mono ?_
              rintro e wq20 ⟨rfl, hb⟩
              have HQ20 := Lib.hid (HQ19.out.below hb)
              clear hb HQ19
              cases bt
              · go_wp2_with fail
                refine (awake_any _).mono ?_
                rintro e wz ⟨rfl, hb⟩
                have HZ := Lib.hid (HQ20.out.below hb)
                clear hb
                go_wp2
                go_ret
                exact ⟨rfl, HZ.out.b⟩
              · go_wp2_with fail
                refine (awake_any _).mono ?_
                rintro e wz ⟨rfl, hb⟩
                have HZ := Lib.hid (HQ20.out.below hb)
                clear hb
                go_wp2
                go_ret
                exact ⟨rfl, HZ.out.b⟩
theorem own : ownKnob Try.prog.godebug = none := by kernel_rfl
theorem laidOut : laidOutB Try.prog = true := by kernel_rfl
set_option maxRecDepth 100000 in
theorem lifted (os : Os) (started : os.Started) (H : Type) (enc : TypeId × Value → H) :
    ReturnsInHanded {} Try.checked os 5 .any (Rows.protoPicksSpec.pre6 enc Try.prog Try.f5 Rows.protoPicksRow.domain false) (Rows.protoPicksSpec.post enc Try.prog Try.f5 false true false false) := by
  refine returnsInHanded_of_change (C := Try.checked) own started (by kernel_rfl) Try.func5
    (ChangeSpec.witness6 (enc := enc) (C := Try.checked) false ⟨#[], #[.slice none 0 0, .int .i64 0, .slice none 0 0], []⟩ 8 (by kernel_rfl) (by kernel_rfl) (by kernel_rfl) (by kernel_rfl)) ?_
  intro W base args ds gs before hval0 hW hcnd _
  have hval : ∀ (j : Nat) t v, Try.f5.params[j]? = some t → args[j]? = some v → Value.okWide Try.prog W .any base t v := hval0
  have hW' := hW
  obtain ⟨p, q, hA0, hV, rfl, hfz, hnd⟩ := hW
  have hA : DataW.TrodAll enc Try.prog W 0 (fun _ => true) true Try.f5.params.toList args.toList ds p := hA0
  rw [Try.params5] at hA hval
  obtain ⟨v0, vs0, d0, ds0, p0, q0, hargs, rfl, rfl, h0, r0⟩ := trodAll_cons hA
  obtain ⟨v1, vs1, d1, ds1, p1, q1, rfl, rfl, rfl, h1, r1⟩ := trodAll_cons r0
  obtain ⟨v2, vs2, d2, ds2, p2, q2, rfl, rfl, rfl, h2, r2⟩ := trodAll_cons r1
  obtain ⟨rfl, rfl, rfl⟩ := trodAll_nil r2
  obtain rfl : args = #[v0, v1, v2] := by cases args; simp_all
  obtain ⟨rfl, rfl⟩ := trodVars_none hV
  have k0 := h0
  have lt0 : ∀ x ∈ p0, x.block < W.heap.size := by obtain ⟨m, hm⟩ := k0; exact DataW.trod_lt m _ _ _ hm
  have k1 := h1
  have lt1 : ∀ x ∈ p1, x.block < W.heap.size := by obtain ⟨m, hm⟩ := k1; exact DataW.trod_lt m _ _ _ hm
  have k2 := h2
  have lt2 : ∀ x ∈ p2, x.block < W.heap.size := by obtain ⟨m, hm⟩ := k2; exact DataW.trod_lt m _ _ _ hm
  obtain ⟨a0, w0⟩ := open_fields (hval 0 23 v0 rfl rfl) h0
  obtain ⟨a1, rfl, rfl, rfl, w1⟩ := open_int Try.underlying3 (hval 1 3 v1 rfl rfl) h1
  obtain ⟨a2, w2⟩ := open_known (hval 2 50 v2 rfl rfl) h2
  clear hA0 hval0
  refine (core v0 a0 a1 v2 a2 w1 W w0 w2).mono fun e W' ⟨he, bel⟩ => ?_
  subst he
  exact ⟨_, rfl, _, _, _, [], _, [], hW', trodAll_mk1 (shut_bool Try.underlying4 _), (trodAll_cons_mk (Below.trod laidOut (by kernel_rfl) (of_decide_eq_true (by kernel_rfl)) k0 bel lt0) (trodAll_cons_mk (Below.trod laidOut (by kernel_rfl) (of_decide_eq_true (by kernel_rfl)) k1 bel lt1) (trodAll_cons_mk (Below.trod laidOut (by kernel_rfl) (of_decide_eq_true (by kernel_rfl)) k2 bel lt2) trodAll_mk0))), rfl, bel.frame _, fun h => by cases h⟩
theorem over : Rows.protoPicksRow.holds Try.pinned (OpenSpec.ofChange Rows.protoPicksSpec) :=
  OpenClaim.holds_of_wide 5 Try.f5 rfl rfl rfl rfl rfl rfl rfl ⟨rfl, rfl, rfl, rfl, rfl⟩ rfl rfl rfl rfl rfl (by kernel_rfl) Try.func5 (by kernel_rfl)
    (of_decide_eq_true (by kernel_rfl)) (by unfold Func.isWrapper; first | (rw [if_pos (by decide +kernel)]; kernel_rfl) | (rw [if_neg (by decide +kernel)]; exact ⟨rfl, rfl⟩))
    (fun os started H enc _ => lifted os started H enc)
theorem proved : Rows.ProtoPicksSaid := over
end Go.Proofs.Ytbckkfoenembmaa.protoPicks
