/- The contract of the document's Show. -/
import Derived.Test.YtjhgmlhoefakpaaDoorSh2
import Derived.Deep.RegionWith
namespace Go.Proofs.YtjhgmlhoefakpaaDoor
open Go.RowKit
set_option maxRecDepth 100000
set_option maxHeartbeats 4000000
theorem below_drew1 {n : Nat} {w a : World} (h : Below n w a) : Below n w a.drew := ⟨h.os, h.tape, h.output, h.size, h.block⟩
theorem string_one (x : Nat) (hx : x < 256) (W : World) (g : Nat) (h : W.cell? ⟨g, 0, none⟩ = some (.int .u8 x)) :
    Sem.run Tryd.prog (convert 26 9 (.slice (some ⟨g, 0, none⟩) 1 1)) W = .ok (.string (bs [UInt8.ofNat x])) W :=
  run_string_one (UInt8.ofNat x) x (by simp; omega) W g h
theorem rshow_any (l : List Lb) (hl : l.length ≤ 9223372036854775807) (hw : Wide l) (v : Value) (w : World) (hv : LAt w v l) :
    Calls Tryd.prog 35 #[v] w (Ret w (shV (showE l))) := by
  have HV := Lib.hid hv
  have HM := Lib.hid (rmayL_any l hl hw v w hv)
  obtain ⟨va, vc, hv2⟩ := hv.slice
  clear hv hw
  cases hm : mayL l with
  | false =>
    rw [showE_no hm]
    rw [hm] at HM
    generalize l.length = L at *
    subst hv2
    clear hm
    go_enter Tryd.func35, Tryd.ntmps35
    go_wp2_with (go_at_call 24; refine HM.out.mono ?_; rintro e w1 ⟨rfl, hb1⟩)
    go_ret2
    exact ⟨rfl, hb1⟩
  | true =>
    rw [showE_yes hm]
    rw [hm] at HM
    have HLn := Lib.hid (mayL_len hm)
    have HMm := Lib.hid (mayL_mem hm)
    have hl16 := (mayL_len hm).2
    have HNe := Lib.hid (mayL_len hm).1
    generalize hL : l.length = L at *
    have HL := Lib.hid hL
    clear hL hm hl
    subst hv2
    go_enter Tryd.func35, Tryd.ntmps35
    go_wp2_with (go_at_call 24; refine HM.out.mono ?_; rintro e w1 ⟨rfl, hb1⟩)
    have HB1 := Lib.hid hb1
    clear hb1 HM
    go_loopw [4, 5] (fun s i wr => ∃ (k : Nat) (acc : ByteArray), s = .string acc ∧ i = .int .i64 (k : Int) ∧ k ≤ L ∧ acc.size ≤ 1000 * k + 1 ∧ Hid (if k = 0 then acc.data.toList = [123] else acc.data.toList ++ showA 44 (l.drop k) = showA 123 l) ∧ Hid (Below w.heap.size w wr)) (fun _ i _ => L - (intOf i).toNat)
    case atStart =>
      exact ⟨0, { data := #[123] }, rfl, rfl, by omega, (by show (1 : Nat) ≤ 1; omega), Lib.hid (by rw [if_pos rfl]), Lib.hid HB1.out⟩
    case round =>
      obtain ⟨k, acc, rfl, rfl, hk, hacc, HE, HB⟩ := hrel
      by_cases hlt : k < L
      · have hkl : k < l.length := by have := HL.out; omega
        rcases (HV.out.below HB.out (Nat.le_refl _)) with ⟨h0, _⟩ | ⟨g, o, c, hg, hcs⟩
        · have := HL.out; rw [h0] at this; simp at this; omega
        obtain ⟨q0, q1⟩ := hcs k hkl
        clear hcs
        have hlt2 := World.block_lt_of_cell? wr ⟨g, _, none⟩ q0
        have hrun : (if k = 0 then ({ data := #[123] } : ByteArray) else acc ++ { data := #[44] }).data.toList ++ (body l[k] ++ showA 44 (l.drop (k + 1))) = showA 123 l := by
          have h1 := HE.out
          by_cases h0 : k = 0
          · subst h0
            rw [if_pos rfl]
            have : l = l[0] :: l.drop 1 := by rw [List.getElem_cons_drop]; rfl
            conv => rhs; rw [this]
            rfl
          · rw [if_neg h0] at h1 ⊢
            rw [List.drop_eq_getElem_cons hkl, showA_cons] at h1
            rw [← h1]
            simp
        have hmm := HMm.out l[k] (List.getElem_mem hkl)
        generalize l[k] = x at *
        obtain ⟨xn, xv⟩ := x
        dsimp only at q0 q1 hmm
        obtain ⟨rs, hrs, hall, hok, hr1, hr64⟩ := mayV_iff.1 hmm.2
        have hnl := mayN_len hmm.1
        have hxn : xn.size ≤ 64 := by have := Lib.size_eq xn; omega
        have hbody : body ⟨xn, xv⟩ = xn.data.toList ++ 61 :: 34 :: (rs.flatMap showR ++ [34]) := by
          unfold body
          show xn.data.toList ++ 61 :: 34 :: (showV xv.data.toList ++ [34]) = _
          rw [hrs, showV_flat hall]
        rw [hbody] at hrun
        have HRun := Lib.hid hrun
        have HRs := Lib.hid (show _ ∧ _ ∧ _ ∧ _ from ⟨hrs, hall, hr64, hok⟩)
        clear hrun hbody hmm hrs hall hok hr1 hr64 hnl
        cases hg
        obtain ⟨Q, hQ⟩ : ∃ Q, bs [UInt8.ofNat 34] = Q := ⟨_, rfl⟩
        have hQz : Q.size ≤ 1 := by rw [← hQ, bs_size]; simp
        have hcv := fun W (h : W.cell? ⟨wr.heap.size, 0, none⟩ = some (.int .u8 ((34 : Nat) : Int))) => string_one 34 (by omega) W wr.heap.size h
        rw [hQ] at hcv
        have HQ := Lib.hid (show Q.data.toList = [34] by rw [← hQ]; rfl)
        clear hQ
        by_cases h0 : k = 0
        · have h0z : decide ((0 : Int) < (k : Int)) = false := decide_eq_false (by omega)
          have h0n : decide (0 < k) = false := decide_eq_false (by omega)
          obtain ⟨X0, hX0⟩ : ∃ X0, X0 = acc := ⟨_, rfl⟩
          have HX0 : Hid (X0.data.toList = (if k = 0 then ({ data := #[123] } : ByteArray) else acc ++ { data := #[44] }).data.toList ∧ X0.size ≤ 1000 * k + 2) := Lib.hid ⟨by rw [if_pos h0, hX0]; have := HE.out; rw [if_pos h0] at this; exact this, by rw [hX0]; omega⟩
          have hXq := hX0
          subst hX0
          clear h0
          go_wp2
          go_region
          obtain ⟨wo, hwo⟩ : ∃ wo, wo = wr := ⟨_, rfl⟩
          subst hwo
          have HB2 : Hid (Below w.heap.size w (wo.alloc (.cells #[.int .u8 34] 5)).drew) := Lib.hid (below_drew1 (HB.out.alloc HB.out.size _))
          clear hcv
          have hXq1 := hXq
          clear hXq
          go_wp2
          go_loopw [4, 7] (fun s p wr => ∃ (pre suf : List Nat) (A : ByteArray) (P : Nat), s = .string A ∧ p = .int .i64 (P : Int) ∧ P ≤ 256 ∧ A.size ≤ 1000 * k + 70 + 10 * pre.length ∧ Hid (rs = pre ++ suf ∧ P = (flat pre).length ∧ pre.length ≤ 64) ∧ Hid (A.data.toList = X0.data.toList ++ (xn.data.toList ++ 61 :: 34 :: pre.flatMap showR)) ∧ Hid (Below w.heap.size w wr)) (fun _ p _ => xv.size - (intOf p).toNat)
          case atStart =>
            refine ⟨[], rs, _, 0, rfl, rfl, by omega, ?_, Lib.hid ⟨rfl, rfl, by simp⟩, Lib.hid ?_, HB2⟩
            · have h1 := HX0.out.2
              simp only [ByteArray.size_append]
              have h2 : ({ data := #[61] } : ByteArray).size = 1 := rfl
              simp only [List.length_nil]
              omega
            · have h1 : ({ data := #[61] } : ByteArray).data.toList = [61] := rfl
              simp [HQ.out]
          case round =>
            obtain ⟨pre, suf, A, P, rfl, rfl, hP, hA, HI, HD, HBi⟩ := hrel
            have hA2 : A.size ≤ 1000000 := by have h1 := HI.out.2.2; omega
            have HAz := Lib.hid hA
            clear hA
            cases suf with
            | cons c suf =>
              have hrs := HI.out.1
              have hd : xv.data.toList.drop P = enc c ++ flat suf := by
                rw [HRs.out.1, hrs, flat_app, HI.out.2.1, List.drop_left, flat_cons]
              have hc : OkR c := HRs.out.2.1 c (by rw [hrs]; simp)
              have hov := HRs.out.2.2.2 c (by rw [hrs]; simp)
              have hcb : c ≤ 1114111 := by unfold OkR at hc; omega
              have hel := enc_length c
              have hxs := Lib.size_eq xv
              have hdl := congrArg List.length hd
              rw [List.length_drop, List.length_append, ← hxs] at hdl
              obtain ⟨K, hK⟩ : ∃ K, (enc c).length = K := ⟨_, rfl⟩
              rw [hK] at hel hdl
              obtain ⟨P2, hP2⟩ : ∃ P2, P + K = P2 := ⟨_, rfl⟩
              have hPz : (P : Int) + (K : Int) = (P2 : Int) := by omega
              have hPx : P < xv.size := by omega
              have hP2x : P2 ≤ xv.size := by omega
              have hxl : xv.size ≤ 256 := by
                have h1 := flat_len rs
                rw [hxs, HRs.out.1]
                have := HRs.out.2.2.1
                omega
              have hP256 : P2 ≤ 256 := by omega
              have hR0 : ∀ W, Calls Tryd.prog 50 #[.string (xv.extract P xv.size)] W fun e w' => e = .returned (.tuple #[.int .i64 c, .int .i64 K]) ∧ W = w' := fun W => by
                have h1 := rune_any (xv.extract P xv.size) W (by simp; omega)
                rw [Lib.ext_list, hd, rn_enc hc, hK] at h1
                exact h1
              have HR0 := Lib.hid hR0
              obtain ⟨E, hE⟩ : ∃ E, xv.extract P P2 = E := ⟨_, rfl⟩
              have hEd : E.data.toList = enc c := by
                rw [← hE, ByteArray.data_extract, Array.toList_extract, List.extract_eq_take_drop, hd, ← hP2, ← hK]
                simp
              have hEz : E.size ≤ 4 := by rw [Lib.size_eq, hEd]; omega
              have hfr : (flat (pre ++ [c])).length = P2 := by rw [flat_app, List.length_append, ← hP2, ← HI.out.2.1, ← hK]; simp [flat]
              have hpl : pre.length + 1 ≤ 64 := by
                have h1 := HRs.out.2.2.1
                rw [hrs] at h1
                simp at h1
                omega
              have HN := Lib.hid (show rs = (pre ++ [c]) ++ suf ∧ P2 = (flat (pre ++ [c])).length ∧ (pre ++ [c]).length ≤ 64 from ⟨by rw [hrs]; simp, hfr.symm, by simp; omega⟩)
              have HEd := Lib.hid hEd
              have HKm := Lib.hid (show P < P2 from by omega)
              have hKb : K ≤ 4 := hel.2
              clear hrs hd hc hel hxs hdl hK hP2 hR0 hEd hfr hpl
              by_cases h126 : 126 < c
              · have g126 : decide ((126 : Int) < (c : Int)) = true := decide_eq_true (by omega)
                have e34 : ((c : Int) == 34) = false := beq_eq_false_iff_ne.2 (by omega)
                have e92 : ((c : Int) == 92) = false := beq_eq_false_iff_ne.2 (by omega)
                have HDg := Lib.hid (fun W => rhexs_any c hcb W)
                have hz : (bs (hexs c)).size ≤ 6 := by
                  have := digF_len 5 c
                  rw [bs_size]; unfold hexs; rw [List.length_map]; omega
                have hsh : showR c = 92 :: 117 :: 123 :: ((bs (hexs c)).data.toList ++ [125]) := by
                  unfold showR
                  rw [if_neg (by omega), if_pos h126]
                  simp [bs]
                have HSh := Lib.hid hsh
                clear hsh
                generalize bs (hexs c) = T at *
                obtain ⟨S, hS⟩ : ∃ S, bs [UInt8.ofNat 92] = S := ⟨_, rfl⟩
                have hSz : S.size ≤ 1 := by rw [← hS, bs_size]; simp
                have hcv := fun W (h : W.cell? ⟨wr.heap.size, 0, none⟩ = some (.int .u8 ((92 : Nat) : Int))) => string_one 92 (by omega) W wr.heap.size h
                rw [hS] at hcv
                have HS := Lib.hid (show S.data.toList = [92] by rw [← hS]; rfl)
                clear hS h126 hE
                go_wp2_with (go_at_call 50; refine (HR0.out _).mono ?_; rintro e w' ⟨rfl, rfl⟩)
                go_region_with (first | (go_at_call 55; refine (HDg.out _).mono ?_; rintro e w' ⟨rfl, rfl⟩))
                all_goals first
                  | done
                  | (go_wp2
                     go_roundw
                     case rel =>
                       refine ⟨pre ++ [c], suf, _, P2, rfl, by first | rfl | go_num, hP256, ?_, HN, Lib.hid ?_, Lib.hid (below_drew1 (HBi.out.alloc HBi.out.size _))⟩
                       · have h1 := HAz.out
                         have h2 : ({ data := #[117, 123] } : ByteArray).size = 2 := rfl
                         have h3 : ({ data := #[125] } : ByteArray).size = 1 := rfl
                         simp only [ByteArray.size_append, List.length_append, List.length_singleton]
                         omega
                       · simp [HSh.out, HS.out, HD.out]
                     case measure => (try simp [intOf]); have := HKm.out; (try omega))
              · have g126 : decide ((126 : Int) < (c : Int)) = false := decide_eq_false (by omega)
                by_cases h34 : c = 34 ∨ c = 92
                · have HSh : Hid (showR c = 92 :: E.data.toList) := Lib.hid (by rw [HEd.out, enc_ascii (by omega)]; unfold showR; rw [if_pos h34])
                  obtain ⟨S, hS⟩ : ∃ S, bs [UInt8.ofNat 92] = S := ⟨_, rfl⟩
                  have hSz : S.size ≤ 1 := by rw [← hS, bs_size]; simp
                  have hcv := fun W (h : W.cell? ⟨wr.heap.size, 0, none⟩ = some (.int .u8 ((92 : Nat) : Int))) => string_one 92 (by omega) W wr.heap.size h
                  rw [hS] at hcv
                  have HS := Lib.hid (show S.data.toList = [92] by rw [← hS]; rfl)
                  clear hS
                  rcases h34 with h34 | h34
                  · have e1 : ((c : Int) == 34) = true := by simp [h34]
                    have e2 : ((c : Int) == 92) = false := beq_eq_false_iff_ne.2 (by omega)
                    clear h34 h126
                    go_wp2_with (go_at_call 50; refine (HR0.out _).mono ?_; rintro e w' ⟨rfl, rfl⟩)
                    go_roundw
                    case rel =>
                      refine ⟨pre ++ [c], suf, _, P2, rfl, by first | rfl | go_num, hP256, ?_, HN, Lib.hid ?_, Lib.hid (HBi.out.alloc HBi.out.size _)⟩
                      · have h1 := HAz.out
                        simp only [ByteArray.size_append, List.length_append, List.length_singleton]
                        omega
                      · simp [HSh.out, HS.out, HD.out]
                    case measure => (try simp [intOf]); have := HKm.out; (try omega)
                  · have e1 : ((c : Int) == 92) = true := by simp [h34]
                    have e2 : ((c : Int) == 34) = false := beq_eq_false_iff_ne.2 (by omega)
                    clear h34 h126
                    go_wp2_with (go_at_call 50; refine (HR0.out _).mono ?_; rintro e w' ⟨rfl, rfl⟩)
                    go_roundw
                    case rel =>
                      refine ⟨pre ++ [c], suf, _, P2, rfl, by first | rfl | go_num, hP256, ?_, HN, Lib.hid ?_, Lib.hid (HBi.out.alloc HBi.out.size _)⟩
                      · have h1 := HAz.out
                        simp only [ByteArray.size_append, List.length_append, List.length_singleton]
                        omega
                      · simp [HSh.out, HS.out, HD.out]
                    case measure => (try simp [intOf]); have := HKm.out; (try omega)
                · have HSh : Hid (showR c = E.data.toList) := Lib.hid (by rw [HEd.out, enc_ascii (by omega)]; unfold showR; rw [if_neg h34, if_neg h126])
                  have e34 : ((c : Int) == 34) = false := beq_eq_false_iff_ne.2 (by omega)
                  have e92 : ((c : Int) == 92) = false := beq_eq_false_iff_ne.2 (by omega)
                  clear h34 h126
                  go_wp2_with (go_at_call 50; refine (HR0.out _).mono ?_; rintro e w' ⟨rfl, rfl⟩)
                  go_roundw
                  case rel =>
                    refine ⟨pre ++ [c], suf, _, P2, rfl, by first | rfl | go_num, hP256, ?_, HN, Lib.hid ?_, Lib.hid HBi.out⟩
                    · have h1 := HAz.out
                      simp only [ByteArray.size_append, List.length_append, List.length_singleton]
                      omega
                    · simp [HSh.out, HD.out]
                  case measure => (try simp [intOf]); have := HKm.out; (try omega)
            | nil =>
              have hrs := HI.out.1
              rw [List.append_nil] at hrs
              have hP2 : P = xv.size := by rw [HI.out.2.1, Lib.size_eq, HRs.out.1, hrs]
              have HR := Lib.hid hrs
              subst hP2
              clear hrs
              have hcv2 := fun W (h : W.cell? ⟨wr.heap.size, 0, none⟩ = some (.int .u8 ((34 : Nat) : Int))) => string_one 34 (by omega) W wr.heap.size h
              obtain ⟨S, hS⟩ : ∃ S, bs [UInt8.ofNat 34] = S := ⟨_, rfl⟩
              rw [hS] at hcv2
              have hSz : S.size ≤ 1 := by rw [← hS, bs_size]; simp
              have HS := Lib.hid (show S.data.toList = [34] by rw [← hS]; rfl)
              clear hS
              go_wp2
              go_roundw
              case rel =>
                refine ⟨k + 1, _, rfl, by go_num, by omega, ?_, Lib.hid ?_, Lib.hid (HBi.out.alloc HBi.out.size _)⟩
                · have h1 := HAz.out
                  have h2 := HI.out.2.2
                  simp only [ByteArray.size_append]
                  omega
                · rw [if_neg (by omega), ← HRun.out]
                  simp [HD.out, HS.out, HR.out, HX0.out.1]
              case measure => (try simp [intOf]); (try omega)
        · have h0z : decide ((0 : Int) < (k : Int)) = true := decide_eq_true (by omega)
          have h0n : decide (0 < k) = true := decide_eq_true (by omega)
          obtain ⟨X0, hX0⟩ : ∃ X0, acc ++ { data := #[44] } = X0 := ⟨_, rfl⟩
          have HX0 : Hid (X0.data.toList = (if k = 0 then ({ data := #[123] } : ByteArray) else acc ++ { data := #[44] }).data.toList ∧ X0.size ≤ 1000 * k + 2) := Lib.hid ⟨by rw [if_neg h0, hX0], by rw [← hX0, ByteArray.size_append]; show _ + 1 ≤ _; omega⟩
          have hXz : X0.size ≤ 1000000 := by have := HX0.out.2; omega
          have hXq := hX0
          clear h0
          go_wp2
          go_region
          obtain ⟨wo, hwo⟩ : ∃ wo, wo = wr := ⟨_, rfl⟩
          subst hwo
          have HB2 : Hid (Below w.heap.size w (wo.alloc (.cells #[.int .u8 34] 5)).drew) := Lib.hid (below_drew1 (HB.out.alloc HB.out.size _))
          clear hcv
          have hXq1 := hXq
          clear hXq
          go_wp2
          go_loopw [4, 7] (fun s p wr => ∃ (pre suf : List Nat) (A : ByteArray) (P : Nat), s = .string A ∧ p = .int .i64 (P : Int) ∧ P ≤ 256 ∧ A.size ≤ 1000 * k + 70 + 10 * pre.length ∧ Hid (rs = pre ++ suf ∧ P = (flat pre).length ∧ pre.length ≤ 64) ∧ Hid (A.data.toList = X0.data.toList ++ (xn.data.toList ++ 61 :: 34 :: pre.flatMap showR)) ∧ Hid (Below w.heap.size w wr)) (fun _ p _ => xv.size - (intOf p).toNat)
          case atStart =>
            refine ⟨[], rs, _, 0, rfl, rfl, by omega, ?_, Lib.hid ⟨rfl, rfl, by simp⟩, Lib.hid ?_, HB2⟩
            · have h1 := HX0.out.2
              simp only [ByteArray.size_append]
              have h2 : ({ data := #[61] } : ByteArray).size = 1 := rfl
              simp only [List.length_nil]
              omega
            · have h1 : ({ data := #[61] } : ByteArray).data.toList = [61] := rfl
              simp [HQ.out]
          case round =>
            obtain ⟨pre, suf, A, P, rfl, rfl, hP, hA, HI, HD, HBi⟩ := hrel
            have hA2 : A.size ≤ 1000000 := by have h1 := HI.out.2.2; omega
            have HAz := Lib.hid hA
            clear hA
            cases suf with
            | cons c suf =>
              have hrs := HI.out.1
              have hd : xv.data.toList.drop P = enc c ++ flat suf := by
                rw [HRs.out.1, hrs, flat_app, HI.out.2.1, List.drop_left, flat_cons]
              have hc : OkR c := HRs.out.2.1 c (by rw [hrs]; simp)
              have hov := HRs.out.2.2.2 c (by rw [hrs]; simp)
              have hcb : c ≤ 1114111 := by unfold OkR at hc; omega
              have hel := enc_length c
              have hxs := Lib.size_eq xv
              have hdl := congrArg List.length hd
              rw [List.length_drop, List.length_append, ← hxs] at hdl
              obtain ⟨K, hK⟩ : ∃ K, (enc c).length = K := ⟨_, rfl⟩
              rw [hK] at hel hdl
              obtain ⟨P2, hP2⟩ : ∃ P2, P + K = P2 := ⟨_, rfl⟩
              have hPz : (P : Int) + (K : Int) = (P2 : Int) := by omega
              have hPx : P < xv.size := by omega
              have hP2x : P2 ≤ xv.size := by omega
              have hxl : xv.size ≤ 256 := by
                have h1 := flat_len rs
                rw [hxs, HRs.out.1]
                have := HRs.out.2.2.1
                omega
              have hP256 : P2 ≤ 256 := by omega
              have hR0 : ∀ W, Calls Tryd.prog 50 #[.string (xv.extract P xv.size)] W fun e w' => e = .returned (.tuple #[.int .i64 c, .int .i64 K]) ∧ W = w' := fun W => by
                have h1 := rune_any (xv.extract P xv.size) W (by simp; omega)
                rw [Lib.ext_list, hd, rn_enc hc, hK] at h1
                exact h1
              have HR0 := Lib.hid hR0
              obtain ⟨E, hE⟩ : ∃ E, xv.extract P P2 = E := ⟨_, rfl⟩
              have hEd : E.data.toList = enc c := by
                rw [← hE, ByteArray.data_extract, Array.toList_extract, List.extract_eq_take_drop, hd, ← hP2, ← hK]
                simp
              have hEz : E.size ≤ 4 := by rw [Lib.size_eq, hEd]; omega
              have hfr : (flat (pre ++ [c])).length = P2 := by rw [flat_app, List.length_append, ← hP2, ← HI.out.2.1, ← hK]; simp [flat]
              have hpl : pre.length + 1 ≤ 64 := by
                have h1 := HRs.out.2.2.1
                rw [hrs] at h1
                simp at h1
                omega
              have HN := Lib.hid (show rs = (pre ++ [c]) ++ suf ∧ P2 = (flat (pre ++ [c])).length ∧ (pre ++ [c]).length ≤ 64 from ⟨by rw [hrs]; simp, hfr.symm, by simp; omega⟩)
              have HEd := Lib.hid hEd
              have HKm := Lib.hid (show P < P2 from by omega)
              have hKb : K ≤ 4 := hel.2
              clear hrs hd hc hel hxs hdl hK hP2 hR0 hEd hfr hpl
              by_cases h126 : 126 < c
              · have g126 : decide ((126 : Int) < (c : Int)) = true := decide_eq_true (by omega)
                have e34 : ((c : Int) == 34) = false := beq_eq_false_iff_ne.2 (by omega)
                have e92 : ((c : Int) == 92) = false := beq_eq_false_iff_ne.2 (by omega)
                have HDg := Lib.hid (fun W => rhexs_any c hcb W)
                have hz : (bs (hexs c)).size ≤ 6 := by
                  have := digF_len 5 c
                  rw [bs_size]; unfold hexs; rw [List.length_map]; omega
                have hsh : showR c = 92 :: 117 :: 123 :: ((bs (hexs c)).data.toList ++ [125]) := by
                  unfold showR
                  rw [if_neg (by omega), if_pos h126]
                  simp [bs]
                have HSh := Lib.hid hsh
                clear hsh
                generalize bs (hexs c) = T at *
                obtain ⟨S, hS⟩ : ∃ S, bs [UInt8.ofNat 92] = S := ⟨_, rfl⟩
                have hSz : S.size ≤ 1 := by rw [← hS, bs_size]; simp
                have hcv := fun W (h : W.cell? ⟨wr.heap.size, 0, none⟩ = some (.int .u8 ((92 : Nat) : Int))) => string_one 92 (by omega) W wr.heap.size h
                rw [hS] at hcv
                have HS := Lib.hid (show S.data.toList = [92] by rw [← hS]; rfl)
                clear hS h126 hE
                go_wp2_with (go_at_call 50; refine (HR0.out _).mono ?_; rintro e w' ⟨rfl, rfl⟩)
                go_region_with (first | (go_at_call 55; refine (HDg.out _).mono ?_; rintro e w' ⟨rfl, rfl⟩))
                all_goals first
                  | done
                  | (go_wp2
                     go_roundw
                     case rel =>
                       refine ⟨pre ++ [c], suf, _, P2, rfl, by first | rfl | go_num, hP256, ?_, HN, Lib.hid ?_, Lib.hid (below_drew1 (HBi.out.alloc HBi.out.size _))⟩
                       · have h1 := HAz.out
                         have h2 : ({ data := #[117, 123] } : ByteArray).size = 2 := rfl
                         have h3 : ({ data := #[125] } : ByteArray).size = 1 := rfl
                         simp only [ByteArray.size_append, List.length_append, List.length_singleton]
                         omega
                       · simp [HSh.out, HS.out, HD.out]
                     case measure => (try simp [intOf]); have := HKm.out; (try omega))
              · have g126 : decide ((126 : Int) < (c : Int)) = false := decide_eq_false (by omega)
                by_cases h34 : c = 34 ∨ c = 92
                · have HSh : Hid (showR c = 92 :: E.data.toList) := Lib.hid (by rw [HEd.out, enc_ascii (by omega)]; unfold showR; rw [if_pos h34])
                  obtain ⟨S, hS⟩ : ∃ S, bs [UInt8.ofNat 92] = S := ⟨_, rfl⟩
                  have hSz : S.size ≤ 1 := by rw [← hS, bs_size]; simp
                  have hcv := fun W (h : W.cell? ⟨wr.heap.size, 0, none⟩ = some (.int .u8 ((92 : Nat) : Int))) => string_one 92 (by omega) W wr.heap.size h
                  rw [hS] at hcv
                  have HS := Lib.hid (show S.data.toList = [92] by rw [← hS]; rfl)
                  clear hS
                  rcases h34 with h34 | h34
                  · have e1 : ((c : Int) == 34) = true := by simp [h34]
                    have e2 : ((c : Int) == 92) = false := beq_eq_false_iff_ne.2 (by omega)
                    clear h34 h126
                    go_wp2_with (go_at_call 50; refine (HR0.out _).mono ?_; rintro e w' ⟨rfl, rfl⟩)
                    go_roundw
                    case rel =>
                      refine ⟨pre ++ [c], suf, _, P2, rfl, by first | rfl | go_num, hP256, ?_, HN, Lib.hid ?_, Lib.hid (HBi.out.alloc HBi.out.size _)⟩
                      · have h1 := HAz.out
                        simp only [ByteArray.size_append, List.length_append, List.length_singleton]
                        omega
                      · simp [HSh.out, HS.out, HD.out]
                    case measure => (try simp [intOf]); have := HKm.out; (try omega)
                  · have e1 : ((c : Int) == 92) = true := by simp [h34]
                    have e2 : ((c : Int) == 34) = false := beq_eq_false_iff_ne.2 (by omega)
                    clear h34 h126
                    go_wp2_with (go_at_call 50; refine (HR0.out _).mono ?_; rintro e w' ⟨rfl, rfl⟩)
                    go_roundw
                    case rel =>
                      refine ⟨pre ++ [c], suf, _, P2, rfl, by first | rfl | go_num, hP256, ?_, HN, Lib.hid ?_, Lib.hid (HBi.out.alloc HBi.out.size _)⟩
                      · have h1 := HAz.out
                        simp only [ByteArray.size_append, List.length_append, List.length_singleton]
                        omega
                      · simp [HSh.out, HS.out, HD.out]
                    case measure => (try simp [intOf]); have := HKm.out; (try omega)
                · have HSh : Hid (showR c = E.data.toList) := Lib.hid (by rw [HEd.out, enc_ascii (by omega)]; unfold showR; rw [if_neg h34, if_neg h126])
                  have e34 : ((c : Int) == 34) = false := beq_eq_false_iff_ne.2 (by omega)
                  have e92 : ((c : Int) == 92) = false := beq_eq_false_iff_ne.2 (by omega)
                  clear h34 h126
                  go_wp2_with (go_at_call 50; refine (HR0.out _).mono ?_; rintro e w' ⟨rfl, rfl⟩)
                  go_roundw
                  case rel =>
                    refine ⟨pre ++ [c], suf, _, P2, rfl, by first | rfl | go_num, hP256, ?_, HN, Lib.hid ?_, Lib.hid HBi.out⟩
                    · have h1 := HAz.out
                      simp only [ByteArray.size_append, List.length_append, List.length_singleton]
                      omega
                    · simp [HSh.out, HD.out]
                  case measure => (try simp [intOf]); have := HKm.out; (try omega)
            | nil =>
              have hrs := HI.out.1
              rw [List.append_nil] at hrs
              have hP2 : P = xv.size := by rw [HI.out.2.1, Lib.size_eq, HRs.out.1, hrs]
              have HR := Lib.hid hrs
              subst hP2
              clear hrs
              have hcv2 := fun W (h : W.cell? ⟨wr.heap.size, 0, none⟩ = some (.int .u8 ((34 : Nat) : Int))) => string_one 34 (by omega) W wr.heap.size h
              obtain ⟨S, hS⟩ : ∃ S, bs [UInt8.ofNat 34] = S := ⟨_, rfl⟩
              rw [hS] at hcv2
              have hSz : S.size ≤ 1 := by rw [← hS, bs_size]; simp
              have HS := Lib.hid (show S.data.toList = [34] by rw [← hS]; rfl)
              clear hS
              go_wp2
              go_roundw
              case rel =>
                refine ⟨k + 1, _, rfl, by go_num, by omega, ?_, Lib.hid ?_, Lib.hid (HBi.out.alloc HBi.out.size _)⟩
                · have h1 := HAz.out
                  have h2 := HI.out.2.2
                  simp only [ByteArray.size_append]
                  omega
                · rw [if_neg (by omega), ← HRun.out]
                  simp [HD.out, HS.out, HR.out, HX0.out.1]
              case measure => (try simp [intOf]); (try omega)
      · obtain rfl : k = L := by omega
        have hfin : Hid ((acc ++ { data := #[125] } : ByteArray) = bs (shows l)) := Lib.hid (by
          have h1 := HE.out
          have h2 := HNe.out
          rw [if_neg (by omega), List.drop_of_length_le (by have := HL.out; omega)] at h1
          apply ByteArray.ext
          apply Array.ext'
          have h3 : showA 44 ([] : List Lb) = [] := rfl
          rw [h3, List.append_nil] at h1
          unfold shows
          rw [← h1]
          simp [bs])
        go_wp2
        go_ret2
        refine ⟨?_, HB.out⟩
        unfold shV
        rw [← hfin.out]
        rfl
end Go.Proofs.YtjhgmlhoefakpaaDoor
