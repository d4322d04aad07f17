/- TreeCut, the law's walk. -/
import Derived.Test.YtbfkgbickjfcjaaUi
namespace Go.Proofs.Ytbfkgbickjfcjaa
set_option linter.unusedVariables false
set_option linter.unusedSimpArgs false
open Go Go.RowKit
set_option maxRecDepth 100000
theorem cut_same {s : St} (h : Good s) (hl : s.low = 0) (at' : Int) (h0 : 0 ≤ at') (h1 : at' ≤ s.rev) : sameS (cutS s at').2 s = decide (at' = 0) := by
  by_cases h2 : at' = 0
  · subst h2
    have e : (cutS s 0).2 = s := by
      unfold cutS
      rw [if_neg (by omega), cutH_eq h]
      have e1 : s.H.filter (fun y => decide ((0 : Int) < y.1)) = s.H := List.filter_eq_self.2 fun y hy => decide_eq_true (by have := (h.rng y hy).1; omega)
      have e2 : max s.low 0 = s.low := by omega
      rw [e1, e2]
    rw [e, same_refl]
    rfl
  · rw [decide_eq_false h2]
    have e : (cutS s at').2.low = at' := by
      unfold cutS
      rw [if_neg (by omega)]
      show max s.low at' = at'
      omega
    unfold sameS
    rw [e, hl]
    have : (at' == (0 : Int)) = false := by simpa using h2
    rw [this]
    simp
theorem cut_code {s : St} (at' : Int) (h0 : 0 ≤ at') (h1 : at' ≤ s.rev) (hl : s.low = 0) : (cutS s at').1 = 0 ∧ (cutS s at').2.low = at' ∧ (cutS s at').2.rev = s.rev ∧ (cutS s at').2.L = s.L := by
  unfold cutS
  rw [if_neg (by omega)]
  refine ⟨rfl, ?_, rfl, rfl⟩
  show max s.low at' = at'
  omega
theorem sin_of {s : St} (hl : s.low = 0) (fr : Int) (h0 : 1 ≤ fr) (h1 : fr ≤ s.rev + 1) : sinS s ⟨#[]⟩ fr = (sinceL ⟨#[]⟩ fr s, 0) := by
  have hp : prefB (⟨#[]⟩ : ByteArray).data.toList = true := by kernel_rfl
  unfold sinS
  rw [if_neg (by rw [hp]; simp), if_neg (by omega), if_neg (by omega)]
theorem sin_cut {s : St} (h : Good s) (hl : s.low = 0) (at' fr : Int) (a0 : 0 ≤ at') (a1 : at' ≤ s.rev) (h0 : 1 ≤ fr) (h1 : fr ≤ s.rev + 1) :
    sinS (cutS s at').2 ⟨#[]⟩ fr = if fr ≤ at' then ([], 52) else (sinceL ⟨#[]⟩ fr s, 0) := by
  have hp : prefB (⟨#[]⟩ : ByteArray).data.toList = true := by kernel_rfl
  obtain ⟨-, e1, e2, -⟩ := cut_code (s := s) at' a0 a1 hl
  unfold sinS
  rw [if_neg (by rw [hp]; simp), e1, e2, if_neg (by omega)]
  split
  · rfl
  · rename_i hn
    rw [since_cut h _ _ _ (by omega)]
theorem rem_in (m R : Int) (h0 : 0 ≤ R) (h1 : R ≤ 500) : ∃ A, wrap64 ((IntKind.u64.wrap m).tmod (R + 1)) = A ∧ 0 ≤ A ∧ A ≤ R := by
  have hw : 0 ≤ IntKind.u64.wrap m := by unfold IntKind.wrap; simp [IntKind.signed, IntKind.bits]; omega
  have h2 := Int.tmod_nonneg (R + 1) hw
  have h3 := Int.tmod_lt_of_pos (IntKind.u64.wrap m) (show 0 < R + 1 by omega)
  generalize (IntKind.u64.wrap m).tmod (R + 1) = q at *
  have h4 : wrap64 q = q := by first | exact IntWalk.i64_in _ (by omega) | (unfold wrap64; omega)
  exact ⟨q, h4, h2, by omega⟩
set_option maxHeartbeats 2000000 in
theorem cutLaw_any (l : List Ti) (v : Value) (m n : Int) (w : World) (h : Txs w v l) (hl : l.length ≤ 9223372036854775807) :
    Calls Try.prog 10 #[v, .int .i64 m, .int .i64 n] w fun e w' => e = .returned (.bool true) ∧ Below w.heap.size w w' := by
  have HT := Lib.hid h
  have HW := Lib.hid (wide_any l v w h hl)
  obtain ⟨ad, c, rfl⟩ := h.row.slice
  clear h
  go_enter Try.func10, Try.ntmps10
  go_wp2_with fail
  refine HW.out.mono ?_
  rintro e w1 ⟨wd, rfl, hwd, hb1⟩
  have HB1 := Lib.hid hb1
  have HT1 := Lib.hid (HT.out.below hb1)
  clear hb1 HT HW
  cases wd with
  | true =>
    clear hwd
    go_wp2_with fail
    refine (awake_any _).mono ?_
    rintro e w2 ⟨rfl, hb2⟩
    have HB2 := Lib.hid (HB1.out.trans (hb2.mono HB1.out.size))
    clear hb2
    go_wp2
    go_ret
    exact ⟨rfl, HB2.out⟩
  | false =>
    have hlen := hwd rfl
    clear hwd
    go_wp2_with fail
    refine (awake_any _).mono ?_
    rintro e w2 ⟨rfl, hb2⟩
    have HB2 := Lib.hid (HB1.out.trans (hb2.mono HB1.out.size))
    have HT2 := Lib.hid (HT1.out.below hb2)
    clear hb2 HB1 HT1
    go_wp2_with fail
    refine (grown_any l _ _ HT2.out (by omega)).mono ?_
    rintro e w3 ⟨⟨b, rfl, hb, hT⟩, hb3⟩
    have HB3 := Lib.hid (HB2.out.trans (hb3.mono HB2.out.size))
    have HG := Lib.hid (good_run (txs l) _ good_emp)
    have HF := Lib.hid ((fit_run (txs l) 0 _ fit_emp).mono (m := 500) (by unfold txs; rw [List.length_map]; omega))
    have HLo := Lib.hid ((run_low (txs l) emp).trans rfl : (runT emp (txs l)).low = 0)
    have HBb := Lib.hid (show w.heap.size ≤ b by have := HB2.out.size; omega)
    have HTr := Lib.hid hT
    clear hb hT hb3 HB2 HT2 hlen hl
    generalize runT emp (txs l) = s at *
    go_wp2_with fail
    refine (rev_any (some ⟨b, 0, none⟩) s _ (.inl ⟨b, rfl, HTr.out⟩)).mono ?_
    rintro e w4 ⟨rfl, hb4⟩
    have HB4 := Lib.hid (HB3.out.trans (hb4.mono HB3.out.size))
    have HT4 := Lib.hid (HTr.out.below hb4)
    clear hb4 HB3 HTr
    obtain ⟨R, hR⟩ : ∃ R, s.rev = R := ⟨_, rfl⟩
    have hR0 : 0 ≤ R := by rw [← hR]; exact HF.out.lo
    have hR1 : R ≤ 500 := by rw [← hR]; have := HF.out.hi; omega
    have HR := Lib.hid hR
    rw [hR]
    clear hR
    have y0 : IntKind.i64.wrap (R + 1) = R + 1 := IntWalk.i64_in _ (by omega)
    have y1 : IntKind.u64.wrap (R + 1) = R + 1 := by unfold IntKind.wrap; simp [IntKind.signed, IntKind.bits]; omega
    obtain ⟨A, hA, hA0, hA1⟩ := rem_in m R hR0 hR1
    obtain ⟨B, hB, hB0, hB1⟩ := rem_in n R hR0 hR1
    have y2 : IntKind.i64.wrap (1 + B) = 1 + B := IntWalk.i64_in _ (by omega)
    go_wp2_with fail
    rw [hA]
    refine (rev_any (some ⟨b, 0, none⟩) s _ (.inl ⟨b, rfl, HT4.out⟩)).mono ?_
    rintro e w5 ⟨rfl, hb5⟩
    have HB5 := Lib.hid (HB4.out.trans (hb5.mono HB4.out.size))
    have HT5 := Lib.hid (HT4.out.below hb5)
    clear hb5 HB4 HT4
    rw [HR.out]
    go_wp2_with fail
    rw [hB]
    refine (copy_any b s _ HT5.out).mono ?_
    rintro e w6 ⟨⟨d, rfl, hd, hT⟩, hb6⟩
    have HB6 := Lib.hid (HB5.out.trans (hb6.mono HB5.out.size))
    have HT6 := Lib.hid (HT5.out.below hb6)
    have HD6 := Lib.hid hT
    have HDb := Lib.hid (show w.heap.size ≤ d by have := HB5.out.size; omega)
    have HNE := Lib.hid (show b ≠ d by have := HT5.out.lt; omega)
    clear hb6 HB5 HT5 hd hT
    go_wp2_with fail
    refine (cut_any d s A _ HD6.out (by have := HF.out.H; omega)).mono ?_
    rintro e w7 ⟨⟨rfl, hT⟩, hg⟩
    have hT7 : TrAt w7 b s := HT6.out.stay (Stay.grown hg fun q e o ho hi => by
      cases e
      obtain ⟨_, _, _, _, hc⟩ := HD6.out
      rw [hc.blk] at ho
      cases ho
      rcases hi with hi | hi | hi <;> cases hi) (hg.block b HT6.out.lt (fun e => HNE.out (Option.some.inj e)))
    have HB7 := Lib.hid (HB6.out.trans (below_grownT hg HDb.out HB6.out.size))
    have HT7 := Lib.hid hT7
    have HD7 := Lib.hid hT
    have hcode := cut_code (s := s) A hA0 (by rw [HR.out]; exact hA1) HLo.out
    have HS := Lib.hid (cut_same HG.out HLo.out A hA0 (by rw [HR.out]; exact hA1))
    have HSC := Lib.hid (sin_cut HG.out HLo.out A (1 + B) hA0 (by rw [HR.out]; exact hA1) (by omega) (by rw [HR.out]; omega))
    have HSO := Lib.hid (sin_of (s := s) HLo.out (1 + B) (by omega) (by rw [HR.out]; omega))
    have HF2 := Lib.hid (fit_cut A HF.out)
    rw [hcode.1]
    have HC := Lib.hid hcode.2
    clear hT hg hT7 HT6 HD6 HB6 hcode
    generalize (cutS s A).2 = s' at *
    go_wp2_with fail
    refine (low_any (some ⟨d, 0, none⟩) s' _ (.inl ⟨d, rfl, HD7.out⟩)).mono ?_
    rintro e w8 ⟨rfl, hb8⟩
    have HB8 := Lib.hid (HB7.out.trans (hb8.mono HB7.out.size))
    have HT8 := Lib.hid (HT7.out.below hb8)
    have HD8 := Lib.hid (HD7.out.below hb8)
    clear hb8 HB7 HT7 HD7
    rw [HC.out.1]
    go_wp2_with fail
    refine (rev_any (some ⟨d, 0, none⟩) s' _ (.inl ⟨d, rfl, HD8.out⟩)).mono ?_
    rintro e w9 ⟨rfl, hb9⟩
    have HB9 := Lib.hid (HB8.out.trans (hb9.mono HB8.out.size))
    have HT9 := Lib.hid (HT8.out.below hb9)
    have HD9 := Lib.hid (HD8.out.below hb9)
    clear hb9 HB8 HT8 HD8
    rw [HC.out.2.1, HR.out]
    go_wp2_with fail
    refine (rev_any (some ⟨b, 0, none⟩) s _ (.inl ⟨b, rfl, HT9.out⟩)).mono ?_
    rintro e w10 ⟨rfl, hb10⟩
    have HB10 := Lib.hid (HB9.out.trans (hb10.mono HB9.out.size))
    have HT10 := Lib.hid (HT9.out.below hb10)
    have HD10 := Lib.hid (HD9.out.below hb10)
    clear hb10 HB9 HT9 HD9
    rw [HR.out]
    go_wp2_with fail
    refine (list_any (some ⟨d, 0, none⟩) s' ⟨#[]⟩ _ (.inl ⟨d, rfl, HD10.out⟩) (by have := HF2.out.L; omega)).mono ?_
    rintro e w11 ⟨⟨u1, rfl, hu1⟩, hb11⟩
    have HB11 := Lib.hid (HB10.out.trans (hb11.mono HB10.out.size))
    have HT11 := Lib.hid (HT10.out.below hb11)
    have HD11 := Lib.hid (HD10.out.below hb11)
    have HU1 := Lib.hid hu1.at
    clear hb11 HB10 HT10 HD10 hu1
    go_wp2_with fail
    refine (list_any (some ⟨b, 0, none⟩) s ⟨#[]⟩ _ (.inl ⟨b, rfl, HT11.out⟩) (by have := HF.out.L; omega)).mono ?_
    rintro e w12 ⟨⟨u2, rfl, hu2⟩, hb12⟩
    have HB12 := Lib.hid (HB11.out.trans (hb12.mono HB11.out.size))
    have HT12 := Lib.hid (HT11.out.below hb12)
    have HD12 := Lib.hid (HD11.out.below hb12)
    have HU3 := Lib.hid (HU1.out.below hb12)
    have HU2 := Lib.hid hu2.at
    clear hb12 HB11 HT11 HD11 hu2 HU1
    go_wp2_with fail
    refine (rentries_any _ _ _ _ _ HU3.out HU2.out (by have := listE_len ⟨#[]⟩ s'; have := HF2.out.L; omega) (by have := listE_len ⟨#[]⟩ s; have := HF.out.L; omega)).mono ?_
    rintro e w13 ⟨rfl, hb13⟩
    have HB13 := Lib.hid (HB12.out.trans (hb13.mono HB12.out.size))
    have HT13 := Lib.hid (HT12.out.below hb13)
    have HD13 := Lib.hid (HD12.out.below hb13)
    have hls : listE ⟨#[]⟩ s' = listE ⟨#[]⟩ s := by unfold listE; rw [HC.out.2.2]
    rw [hls, rowEq_refl eqE_refl]
    clear hb13 HB12 HT12 HD12 HU3 HU2 hls
    go_wp2_with fail
    refine (same_any d b s' s _ HD13.out HT13.out (by have := HF2.out.L; omega) (by have := HF.out.L; omega) (fit_few HF2.out (by decide)) (fit_few HF.out (by decide))).mono ?_
    rintro e w14 ⟨rfl, hb14⟩
    have HB14 := Lib.hid (HB13.out.trans (hb14.mono HB13.out.size))
    have HT14 := Lib.hid (HT13.out.below hb14)
    have HD14 := Lib.hid (HD13.out.below hb14)
    rw [HS.out]
    clear hb14 HB13 HT13 HD13 HS
    have HS1 := Lib.hid (Since_any b s ⟨#[]⟩ (1 + B) w14 HT14.out (fit_few HF.out (by decide)) ⟨by rw [HR.out]; exact hR0, by rw [HR.out]; omega⟩)
    rw [HSO.out] at HS1
    have HS2 := Lib.hid fun W (hW : Below w14.heap.size w14 W) => Since_any d s' ⟨#[]⟩ (1 + B) W (HD14.out.below hW) (fit_few HF2.out (by decide)) ⟨HF2.out.lo, by have := HF2.out.hi; omega⟩
    rw [HSC.out] at HS2
    have hlen := (fit_few HF.out (by decide)).all ⟨#[]⟩ (1 + B)
    obtain ⟨q, hq⟩ : ∃ q, decide (A = 0) = q := ⟨_, rfl⟩
    have hq2 : (A == 0) = q := by rw [← hq]; rfl
    rw [hq]
    by_cases hfr : 1 + B ≤ A
    · rw [if_pos hfr] at HS2
      have hfr' : decide (1 + B ≤ A) = true := decide_eq_true hfr
      clear HT14 HD14 HSO HSC HC HF2 HG HF HLo HNE HDb HBb hfr hq
      cases q
      all_goals
        go_wp2_with fail
        refine HS1.out.mono ?_
        rintro e w15 ⟨⟨u, rfl, hu⟩, hb15⟩
        obtain ⟨ua, uc, rfl⟩ := hu.shape
        have HB15 := Lib.hid (HB14.out.trans (hb15.mono HB14.out.size))
        have HS3 := Lib.hid (HS2.out _ hb15)
        clear hu hb15
        go_wp2_with fail
        refine HS3.out.mono ?_
        rintro e w16 ⟨⟨u', rfl, hu⟩, hb16⟩
        obtain ⟨ua', uc', rfl⟩ := hu.shape
        have HB16 := Lib.hid (HB15.out.trans (hb16.mono HB15.out.size))
        clear hu hb16
        go_wp2
        go_ret
        exact ⟨rfl, HB16.out⟩
    · rw [if_neg hfr] at HS2
      have hfr' : decide (1 + B ≤ A) = false := decide_eq_false hfr
      clear HT14 HD14 HSO HSC HC HF2 HG HF HLo HNE HDb HBb hfr hq
      generalize sinceL ⟨#[]⟩ (1 + B) s = es at *
      cases q
      all_goals
        go_wp2_with fail
        refine HS1.out.mono ?_
        rintro e w15 ⟨⟨u, rfl, hu⟩, hb15⟩
        have HU := Lib.hid hu.at
        obtain ⟨ua, uc, rfl⟩ := hu.shape
        have HB15 := Lib.hid (HB14.out.trans (hb15.mono HB14.out.size))
        have HS3 := Lib.hid (HS2.out _ hb15)
        clear hu hb15
        go_wp2_with fail
        refine HS3.out.mono ?_
        rintro e w16 ⟨⟨u', rfl, hu⟩, hb16⟩
        have HU2 := Lib.hid hu.at
        have HU3 := Lib.hid (HU.out.below hb16)
        obtain ⟨ua', uc', rfl⟩ := hu.shape
        have HB16 := Lib.hid (HB15.out.trans (hb16.mono HB15.out.size))
        clear hu hb16 HU
        go_wp2_with fail
        refine (revents_any _ _ _ _ _ HU3.out HU2.out (by omega) (by omega)).mono ?_
        rintro e w17 ⟨rfl, hb17⟩
        have HB17 := Lib.hid (HB16.out.trans (hb17.mono HB16.out.size))
        clear hb17
        rw [rowEq_refl eqV_refl]
        go_wp2
        go_ret
        exact ⟨rfl, HB17.out⟩
end Go.Proofs.Ytbfkgbickjfcjaa
