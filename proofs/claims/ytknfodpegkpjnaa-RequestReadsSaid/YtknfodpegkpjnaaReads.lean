/- RequestReads: for any text the law answers true. No condition. -/
import Derived.Test.YtknfodpegkpjnaaRows
import Derived.Test.YtknfodpegkpjnaaOp
import Derived.Test.YtknfodpegkpjnaaRz
import Derived.WalkKit
import Derived.ProofKit
import Derived.OpenShut
import Derived.ShutString
namespace Go.Proofs.Ytknfodpegkpjnaa.requestReads
open Go.ChangeShapes Go.WideShapes Go.ChangeAt Go.RowKit
open Go.ChangeMaps (open_string shut_string)
set_option linter.unusedVariables false
theorem eM_ge : ∀ fs : List Fd, fs.length ≤ (eM fs).length
  | [] => Nat.le_refl _
  | f :: r => by
    have := eM_ge r
    have := fby_pos f
    rw [eM_cons, List.length_append, List.length_cons]; omega
theorem pts_le {α : Type} (n : Nat) (rd : List UInt8 → α × Nat) : ∀ fs : List Fd, (pts n rd fs).1.length ≤ fs.length
  | [] => Nat.le_refl _
  | f :: r => by
    have ih := pts_le n rd r
    rw [pts_cons]
    split
    · split
      · exact Nat.zero_le _
      · simp; omega
    · simp; omega
theorem rq_small (s : List UInt8) (hs : s.length ≤ 1000000) : (rRq s).1.length ≤ 1000000 ∧ ∀ x ∈ (rRq s).1, x.ls.length ≤ 1000000 ∧ x.ss.length ≤ 1000000 := by
  unfold rRq gRq
  split
  · exact ⟨Nat.zero_le _, fun x h => (by cases h)⟩
  · rename_i h0
    have hm : msg s [] = ((msg s []).1, 0) := by rw [← Decidable.not_not.1 h0]
    have hl := (msg_ok' hs hm).2
    have ht := msg_texts hs hm
    split
    · exact ⟨Nat.zero_le _, fun x h => (by cases h)⟩
    · refine ⟨Nat.le_trans (pts_le _ _ _) (by omega), fun x hx => ?_⟩
      obtain ⟨f, hf, _, hr⟩ := pts_mem _ _ _ rfl x hx
      have h1 := (rSr_ok (by have := ht f hf; omega) hr).2
      have h2 := eM_ge (fSr x)
      have h3 := ht f hf
      have h4 : (fSr x).length = x.ls.length + x.ss.length := by unfold fSr; simp
      have h5 : (eM (fSr x)).length = (eSr x).length := rfl
      omega
theorem osr_spo {base top : Nat} {b2 : Nat} {w W : World} {v : Value} {zs : List Zr} (h : Osr w b2 v zs) (hs : Spo base top w W) (hb : top ≤ b2) : Osr W b2 v zs := by
  have k : ∀ {E n : Nat} {v : Value} {xs : List Value} {z : Nat}, w.ownsRow b2 E z v n xs → W.ownsRow b2 E z v n xs := fun h => ownsRow_same h fun g _ e => hs.block g (.inr (by have := (own_lt h g e).1; omega))
  exact ⟨k h.row, fun z hz => k (h.ls z hz), fun z hz => k (h.ss z hz)⟩
theorem spo_below {base top n : Nat} {w0 w W : World} (h : Below n w0 w) (hs : Spo base top w W) (hb : n ≤ base) : Below n w0 W :=
  ⟨hs.os.trans h.os, hs.tape.trans h.tape, hs.output.trans h.output, by rw [hs.size]; exact h.size, fun k hk => (hs.block k (.inl (by omega))).trans (h.block k hk)⟩
set_option maxRecDepth 100000 in
set_option maxHeartbeats 1000000 in
theorem core (s : ByteArray) (ws : s.size ≤ maxLen) (w : World) :
    Calls Try.prog 3 #[.string s] w fun e w' => e = .returned (.bool true) ∧ Below w.heap.size w w' := by
  have hs63 : (s.size : Int) ≤ 9223372036854775807 := by unfold maxLen at ws; omega
  by_cases hbig : 20000 < s.size
  · have hbi : (20000 : Int) < (s.size : Int) := by omega
    go_enter Try.func3, Try.ntmps3
    go_wp2_with fail
    refine (awake_any _).mono ?_
    rintro e w1 ⟨rfl, hb1⟩
    have HB1 := Lib.hid hb1
    clear hb1
    go_wp2
    go_ret
    exact ⟨rfl, HB1.out⟩
  · have hbi : ¬ (20000 : Int) < (s.size : Int) := by omega
    have hsl : s.data.toList.length ≤ 1000000 := by simp; omega
    have HD := Lib.hid (fun W => rdec_any s (by omega) W)
    have HE := Lib.hid (fun W => decode_any s (by omega) W)
    have HC := Lib.hid (fun W => eachl_any s (by omega) 1099511627776 (by omega) W)
    rw [eat_all 1099511627776 s.data.toList hsl (by omega)] at HC
    have hsm := rq_small s.data.toList hsl
    have hdec : dec s.data.toList = if (rRq s.data.toList).2 ≠ 0 then ([], (rRq s.data.toList).2) else ((rRq s.data.toList).1, 0) := rfl
    rw [hdec] at HE
    generalize rRq s.data.toList = X at *
    obtain ⟨L, E⟩ := X
    dsimp only at HE hsm
    have HSM := Lib.hid hsm
    have hfin : ∀ zs : List Zr, (∀ x ∈ zs.map Zr.x, x ∈ L) → zs.length ≤ 1000000 → Fin0 zs ∧ ∀ z ∈ zs, z.x.ls.length ≤ 1000000 ∧ z.x.ss.length ≤ 1000000 := fun zs h hl => by
      have h2 : ∀ z ∈ zs, z.x.ls.length ≤ 1000000 ∧ z.x.ss.length ≤ 1000000 := fun z hz => HSM.out.2 z.x (h _ (List.mem_map_of_mem hz))
      exact ⟨⟨by omega, fun z hz => by have := h2 z hz; omega⟩, h2⟩
    have HFN := Lib.hid hfin
    obtain ⟨Mx, hMx⟩ : ∃ Mx, (if E ≠ 0 then (([] : List Sr), E) else (L, 0)) = (Mx, E) := by
      by_cases h : E = 0
      · subst h; exact ⟨L, by simp⟩
      · exact ⟨[], by rw [if_pos h]⟩
    rw [hMx] at HE
    have HMX : Hid ((E = 0 → Mx = L) ∧ (E ≠ 0 → Mx = [])) := Lib.hid ⟨fun h => by subst h; simpa using congrArg Prod.fst hMx.symm, fun h => by rw [if_pos h] at hMx; exact (congrArg Prod.fst hMx).symm⟩
    clear hdec hsm hfin hMx hsl ws
    by_cases hE : E = 0
    · subst hE
      go_enter Try.func3, Try.ntmps3
      go_wp2_with fail
      refine (HD.out _).mono ?_
      rintro e wA ⟨v3, z3, rfl, ho3, hm3, hbA⟩
      have HO3 := Lib.hid ho3
      have HM3 := Lib.hid hm3
      have HBA := Lib.hid hbA
      obtain ⟨a3, c3, h3⟩ := ho3.shape
      generalize hN3 : z3.length = N3 at h3
      have HN3 := Lib.hid hN3
      subst h3
      clear ho3 hm3 hbA hN3
      go_wp2
      go_loopw [5] (fun i wr => ∃ (k : Nat), i = .int .i64 (k : Int) ∧ k ≤ 2 ∧ Hid (Below wA.heap.size wA wr)) (fun i _ => 2 - (intOf i).toNat)
      case atStart => exact ⟨0, rfl, by omega, Lib.hid (Below.refl _ _)⟩
      case round =>
        obtain ⟨k, rfl, hk, HB⟩ := hrel
        by_cases hlt : k < 2
        · go_wp2_with fail
          refine (HE.out _).mono ?_
          rintro e w1 ⟨vm, zm, rfl, hom, hmm, hb1⟩
          obtain ⟨am, cm, hsm⟩ := hom.shape
          have HB1 := Lib.hid (HB.out.trans (hb1.mono HB.out.size))
          have HOM := Lib.hid hom
          have HMM := Lib.hid hmm
          have HZ1 := Lib.hid hb1.size
          generalize hNm : zm.length = Nm at hsm
          have HNM := Lib.hid hNm
          subst hsm
          clear hom hmm hb1 hNm
          go_wp2_with fail
          refine (HC.out _).mono ?_
          rintro e w2 ⟨vn, zn, rfl, hon, hmn, hb2⟩
          obtain ⟨an, cn, hsn⟩ := hon.shape
          have HB2 := Lib.hid (HB1.out.trans (hb2.mono HB1.out.size))
          have HB12 := Lib.hid hb2
          have HON := Lib.hid hon
          have HMN := Lib.hid hmn
          generalize hNn : zn.length = Nn at hsn
          have HNN := Lib.hid hNn
          subst hsn
          clear hon hmn hb2 hNn
          have h3L : z3.map Zr.x = L := HM3.out
          have hnL : zn.map Zr.x = L := HMN.out
          have hmL : zm.map Zr.x = Mx := HMM.out
          have hf3 := HFN.out z3 (fun x hx => by rw [← h3L]; exact hx) (by have := congrArg List.length h3L; rw [List.length_map] at this; rw [this]; exact HSM.out.1)
          have hfn := HFN.out zn (fun x hx => by rw [← hnL]; exact hx) (by have := congrArg List.length hnL; rw [List.length_map] at this; rw [this]; exact HSM.out.1)
          have hmlen : zm.length ≤ 1000000 := by
            have := congrArg List.length hmL
            rw [List.length_map] at this
            rw [this]
            by_cases h : (0 : Nat) = 0
            · rw [HMX.out.1 (by first | exact h | trivial)]; exact HSM.out.1
            · rw [HMX.out.2 h]; exact Nat.zero_le _
          have hfm := HFN.out zm (fun x hx => by
            rw [hmL] at hx
            by_cases h : (0 : Nat) = 0
            · rw [HMX.out.1 (by first | exact h | trivial)] at hx; exact hx
            · rw [HMX.out.2 h] at hx; cases hx) hmlen
          have hnlen : zn.length ≤ 1000000 := by have := congrArg List.length hnL; rw [List.length_map] at this; rw [this]; exact HSM.out.1
          have HSN : Hid (∀ W, Below w2.heap.size w2 W → Calls Try.prog 14 #[.slice an Nn cn, .slice a3 N3 c3] W (Ret W (.bool true))) := Lib.hid fun W hW => by
            have := rsame_any zn z3 hfn.1 hf3.1 _ _ W (HON.out.at.below hW (Nat.le_refl _)) ((HO3.out.at.below HB2.out (Nat.le_refl _)).below hW (Nat.le_refl _))
            rw [hnL, h3L] at this
            simp only [eq_self, decide_true] at this
            exact this
          have HSMm : Hid ((0 : Nat) = 0 → ∀ W, Below w2.heap.size w2 W → Calls Try.prog 14 #[.slice am Nm cm, .slice a3 N3 c3] W (Ret W (.bool true))) := Lib.hid fun h W hW => by
            have := rsame_any zm z3 hfm.1 hf3.1 _ _ W ((HOM.out.at.below HB12.out (Nat.le_refl _)).below hW (Nat.le_refl _)) ((HO3.out.at.below HB2.out (Nat.le_refl _)).below hW (Nat.le_refl _))
            rw [hmL, h3L, HMX.out.1 (by first | exact h | trivial)] at this
            simp only [eq_self, decide_true] at this
            exact this
          have HPM := Lib.hid (fun W (hW : Below w1.heap.size w1 W) => spoil_any wr.heap.size w1 _ zm HOM.out W hW hmlen hfm.2)
          have HPN := Lib.hid (fun W (hW : Osr W w1.heap.size (.slice an Nn cn) zn) => spoil_any w1.heap.size W _ zn hW W (Below.refl _ _) hnlen hfn.2)
          have hNm0 : (0 : Nat) ≠ 0 → Nm = 0 := fun h => by have := congrArg List.length hmL; rw [List.length_map, HNM.out, HMX.out.2 h] at this; exact this
          clear h3L hnL hmL hf3 hfn hfm hmlen hnlen
          have HS1 := Lib.hid (HSMm.out rfl)
          clear hNm0
          go_wp2_with fail
          refine (HS1.out _ (Below.refl _ _)).mono ?_
          rintro e w3 ⟨rfl, hb3⟩
          have HB3 := Lib.hid hb3
          clear hb3
          go_wp2_with fail
          refine (HSN.out _ HB3.out).mono ?_
          rintro e w4 ⟨rfl, hb4⟩
          have HB4 := Lib.hid (HB3.out.trans (hb4.mono HB3.out.size))
          clear hb4
          go_wp2_with fail
          refine (HPM.out _ (HB12.out.trans (HB4.out.mono HB12.out.size))).mono ?_
          rintro e w5 ⟨⟨um, rfl⟩, hs5⟩
          have HS5 := Lib.hid hs5
          clear hs5
          go_wp2_with fail
          refine (HPN.out _ (osr_spo (HON.out.below HB4.out (Nat.le_refl _)) HS5.out (Nat.le_refl _))).mono ?_
          rintro e w6 ⟨⟨un, rfl⟩, hs6⟩
          have HB6 : Hid (Below wA.heap.size wA w6) := Lib.hid (by
            have z := HZ1.out
            have zb := HB.out.size
            exact spo_below (spo_below (HB2.out.trans (HB4.out.mono HB2.out.size)) HS5.out (by omega)) hs6 (by omega))
          clear hs6
          go_wp2
          go_roundw
          case rel => exact ⟨k + 1, by go_num, by omega, HB6⟩
          case measure => simp [intOf]; omega
        · obtain rfl : k = 2 := by omega
          go_wp2_with fail
          refine (awake_any _).mono ?_
          rintro e w5 ⟨rfl, hb5⟩
          have HB5 := Lib.hid ((HBA.out.trans (HB.out.mono HBA.out.size)).trans (hb5.mono (Nat.le_trans HBA.out.size HB.out.size)))
          clear hb5
          go_wp2
          go_ret
          exact ⟨rfl, HB5.out⟩
    · have e1 : ((E : Int) == 0) = false := by rw [beq_eq_false_iff_ne]; omega
      have e2 : ((E : Int) != 0) = true := by rw [bne_iff_ne]; omega
      have e3 : ¬ (E : Int) = 0 := by omega
      go_enter Try.func3, Try.ntmps3
      go_wp2_with fail
      refine (HD.out _).mono ?_
      rintro e wA ⟨v3, z3, rfl, ho3, hm3, hbA⟩
      have HO3 := Lib.hid ho3
      have HM3 := Lib.hid hm3
      have HBA := Lib.hid hbA
      obtain ⟨a3, c3, h3⟩ := ho3.shape
      generalize hN3 : z3.length = N3 at h3
      have HN3 := Lib.hid hN3
      subst h3
      clear ho3 hm3 hbA hN3
      go_wp2
      go_loopw [5] (fun i wr => ∃ (k : Nat), i = .int .i64 (k : Int) ∧ k ≤ 2 ∧ Hid (Below wA.heap.size wA wr)) (fun i _ => 2 - (intOf i).toNat)
      case atStart => exact ⟨0, rfl, by omega, Lib.hid (Below.refl _ _)⟩
      case round =>
        obtain ⟨k, rfl, hk, HB⟩ := hrel
        by_cases hlt : k < 2
        · go_wp2_with fail
          refine (HE.out _).mono ?_
          rintro e w1 ⟨vm, zm, rfl, hom, hmm, hb1⟩
          obtain ⟨am, cm, hsm⟩ := hom.shape
          have HB1 := Lib.hid (HB.out.trans (hb1.mono HB.out.size))
          have HOM := Lib.hid hom
          have HMM := Lib.hid hmm
          have HZ1 := Lib.hid hb1.size
          generalize hNm : zm.length = Nm at hsm
          have HNM := Lib.hid hNm
          subst hsm
          clear hom hmm hb1 hNm
          go_wp2_with fail
          refine (HC.out _).mono ?_
          rintro e w2 ⟨vn, zn, rfl, hon, hmn, hb2⟩
          obtain ⟨an, cn, hsn⟩ := hon.shape
          have HB2 := Lib.hid (HB1.out.trans (hb2.mono HB1.out.size))
          have HB12 := Lib.hid hb2
          have HON := Lib.hid hon
          have HMN := Lib.hid hmn
          generalize hNn : zn.length = Nn at hsn
          have HNN := Lib.hid hNn
          subst hsn
          clear hon hmn hb2 hNn
          have h3L : z3.map Zr.x = L := HM3.out
          have hnL : zn.map Zr.x = L := HMN.out
          have hmL : zm.map Zr.x = Mx := HMM.out
          have hf3 := HFN.out z3 (fun x hx => by rw [← h3L]; exact hx) (by have := congrArg List.length h3L; rw [List.length_map] at this; rw [this]; exact HSM.out.1)
          have hfn := HFN.out zn (fun x hx => by rw [← hnL]; exact hx) (by have := congrArg List.length hnL; rw [List.length_map] at this; rw [this]; exact HSM.out.1)
          have hmlen : zm.length ≤ 1000000 := by
            have := congrArg List.length hmL
            rw [List.length_map] at this
            rw [this]
            by_cases h : E = 0
            · rw [HMX.out.1 (by first | exact h | trivial)]; exact HSM.out.1
            · rw [HMX.out.2 h]; exact Nat.zero_le _
          have hfm := HFN.out zm (fun x hx => by
            rw [hmL] at hx
            by_cases h : E = 0
            · rw [HMX.out.1 (by first | exact h | trivial)] at hx; exact hx
            · rw [HMX.out.2 h] at hx; cases hx) hmlen
          have hnlen : zn.length ≤ 1000000 := by have := congrArg List.length hnL; rw [List.length_map] at this; rw [this]; exact HSM.out.1
          have HSN : Hid (∀ W, Below w2.heap.size w2 W → Calls Try.prog 14 #[.slice an Nn cn, .slice a3 N3 c3] W (Ret W (.bool true))) := Lib.hid fun W hW => by
            have := rsame_any zn z3 hfn.1 hf3.1 _ _ W (HON.out.at.below hW (Nat.le_refl _)) ((HO3.out.at.below HB2.out (Nat.le_refl _)).below hW (Nat.le_refl _))
            rw [hnL, h3L] at this
            simp only [eq_self, decide_true] at this
            exact this
          have HSMm : Hid (E = 0 → ∀ W, Below w2.heap.size w2 W → Calls Try.prog 14 #[.slice am Nm cm, .slice a3 N3 c3] W (Ret W (.bool true))) := Lib.hid fun h W hW => by
            have := rsame_any zm z3 hfm.1 hf3.1 _ _ W ((HOM.out.at.below HB12.out (Nat.le_refl _)).below hW (Nat.le_refl _)) ((HO3.out.at.below HB2.out (Nat.le_refl _)).below hW (Nat.le_refl _))
            rw [hmL, h3L, HMX.out.1 (by first | exact h | trivial)] at this
            simp only [eq_self, decide_true] at this
            exact this
          have HPM := Lib.hid (fun W (hW : Below w1.heap.size w1 W) => spoil_any wr.heap.size w1 _ zm HOM.out W hW hmlen hfm.2)
          have HPN := Lib.hid (fun W (hW : Osr W w1.heap.size (.slice an Nn cn) zn) => spoil_any w1.heap.size W _ zn hW W (Below.refl _ _) hnlen hfn.2)
          have hNm0 : E ≠ 0 → Nm = 0 := fun h => by have := congrArg List.length hmL; rw [List.length_map, HNM.out, HMX.out.2 h] at this; exact this
          clear h3L hnL hmL hf3 hfn hfm hmlen hnlen
          have hN0 := hNm0 hE
          subst hN0
          clear hNm0
          go_wp2_with fail
          refine (HSN.out _ (Below.refl _ _)).mono ?_
          rintro e w4 ⟨rfl, hb4⟩
          have HB4 : Hid (Below w2.heap.size w2 w4) := Lib.hid hb4
          clear hb4
          go_wp2_with fail
          refine (HPM.out _ (HB12.out.trans (HB4.out.mono HB12.out.size))).mono ?_
          rintro e w5 ⟨⟨um, rfl⟩, hs5⟩
          have HS5 := Lib.hid hs5
          clear hs5
          go_wp2_with fail
          refine (HPN.out _ (osr_spo (HON.out.below HB4.out (Nat.le_refl _)) HS5.out (Nat.le_refl _))).mono ?_
          rintro e w6 ⟨⟨un, rfl⟩, hs6⟩
          have HB6 : Hid (Below wA.heap.size wA w6) := Lib.hid (by
            have z := HZ1.out
            have zb := HB.out.size
            exact spo_below (spo_below (HB2.out.trans (HB4.out.mono HB2.out.size)) HS5.out (by omega)) hs6 (by omega))
          clear hs6
          go_wp2
          go_roundw
          case rel => exact ⟨k + 1, by go_num, by omega, HB6⟩
          case measure => simp [intOf]; omega
        · obtain rfl : k = 2 := by omega
          go_wp2_with fail
          refine (awake_any _).mono ?_
          rintro e w5 ⟨rfl, hb5⟩
          have HB5 := Lib.hid ((HBA.out.trans (HB.out.mono HBA.out.size)).trans (hb5.mono (Nat.le_trans HBA.out.size HB.out.size)))
          clear hb5
          go_wp2
          go_ret
          exact ⟨rfl, HB5.out⟩
theorem own : ownKnob Try.prog.godebug = none := by kernel_rfl
theorem laidOut : laidOutB Try.prog = true := by kernel_rfl
set_option maxRecDepth 100000 in
theorem lifted (os : Os) (started : os.Started) (H : Type) (enc : TypeId × Value → H) :
    ReturnsInHanded {} Try.checked os 3 .any (Rows.requestReadsSpec.pre6 enc Try.prog Try.f3 Rows.requestReadsRow.domain false) (Rows.requestReadsSpec.post enc Try.prog Try.f3 false true false false) := by
  refine returnsInHanded_of_change (C := Try.checked) own started (by kernel_rfl) Try.func3
    (ChangeSpec.witness6 (enc := enc) (C := Try.checked) false ⟨#[], #[.string ByteArray.empty], []⟩ 8 (by kernel_rfl) (by kernel_rfl) (by kernel_rfl) (by kernel_rfl)) ?_
  intro W base args ds gs before hval0 hW hcnd _
  have hval : ∀ (j : Nat) t v, Try.f3.params[j]? = some t → args[j]? = some v → Value.okWide Try.prog W .any base t v := hval0
  have hW' := hW
  obtain ⟨p, q, hA0, hV, rfl, hfz, hnd⟩ := hW
  have hA : DataW.TrodAll enc Try.prog W 0 (fun _ => true) true Try.f3.params.toList args.toList ds p := hA0
  rw [Try.params3] at hA hval
  obtain ⟨v0, vs0, d0, ds0, p0, q0, hargs, rfl, rfl, h0, r0⟩ := trodAll_cons hA
  obtain ⟨rfl, rfl, rfl⟩ := trodAll_nil r0
  obtain rfl : args = #[v0] := by cases args; simp_all
  obtain ⟨rfl, rfl⟩ := trodVars_none hV
  have k0 := h0
  have lt0 : ∀ x ∈ p0, x.block < W.heap.size := by obtain ⟨m, hm⟩ := k0; exact DataW.trod_lt m _ _ _ hm
  obtain ⟨a0, rfl, rfl, rfl, w0⟩ := open_string Try.underlying9 (hval 0 9 v0 rfl rfl) h0
  clear hA0 hval0
  refine (core a0 w0 W ).mono fun e W' ⟨he, bel⟩ => ?_
  subst he
  exact ⟨_, rfl, _, _, _, [], _, [], hW', trodAll_mk1 (shut_bool Try.underlying4 _), (trodAll_cons_mk (Below.trod laidOut (by kernel_rfl) (of_decide_eq_true (by kernel_rfl)) k0 bel lt0) trodAll_mk0), rfl, bel.frame _, fun h => by cases h⟩
theorem over : Rows.requestReadsRow.holds Try.pinned (OpenSpec.ofChange Rows.requestReadsSpec) :=
  OpenClaim.holds_of_wide 3 Try.f3 rfl rfl rfl rfl rfl rfl rfl ⟨rfl, rfl, rfl, rfl, rfl⟩ rfl rfl rfl rfl rfl (by kernel_rfl) Try.func3 (by kernel_rfl)
    (of_decide_eq_true (by kernel_rfl)) (by unfold Func.isWrapper; first | (rw [if_pos (by decide +kernel)]; kernel_rfl) | (rw [if_neg (by decide +kernel)]; exact ⟨rfl, rfl⟩))
    (fun os started H enc _ => lifted os started H enc)
theorem proved : Rows.RequestReadsSaid := over
end Go.Proofs.Ytknfodpegkpjnaa.requestReads
