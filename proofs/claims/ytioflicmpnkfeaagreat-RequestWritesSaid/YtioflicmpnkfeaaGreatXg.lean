/- The law's walk: what is written, compared, counted of any two lists of series. -/
import Derived.Test.YtioflicmpnkfeaaGreatOp
import Derived.Test.YtioflicmpnkfeaaGreatLg
import Derived.Test.YtioflicmpnkfeaaGreatWe
import Derived.Test.YtioflicmpnkfeaaGreatXa
import Derived.Test.YtioflicmpnkfeaaGreatXe
namespace Go.Proofs.YtioflicmpnkfeaaGreat
open Go Go.RowKit
set_option maxRecDepth 100000
theorem cnL_le (M : Nat) : ∀ l : List Sr, (∀ x ∈ l, x.ls.length ≤ M) → cnL l ≤ l.length * M
  | [], _ => by simp [cnL]
  | x :: r, h => by
    rw [cnL, List.length_cons, Nat.succ_mul]
    have := cnL_le M r fun y hy => h y (by simp [hy])
    have := h x (by simp)
    omega
theorem cnS_le (M : Nat) : ∀ l : List Sr, (∀ x ∈ l, x.ss.length ≤ M) → cnS l ≤ l.length * M
  | [], _ => by simp [cnS]
  | x :: r, h => by
    rw [cnS, List.length_cons, Nat.succ_mul]
    have := cnS_le M r fun y hy => h y (by simp [hy])
    have := h x (by simp)
    omega
/-- Series that are not large. -/
structure Sml (zs : List Zr) : Prop where
  fin : Fin0 zs
  len : (eRq (zs.map Zr.x)).length ≤ 1000000
  ok : ∀ x ∈ zs.map Zr.x, ∀ y ∈ x.ss, y.ok
  cl : cnL (zs.map Zr.x) ≤ 1000000000000000000
  cs : cnS (zs.map Zr.x) ≤ 1000000000000000000
theorem sml_of {zs : List Zr} (hw : ∀ z ∈ zs, WideZ z) (h : ¬ 4000 ≤ lg (zs.map Zr.x) 0) : Sml zs := by
  have hok : ∀ x ∈ zs.map Zr.x, ∀ y ∈ x.ss, y.ok := fun x hx => by obtain ⟨z, hz, rfl⟩ := List.mem_map.1 hx; exact (hw z hz).o
  have h2 := lg_len (zs.map Zr.x) 0 hok (by omega)
  have h3 : (eRq (zs.map Zr.x)).length ≤ 1000000 := by omega
  have hf := fin_of (Siz.of hok h3) h3
  have h4 : (zs.map Zr.x).length ≤ 1000000 := by
    have h1 := eM_cnt (fRq (zs.map Zr.x))
    have e : (eM (fRq (zs.map Zr.x))).length = (eRq (zs.map Zr.x)).length := rfl
    have h4 : (fRq (zs.map Zr.x)).length = (zs.map Zr.x).length := by unfold fRq; simp
    omega
  have a1 := cnL_le 1000000000000 (zs.map Zr.x) fun x hx => by obtain ⟨z, hz, rfl⟩ := List.mem_map.1 hx; exact (hf.l z hz).1
  have a2 := cnS_le 1000000000000 (zs.map Zr.x) fun x hx => by obtain ⟨z, hz, rfl⟩ := List.mem_map.1 hx; exact (hf.l z hz).2
  exact ⟨hf, h3, hok, by omega, by omega⟩
theorem Fin0.of_map {zs cs : List Zr} (h : Fin0 zs) (e : cs.map Zr.x = zs.map Zr.x) : Fin0 cs := by
  refine ⟨?_, fun c hc => ?_⟩
  · have := congrArg List.length e
    rw [List.length_map, List.length_map] at this
    have := h.len
    omega
  · have hm : c.x ∈ zs.map Zr.x := by rw [← e]; exact List.mem_map_of_mem hc
    obtain ⟨z, hz, hx⟩ := List.mem_map.1 hm
    rw [← hx]
    exact h.l z hz
open Classical in
set_option maxHeartbeats 4000000 in
theorem writes_any (v0 : Value) (zs : List Zr) (v1 : Value) (ms : List Zr) (w : World) (h0 : ArgZ w v0 zs) (h1 : ArgZ w v1 ms) :
    Calls Tryz.prog 3 #[v0, v1] w fun e w' => e = .returned (.bool true) ∧ Below w.heap.size w w' := by
  have HL0 := Lib.hid (fun W (hW : Bl w W) => large_any zs h0.len h0.wide v0 W (h0.at'.below hW.h (Nat.le_refl _)))
  have HL1 := Lib.hid (fun W (hW : Bl w W) => large_any ms h1.len h1.wide v1 W (h1.at'.below hW.h (Nat.le_refl _)))
  have HV := Lib.hid (fun W (hW : Bl w W) => h0.at'.below hW.h (Nat.le_refl _))
  have HU := Lib.hid (fun W (hW : Bl w W) => h1.at'.below hW.h (Nat.le_refl _))
  have HS0 := Lib.hid (fun h => sml_of h0.wide h)
  have HS1 := Lib.hid (fun h => sml_of h1.wide h)
  clear h0 h1
  by_cases b0 : 4000 ≤ lg (zs.map Zr.x) 0
  · rw [decide_eq_true b0] at HL0
    clear b0 HL1 HV HU HS0 HS1
    go_enter Tryz.func3, Tryz.ntmps3
    go_wp2_with fail
    refine (HL0.out _ inferInstance).mono ?_
    rintro e w1 ⟨rfl, hb1⟩
    have HB1 := Lib.hid hb1
    clear hb1
    go_wp2_with fail
    refine (awake_any _).mono ?_
    rintro e w2 ⟨rfl, hb2⟩
    have HB2 := Lib.hid (below_trans' HB1.out hb2)
    clear hb2
    go_wp2
    go_ret
    exact ⟨rfl, HB2.out⟩
  · have hS0 := HS0.out b0
    rw [decide_eq_false b0] at HL0
    by_cases b1 : 4000 ≤ lg (ms.map Zr.x) 0
    · rw [decide_eq_true b1] at HL1
      clear b0 b1 HV HU HS0 HS1 hS0
      go_enter Tryz.func3, Tryz.ntmps3
      go_wp2_with fail
      refine (HL0.out _ inferInstance).mono ?_
      rintro e w1 ⟨rfl, hb1⟩
      have i1 : Bl w w1 := ⟨hb1⟩
      clear hb1
      go_wp2_with fail
      refine (HL1.out _ inferInstance).mono ?_
      rintro e w2 ⟨rfl, hb2⟩
      have i2 : Bl w w2 := i1.tr hb2
      clear hb2
      go_wp2_with fail
      refine (awake_any _).mono ?_
      rintro e w3 ⟨rfl, hb3⟩
      have i3 : Bl w w3 := i2.tr hb3
      clear hb3
      go_wp2
      go_ret
      exact ⟨rfl, i3.h⟩
    · have hS1 := HS1.out b1
      rw [decide_eq_false b1] at HL1
      have HC := Lib.hid (fun W (hW : Bl w W) => copy6_any zs hS0.fin v0 W (HV.out W hW))
      have HF0 := Lib.hid hS0
      have HF1 := Lib.hid hS1
      clear b0 b1 HS0 HS1 hS0 hS1
      obtain ⟨va, vc, hv0⟩ := (HV.out w inferInstance).slice
      generalize hL : zs.length = L at hv0
      have HL := Lib.hid hL
      clear hL
      subst hv0
      go_enter Tryz.func3, Tryz.ntmps3
      go_wp2_with fail
      refine (HL0.out _ inferInstance).mono ?_
      rintro e w1 ⟨rfl, hb1⟩
      have i1 : Bl w w1 := ⟨hb1⟩
      clear hb1
      go_wp2_with fail
      refine (HL1.out _ inferInstance).mono ?_
      rintro e w2 ⟨rfl, hb2⟩
      have i2 : Bl w w2 := i1.tr hb2
      clear hb2 i1
      go_wp2_with fail
      refine (HC.out _ inferInstance).mono ?_
      rintro e w3 ⟨u, cs, rfl, hcs, hcx, hb3⟩
      have i3 : Bl w w3 := i2.tr hb3
      clear hb3 i2 HC HL0 HL1
      have hfc := HF0.out.fin.of_map hcx
      have hcok : ∀ c ∈ cs, ∀ y ∈ c.x.ss, y.ok := fun c hc => HF0.out.ok c.x (by rw [← hcx]; exact List.mem_map_of_mem hc)
      have hzok : ∀ c ∈ zs, ∀ y ∈ c.x.ss, y.ok := fun c hc => HF0.out.ok c.x (List.mem_map_of_mem hc)
      have C8 := Lib.hid (fun W (hW : Bl w3 W) => encode_any cs hcok (by rw [hcx]; exact HF0.out.len) u W (hcs.below hW.h (Nat.le_refl _)))
      have C9 := Lib.hid (fun W (hW : Bl w W) => encode9_any zs hzok HF0.out.len _ W (HV.out W hW))
      have C10 := Lib.hid (fun W (hW : Bl w3 W) => same10_any cs ms hfc HF1.out.fin u v1 W (hcs.below hW.h (Nat.le_refl _)) (HU.out W (i3.tr hW.h)))
      have C11 := Lib.hid (fun W (hW : Bl w W) => rsame_any zs ms HF0.out.fin HF1.out.fin _ v1 W (HV.out W hW) (HU.out W hW))
      have C10a := Lib.hid (fun W (hW : Bl w3 W) => same10_any cs zs hfc HF0.out.fin u _ W (hcs.below hW.h (Nat.le_refl _)) (HV.out W (i3.tr hW.h)))
      have C10b := Lib.hid (fun W (hW : Bl w3 W) => same10_any zs cs HF0.out.fin hfc _ u W (HV.out W (i3.tr hW.h)) (hcs.below hW.h (Nat.le_refl _)))
      have C11a := Lib.hid (fun W (hW : Bl w3 W) => rsame_any cs zs hfc HF0.out.fin u _ W (hcs.below hW.h (Nat.le_refl _)) (HV.out W (i3.tr hW.h)))
      have C7 := Lib.hid (fun W (hW : Bl w3 W) => count_any cs hfc.len (by rw [hcx]; exact HF0.out.cl) (by rw [hcx]; exact HF0.out.cs) u W (hcs.below hW.h (Nat.le_refl _)))
      have CA := Lib.hid (fun W => awake_any W)
      rw [hcx] at C8 C10 C10a C10b C11a C7
      rw [decide_eq_true (rfl : zs.map Zr.x = zs.map Zr.x)] at C10a C10b C11a
      generalize decide (zs.map Zr.x = ms.map Zr.x) = B at *
      generalize bs (eRq (zs.map Zr.x)) = EB at *
      have hP := HF0.out.cl
      have hQ := HF0.out.cs
      have HLen := HF0.out.fin.len
      rw [HL.out] at HLen
      clear hfc hcok hzok hcs hcx HU HF1 HF0
      generalize hPe : cnL (zs.map Zr.x) = P at *
      generalize hQe : cnS (zs.map Zr.x) = Q at *
      have HP := Lib.hid hPe
      have HQ := Lib.hid hQe
      clear hPe hQe
      go_wp2
      go_loopw [6, 7, 8] (fun n m i wr => ∃ (k N M : Nat), n = .int .i64 (N : Int) ∧ m = .int .i64 (M : Int) ∧ i = .int .i64 (k : Int) ∧ k ≤ L ∧ Hid (N + cnL ((zs.drop k).map Zr.x) = P) ∧ Hid (M + cnS ((zs.drop k).map Zr.x) = Q) ∧ Hid (Bl w3 wr)) (fun _ _ i _ => L - (intOf i).toNat)
      case atStart => exact ⟨0, 0, 0, rfl, rfl, rfl, by omega, Lib.hid (by rw [List.drop_zero]; have := HP.out; omega), Lib.hid (by rw [List.drop_zero]; have := HQ.out; omega), Lib.hid inferInstance⟩
      case round =>
        obtain ⟨k, N, M, rfl, rfl, rfl, hk, HE, HF, HB⟩ := hrel
        by_cases hlt : k < L
        · have hkl : k < zs.length := by have := HL.out; omega
          have HV2 := Lib.hid (HV.out wr (i3.tr HB.out.h))
          rcases HV2.out.row with ⟨h0, _⟩ | ⟨g, o, c, hg, hcs⟩
          · have := congrArg List.length h0; rw [List.length_map, List.length_nil] at this; omega
          obtain ⟨q0, q1⟩ := hcs k (by rw [List.length_map]; exact hkl)
          rw [List.getElem_map] at q0 q1
          rw [List.length_map, HL.out] at hg
          clear hcs
          have hdr : (zs.drop k).map Zr.x = zs[k].x :: (zs.drop (k + 1)).map Zr.x := by rw [List.drop_eq_getElem_cons hkl]; rfl
          have hE := HE.out
          have hF := HF.out
          rw [hdr] at hE hF
          rw [cnL] at hE
          rw [cnS] at hF
          have hA := HV2.out.ls zs[k] (List.getElem_mem hkl)
          have hM2 := HV2.out.ss zs[k] (List.getElem_mem hkl)
          clear hdr HV2
          generalize zs[k] = Z at *
          obtain ⟨⟨ls, ss⟩, za, zb⟩ := Z
          unfold zp at q0 q1
          dsimp only at q0 q1 hE hF hA hM2
          obtain ⟨a1, a2, ha⟩ := At2.slice hA
          obtain ⟨m1, m2, hm⟩ := At2.slice hM2
          rw [List.length_map] at ha hm
          subst ha hm
          clear hA hM2
          cases hg
          have hNA : N + ls.length ≤ 1000000000000000000 := by omega
          have hMS : M + ss.length ≤ 1000000000000000000 := by omega
          have HE2 := Lib.hid ((Nat.add_assoc _ _ _).trans hE)
          have HF2 := Lib.hid ((Nat.add_assoc _ _ _).trans hF)
          clear hE hF
          generalize ls.length = A at *
          generalize ss.length = S at *
          go_wp2
          go_roundw
          case rel => exact ⟨k + 1, N + A, M + S, by go_num, by go_num, by go_num, by omega, HE2, HF2, HB⟩
          case measure => simp [intOf]; omega
        · obtain rfl : k = L := by omega
          have h1 : N = P := by
            have := HE.out
            rw [List.drop_of_length_le (by have := HL.out; omega), List.map_nil, cnL] at this
            omega
          have h2 : M = Q := by
            have := HF.out
            rw [List.drop_of_length_le (by have := HL.out; omega), List.map_nil, cnS] at this
            omega
          subst h1 h2
          have j0 : Bl w3 wr := HB.out
          go_wp2_with fail
          refine (C7.out _ j0).mono ?_
          rintro e y1 ⟨rfl, hb⟩
          have j1 : Bl w3 y1 := j0.tr hb
          clear hb
          go_wp2_with fail
          refine (C8.out _ j1).mono ?_
          rintro e y2 ⟨rfl, hb⟩
          have j2 : Bl w3 y2 := j1.tr hb
          clear hb
          go_wp2_with fail
          refine (C9.out _ (i3.tr j2.h)).mono ?_
          rintro e y3 ⟨rfl, hb⟩
          have j3 : Bl w3 y3 := j2.tr hb
          clear hb
          go_wp2_with fail
          refine (C8.out _ j3).mono ?_
          rintro e y4 ⟨rfl, hb⟩
          have j4 : Bl w3 y4 := j3.tr hb
          clear hb
          go_wp2_with fail
          refine (C9.out _ (i3.tr j4.h)).mono ?_
          rintro e y5 ⟨rfl, hb⟩
          have j5 : Bl w3 y5 := j4.tr hb
          clear hb
          go_wp2_with fail
          refine (C10.out _ j5).mono ?_
          rintro e y6 ⟨rfl, hb⟩
          have j6 : Bl w3 y6 := j5.tr hb
          clear hb
          go_wp2_with fail
          refine (C11.out _ (i3.tr j6.h)).mono ?_
          rintro e y7 ⟨rfl, hb⟩
          have j7 : Bl w3 y7 := j6.tr hb
          clear hb
          go_wp2_with fail
          refine (C10a.out _ j7).mono ?_
          rintro e y8 ⟨rfl, hb⟩
          have j8 : Bl w3 y8 := j7.tr hb
          clear hb
          go_wp2_with fail
          refine (C10b.out _ j8).mono ?_
          rintro e y9 ⟨rfl, hb⟩
          have j9 : Bl w3 y9 := j8.tr hb
          clear hb
          go_wp2_with fail
          refine (C11a.out _ j9).mono ?_
          rintro e y10 ⟨rfl, hb⟩
          have j10 : Bl w3 y10 := j9.tr hb
          clear hb
          go_wp2_with fail
          refine (CA.out _ ).mono ?_
          rintro e y11 ⟨rfl, hb⟩
          have j11 : Bl w3 y11 := j10.tr hb
          clear hb
          go_wp2
          go_ret
          exact ⟨rfl, (i3.tr j11.h).h⟩
end Go.Proofs.YtioflicmpnkfeaaGreat
