/- VaultTorn: the law answers true. Condition: the table of package sum reads as its initialiser lays it (tied to the program's text by the card). -/
import Derived.Test.YtieemdcoomilaaaGreatDoorCards
import Derived.Test.YtieemdcoomilaaaGreatDoorTie
import Derived.Test.YtieemdcoomilaaaGreatDoorSa
import Derived.Test.YtieemdcoomilaaaGreatDoorXe
import Derived.SevenTiedAt
set_option linter.unusedVariables false
set_option linter.unusedSimpArgs false
namespace Go.Proofs.YtieemdcoomilaaaGreatDoor.vaultTorn
open Go Go.ChangeShapes Go.WideShapes Go.ChangeAt Go.RowKit
open Go.ChangeMaps (open_string shut_string)
set_option linter.unusedVariables false
set_option maxRecDepth 100000
theorem min_n (n : Nat) : ∃ m : Nat, (min (3000 : Int) (n : Int)) = (m : Int) ∧ m ≤ 3000 ∧ m = min 3000 n := ⟨min 3000 n, by omega, by omega, rfl⟩
set_option maxHeartbeats 16000000 in
theorem core (v : Value) (l : List ByteArray) (tail : ByteArray) (w : World) (wl : Txs w v l) (wt' : tail.size ≤ 140737488351232) (hT : Hid (Tab w)) :
    Calls Tryz.prog 7 #[v, .string tail] w fun e w' => e = .returned (.bool true) ∧ Below w.heap.size w w' := by
  have HAW := Lib.hid (fun W (hW : Below w.heap.size w W) => awake_any W (hT.out.below hW))
  have HRD := Lib.hid (fun W => read_torn tail wt' W)
  have HON := Lib.hid (fun W (hW : Below w.heap.size w W) => vt_on W (hT.out.below hW))
  have HV := Lib.hid wl.at'
  have HVB : Hid (∀ q, v.ownBlock = some q → l ≠ [] → q < w.heap.size) := Lib.hid (fun q hq hne => by
    obtain ⟨g, o, c, e, hc, h⟩ := wl.at'.pos (List.length_pos_iff.2 hne)
    rw [e] at hq
    have hq2 : g = q := by simpa [Value.ownBlock] using hq
    subst hq2
    exact World.block_lt_of_cell? w ⟨g, _, none⟩ (h 0 (List.length_pos_iff.2 hne)))
  obtain ⟨va, vc, hv⟩ := wl.at'.slice
  obtain ⟨L, hL⟩ : ∃ L, l.length = L := ⟨_, rfl⟩
  have hLm := wl.len
  rw [hL] at hv hLm
  have HL := Lib.hid hL
  have HB0 : Hid (Below w.heap.size w w) := Lib.hid (Below.refl _ _)
  clear wl wt' hL
  have HVV := Lib.hid hv
  subst hv
  go_enter Tryz.func7, Tryz.ntmps7
  go_wp2
  go_loopw [6, 5] (fun i x wr => ∃ k X : Nat, i = .int .i64 k ∧ x = .int .i64 X ∧ k ≤ L ∧ X ≤ 6030 ∧ wr = w ∧ Hid (X = sm (l.take k))) (fun i _ _ => L - (intOf i).toNat)
  case atStart => exact ⟨0, 0, rfl, rfl, by omega, by omega, rfl, Lib.hid rfl⟩
  case round =>
    obtain ⟨k, X, rfl, rfl, hk, hX, hwr, HX⟩ := hrel
    have hwr' := hwr.symm
    clear hwr
    subst hwr'
    by_cases hx : X < 3000
    · by_cases hlt : k < L
      · obtain ⟨g1, o1, c3, h1, h2, h3⟩ := HV.out.pos (by have := HL.out; omega)
        have q1 := h3 k (by have := HL.out; omega)
        rw [HL.out] at h1
        injection h1 with h1 h1b h1c
        subst h1
        have HS := Lib.hid (sm_take (l := l) (k := k) (by have := HL.out; omega))
        rw [← HX.out] at HS
        obtain ⟨y, hy⟩ : ∃ y, l[k]'(by have := HL.out; omega) = y := ⟨_, rfl⟩
        rw [hy] at HS q1
        obtain ⟨m, hm, hm1, hm2⟩ := min_n y.size
        rw [← hm2] at HS
        clear h3 hy h1c h1b h2 hm2
        go_wp2
        go_roundw
        case rel => exact ⟨k + 1, X + (30 + m), by simp, by simp; omega, by omega, by omega, (by first | rfl | trivial), Lib.hid HS.out.symm⟩
        case measure => (try simp [intOf]); (try omega)
      · have hkL : k = L := by omega
        have HXL : Hid (X = sm l) := Lib.hid (by rw [HX.out, hkL, ← HL.out, List.take_length])
        clear hkL HX
        go_wp2_with fail
        refine (HRD.out _).mono ?_
        rintro e w1 ⟨fa, fc, fn, fb, E, rfl, hE, hb⟩
        have HE := Lib.hid hE
        have HB1 := Lib.hid (hb.alloc hb.size (.cells #[.int .u8 fa, .string fb, .int .i64 fc] 66))
        have HB1x := Lib.hid hb
        clear hb hE
        by_cases ht : 3000 < tail.size
        · have ht2 : decide ((3000 : Int) < (tail.size : Int)) = true := decide_eq_true (by omega)
          go_wp2_with fail
          refine (HAW.out _ HB1.out).mono ?_
          rintro e w2 ⟨rfl, hb⟩
          have HB2 := Lib.hid (below_trans' HB1.out hb)
          clear hb
          go_wp2
          go_ret
          exact ⟨rfl, HB2.out⟩
        have ht2 : decide ((3000 : Int) < (tail.size : Int)) = false := decide_eq_false (by omega)
        by_cases hE : E = 0
        · have hE2 : ((E : Int) == 0) = true := by rw [hE]; rfl
          go_wp2_with fail
          refine (HAW.out _ HB1.out).mono ?_
          rintro e w2 ⟨rfl, hb⟩
          have HB2 := Lib.hid (below_trans' HB1.out hb)
          clear hb
          go_wp2
          go_ret
          exact ⟨rfl, HB2.out⟩
        have hE2 : ((E : Int) == 0) = false := by rw [beq_eq_false_iff_ne]; omega
        have HER := Lib.hid (HE.out hE)
        have HTZ : Hid (tail.size ≤ 3000) := Lib.hid (by omega)
        have HSM : Hid (sm l < 3000) := Lib.hid (by rw [← HXL.out]; exact hx)
        have HWT := Lib.hid (fun k => sm_le (l := l.take k) (Nat.lt_of_le_of_lt (sm_pre l k) HSM.out))
        have HWL := Lib.hid (sm_le HSM.out)
        go_wp2_with fail
        refine (HAW.out _ HB1.out).mono ?_
        rintro e w2 ⟨rfl, hb⟩
        have HB2 := Lib.hid (below_trans' HB1.out hb)
        clear hb
        clear HE hE ht HXL
        go_wp2_with fail
        refine (HON.out _ HB2.out).mono ?_
        rintro e w3 ⟨B, V, rfl, hB, hV, hz, hb⟩
        have HB3 := Lib.hid (below_trans' HB2.out hb)
        have HBB : Hid (w.heap.size ≤ B) := Lib.hid (Nat.le_trans HB2.out.size hB)
        have HVVV : Hid (w.heap.size ≤ V) := Lib.hid (Nat.le_trans HB2.out.size hV)
        have HZ3 := Lib.hid hz
        clear hb hB hV hz
        go_wp2
        go_loopw [12] (fun i wq => ∃ j : Nat, i = .int .i64 j ∧ j ≤ L ∧ Hid (VT wq V B (l.take j)) ∧ Hid (Below w.heap.size w wq)) (fun i _ => L - (intOf i).toNat)
        case atStart => exact ⟨0, rfl, by omega, HZ3, HB3⟩
        case round =>
          obtain ⟨j, rfl, hj, HZ, HBq⟩ := hrel
          by_cases hjl : j < L
          · obtain ⟨g1, o1, c3, h1, h2, h3⟩ := (HV.out.below HBq.out).pos (by have := HL.out; omega)
            have q1 := h3 j (by have := HL.out; omega)
            rw [HL.out] at h1
            injection h1 with h1 h1b h1c
            subst h1
            obtain ⟨y, hy⟩ : ∃ y, l[j]'(by have := HL.out; omega) = y := ⟨_, rfl⟩
            rw [hy] at q1
            have HT2 : Hid (l.take (j + 1) = l.take j ++ [y]) := Lib.hid (by rw [List.take_succ_eq_append_getElem (by have := HL.out; omega), hy])
            have HYs : Hid (y.size ≤ 3000) := Lib.hid (by rw [← hy]; exact HWL.out.2 _ (List.getElem_mem _))
            have HAD := Lib.hid (vt_add y HYs.out (by have := HWT.out j; have := sm_pre l j; have := HSM.out; omega) HZ.out)
            clear h3 hy h1c h1b h2
            go_wp2_with fail
            refine HAD.out.mono ?_
            rintro e w4 ⟨rfl, hz, hg⟩
            rw [← HT2.out] at hz
            have HZ4 := Lib.hid hz
            have HB4 := Lib.hid (below_gv HBq.out hg HBq.out.size HBB.out HVVV.out)
            clear hz hg
            go_wp2
            go_roundw
            case rel => exact ⟨j + 1, by simp, by omega, HZ4, HB4⟩
            case measure => (try simp [intOf]); (try omega)
          · have hjL : j = L := by omega
            have HZL : Hid (VT wr V B l) := Lib.hid (by have := HZ.out; rw [hjL, ← HL.out, List.take_length] at this; exact this)
            clear hjL HZ
            go_wp2_with fail
            refine (vt_sync HZL.out).mono ?_
            rintro e w4 ⟨rfl, ⟨d, h, hz⟩, hg⟩
            have HF4 := Lib.hid hz
            have HB4 := Lib.hid (below_gv HBq.out hg HBq.out.size HBB.out HVVV.out)
            clear hz hg
            go_wp2_with fail
            refine (copy_any B d w4 HF4.out.1.d).mono ?_
            rintro e w5 ⟨rfl, hdc, hb⟩
            have HDC := Lib.hid hdc
            have HB5 := Lib.hid (below_trans' HB4.out hb)
            have HF5 := Lib.hid (HF4.out.below hb)
            have HBC : Hid (B < w4.heap.size) := Lib.hid HF4.out.1.d.lt
            have HVC : Hid (V < w4.heap.size) := Lib.hid HF4.out.1.lt
            have HC5 : Hid (w4.heap.size < w5.heap.size) := Lib.hid hdc.lt
            clear hdc hb
            obtain ⟨yv, hyv⟩ := HF5.out.1.v
            have HYV := Lib.hid hyv
            have kk := mayB_ok (InvT.may HF5.out.2.1)
            have HKK := Lib.hid kk
            obtain ⟨LN, hLN⟩ : ∃ LN, h.log.length = LN := ⟨_, rfl⟩
            have HLN := Lib.hid hLN
            have hl1 : 1 ≤ LN := by rw [← hLN]; exact List.length_pos_iff.2 kk.ne
            have hl2 : LN ≤ 30 := by rw [← hLN]; exact kk.len
            clear hyv kk hLN
            go_wp2_with fail
            refine (head_any V B 200 h l.length yv w5 HYV.out HKK.out.ne (by have := HKK.out.len; omega)).mono ?_
            rintro e w6 ⟨u, rfl, ho, hb⟩
            have HO := Lib.hid ho.kat
            have HB6 := Lib.hid (below_trans' HB5.out hb)
            have HF6 := Lib.hid (HF5.out.below hb)
            have HD6 := Lib.hid (HDC.out.below hb HDC.out.lt)
            have HC6 : Hid (w4.heap.size < w6.heap.size) := Lib.hid (Nat.lt_of_lt_of_le HC5.out hb.size)
            obtain ⟨g2, o2, c2, hu, hc2⟩ := HO.out.pos HKK.out.ne
            have hO2 := HO.out
            rw [hu] at hO2
            have z1 := hO2.at (LN - 1) (by have := HLN.out; omega)
            rw [HLN.out] at hu hc2
            rw [show h.log[LN - 1]'(by have := HLN.out; omega) = Vt.lz h.log from by have := lz_at h.log (by have := HLN.out; omega); simp only [HLN.out] at this; exact this] at z1
            have HTT := Lib.hid (torn_tail HF5.out.2.1 HF5.out.2.2 (by have := HWL.out.1; have := HSM.out; omega) HTZ.out HER.out)
            generalize hlz : Vt.lz h.log = lz at *
            have HLZ := Lib.hid hlz
            have eN : ((LN : Int) - 1) = ((LN - 1 : Nat) : Int) := by omega
            clear ho hb hO2 HO hlz
            subst hu
            unfold hval at *
            obtain ⟨P, hP⟩ : ∃ P, LN - 1 = P := ⟨_, rfl⟩
            rw [hP] at z1 eN
            have hP2 : P < LN := by omega
            have hgl := World.block_lt_of_cell? w6 ⟨g2, _, none⟩ z1
            dsimp only at hgl
            clear hP
            have HF7 := Lib.hid (HF6.out.below (below_one w6 (.cells #[.int .i64 h.gen, .int .i64 h.base, .int .i64 h.snap, .slice (some ⟨g2, o2, none⟩) LN c2] 40)))
            have HD7 := Lib.hid (HD6.out.below (below_one w6 (.cells #[.int .i64 h.gen, .int .i64 h.base, .int .i64 h.snap, .slice (some ⟨g2, o2, none⟩) LN c2] 40)) HD6.out.lt)
            have HB7 := Lib.hid (HB6.out.alloc HB6.out.size (.cells #[.int .i64 h.gen, .int .i64 h.base, .int .i64 h.snap, .slice (some ⟨g2, o2, none⟩) LN c2] 40))
            have HTS : Hid (tail.size ≤ 9223372036854775807) := Lib.hid (by have := HTZ.out; omega)
            go_wp2_with fail
            have HWR := Lib.hid (write_any B d lz tail _ HF7.out.1.d HF7.out.1.ok HTS.out)
            obtain ⟨t1, t2, t3, t4, d2, t5, t6, t7⟩ := HTT.out
            rw [t1] at HWR
            generalize hY : doD d lz true (wf d tail) = Y at *
            have T2 := Lib.hid t2
            have T4 := Lib.hid t4
            have T5 := Lib.hid t5
            have T6 := Lib.hid t6
            have T7 := Lib.hid t7
            clear t1 t2 t4 t5 t6 t7 hY HTT
            refine HWR.out.mono ?_
            rintro e w8 ⟨rfl, hd8, hg8⟩
            have HX8 := Lib.hid (HF7.out.1.regrow hg8 hd8 T2.out)
            have HD8 := Lib.hid (HD7.out.grown hg8 (fun e => by have := HBC.out; cases e; omega))
            have HB8 := Lib.hid (below_gr HB7.out hg8 HB7.out.size HBB.out)
            clear hd8 hg8
            have HSY := Lib.hid (sync_any B Y.1 lz _ HX8.out.d HX8.out.ok)
            rw [t3] at HSY
            generalize doD Y.1 lz false sy = Z at *
            clear t3
            go_wp2_with fail
            refine HSY.out.mono ?_
            rintro e w9 ⟨rfl, hd9, hg9⟩
            have HX9 := Lib.hid (HX8.out.regrow hg9 hd9 T4.out)
            have HD9 := Lib.hid (HD8.out.grown hg9 (fun e => by have := HBC.out; cases e; omega))
            have HB9 := Lib.hid (below_gr HB8.out hg9 HB8.out.size HBB.out)
            clear hd9 hg9
            have HVN : Hid (l ≠ [] → ∀ q, (Value.slice va L vc).ownBlock = some q → q ≠ B) := Lib.hid (fun hne q hq => by have := HVB.out q hq hne; have := HBB.out; omega)
            have HFI := Lib.hid (finds_any B 200 Z.1 d2 h none l (.slice va L vc) (by decide) (by decide) w9 T5.out HX9.out.d HX9.out.ok HX9.out.t HX9.out.b0 (HV.out.below HB9.out) HVN.out (by have := HWL.out.1; have := HSM.out; omega))
            change Hid (Calls Tryz.prog 20 #[.pointer (some ⟨B, 0, none⟩), .int .i64 200, .bool false, .string ⟨#[]⟩, .slice va L vc] w9 _) at HFI
            go_wp2_with fail
            refine HFI.out.mono ?_
            rintro e w10 ⟨rfl, hd10, hok10, hg10⟩
            have HX10 := Lib.hid (HX9.out.regrow hg10 hd10 hok10)
            have HD10 := Lib.hid (HD9.out.grown hg10 (fun e => by have := HBC.out; cases e; omega))
            have HB10 := Lib.hid (below_gr HB9.out hg10 HB9.out.size HBB.out)
            clear hd10 hok10 hg10
            go_wp2_with fail
            refine (tapes_any B d2 w10 HX10.out.d HX10.out.ok.t).mono ?_
            rintro e w11 ⟨rfl, hr⟩
            have HT1 := Lib.hid hr.told
            have HX11 := Lib.hid (HX10.out.below hr.below (Nat.le_refl _))
            have HD11 := Lib.hid (HD10.out.below hr.below HD10.out.lt)
            have HB11 := Lib.hid (below_trans' HB10.out hr.below)
            clear hr
            go_wp2_with fail
            refine (tapes_any _ d w11 HD11.out HF4.out.1.ok.t).mono ?_
            rintro e w12 ⟨rfl, hr⟩
            have HT2 := Lib.hid hr.told
            have HT3 := Lib.hid ((HT1.out.below hr.below HT1.out.lt).same (fun j hj => (T7.out j hj).symm))
            have HX12 := Lib.hid (HX11.out.below hr.below (Nat.le_refl _))
            have HB12 := Lib.hid (below_trans' HB11.out hr.below)
            clear hr HT1
            go_wp2_with fail
            refine (rtapes_any _ _ d.T w12 HT3.out HT2.out).mono ?_
            rintro e w13 ⟨rfl, hb⟩
            have HZ13 : Hid (VT w13 V B l) := Lib.hid ⟨d2, h, HX12.out.below hb (Nat.le_refl _), T6.out⟩
            have HB13 := Lib.hid (below_trans' HB12.out hb)
            clear hb
            go_wp2_with fail
            refine (vt_add ⟨#[109, 111, 114, 101]⟩ (by decide) (by have := HWL.out.1; have := HSM.out; omega) HZ13.out).mono ?_
            rintro e w14 ⟨rfl, hz, hg⟩
            have HZ14 := Lib.hid hz
            have HB14 := Lib.hid (below_gv HB13.out hg HB13.out.size HBB.out HVVV.out)
            clear hz hg
            have HO14 := Lib.hid (own_empty w14 w14.heap.size (Nat.le_refl _) 9)
            have HV14 := Lib.hid ((HV.out.below HB14.out).below (below_one w14 (.cells #[] 9)))
            go_wp2_with (first | (at_builtin; refine wpList_app24 (by rfl) (.tmp 122) (.tmp 123) rfl w14.heap.size (.slice a15 SL c15) l rfl HO16.out _ [⟨#[109, 111, 114, 101]⟩] rfl HS16.out (by have := HWL.out.1; have := HSM.out; simp; omega) (by rw [World.size_alloc]; exact Nat.le_succ_of_le HB15.out.size) ?_; intro v2 w17 ho hg hob; have HO17 := Lib.hid ho; have HB17 := Lib.hid ((HB15.out.alloc HB15.out.size (.cells #[.string ⟨#[109, 111, 114, 101]⟩] 9)).grown hg (by rw [World.size_alloc]; exact Nat.le_succ_of_le HB15.out.size) (fun k hk => (HO16.out.lt k hk).1)); have HNB : Hid (∀ q, v2.ownBlock = some q → q ≠ B) := Lib.hid (fun q hq => by have := (ho.lt q hq).1; have := HZ14.out.lt.1; omega); have HSA := Lib.hid ho.sat; obtain ⟨a17, c17, e17⟩ := ho.shape; generalize hs2 : (strs (l ++ [⟨#[109, 111, 114, 101]⟩])).length = S2 at e17; clear ho hg hob hs2; subst e17) | (at_builtin; refine wpList_app24 (by rfl) (.tmp 120) (.tmp 121) rfl w14.heap.size (.slice (some ⟨w14.heap.size, 0, none⟩) 0 0) [] rfl HO14.out (.slice va L vc) l rfl HV14.out (by have := HWL.out.1; have := HSM.out; simp; omega) (by rw [World.size_alloc]; omega) ?_; intro v1 w15 ho hg hob; rw [List.nil_append] at ho; have HO15 := Lib.hid ho; have HB15 := Lib.hid (((Below.refl w14.heap.size w14).alloc (Nat.le_refl _) (.cells #[] 9)).grown hg (by rw [World.size_alloc]; omega) (fun k hk => (HO14.out.lt k hk).1)); obtain ⟨a15, c15, e15⟩ := ho.shape; generalize hsl : (strs l).length = SL at e15; have HSL := Lib.hid (And.intro hsl e15); clear ho hg hob hsl; subst e15; have HO16 := Lib.hid (HO15.out.alloc (.cells #[.string ⟨#[109, 111, 114, 101]⟩] 9)); have HS16 := Lib.hid (sat_new w15 [⟨#[109, 111, 114, 101]⟩] 9 (by decide))))
            have HZ17 := Lib.hid (HZ14.out.below HB17.out)
            have HB18 := Lib.hid (below_trans' HB14.out HB17.out)
            go_wp2_with fail
            refine (vt_finds HZ17.out HSA.out (fun _ => HNB.out) (by have := HWL.out.1; have := HSM.out; simp; omega)).mono ?_
            rintro e w19 ⟨rfl, hz, hg⟩
            have HB19 := Lib.hid (below_gr HB18.out hg HB18.out.size HBB.out)
            clear hz hg
            go_wp2
            go_ret
            exact ⟨rfl, HB19.out⟩
    · have hx1 : decide ((3000 : Int) ≤ (X : Int)) = true := decide_eq_true (by omega)
      have hx2 : decide ((X : Int) < 3000) = false := decide_eq_false (by omega)
      clear HX
      by_cases hlt : k < L
      · skip
        go_wp2_with fail
        refine (HRD.out _).mono ?_
        rintro e w1 ⟨fa, fc, fn, fb, E, rfl, hE, hb⟩
        have HE := Lib.hid hE
        have HB1 := Lib.hid (hb.alloc hb.size (.cells #[.int .u8 fa, .string fb, .int .i64 fc] 66))
        have HB1x := Lib.hid hb
        clear hb hE
        go_wp2_with fail
        refine (HAW.out _ HB1.out).mono ?_
        rintro e w2 ⟨rfl, hb⟩
        have HB2 := Lib.hid (below_trans' HB1.out hb)
        clear hb
        go_wp2
        go_ret
        exact ⟨rfl, HB2.out⟩
      · skip
        go_wp2_with fail
        refine (HRD.out _).mono ?_
        rintro e w1 ⟨fa, fc, fn, fb, E, rfl, hE, hb⟩
        have HE := Lib.hid hE
        have HB1 := Lib.hid (hb.alloc hb.size (.cells #[.int .u8 fa, .string fb, .int .i64 fc] 66))
        have HB1x := Lib.hid hb
        clear hb hE
        go_wp2_with fail
        refine (HAW.out _ HB1.out).mono ?_
        rintro e w2 ⟨rfl, hb⟩
        have HB2 := Lib.hid (below_trans' HB1.out hb)
        clear hb
        go_wp2
        go_ret
        exact ⟨rfl, HB2.out⟩
set_option maxRecDepth 100000 in
theorem lifted (os : Os) (started : os.Started) (H : Type) (enc : TypeId × Value → H) :
    ReturnsInHanded {} Tryz.checked os 7 .any (fun w args => (Rows.vaultTornSpec.pre enc Tryz.prog Tryz.f7 [] false w args ∧ laidMetH Tryz.prog laid w) ∧ sizedMet enc Tryz.prog Tryz.f7 (OpenSpec.ofChange Rows.vaultTornSpec) false w args)
      (Rows.vaultTornSpec.post enc Tryz.prog Tryz.f7 false true false false) := by
  refine returnsInHanded_of_change_and (C := Tryz.checked) (X := fun w _ => laidMetH Tryz.prog laid w) (fun _ _ _ hh h => h.of_heap hh) own started (by kernel_rfl) Tryz.func7
    (ChangeSpec.witness_shaped (enc := enc) (C := Tryz.checked) (os := os) (X := fun w _ => laidMetH Tryz.prog laid w) false (World.doorLaid Tryz.prog doorSteps os) #[.slice none 0 0, .string ByteArray.empty] 8 rfl (World.shaped_of_RefB (by kernel_rfl) (by kernel_rfl)) (by kernel_rfl) (by kernel_rfl) (by kernel_rfl) (door_met os _)) ?_
  intro W base args ds gs before hval0 hW hcnd hwt hL _
  have hval : ∀ (j : Nat) t v, Tryz.f7.params[j]? = some t → args[j]? = some v → Value.okWide Tryz.prog W .any base t v := hval0
  have hW' := hW
  obtain ⟨p, q, hA0, hV, rfl, hfz, hnd⟩ := hW
  have hA : DataW.TrodAll enc Tryz.prog W 0 (fun _ => true) true Tryz.f7.params.toList args.toList ds p := hA0
  rw [Tryz.params7] at hA hval
  obtain ⟨v0, vs0, d0, ds0, p0, q0, hargs, rfl, rfl, h0, r0⟩ := trodAll_cons hA
  obtain ⟨v1, vs1, d1, ds1, p1, q1, rfl, rfl, rfl, h1, r1⟩ := trodAll_cons r0
  obtain ⟨rfl, rfl, rfl⟩ := trodAll_nil r1
  obtain rfl : args = #[v0, v1] := by cases args; simp_all
  obtain ⟨rfl, rfl⟩ := trodVars_none hV
  have k0 := h0
  have lt0 : ∀ x ∈ p0, x.block < W.heap.size := by obtain ⟨m, hm⟩ := k0; exact DataW.trod_lt m _ _ _ hm
  have k1 := h1
  have lt1 : ∀ x ∈ p1, x.block < W.heap.size := by obtain ⟨m, hm⟩ := k1; exact DataW.trod_lt m _ _ _ hm
  obtain ⟨a0, w0⟩ := open_texts (hval 0 24 v0 rfl rfl) h0
  obtain ⟨a1, rfl, rfl, rfl, w1⟩ := open_string Tryz.underlying9 (hval 1 9 v1 rfl rfl) h1
  have z1 : a1.size ≤ 140737488351232 := by have hz := List.all_eq_true.1 hwt a1.data.toList.length (by simp only [Tryz.params7, List.cons_append, List.nil_append, DataW.weightsEach, DataW.weights]; simp); rw [← Lib.size_eq] at hz; exact of_decide_eq_true hz
  clear hA0 hval0
  refine (core v0 a0 a1 W w0 z1 (Lib.hid (of_laid hL))).mono fun e W' ⟨he, bel⟩ => ?_
  subst he
  exact ⟨_, rfl, _, _, _, [], _, [], hW', trodAll_mk1 (shut_bool Tryz.underlying4 _), (trodAll_cons_mk (Below.trod laidOut (by kernel_rfl) (of_decide_eq_true (by kernel_rfl)) k0 bel lt0) (trodAll_cons_mk (Below.trod laidOut (by kernel_rfl) (of_decide_eq_true (by kernel_rfl)) k1 bel lt1) trodAll_mk0)), rfl, bel.frame _, fun h => by cases h⟩
theorem over : Rows.vaultTornRow.holds Tryz.pinned (OpenSpec.ofChange Rows.vaultTornSpec) :=
  OpenClaim.holds_of_wide 7 Tryz.f7 rfl rfl rfl rfl rfl rfl rfl ⟨rfl, rfl, rfl, rfl, rfl⟩ rfl rfl rfl rfl rfl (by kernel_rfl) Tryz.func7 (by kernel_rfl)
    (of_decide_eq_true (by kernel_rfl)) (by unfold Func.isWrapper; first | (rw [if_pos (by decide +kernel)]; kernel_rfl) | (rw [if_neg (by decide +kernel)]; exact ⟨rfl, rfl⟩))
    (fun os started H enc _ => lifted os started H enc)
theorem proved : Rows.VaultTornCardSaid :=
  Claim7.holds_tied_plain_at .later [] [.data] true (true, "37c87dc470550fd111a986e1b62c126974cbdbcc6bcfa932071678cf252ffab1") false
    over (fun _ h => by cases h) (by kernel_rfl) (fun _ h => by cases h) vaultTorn_row_tie rfl ⟨rfl, rfl⟩ (by kernel_rfl) rfl
    (fun f fn hf hfn => by
      obtain rfl : f = 7 := Option.some.inj ((show Tryz.prog.funcNamed "baton/batonlaw10.VaultTorn" = some 7 by kernel_rfl).symm.trans hf) |>.symm
      obtain rfl : fn = Tryz.f7 := (Option.some.inj (Tryz.func7.symm.trans hfn)).symm
      exact ⟨by kernel_rfl, fun j t ht => by
        rw [Tryz.params7] at ht
        have hm : t ∈ [24, 9] := by simpa using Array.mem_of_getElem? ht
        have hall : ([24, 9].all fun u => !Tryz.prog.wantsStandIn u) = true := by kernel_rfl
        exact (show Tryz.prog.wantsStandIn t = false by simpa using List.all_eq_true.1 hall t hm)⟩)
    (by kernel_rfl)
end Go.Proofs.YtieemdcoomilaaaGreatDoor.vaultTorn
