/- DiskFirm: for any capacity, any tapes, any acts ahead, any tape, any acts behind the law answers true. No condition. -/
import Derived.Test.YticponohbnkgdaaRows
import Derived.Test.YticponohbnkgdaaDs
import Derived.WalkKit
import Derived.ProofKit
import Derived.OpenShut
import Derived.ShutString
namespace Go.Proofs.Yticponohbnkgdaa.diskFirm
open Go.ChangeShapes Go.WideShapes Go.ChangeAt Go.RowKit
set_option linter.unusedVariables false
set_option maxRecDepth 100000 in
set_option maxHeartbeats 4000000 in
theorem core (cap : Int) (v : Value) (ts : List Tq) (u : Value) (acs : List Ac) (t : Int) (x : Value) (bcs : List Ac) (wc : (Lit.int .i64 cap).wf = true) (wt : (Lit.int .i64 t).wf = true) (w : World) (ht : Tps w v ts) (ha : Acs w u acs) (hb : Acs w x bcs) :
    Calls Try.prog 9 #[.int .i64 cap, v, u, .int .i64 t, x] w fun e w' => e = .returned (.bool true) ∧ Below w.heap.size w w' := by
  have HLG := Lib.hid (ha.long ht)
  have HLB := Lib.hid (fun W (h : Below w.heap.size w W) => (hb.below h (Nat.le_refl _)).long (v := .slice none 0 0) (ts := []) ⟨At2.nil W, Nat.zero_le _, fun q hq => by cases hq⟩)
  have HMD := Lib.hid (fun W (hW : Below w.heap.size w W) => have h := ht.below hW (Nat.le_refl _); made_any cap ts v acs u W h.at' wc h.len h.wide (ha.below hW (Nat.le_refl _)))
  obtain ⟨va, vc, hv2⟩ := At2.slice ht.at'
  rw [List.length_map] at hv2
  obtain ⟨ua, uc, hu2⟩ := ha.at'.slice
  obtain ⟨xa, xc, hx2⟩ := hb.at'.slice
  have hal := ha.len
  have hbl := hb.len
  have HA := Lib.hid hb
  clear ha ht hb
  generalize acs.length = La at *
  generalize hLb : bcs.length = Lb at *
  have HLb := Lib.hid hLb
  clear hLb
  generalize ts.length = Ll at *
  subst hv2 hu2 hx2
  go_enter Try.func9, Try.ntmps9
  go_wp2_with fail
  refine HLG.out.mono ?_
  rintro e w1 ⟨b, rfl, hb1⟩
  have HB1 := Lib.hid hb1
  clear hb1 HLG
  cases b
  case true =>
    go_wp2_with fail
    refine (awake_any _).mono ?_
    rintro e w2 ⟨rfl, hb⟩
    have HB2 := Lib.hid (below_trans' HB1.out hb)
    clear hb
    go_wp2
    go_ret
    exact ⟨rfl, HB2.out⟩
  go_wp2_with fail
  refine (HLB.out _ HB1.out).mono ?_
  rintro e w1b ⟨b, rfl, hb1⟩
  have HB1b := Lib.hid (below_trans' HB1.out hb1)
  clear hb1 HLB
  cases b
  case true =>
    go_wp2_with fail
    refine (awake_any _).mono ?_
    rintro e w2 ⟨rfl, hb⟩
    have HB2 := Lib.hid (below_trans' HB1b.out hb)
    clear hb
    go_wp2
    go_ret
    exact ⟨rfl, HB2.out⟩
  by_cases h200 : 200 < La
  · go_wp2_with fail
    refine (awake_any _).mono ?_
    rintro e w2 ⟨rfl, hb⟩
    have HB2 := Lib.hid (below_trans' HB1b.out hb)
    clear hb
    go_wp2
    go_ret
    exact ⟨rfl, HB2.out⟩
  by_cases h201 : 200 < Lb
  · go_wp2_with fail
    refine (awake_any _).mono ?_
    rintro e w2 ⟨rfl, hb⟩
    have HB2 := Lib.hid (below_trans' HB1b.out hb)
    clear hb
    go_wp2
    go_ret
    exact ⟨rfl, HB2.out⟩
  go_wp2_with fail
  refine (awake_any _).mono ?_
  rintro e w2 ⟨rfl, hb⟩
  have HB2 := Lib.hid (below_trans' HB1b.out hb)
  clear hb HB1 HB1b
  go_wp2_with fail
  refine (HMD.out _ HB2.out).mono ?_
  rintro e w3 ⟨hb3, ⟨h0, rfl⟩ | ⟨h0, c, rfl, B, hB, rfl, hd, hok⟩⟩
  · have HB3 := Lib.hid (below_trans' HB2.out hb3)
    clear hb3 h0 HMD
    go_wp2
    go_ret
    exact ⟨rfl, HB3.out⟩
  · have HB3 := Lib.hid (below_trans' HB2.out hb3)
    have HBB := Lib.hid (Nat.le_trans HB2.out.size hB)
    have HD3 := Lib.hid (And.intro hd hok)
    clear hb3 hB hd hok h0 HMD HB2
    generalize actsD (made0 c ts) acs = D at *
    have CS := Lib.hid (fun W h => sync_any B D t W h HD3.out.2)
    have HOK := Lib.hid (doD_ok HD3.out.2 t false (fine_sy HD3.out.2))
    have HE : Hid ((doD D t false sy).2 = 0 → D.dn = false ∧ 0 ≤ t ∧ t < 32 ∧ (doD D t false sy).1.dn = false ∧ ((doD D t false sy).1.T t.toNat).f = ((doD D t false sy).1.T t.toNat).s.size) := Lib.hid (fun h => by
      unfold doD at *
      by_cases h1 : D.dn = true
      · rw [if_pos h1] at h; cases h
      rw [if_neg h1] at h ⊢
      by_cases h2 : D.dm = true ∧ D.left = 0
      · rw [if_pos h2] at h; cases h
      rw [if_neg h2] at h ⊢
      by_cases h3 : (res D t sy).2 ≠ 0
      · rw [if_pos h3] at h; exact absurd h h3
      rw [if_neg h3]
      have h4 : 0 ≤ t ∧ t < 32 := by
        unfold res at h3
        by_cases hh : 0 ≤ t ∧ t < 32
        · exact hh
        · rw [if_neg hh] at h3; exact absurd (by decide) h3
      have h5 : res D t sy = sy (D.T t.toNat) := if_pos h4
      exact ⟨by simpa using h1, h4.1, h4.2, by simpa using h1, by show (upd D.T t.toNat (res D t sy).1 t.toNat).f = (upd D.T t.toNat (res D t sy).1 t.toNat).s.size; rw [upd_same, h5]; rfl⟩)
    generalize doD D t false sy = X at *
    obtain ⟨D4, E⟩ := X
    dsimp only at *
    by_cases hE : E = 0
    · obtain ⟨-, ht0, ht1, hdn, hfs⟩ := HE.out hE
      obtain ⟨T, rfl⟩ := Int.eq_ofNat_of_zero_le ht0
      rw [Int.toNat_natCast] at hfs
      have hT : T < 32 := by omega
      subst hE
      have CR := Lib.hid (fun W h => read_any B D4 T W h)
      have hrd : readD D4 (T : Int) = ((D4.T T).s, 0) := by unfold readD; rw [hdn, if_neg (by decide), if_pos ⟨ht0, ht1⟩, Int.toNat_natCast]
      rw [hrd] at CR
      have HF4 : Hid (FirmAt (D4.T T) (D4.T T).s) := Lib.hid ⟨by rw [hfs]; exact Nat.le_refl _, ByteArray.extract_zero_size⟩
      have hps : (D4.T T).s.size ≤ 1048576 := (HOK.out.t T hT).2
      clear hrd hfs hdn HE
      generalize (D4.T T).s = P at *
      go_wp2_with fail
      refine (CS.out _ HD3.out.1).mono ?_
      rintro e w4 ⟨rfl, hd, hg⟩
      have HB4 := Lib.hid (below_grown HB3.out hg HB3.out.size HBB.out)
      have HD4 := Lib.hid hd
      clear hd hg CS HD3 HB3
      go_wp2_with fail
      refine (CR.out _ HD4.out).mono ?_
      rintro e w5 ⟨rfl, rfl⟩
      go_wp2
      go_loopw [14] (fun i wl => ∃ (k : Nat) (D5 : Dk), i = .int .i64 (k : Int) ∧ k ≤ Lb ∧ Hid (DAt wl B D5 ∧ D5.ok) ∧ Hid (FirmAt (D5.T T) P) ∧ Hid (Below w.heap.size w wl)) (fun i _ => Lb - (intOf i).toNat)
      case atStart => exact ⟨0, D4, rfl, by omega, Lib.hid ⟨HD4.out, HOK.out⟩, HF4, HB4⟩
      case round =>
        clear CR HB4 HD4 HOK HF4
        obtain ⟨k, D5, rfl, hk, HD, HF, HB⟩ := hrel
        obtain ⟨wl, hwl⟩ : ∃ wl, wl = wr := ⟨_, rfl⟩
        subst hwl
        by_cases hlt : k < Lb
        · have hkl : k < bcs.length := by have := HLb.out; omega
          have hacs := HA.out.below HB.out (Nat.le_refl _)
          rcases HA.out.at' with ⟨h0, _⟩ | ⟨g, o, e, hg, hcs⟩
          · have := congrArg List.length h0; rw [List.length_nil] at this; omega
          obtain ⟨q0, q1, q2, q3, q4⟩ := hcs k hkl
          have hgl : g < w.heap.size := World.block_lt_of_cell? w ⟨g, _, none⟩ q0
          replace q0 := (HB.out.cell (p := ⟨g, _, none⟩) hgl).trans q0
          replace q1 := (HB.out.cell (p := ⟨g, _, none⟩) hgl).trans q1
          replace q2 := (HB.out.cell (p := ⟨g, _, none⟩) hgl).trans q2
          replace q3 := (HB.out.cell (p := ⟨g, _, none⟩) hgl).trans q3
          replace q4 := (HB.out.cell (p := ⟨g, _, none⟩) hgl).trans q4
          rw [HLb.out] at hg
          cases hg
          have hfit := hacs.fit _ (List.getElem_mem hkl)
          have hnb := (HA.out.fit _ (List.getElem_mem hkl)).at'.lt
          have hacs2 : (bcs[k]).ks ≠ [] → (bcs[k]).v.ownBlock ≠ some B := fun h0 e => by have := hnb h0 B e; have := HBB.out; omega
          have HC := Lib.hid (act_any B D5 bcs[k] wl HD.out.1 HD.out.2 hfit hacs2)
          have HOK := Lib.hid (actD_ok HD.out.2 bcs[k] hfit.n)
          have HFA : Hid (¬ (bcs[k].t = (T : Int) ∧ (bcs[k].what = 2 ∨ bcs[k].what = 3)) → FirmAt ((actD D5 bcs[k]).2.T T) P) := Lib.hid (fun h => firm_act HD.out.2 bcs[k] T hT P HF.out h)
          clear hcs hfit hnb hacs2 hacs
          have HTP := Lib.hid (fun W (hW : DAt W B (actD D5 bcs[k]).2) => tapes_any B _ W hW HOK.out.t)
          generalize actD D5 bcs[k] = X at *
          unfold acV at HC
          generalize bcs[k] = a at *
          obtain ⟨what, at0, nn, s, ks, kv⟩ := a
          obtain ⟨⟨XS, E⟩, D6⟩ := X
          dsimp only at *
          by_cases hskip : at0 = (T : Int) ∧ (what = 2 ∨ what = 3)
          · obtain ⟨rfl, hw⟩ := hskip
            rcases hw with rfl | rfl
            · go_wp2
              go_roundw
              case rel => exact ⟨k + 1, D5, by go_num, by omega, HD, HF, HB⟩
              case measure => simp [intOf]; omega
            · go_wp2
              go_roundw
              case rel => exact ⟨k + 1, D5, by go_num, by omega, HD, HF, HB⟩
              case measure => simp [intOf]; omega
          · have HF6 := Lib.hid (HFA.out hskip)
            obtain ⟨hs1, hs2⟩ := firm_told HF6.out (HOK.out.t T hT)
            have hs3 : (qT (D6.T T)).a.size ≤ 1048576 := by
              have h1 := HOK.out.t T hT
              show ((D6.T T).s.extract 0 (D6.T T).f).size ≤ _
              rw [ByteArray.size_extract]
              have := h1.1; have := h1.2; omega
            have hQ : ∃ Q, (qT (D6.T T)).a = Q := ⟨_, rfl⟩
            obtain ⟨Q, hQ⟩ := hQ
            rw [hQ] at hs1 hs2 hs3
            have HQ := Lib.hid hQ
            have hs4 : (P.size : Int) ≤ (Q.size : Int) := by omega
            have hs5 : (P.toList != P.toList) = false := by simp
            clear hQ HFA
            have HSK : Hid (¬ (at0 = (T : Int) ∧ (what = 2 ∨ what = 3))) := Lib.hid hskip
            by_cases hat : at0 = (T : Int)
            · have hw2 : ((what : Int) == 2) = false := by rw [beq_eq_false_iff_ne]; intro h; exact hskip ⟨hat, .inl (by omega)⟩
              have hw3 : ((what : Int) == 3) = false := by rw [beq_eq_false_iff_ne]; intro h; exact hskip ⟨hat, .inr (by omega)⟩
              clear hskip
              subst hat
              go_wp2_with fail
              refine HC.out.mono ?_
              rintro e w6 ⟨rfl, hd, hg⟩
              have HB6 := Lib.hid (below_grown HB.out hg HB.out.size HBB.out)
              have HD6 := Lib.hid hd
              clear hd hg
              go_wp2_with fail
              refine (HTP.out _ HD6.out).mono ?_
              rintro e w7 ⟨rfl, hr⟩
              have HB7 := Lib.hid (HB6.out.trans (hr.below.mono HB6.out.size))
              have HD7 := Lib.hid (HD6.out.below hr.below HD6.out.lt)
              have r0 := hr.a T hT
              rw [HQ.out] at r0
              clear hr
              go_wp2
              go_roundw
              case rel => exact ⟨k + 1, D6, by go_num, by omega, Lib.hid ⟨HD7.out, HOK.out⟩, HF6, HB7⟩
              case measure => simp [intOf]; omega
            · have hatd : (at0 == (T : Int)) = false := by rw [beq_eq_false_iff_ne]; exact hat
              clear hskip
              go_wp2_with fail
              refine HC.out.mono ?_
              rintro e w6 ⟨rfl, hd, hg⟩
              have HB6 := Lib.hid (below_grown HB.out hg HB.out.size HBB.out)
              have HD6 := Lib.hid hd
              clear hd hg
              go_wp2_with fail
              refine (HTP.out _ HD6.out).mono ?_
              rintro e w7 ⟨rfl, hr⟩
              have HB7 := Lib.hid (HB6.out.trans (hr.below.mono HB6.out.size))
              have HD7 := Lib.hid (HD6.out.below hr.below HD6.out.lt)
              have r0 := hr.a T hT
              rw [HQ.out] at r0
              clear hr
              go_wp2
              go_roundw
              case rel => exact ⟨k + 1, D6, by go_num, by omega, Lib.hid ⟨HD7.out, HOK.out⟩, HF6, HB7⟩
              case measure => simp [intOf]; omega
        · obtain rfl : k = Lb := by omega
          go_wp2
          go_ret
          exact ⟨rfl, HB.out⟩
    · have hE2 : ((E : Int) != 0) = true := by rw [bne_iff_ne]; omega
      go_wp2_with fail
      refine (CS.out _ HD3.out.1).mono ?_
      rintro e w4 ⟨rfl, hd, hg⟩
      have HB4 := Lib.hid (below_grown HB3.out hg HB3.out.size HBB.out)
      clear hd hg
      go_wp2
      go_ret
      exact ⟨rfl, HB4.out⟩
theorem own : ownKnob Try.prog.godebug = none := by kernel_rfl
theorem laidOut : laidOutB Try.prog = true := by kernel_rfl
set_option maxRecDepth 100000 in
theorem lifted (os : Os) (started : os.Started) (H : Type) (enc : TypeId × Value → H) :
    ReturnsInHanded {} Try.checked os 9 .any (Rows.diskFirmSpec.pre6 enc Try.prog Try.f9 Rows.diskFirmRow.domain false) (Rows.diskFirmSpec.post enc Try.prog Try.f9 false true false false) := by
  refine returnsInHanded_of_change (C := Try.checked) own started (by kernel_rfl) Try.func9
    (ChangeSpec.witness6 (enc := enc) (C := Try.checked) false ⟨#[], #[.int .i64 0, .slice none 0 0, .slice none 0 0, .int .i64 0, .slice none 0 0], []⟩ 8 (by kernel_rfl) (by kernel_rfl) (by kernel_rfl) (by kernel_rfl)) ?_
  intro W base args ds gs before hval0 hW hcnd _
  have hval : ∀ (j : Nat) t v, Try.f9.params[j]? = some t → args[j]? = some v → Value.okWide Try.prog W .any base t v := hval0
  have hW' := hW
  obtain ⟨p, q, hA0, hV, rfl, hfz, hnd⟩ := hW
  have hA : DataW.TrodAll enc Try.prog W 0 (fun _ => true) true Try.f9.params.toList args.toList ds p := hA0
  rw [Try.params9] at hA hval
  obtain ⟨v0, vs0, d0, ds0, p0, q0, hargs, rfl, rfl, h0, r0⟩ := trodAll_cons hA
  obtain ⟨v1, vs1, d1, ds1, p1, q1, rfl, rfl, rfl, h1, r1⟩ := trodAll_cons r0
  obtain ⟨v2, vs2, d2, ds2, p2, q2, rfl, rfl, rfl, h2, r2⟩ := trodAll_cons r1
  obtain ⟨v3, vs3, d3, ds3, p3, q3, rfl, rfl, rfl, h3, r3⟩ := trodAll_cons r2
  obtain ⟨v4, vs4, d4, ds4, p4, q4, rfl, rfl, rfl, h4, r4⟩ := trodAll_cons r3
  obtain ⟨rfl, rfl, rfl⟩ := trodAll_nil r4
  obtain rfl : args = #[v0, v1, v2, v3, v4] := by cases args; simp_all
  obtain ⟨rfl, rfl⟩ := trodVars_none hV
  have k0 := h0
  have lt0 : ∀ x ∈ p0, x.block < W.heap.size := by obtain ⟨m, hm⟩ := k0; exact DataW.trod_lt m _ _ _ hm
  have k1 := h1
  have lt1 : ∀ x ∈ p1, x.block < W.heap.size := by obtain ⟨m, hm⟩ := k1; exact DataW.trod_lt m _ _ _ hm
  have k2 := h2
  have lt2 : ∀ x ∈ p2, x.block < W.heap.size := by obtain ⟨m, hm⟩ := k2; exact DataW.trod_lt m _ _ _ hm
  have k3 := h3
  have lt3 : ∀ x ∈ p3, x.block < W.heap.size := by obtain ⟨m, hm⟩ := k3; exact DataW.trod_lt m _ _ _ hm
  have k4 := h4
  have lt4 : ∀ x ∈ p4, x.block < W.heap.size := by obtain ⟨m, hm⟩ := k4; exact DataW.trod_lt m _ _ _ hm
  obtain ⟨a0, rfl, rfl, rfl, w0⟩ := open_int Try.underlying3 (hval 0 3 v0 rfl rfl) h0
  obtain ⟨a1, w1⟩ := open_tapes (hval 1 28 v1 rfl rfl) h1
  obtain ⟨a2, w2⟩ := open_acts (hval 2 42 v2 rfl rfl) h2
  obtain ⟨a3, rfl, rfl, rfl, w3⟩ := open_int Try.underlying3 (hval 3 3 v3 rfl rfl) h3
  obtain ⟨a4, w4⟩ := open_acts (hval 4 42 v4 rfl rfl) h4
  clear hA0 hval0
  refine (core a0 v1 a1 v2 a2 a3 v4 a4 w0 w3 W w1 w2 w4).mono fun e W' ⟨he, bel⟩ => ?_
  subst he
  exact ⟨_, rfl, _, _, _, [], _, [], hW', trodAll_mk1 (shut_bool Try.underlying4 _), (trodAll_cons_mk (Below.trod laidOut (by kernel_rfl) (of_decide_eq_true (by kernel_rfl)) k0 bel lt0) (trodAll_cons_mk (Below.trod laidOut (by kernel_rfl) (of_decide_eq_true (by kernel_rfl)) k1 bel lt1) (trodAll_cons_mk (Below.trod laidOut (by kernel_rfl) (of_decide_eq_true (by kernel_rfl)) k2 bel lt2) (trodAll_cons_mk (Below.trod laidOut (by kernel_rfl) (of_decide_eq_true (by kernel_rfl)) k3 bel lt3) (trodAll_cons_mk (Below.trod laidOut (by kernel_rfl) (of_decide_eq_true (by kernel_rfl)) k4 bel lt4) trodAll_mk0))))), rfl, bel.frame _, fun h => by cases h⟩
theorem over : Rows.diskFirmRow.holds Try.pinned (OpenSpec.ofChange Rows.diskFirmSpec) :=
  OpenClaim.holds_of_wide 9 Try.f9 rfl rfl rfl rfl rfl rfl rfl ⟨rfl, rfl, rfl, rfl, rfl⟩ rfl rfl rfl rfl rfl (by kernel_rfl) Try.func9 (by kernel_rfl)
    (of_decide_eq_true (by kernel_rfl)) (by unfold Func.isWrapper; first | (rw [if_pos (by decide +kernel)]; kernel_rfl) | (rw [if_neg (by decide +kernel)]; exact ⟨rfl, rfl⟩))
    (fun os started H enc _ => lifted os started H enc)
theorem proved : Rows.DiskFirmSaid := over
end Go.Proofs.Yticponohbnkgdaa.diskFirm
