/- DiskKept: for any capacity, any tapes, any acts, any numbers that are kept the law answers true. No condition. -/
import Derived.Test.YticponohbnkgdaaRows
import Derived.Test.YticponohbnkgdaaDt
import Derived.WalkKit
import Derived.ProofKit
import Derived.OpenShut
import Derived.ShutString
namespace Go.Proofs.Yticponohbnkgdaa.diskKept
open Go.ChangeShapes Go.WideShapes Go.ChangeAt Go.RowKit
set_option linter.unusedVariables false
set_option maxRecDepth 100000 in
set_option maxHeartbeats 4000000 in
theorem core (cap : Int) (v : Value) (ts : List Tq) (u : Value) (acs : List Ac) (x : Value) (ks : List Int) (wc : (Lit.int .i64 cap).wf = true) (w : World) (ht : Tps w v ts) (ha : Acs w u acs) (hk : KAt w x ks ∧ ks.length ≤ 9223372036854775807) :
    Calls Try.prog 5 #[.int .i64 cap, v, u, x] w fun e w' => e = .returned (.bool true) ∧ Below w.heap.size w w' := by
  have HLG := Lib.hid (ha.long ht)
  have HMD := Lib.hid (fun W (hW : Below w.heap.size w W) => have h := ht.below hW (Nat.le_refl _); made_any cap ts v acs u W h.at' wc h.len h.wide (ha.below hW (Nat.le_refl _)))
  obtain ⟨va, vc, hv2⟩ := At2.slice ht.at'
  rw [List.length_map] at hv2
  obtain ⟨ua, uc, hu2⟩ := ha.at'.slice
  obtain ⟨hk, hkl⟩ := hk
  obtain ⟨xa, xc, hx2⟩ := hk.slice
  have HKL := Lib.hid hkl
  have HK := Lib.hid (fun W (hW : Below w.heap.size w W) => hk.same (fun g hg _ => hW.block g hg))
  have HKN := Lib.hid hk.lt
  have hal := ha.len
  clear ha ht hk
  generalize acs.length = La at *
  generalize hLk : ks.length = Lk at hx2 hkl
  have HLk := Lib.hid hLk
  clear hLk
  generalize ts.length = Ll at *
  subst hv2 hu2 hx2
  go_enter Try.func5, Try.ntmps5
  go_wp2_with fail
  refine HLG.out.mono ?_
  rintro e w1 ⟨b, rfl, hb1⟩
  have HB1 := Lib.hid hb1
  clear hb1 HLG
  cases b
  case true =>
    go_wp2_with fail
    refine (awake_any _).mono ?_
    rintro e w2 ⟨rfl, hb⟩
    have HB2 := Lib.hid (below_trans' HB1.out hb)
    clear hb
    go_wp2
    go_ret
    exact ⟨rfl, HB2.out⟩
  by_cases h200 : 200 < La
  · go_wp2_with fail
    refine (awake_any _).mono ?_
    rintro e w2 ⟨rfl, hb⟩
    have HB2 := Lib.hid (below_trans' HB1.out hb)
    clear hb
    go_wp2
    go_ret
    exact ⟨rfl, HB2.out⟩
  by_cases h201 : 200 < Lk
  · go_wp2_with fail
    refine (awake_any _).mono ?_
    rintro e w2 ⟨rfl, hb⟩
    have HB2 := Lib.hid (below_trans' HB1.out hb)
    clear hb
    go_wp2
    go_ret
    exact ⟨rfl, HB2.out⟩
  go_wp2_with fail
  refine (awake_any _).mono ?_
  rintro e w2 ⟨rfl, hb⟩
  have HB2 := Lib.hid (below_trans' HB1.out hb)
  clear hb HB1
  go_wp2_with fail
  refine (HMD.out _ HB2.out).mono ?_
  rintro e w3 ⟨hb3, ⟨h0, rfl⟩ | ⟨h0, c, rfl, B, hB, rfl, hd, hok⟩⟩
  · have HB3 := Lib.hid (below_trans' HB2.out hb3)
    clear hb3 h0 HMD
    go_wp2
    go_ret
    exact ⟨rfl, HB3.out⟩
  · have HB3 := Lib.hid (below_trans' HB2.out hb3)
    have HBB := Lib.hid (Nat.le_trans HB2.out.size hB)
    have HD3 := Lib.hid (And.intro hd hok)
    clear hb3 hB hd hok h0 HMD HB2
    generalize actsD (made0 c ts) acs = D at *
    have HNE : Hid (ks ≠ [] → (Value.slice xa Lk xc).ownBlock ≠ some B) := Lib.hid (fun h e => by have := HKN.out h B e; have := HBB.out; omega)
    have HOKB := Lib.hid (backD_ok HD3.out.2 ks)
    have CT := Lib.hid (fun W h => tapes_any B D W h HD3.out.2.t)
    have CB := Lib.hid (fun W (h : DAt W B D) (hW : Below w.heap.size w W) => back_disk B D ks _ W h HD3.out.2.t (HK.out W hW) HNE.out HKL.out)
    have CU := Lib.hid (fun W h => up_any B (backD D ks) W h)
    have CT2 := Lib.hid (fun W h => tapes_any B (backD D ks) W h HOKB.out.t)
    have CC := Lib.hid (fun W h => copy_any B (backD D ks) W h)
    have CE := Lib.hid (fun A W hA hB => same_yes A B (backD D ks) W hB hA)
    have CE' := Lib.hid (fun A W hA hB => same_yes B A (backD D ks) W hB hA)
    have CS := Lib.hid (fun W h => sync_any B (backD D ks) 0 W h HOKB.out)
    have HT : Hid (∀ k < 32, _) := Lib.hid (fun k (hk : k < 32) => kept_told HD3.out.2 ks hk)
    have hup : (!(backD D ks).dn) = true := rfl
    rw [hup] at CU
    have hsy : (doD (backD D ks) 0 false sy).2 = 0 := by
      unfold doD
      rw [if_neg (by show ¬ (false = true); decide), if_neg (by intro h; exact absurd h.1 (by show ¬ (false = true); decide)), if_neg (by show ¬ ((res (backD D ks) 0 sy).2 ≠ 0); simp [res, sy])]
    rw [hsy] at CS
    have HOKS := Lib.hid (doD_ok HOKB.out 0 false (fine_sy HOKB.out))
    have CB2 := Lib.hid (fun W (h : DAt W B (doD (backD D ks) 0 false sy).1) (hW : Below w.heap.size w W) => back_disk B _ ks _ W h HOKS.out.t (HK.out W hW) HNE.out HKL.out)
    clear hup hsy
    generalize (doD (backD D ks) 0 false sy).1 = D6 at *
    generalize backD D ks = D5 at *
    go_wp2_with fail
    refine (CT.out _ HD3.out.1).mono ?_
    rintro e w4 ⟨rfl, hr⟩
    have HB4 := Lib.hid (HB3.out.trans (hr.below.mono HB3.out.size))
    have HD4 := Lib.hid (HD3.out.1.below hr.below HD3.out.1.lt)
    have HR4 := Lib.hid hr.told
    have HN4 : Hid (w3.heap.size ≠ B ∧ w.heap.size ≤ w3.heap.size) := Lib.hid ⟨by have := HD3.out.1.lt; omega, HB3.out.size⟩
    clear hr CT
    generalize w3.heap.size = G1 at *
    go_wp2_with fail
    refine (CB.out _ HD4.out HB4.out).mono ?_
    rintro e w5 ⟨rfl, hd, hg⟩
    have HB5 := Lib.hid (below_grown HB4.out hg HB4.out.size HBB.out)
    have HD5 := Lib.hid hd
    have HR5 := Lib.hid (HR4.out.grown hg HN4.out.1)
    clear hd hg CB HR4 HD4 HB4
    go_wp2_with fail
    refine (CU.out _ HD5.out).mono ?_
    rintro e w5' ⟨rfl, rfl⟩
    go_wp2_with fail
    refine (CT2.out _ HD5.out).mono ?_
    rintro e w6 ⟨rfl, hr⟩
    have HB6 := Lib.hid (HB5.out.trans (hr.below.mono HB5.out.size))
    have HD6 := Lib.hid (HD5.out.below hr.below HD5.out.lt)
    have HR6 := Lib.hid (HR5.out.below hr.below HR5.out.lt)
    have HQ6 := Lib.hid hr.told
    clear hr CT2 CU HR5 HD5 HB5
    generalize w5.heap.size = G2 at *
    go_wp2
    go_loopw [12] (fun i wl => ∃ k : Nat, i = .int .i64 (k : Int) ∧ k ≤ 32 ∧ Hid (DAt wl B D5) ∧ Hid (Told wl G1 D.T) ∧ Hid (Told wl G2 D5.T) ∧ Hid (Below w.heap.size w wl)) (fun i _ => 32 - (intOf i).toNat)
    case atStart => exact ⟨0, rfl, by omega, HD6, HR6, HQ6, HB6⟩
    case round =>
      clear HD6 HR6 HQ6 HB6
      obtain ⟨k, rfl, hk, HD, HR, HQ, HB⟩ := hrel
      obtain ⟨wl, hwl⟩ : ∃ wl, wl = wr := ⟨_, rfl⟩
      subst hwl
      by_cases hlt : k < 32
      · obtain ⟨t1, t2, t3, t4, t5, t6, t7⟩ := HT.out k hlt
        have r0 := HR.out.a k hlt
        have r1 := HR.out.b k hlt
        have s0 := HQ.out.a k hlt
        have s1 := HQ.out.b k hlt
        rw [t1] at s1
        clear t1
        generalize (qT (D.T k)).a = a1 at *
        generalize (qT (D.T k)).b = b1 at *
        generalize (qT (D5.T k)).a = a2 at *
        have hlt2 : (k : Int) < 32 := by omega
        have t3' : (a2.size : Int) ≤ ((a1 ++ b1).size : Int) := by omega
        have t2' : (a1.size : Int) ≤ (a2.size : Int) := by omega
        have n1 : (({ data := #[] } : ByteArray).toList != ({ data := #[] } : ByteArray).toList) = false := by simp
        have n2 : decide ((a2.size : Int) < (a1.size : Int)) = false := decide_eq_false (by omega)
        have n2' : decide (a2.size < a1.size) = false := decide_eq_false (by omega)
        have n3 : decide (((a1 ++ b1).size : Int) < (a2.size : Int)) = false := decide_eq_false (by omega)
        have n3' : decide ((a1 ++ b1).size < a2.size) = false := decide_eq_false (by omega)
        have n4 : (a2.toList != a2.toList) = false := by simp
        obtain ⟨AL, hAL⟩ : ∃ AL, a1 ++ b1 = AL := ⟨_, rfl⟩
        rw [hAL] at t3 t4 t5 t3' n3 n3'
        go_wp2_with fail
        go_big_quiet (fail)
        go_wp2_with fail
        go_big_quiet (fail)
        go_wp2
        go_roundw
        case rel => exact ⟨k + 1, by go_num, by omega, Lib.hid (HD.out.drewN _), Lib.hid (HR.out.congr rfl), Lib.hid (HQ.out.congr rfl), Lib.hid (below_drewN HB.out _)⟩
        case measure => simp [intOf]; omega
      · obtain rfl : k = 32 := by omega
        go_wp2_with fail
        refine (CC.out _ HD.out).mono ?_
        rintro e w7 ⟨rfl, hd, hb⟩
        have HB7 := Lib.hid (HB.out.trans (hb.mono HB.out.size))
        have HD7 := Lib.hid (HD.out.below hb HD.out.lt)
        have HD7' := Lib.hid hd
        clear hd hb
        go_wp2_with fail
        refine (CE'.out _ _ HD7'.out HD7.out).mono ?_
        rintro e w8 ⟨rfl, hb⟩
        have HB8 := Lib.hid (HB7.out.trans (hb.mono HB7.out.size))
        have HD8 := Lib.hid (HD7.out.below hb HD7.out.lt)
        clear hb
        go_wp2_with fail
        refine (CS.out _ HD8.out).mono ?_
        rintro e w9 ⟨rfl, hd, hg⟩
        have HB9 := Lib.hid (below_grown HB8.out hg HB8.out.size HBB.out)
        have HD9 := Lib.hid hd
        clear hd hg
        go_wp2_with fail
        refine (CB2.out _ HD9.out HB9.out).mono ?_
        rintro e w10 ⟨rfl, hd, hg⟩
        have HB10 := Lib.hid (below_grown HB9.out hg HB9.out.size HBB.out)
        clear hd hg
        go_wp2
        go_ret
        exact ⟨rfl, HB10.out⟩
theorem own : ownKnob Try.prog.godebug = none := by kernel_rfl
theorem laidOut : laidOutB Try.prog = true := by kernel_rfl
set_option maxRecDepth 100000 in
theorem lifted (os : Os) (started : os.Started) (H : Type) (enc : TypeId × Value → H) :
    ReturnsInHanded {} Try.checked os 5 .any (Rows.diskKeptSpec.pre6 enc Try.prog Try.f5 Rows.diskKeptRow.domain false) (Rows.diskKeptSpec.post enc Try.prog Try.f5 false true false false) := by
  refine returnsInHanded_of_change (C := Try.checked) own started (by kernel_rfl) Try.func5
    (ChangeSpec.witness6 (enc := enc) (C := Try.checked) false ⟨#[], #[.int .i64 0, .slice none 0 0, .slice none 0 0, .slice none 0 0], []⟩ 8 (by kernel_rfl) (by kernel_rfl) (by kernel_rfl) (by kernel_rfl)) ?_
  intro W base args ds gs before hval0 hW hcnd _
  have hval : ∀ (j : Nat) t v, Try.f5.params[j]? = some t → args[j]? = some v → Value.okWide Try.prog W .any base t v := hval0
  have hW' := hW
  obtain ⟨p, q, hA0, hV, rfl, hfz, hnd⟩ := hW
  have hA : DataW.TrodAll enc Try.prog W 0 (fun _ => true) true Try.f5.params.toList args.toList ds p := hA0
  rw [Try.params5] at hA hval
  obtain ⟨v0, vs0, d0, ds0, p0, q0, hargs, rfl, rfl, h0, r0⟩ := trodAll_cons hA
  obtain ⟨v1, vs1, d1, ds1, p1, q1, rfl, rfl, rfl, h1, r1⟩ := trodAll_cons r0
  obtain ⟨v2, vs2, d2, ds2, p2, q2, rfl, rfl, rfl, h2, r2⟩ := trodAll_cons r1
  obtain ⟨v3, vs3, d3, ds3, p3, q3, rfl, rfl, rfl, h3, r3⟩ := trodAll_cons r2
  obtain ⟨rfl, rfl, rfl⟩ := trodAll_nil r3
  obtain rfl : args = #[v0, v1, v2, v3] := by cases args; simp_all
  obtain ⟨rfl, rfl⟩ := trodVars_none hV
  have k0 := h0
  have lt0 : ∀ x ∈ p0, x.block < W.heap.size := by obtain ⟨m, hm⟩ := k0; exact DataW.trod_lt m _ _ _ hm
  have k1 := h1
  have lt1 : ∀ x ∈ p1, x.block < W.heap.size := by obtain ⟨m, hm⟩ := k1; exact DataW.trod_lt m _ _ _ hm
  have k2 := h2
  have lt2 : ∀ x ∈ p2, x.block < W.heap.size := by obtain ⟨m, hm⟩ := k2; exact DataW.trod_lt m _ _ _ hm
  have k3 := h3
  have lt3 : ∀ x ∈ p3, x.block < W.heap.size := by obtain ⟨m, hm⟩ := k3; exact DataW.trod_lt m _ _ _ hm
  obtain ⟨a0, rfl, rfl, rfl, w0⟩ := open_int Try.underlying3 (hval 0 3 v0 rfl rfl) h0
  obtain ⟨a1, w1⟩ := open_tapes (hval 1 28 v1 rfl rfl) h1
  obtain ⟨a2, w2⟩ := open_acts (hval 2 42 v2 rfl rfl) h2
  obtain ⟨a3, w3⟩ := open_nums (hval 3 49 v3 rfl rfl) h3
  clear hA0 hval0
  refine (core a0 v1 a1 v2 a2 v3 a3 w0 W w1 w2 w3).mono fun e W' ⟨he, bel⟩ => ?_
  subst he
  exact ⟨_, rfl, _, _, _, [], _, [], hW', trodAll_mk1 (shut_bool Try.underlying4 _), (trodAll_cons_mk (Below.trod laidOut (by kernel_rfl) (of_decide_eq_true (by kernel_rfl)) k0 bel lt0) (trodAll_cons_mk (Below.trod laidOut (by kernel_rfl) (of_decide_eq_true (by kernel_rfl)) k1 bel lt1) (trodAll_cons_mk (Below.trod laidOut (by kernel_rfl) (of_decide_eq_true (by kernel_rfl)) k2 bel lt2) (trodAll_cons_mk (Below.trod laidOut (by kernel_rfl) (of_decide_eq_true (by kernel_rfl)) k3 bel lt3) trodAll_mk0)))), rfl, bel.frame _, fun h => by cases h⟩
theorem over : Rows.diskKeptRow.holds Try.pinned (OpenSpec.ofChange Rows.diskKeptSpec) :=
  OpenClaim.holds_of_wide 5 Try.f5 rfl rfl rfl rfl rfl rfl rfl ⟨rfl, rfl, rfl, rfl, rfl⟩ rfl rfl rfl rfl rfl (by kernel_rfl) Try.func5 (by kernel_rfl)
    (of_decide_eq_true (by kernel_rfl)) (by unfold Func.isWrapper; first | (rw [if_pos (by decide +kernel)]; kernel_rfl) | (rw [if_neg (by decide +kernel)]; exact ⟨rfl, rfl⟩))
    (fun os started H enc _ => lifted os started H enc)
theorem proved : Rows.DiskKeptSaid := over
end Go.Proofs.Yticponohbnkgdaa.diskKept
