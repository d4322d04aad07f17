/- RequestOthers: for any series and any other field the law answers true. No condition. -/
import Derived.Test.YtakdplfffkadpaaRows
import Derived.Test.YtakdplfffkadpaaOp
import Derived.Test.YtakdplfffkadpaaLh
import Derived.Test.YtakdplfffkadpaaOm
import Derived.WalkKit
import Derived.ProofKit
import Derived.OpenShut
import Derived.ShutString
namespace Go.Proofs.Ytakdplfffkadpaa.requestOthers
open Go.ChangeShapes Go.WideShapes Go.ChangeAt Go.RowKit
open Go.ChangeMaps (open_string shut_string)
set_option linter.unusedVariables false
theorem mxR_len : ∀ l : List Sr, 260 * l.length ≤ mxR l
  | [] => Nat.le_refl _
  | x :: r => by
    have := mxR_len r
    have e : mxR (x :: r) = 260 + mx x + mxR r := by simp [mxR]
    rw [List.length_cons]; omega
theorem num_of (m : Int) : ∃ M : Nat, wrap64 (3 + wrap64 ((IntKind.u64.wrap m).tmod 536870908)) = (M : Int) ∧ 3 ≤ M ∧ M ≤ 536870911 := by
  have h0 := wrap_u64_nonneg m
  have h1 : 0 ≤ (IntKind.u64.wrap m).tmod 536870908 := Int.tmod_nonneg _ h0
  have h2 : (IntKind.u64.wrap m).tmod 536870908 < 536870908 := Int.tmod_lt_of_pos _ (by omega)
  generalize (IntKind.u64.wrap m).tmod 536870908 = q at *
  refine ⟨(3 + q).toNat, ?_, by omega, by omega⟩
  rw [IntWalk.wrap64_in q (by omega), IntWalk.wrap64_in (3 + q) (by omega)]
  omega
set_option maxRecDepth 100000 in
set_option maxHeartbeats 1000000 in
theorem core (v : Value) (zs : List Zr) (m wi n : Int) (s : ByteArray) (wm : (Lit.int .i64 m).wf = true) (ww : (Lit.int .u8 wi).wf = true) (wn : (Lit.int .u64 n).wf = true) (ws : s.size ≤ maxLen) (w : World) (h : ArgZ w v zs) :
    Calls Try.prog 7 #[v, .int .i64 m, .int .u8 wi, .int .u64 n, .string s] w fun e w' => e = .returned (.bool true) ∧ Below w.heap.size w w' := by
  clear wm
  have hs63 : (s.size : Int) ≤ 9223372036854775807 := by unfold maxLen at ws; omega
  have HLG := Lib.hid (fun W (hW : SAt W v zs) => large_any zs h.len h.wide v W hW)
  have HV := Lib.hid h.at'
  have hok : ∀ x ∈ zs.map Zr.x, ∀ y ∈ x.ss, y.ok := fun x hx => by obtain ⟨z, hz, rfl⟩ := List.mem_map.1 hx; exact (h.wide z hz).o
  obtain ⟨va, vc, hv⟩ := h.at'.slice
  clear h
  by_cases hb : 4000 ≤ lg (zs.map Zr.x) 0
  · have hd : decide (4000 ≤ lg (zs.map Zr.x) 0) = true := decide_eq_true hb
    rw [hd] at HLG
    generalize zs.length = L at hv
    subst hv
    clear hb hd hok ww wn
    go_enter Try.func7, Try.ntmps7
    go_wp2_with fail
    refine (HLG.out _ HV.out).mono ?_
    rintro e w1 ⟨rfl, hb1⟩
    have HB1 := Lib.hid hb1
    clear hb1
    go_wp2_with fail
    refine (awake_any _).mono ?_
    rintro e w2 ⟨rfl, hb2⟩
    have HB2 := Lib.hid (below_trans' HB1.out hb2)
    clear hb2
    go_wp2
    go_ret
    exact ⟨rfl, HB2.out⟩
  · have hd : decide (4000 ≤ lg (zs.map Zr.x) 0) = false := decide_eq_false hb
    rw [hd] at HLG
    clear hd
    by_cases hbig : 60 < s.size
    · generalize zs.length = L at hv
      subst hv
      clear hb hok ww wn
      have hbi : (60 : Int) < (s.size : Int) := by omega
      go_enter Try.func7, Try.ntmps7
      go_wp2_with fail
      refine (HLG.out _ HV.out).mono ?_
      rintro e w1 ⟨rfl, hb1⟩
      have HB1 := Lib.hid hb1
      clear hb1
      go_wp2_with fail
      refine (awake_any _).mono ?_
      rintro e w2 ⟨rfl, hb2⟩
      have HB2 := Lib.hid (below_trans' HB1.out hb2)
      clear hb2
      go_wp2
      go_ret
      exact ⟨rfl, HB2.out⟩
    · have hlen := lg_len (zs.map Zr.x) 0 hok (by omega)
      have hsz := Siz.of hok (by omega)
      obtain ⟨b1, b2⟩ := lg_mx (zs.map Zr.x) 0 (by omega)
      have hnl : zs.length ≤ 1000 := by have := mxR_len (zs.map Zr.x); rw [List.length_map] at this; omega
      have hsx : ∀ x ∈ zs.map Zr.x, Sx x := fun x hx => ⟨(b1 x hx).1, hok x hx, (b1 x hx).2⟩
      have hsz1 : ∀ z ∈ zs, Sx z.x := fun z hz => hsx z.x (List.mem_map_of_mem hz)
      have hmr : mxR (zs.map Zr.x) ≤ 160000 := by omega
      obtain ⟨M, hM, hM1, hM2⟩ := num_of m
      have hwi : 0 ≤ wi ∧ wi ≤ 255 := by simpa [Lit.wf, IntKind.bits, IntKind.signed, IntKind.min, IntKind.max] using ww
      obtain ⟨N, rfl, hN⟩ : ∃ N : Nat, n = (N : Int) ∧ N < 18446744073709551616 := by
        have h3 : 0 ≤ n ∧ n ≤ 18446744073709551615 := by simpa [Lit.wf, IntKind.bits, IntKind.signed, IntKind.min, IntKind.max] using wn
        exact ⟨n.toNat, by omega, by omega⟩
      obtain ⟨r, hr, hr4⟩ : ∃ r : Nat, wi.tmod 4 = (r : Int) ∧ r < 4 := by
        have h1 := Int.tmod_nonneg 4 hwi.1
        have h2 := Int.tmod_lt_of_pos wi (show (0 : Int) < 4 by omega)
        exact ⟨(wi.tmod 4).toNat, by omega, by omega⟩
      obtain ⟨k, hk, hkc⟩ : ∃ k : Nat, (k = 0 ∨ k = 1 ∨ k = 2 ∨ k = 5) ∧ ∀ W : World, (W.alloc (.cells #[.int .u8 0, .int .u8 1, .int .u8 2, .int .u8 5] 5)).cell? ⟨W.heap.size, r, none⟩ = some (.int .u8 (k : Int)) := by
        have e : ∀ (W : World) (k : Nat), #[Value.int .u8 0, .int .u8 1, .int .u8 2, .int .u8 5][r]? = some (.int .u8 (k : Int)) → (W.alloc (.cells #[.int .u8 0, .int .u8 1, .int .u8 2, .int .u8 5] 5)).cell? ⟨W.heap.size, r, none⟩ = some (.int .u8 (k : Int)) := fun W k h => by rw [World.cell?_alloc_mark]; exact h
        obtain rfl | rfl | rfl | rfl : r = 0 ∨ r = 1 ∨ r = 2 ∨ r = 3 := by omega
        · exact ⟨0, .inl rfl, fun W => e W 0 rfl⟩
        · exact ⟨1, .inr (.inl rfl), fun W => e W 1 rfl⟩
        · exact ⟨2, .inr (.inr (.inl rfl)), fun W => e W 2 rfl⟩
        · exact ⟨5, .inr (.inr (.inr rfl)), fun W => e W 5 rfl⟩
      have hot : Ot ⟨(M : Int), k, N, s⟩ := ⟨⟨Ff.may_iff.2 ⟨by show 1 ≤ (M : Int) ∧ (M : Int) ≤ _; omega, hk⟩, ⟨by show _ ≤ (M : Int); omega, by show (M : Int) ≤ _; omega, by show k < 256; omega, hN, by show s.size ≤ _; omega⟩, by show s.size ≤ _; omega⟩, by show 3 ≤ (M : Int); omega, by show s.size ≤ 60; omega⟩
      have HMX := Lib.hid (fun W hW => mixed_any zs ⟨(M : Int), k, N, s⟩ hot hsz1 hmr hnl v W hW)
      have hml := (oM_fw hot hsx hmr).2.2
      have HT := Lib.hid (fun W hW => told1_any (bs (tby (oM ⟨(M : Int), k, N, s⟩ (zs.map Zr.x)))) (by rw [bs_size]; omega) zs (fin_of hsz (by omega)) (by rw [bs_data]; exact dec_of (o_m hot hsx)) v W hW)
      unfold fv at HMX
      dsimp only at HMX
      generalize bs (tby (oM ⟨(M : Int), k, N, s⟩ (zs.map Zr.x))) = X at *
      generalize zs.length = L at hv
      subst hv
      have hsi : (s.size : Int) ≤ 60 := by omega
      have hr4i : (r : Int) < 4 := by omega
      clear hb hok hlen hsz b1 b2 hnl hsx hsz1 hmr hbig hot hml hk hN ww wn
      go_enter Try.func7, Try.ntmps7
      go_wp2_with fail
      refine (HLG.out _ HV.out).mono ?_
      rintro e w1 ⟨rfl, hb1⟩
      have HB1 := Lib.hid hb1
      have HV1 := Lib.hid (HV.out.below hb1 (Nat.le_refl _))
      clear hb1
      go_wp2_with fail
      refine (awake_any _).mono ?_
      rintro e w2 ⟨rfl, hb2⟩
      have HB2 := Lib.hid (below_trans' HB1.out hb2)
      have HV2 := Lib.hid (HV1.out.below hb2 (Nat.le_refl _))
      clear hb2
      have hkc2 := hkc w2
      go_wp2_with fail
      have hbb := ((Below.refl w2.heap.size w2).alloc (Nat.le_refl _) (.cells #[.int .u8 0, .int .u8 1, .int .u8 2, .int .u8 5] 5)).alloc (by simp) (.cells #[.int .i64 (M : Int), .int .u8 (k : Int), .int .u64 (N : Int), .string s] 52)
      have HVB := Lib.hid (HV2.out.below hbb (Nat.le_refl _))
      have HBB := Lib.hid (HB2.out.trans (hbb.mono HB2.out.size))
      clear hbb
      refine (HMX.out _ HVB.out).mono ?_
      rintro e w3 ⟨rfl, hb3⟩
      have HB3 := Lib.hid (below_trans' HBB.out hb3)
      have HV3 := Lib.hid (HVB.out.below hb3 (Nat.le_refl _))
      clear hb3
      go_wp2_with fail
      refine (HT.out _ HV3.out).mono ?_
      rintro e w4 ⟨rfl, hb4⟩
      have HB4 := Lib.hid (below_trans' HB3.out hb4)
      clear hb4
      go_wp2
      go_ret
      exact ⟨rfl, HB4.out⟩
theorem own : ownKnob Try.prog.godebug = none := by kernel_rfl
theorem laidOut : laidOutB Try.prog = true := by kernel_rfl
set_option maxRecDepth 100000 in
theorem lifted (os : Os) (started : os.Started) (H : Type) (enc : TypeId × Value → H) :
    ReturnsInHanded {} Try.checked os 7 .any (Rows.requestOthersSpec.pre6 enc Try.prog Try.f7 Rows.requestOthersRow.domain false) (Rows.requestOthersSpec.post enc Try.prog Try.f7 false true false false) := by
  refine returnsInHanded_of_change_sized (C := Try.checked) own started (by kernel_rfl) Try.func7
    (ChangeSpec.witness6 (enc := enc) (C := Try.checked) false ⟨#[], #[.slice none 0 0, .int .i64 0, .int .u8 0, .int .u64 0, .string ByteArray.empty], []⟩ 8 (by kernel_rfl) (by kernel_rfl) (by kernel_rfl) (by kernel_rfl)) ?_
  intro W base args ds gs before hval0 hW hcnd hwt _
  have hval : ∀ (j : Nat) t v, Try.f7.params[j]? = some t → args[j]? = some v → Value.okWide Try.prog W .any base t v := hval0
  have hW' := hW
  obtain ⟨p, q, hA0, hV, rfl, hfz, hnd⟩ := hW
  have hA : DataW.TrodAll enc Try.prog W 0 (fun _ => true) true Try.f7.params.toList args.toList ds p := hA0
  rw [Try.params7] at hA hval
  obtain ⟨v0, vs0, d0, ds0, p0, q0, hargs, rfl, rfl, h0, r0⟩ := trodAll_cons hA
  obtain ⟨v1, vs1, d1, ds1, p1, q1, rfl, rfl, rfl, h1, r1⟩ := trodAll_cons r0
  obtain ⟨v2, vs2, d2, ds2, p2, q2, rfl, rfl, rfl, h2, r2⟩ := trodAll_cons r1
  obtain ⟨v3, vs3, d3, ds3, p3, q3, rfl, rfl, rfl, h3, r3⟩ := trodAll_cons r2
  obtain ⟨v4, vs4, d4, ds4, p4, q4, rfl, rfl, rfl, h4, r4⟩ := trodAll_cons r3
  obtain ⟨rfl, rfl, rfl⟩ := trodAll_nil r4
  obtain rfl : args = #[v0, v1, v2, v3, v4] := by cases args; simp_all
  obtain ⟨rfl, rfl⟩ := trodVars_none hV
  have hwts := all_weights hwt
  have k0 := h0
  have lt0 : ∀ x ∈ p0, x.block < W.heap.size := by obtain ⟨m, hm⟩ := k0; exact DataW.trod_lt m _ _ _ hm
  have k1 := h1
  have lt1 : ∀ x ∈ p1, x.block < W.heap.size := by obtain ⟨m, hm⟩ := k1; exact DataW.trod_lt m _ _ _ hm
  have k2 := h2
  have lt2 : ∀ x ∈ p2, x.block < W.heap.size := by obtain ⟨m, hm⟩ := k2; exact DataW.trod_lt m _ _ _ hm
  have k3 := h3
  have lt3 : ∀ x ∈ p3, x.block < W.heap.size := by obtain ⟨m, hm⟩ := k3; exact DataW.trod_lt m _ _ _ hm
  have k4 := h4
  have lt4 : ∀ x ∈ p4, x.block < W.heap.size := by obtain ⟨m, hm⟩ := k4; exact DataW.trod_lt m _ _ _ hm
  obtain ⟨a0, w0⟩ := open_series (hval 0 23 v0 rfl rfl) h0 (fun k hk => hwts k (by simp only [Try.params7, List.cons_append, List.nil_append, DataW.weightsEach]; exact List.mem_append_left _ hk))
  obtain ⟨a1, rfl, rfl, rfl, w1⟩ := open_int Try.underlying3 (hval 1 3 v1 rfl rfl) h1
  obtain ⟨a2, rfl, rfl, rfl, w2⟩ := open_int Try.underlying5 (hval 2 5 v2 rfl rfl) h2
  obtain ⟨a3, rfl, rfl, rfl, w3⟩ := open_int Try.underlying35 (hval 3 35 v3 rfl rfl) h3
  obtain ⟨a4, rfl, rfl, rfl, w4⟩ := open_string Try.underlying9 (hval 4 9 v4 rfl rfl) h4
  clear hA0 hval0
  refine (core v0 a0 a1 a2 a3 a4 w1 w2 w3 w4 W w0).mono fun e W' ⟨he, bel⟩ => ?_
  subst he
  exact ⟨_, rfl, _, _, _, [], _, [], hW', trodAll_mk1 (shut_bool Try.underlying4 _), (trodAll_cons_mk (Below.trod laidOut (by kernel_rfl) (of_decide_eq_true (by kernel_rfl)) k0 bel lt0) (trodAll_cons_mk (Below.trod laidOut (by kernel_rfl) (of_decide_eq_true (by kernel_rfl)) k1 bel lt1) (trodAll_cons_mk (Below.trod laidOut (by kernel_rfl) (of_decide_eq_true (by kernel_rfl)) k2 bel lt2) (trodAll_cons_mk (Below.trod laidOut (by kernel_rfl) (of_decide_eq_true (by kernel_rfl)) k3 bel lt3) (trodAll_cons_mk (Below.trod laidOut (by kernel_rfl) (of_decide_eq_true (by kernel_rfl)) k4 bel lt4) trodAll_mk0))))), rfl, bel.frame _, fun h => by cases h⟩
theorem over : Rows.requestOthersRow.holds Try.pinned (OpenSpec.ofChange Rows.requestOthersSpec) :=
  OpenClaim.holds_of_wide 7 Try.f7 rfl rfl rfl rfl rfl rfl rfl ⟨rfl, rfl, rfl, rfl, rfl⟩ rfl rfl rfl rfl rfl (by kernel_rfl) Try.func7 (by kernel_rfl)
    (of_decide_eq_true (by kernel_rfl)) (by unfold Func.isWrapper; first | (rw [if_pos (by decide +kernel)]; kernel_rfl) | (rw [if_neg (by decide +kernel)]; exact ⟨rfl, rfl⟩))
    (fun os started H enc _ => lifted os started H enc)
theorem proved : Rows.RequestOthersSaid := over
end Go.Proofs.Ytakdplfffkadpaa.requestOthers
