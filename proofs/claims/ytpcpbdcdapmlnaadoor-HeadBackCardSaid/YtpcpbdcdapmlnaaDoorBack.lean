/- HeadBack: for any head and any payload the law answers true. Condition: the table of package sum reads as its initialiser lays it (tied to the program's text by the card). -/
import Derived.Test.YtpcpbdcdapmlnaaDoorCards
import Derived.Test.YtpcpbdcdapmlnaaDoorTie
import Derived.Test.YtpcpbdcdapmlnaaDoorSf
import Derived.Test.YtpcpbdcdapmlnaaDoorOx
import Derived.SevenTiedAt
namespace Go.Proofs.YtpcpbdcdapmlnaaDoor.headBack
open Go Go.ChangeShapes Go.WideShapes Go.ChangeAt Go.RowKit
open Go.ChangeMaps (open_string shut_string)
set_option linter.unusedVariables false
set_option maxRecDepth 100000
set_option maxHeartbeats 1000000 in
theorem long (h : He) (u : Value) (p : ByteArray) (w : World) (hf : HFit w h u) (hps : p.size ≤ 9223372036854775807) (hl : 100 < h.log.length ∨ 1000 < p.size) (hT : Hid (Tab w)) : Calls Tryd.prog 6 #[hval h u, .string p] w (Ret w (.bool true)) := by
  obtain ⟨a, c, hu⟩ := hf.k.slice
  subst hu
  have hl2 := hf.l
  have HA := Lib.hid (awake_any (w.alloc (.cells #[.int .i64 h.gen, .int .i64 h.base, .int .i64 h.snap, .slice a h.log.length c] 26)) (Lib.hid (hT.out.below (below_one w _))))
  have HB := Lib.hid (below_one w (.cells #[.int .i64 h.gen, .int .i64 h.base, .int .i64 h.snap, .slice a h.log.length c] 26))
  clear hf
  unfold hval
  by_cases h1 : 100 < h.log.length
  · clear hl
    go_enter Tryd.func6, Tryd.ntmps6
    go_wp2_with fail
    refine HA.out.mono ?_
    rintro e w1 ⟨rfl, hb⟩
    have HB1 := Lib.hid (below_trans' HB.out hb)
    clear hb
    go_wp2
    go_ret
    exact ⟨rfl, HB1.out⟩
  · have h2 : 1000 < p.size := by omega
    clear hl
    go_enter Tryd.func6, Tryd.ntmps6
    go_wp2_with fail
    refine HA.out.mono ?_
    rintro e w1 ⟨rfl, hb⟩
    have HB1 := Lib.hid (below_trans' HB.out hb)
    clear hb
    go_wp2
    go_ret
    exact ⟨rfl, HB1.out⟩
set_option maxHeartbeats 4000000 in
theorem short (h : He) (u : Value) (p : ByteArray) (w : World) (hf : HFit w h u) (hl : h.log.length ≤ 100) (hp : p.size ≤ 1000) (hT : Hid (Tab w)) : Calls Tryd.prog 6 #[hval h u, .string p] w (Ret w (.bool true)) := by
  have HM := Lib.hid (fun W (hW : Below w.heap.size w W) => may_any h u W (hf.k.below hW (Nat.le_refl _)) hf.l)
  have HE := Lib.hid (fun W (hW : Below w.heap.size w W) => encode_any h u W (hf.k.below hW (Nat.le_refl _)) hf.l)
  have HA := Lib.hid (fun W (hW : Below w.heap.size w W) => awake_any W (Lib.hid (hT.out.below hW)))
  have HZ := Lib.hid (fun W (hW : Below w.heap.size w W) => hsize_any h u W (hf.k.below hW (Nat.le_refl _)) hf.l (Lib.hid (hT.out.below hW)))
  have HS := Lib.hid (fun (W : World) k (hk : KAt W k h.log) (hW : Below w.heap.size w W) => same_any' h h k u W hk (hf.k.below hW (Nat.le_refl _)) hf.l hf.l)
  rw [show sameB h h = true by unfold sameB; simp] at HS
  have HD := Lib.hid (fun (s : ByteArray) (hs : s.size ≤ 140737488351232) W => decode_any s hs W)
  have HB := Lib.hid (below_one w (.cells #[.int .i64 h.gen, .int .i64 h.base, .int .i64 h.snap, u] 26))
  have X0 := Lib.hid (Box4.new w (.int .i64 h.gen) (.int .i64 h.base) (.int .i64 h.snap) u)
  have HE2 : Hid (mayB h = true → encR h = (bs (enc h), 0) ∧ sizR h = 9 + (bs (enc h)).size ∧ (bs (enc h)).size ≤ 100 ∧ dcR (bs (enc h)) = (h, 0)) := Lib.hid (fun hm => ⟨by unfold encR; rw [hm, if_pos rfl], by unfold sizR; rw [hm, if_pos rfl, bs_size], by rw [bs_size]; have := enc_len (mayB_ok hm); omega, dec_enc hm⟩)
  have HE3 : Hid (mayB h = false → encR h = (⟨#[]⟩, 4)) := Lib.hid (fun hm => by unfold encR; rw [hm, if_neg (by simp)])
  obtain ⟨a, c, hu⟩ := hf.k.slice
  have HDP := Lib.hid (HD.out p (by omega))
  have HG : Hid ((dcR p).2 = 0 → mayB (dcR p).1 = true ∧ encR (dcR p).1 = (bs (enc (dcR p).1), 0) ∧ (bs (enc (dcR p).1)).size ≤ p.size ∧ (dcR p).1.log.length ≤ 9223372036854775807) := Lib.hid (fun h0 => by
    obtain ⟨g1, g2⟩ := dec_good h0
    exact ⟨g1, by unfold encR; rw [g1, if_pos rfl], by rw [bs_size]; exact g2, by have := (mayB_ok g1).len; omega⟩)
  have HG2 : Hid ((dcR p).2 ≠ 0 → (dcR p).1 = he0) := Lib.hid (fun h0 => dec_bad h0)
  generalize dcR p = R at *
  obtain ⟨K, E⟩ := R
  dsimp only at HDP HG HG2
  have HMK := Lib.hid (fun v W (hv : KAt W v K.log) (hl : K.log.length ≤ 9223372036854775807) => may_any K v W hv hl)
  have HEK := Lib.hid (fun v W (hv : KAt W v K.log) (hl : K.log.length ≤ 9223372036854775807) => encode_any K v W hv hl)
  clear hf
  unfold hval at *
  subst hu
  cases hm : mayB h
  · have e1 := HE3.out hm
    rw [e1] at HE
    rw [hm] at HM
    dsimp only at HE
    clear HE2 HE3 HS HZ e1 hm
    go_enter Tryd.func6, Tryd.ntmps6
    go_wp2_with fail
    refine (HA.out _ HB.out).mono ?_
    rintro e w1 ⟨rfl, hb⟩
    have X1 := Lib.hid (X0.out.below hb X0.out.lt)
    have B1 := Lib.hid (below_trans' HB.out hb)
    clear hb X0 HB
    have q0 := X1.out.c0; have q1 := X1.out.c1; have q2 := X1.out.c2; have q3 := X1.out.c3
    go_wp2_with fail
    refine (HE.out _ B1.out).mono ?_
    rintro e w2 ⟨rfl, hb⟩
    have X2 := Lib.hid (X1.out.below hb X1.out.lt)
    have B2 := Lib.hid (below_trans' B1.out hb)
    clear hb q0 q1 q2 q3 X1 B1
    have q0 := X2.out.c0; have q1 := X2.out.c1; have q2 := X2.out.c2; have q3 := X2.out.c3
    go_wp2_with fail
    refine (HM.out _ B2.out).mono ?_
    rintro e w3 ⟨rfl, hb⟩
    have X3 := Lib.hid (X2.out.below hb X2.out.lt)
    have B3 := Lib.hid (below_trans' B2.out hb)
    clear hb q0 q1 q2 q3 X2 B2
    have q0 := X3.out.c0; have q1 := X3.out.c1; have q2 := X3.out.c2; have q3 := X3.out.c3
    by_cases hE : E = 0
    · obtain ⟨g1, g2, g3, g4⟩ := HG.out hE
      rw [g1] at HMK
      rw [g2] at HEK
      dsimp only at HEK
      have HKL := Lib.hid g4
      have hsz : ((bs (enc K)).size : Int) ≤ (p.size : Int) := by omega
      subst hE
      clear g1 g2 g3 g4 HG HG2
      generalize bs (enc K) = S9 at *
      go_wp2_with fail
      refine (HDP.out _).mono ?_
      rintro e w9 ⟨v9, rfl, ho, hb⟩
      obtain ⟨va9, vc9, hv9⟩ := ho.shape
      rw [List.length_map] at hv9
      subst hv9
      have HV9 : Hid (hval K (.slice va9 K.log.length vc9) = .agg #[.int .i64 K.gen, .int .i64 K.base, .int .i64 K.snap, .slice va9 K.log.length vc9]) := Lib.hid rfl
      rw [HV9.out]
      have B9 := Lib.hid ((below_trans' B3.out hb).alloc (below_trans' B3.out hb).size (.cells #[.int .i64 K.gen, .int .i64 K.base, .int .i64 K.snap, .slice va9 K.log.length vc9] 26))
      have K9 := Lib.hid (ho.kat.below (below_one w9 (.cells #[.int .i64 K.gen, .int .i64 K.base, .int .i64 K.snap, .slice va9 K.log.length vc9] 26)) (Nat.le_refl _))
      have X9 := Lib.hid (Box4.new w9 (.int .i64 K.gen) (.int .i64 K.base) (.int .i64 K.snap) (.slice va9 K.log.length vc9))
      clear ho hb q0 q1 q2 q3 X3 B3
      go_wp2_with fail
      refine (HEK.out _ _ K9.out HKL.out).mono ?_
      rintro e w10 ⟨rfl, hb⟩
      have B10 := Lib.hid (below_trans' B9.out hb)
      have K10 := Lib.hid (K9.out.below hb (Nat.le_refl _))
      have X10 := Lib.hid (X9.out.below hb X9.out.lt)
      clear hb B9 K9 X9
      have q0 := X10.out.c0; have q1 := X10.out.c1; have q2 := X10.out.c2; have q3 := X10.out.c3
      go_wp2_with fail
      refine (HMK.out _ _ K10.out HKL.out).mono ?_
      rintro e w11 ⟨rfl, hb⟩
      have B11 := Lib.hid (below_trans' B10.out hb)
      clear hb
      go_wp2
      go_ret
      exact ⟨rfl, B11.out⟩
    · have g1 := HG2.out hE
      have hE2 := ne0 hE
      subst g1
      clear HG HG2 HMK HEK
      go_wp2_with fail
      refine (HDP.out _).mono ?_
      rintro e w9 ⟨v9, rfl, ho, hb⟩
      obtain ⟨va9, vc9, hv9⟩ := ho.shape
      rw [List.length_map] at hv9
      subst hv9
      have HV9 : Hid (hval he0 (.slice va9 he0.log.length vc9) = .agg #[.int .i64 0, .int .i64 0, .int .i64 0, .slice va9 0 vc9]) := Lib.hid rfl
      rw [HV9.out]
      have B9 := Lib.hid ((below_trans' B3.out hb).alloc (below_trans' B3.out hb).size (.cells #[.int .i64 0, .int .i64 0, .int .i64 0, .slice va9 0 vc9] 26))
      clear ho hb q0 q1 q2 q3 X3 B3
      go_wp2
      go_ret
      exact ⟨rfl, B9.out⟩
  · obtain ⟨e1, e2, e3, e4⟩ := HE2.out hm
    rw [e1] at HE
    rw [e2] at HZ
    rw [hm] at HM
    have HDE := Lib.hid (HD.out (bs (enc h)) (by omega))
    rw [e4] at HDE
    dsimp only at HE HDE
    clear HE2 HE3 e1 e2 e4 hm
    generalize bs (enc h) = S at *
    have hze : ((9 + S.size : Nat) : Int) = 9 + (S.size : Int) := by omega
    rw [hze] at HZ
    go_enter Tryd.func6, Tryd.ntmps6
    go_wp2_with fail
    refine (HA.out _ HB.out).mono ?_
    rintro e w1 ⟨rfl, hb⟩
    have X1 := Lib.hid (X0.out.below hb X0.out.lt)
    have B1 := Lib.hid (below_trans' HB.out hb)
    clear hb X0 HB
    have q0 := X1.out.c0; have q1 := X1.out.c1; have q2 := X1.out.c2; have q3 := X1.out.c3
    go_wp2_with fail
    refine (HE.out _ B1.out).mono ?_
    rintro e w2 ⟨rfl, hb⟩
    have X2 := Lib.hid (X1.out.below hb X1.out.lt)
    have B2 := Lib.hid (below_trans' B1.out hb)
    clear hb q0 q1 q2 q3 X1 B1
    have q0 := X2.out.c0; have q1 := X2.out.c1; have q2 := X2.out.c2; have q3 := X2.out.c3
    go_wp2_with fail
    refine (HM.out _ B2.out).mono ?_
    rintro e w3 ⟨rfl, hb⟩
    have X3 := Lib.hid (X2.out.below hb X2.out.lt)
    have B3 := Lib.hid (below_trans' B2.out hb)
    clear hb q0 q1 q2 q3 X2 B2
    have q0 := X3.out.c0; have q1 := X3.out.c1; have q2 := X3.out.c2; have q3 := X3.out.c3
    go_wp2_with fail
    refine (HDE.out _).mono ?_
    rintro e w4 ⟨k4, rfl, ho, hb⟩
    obtain ⟨ka, kc, hk4⟩ := ho.shape
    rw [List.length_map] at hk4
    subst hk4
    have HV : Hid (hval h (.slice ka h.log.length kc) = .agg #[.int .i64 h.gen, .int .i64 h.base, .int .i64 h.snap, .slice ka h.log.length kc]) := Lib.hid rfl
    rw [HV.out]
    have X4 := Lib.hid ((X3.out.below hb X3.out.lt).alloc (.cells #[.int .i64 h.gen, .int .i64 h.base, .int .i64 h.snap, .slice ka h.log.length kc] 26))
    have B4 := Lib.hid ((below_trans' B3.out hb).alloc (below_trans' B3.out hb).size (.cells #[.int .i64 h.gen, .int .i64 h.base, .int .i64 h.snap, .slice ka h.log.length kc] 26))
    have K4 := Lib.hid (ho.kat.below (below_one w4 (.cells #[.int .i64 h.gen, .int .i64 h.base, .int .i64 h.snap, .slice ka h.log.length kc] 26)) (Nat.le_refl _))
    clear ho hb q0 q1 q2 q3 X3 B3
    have q0 := X4.out.c0; have q1 := X4.out.c1; have q2 := X4.out.c2; have q3 := X4.out.c3
    go_wp2_with fail
    refine (HS.out _ _ K4.out B4.out).mono ?_
    rintro e w5 ⟨rfl, hb⟩
    have X5 := Lib.hid (X4.out.below hb X4.out.lt)
    have B5 := Lib.hid (below_trans' B4.out hb)
    clear hb q0 q1 q2 q3 X4 B4 K4
    have q0 := X5.out.c0; have q1 := X5.out.c1; have q2 := X5.out.c2; have q3 := X5.out.c3
    go_wp2_with fail
    refine (HZ.out _ B5.out).mono ?_
    rintro e w6 ⟨rfl, hb⟩
    have X3 := Lib.hid (X5.out.below hb X5.out.lt)
    have B3 := Lib.hid (below_trans' B5.out hb)
    clear hb q0 q1 q2 q3 X5 B5
    have q0 := X3.out.c0; have q1 := X3.out.c1; have q2 := X3.out.c2; have q3 := X3.out.c3
    by_cases hE : E = 0
    · obtain ⟨g1, g2, g3, g4⟩ := HG.out hE
      rw [g1] at HMK
      rw [g2] at HEK
      dsimp only at HEK
      have HKL := Lib.hid g4
      have hsz : ((bs (enc K)).size : Int) ≤ (p.size : Int) := by omega
      subst hE
      clear g1 g2 g3 g4 HG HG2
      generalize bs (enc K) = S9 at *
      go_wp2_with fail
      refine (HDP.out _).mono ?_
      rintro e w9 ⟨v9, rfl, ho, hb⟩
      obtain ⟨va9, vc9, hv9⟩ := ho.shape
      rw [List.length_map] at hv9
      subst hv9
      have HV9 : Hid (hval K (.slice va9 K.log.length vc9) = .agg #[.int .i64 K.gen, .int .i64 K.base, .int .i64 K.snap, .slice va9 K.log.length vc9]) := Lib.hid rfl
      rw [HV9.out]
      have B9 := Lib.hid ((below_trans' B3.out hb).alloc (below_trans' B3.out hb).size (.cells #[.int .i64 K.gen, .int .i64 K.base, .int .i64 K.snap, .slice va9 K.log.length vc9] 26))
      have K9 := Lib.hid (ho.kat.below (below_one w9 (.cells #[.int .i64 K.gen, .int .i64 K.base, .int .i64 K.snap, .slice va9 K.log.length vc9] 26)) (Nat.le_refl _))
      have X9 := Lib.hid (Box4.new w9 (.int .i64 K.gen) (.int .i64 K.base) (.int .i64 K.snap) (.slice va9 K.log.length vc9))
      clear ho hb q0 q1 q2 q3 X3 B3
      go_wp2_with fail
      refine (HEK.out _ _ K9.out HKL.out).mono ?_
      rintro e w10 ⟨rfl, hb⟩
      have B10 := Lib.hid (below_trans' B9.out hb)
      have K10 := Lib.hid (K9.out.below hb (Nat.le_refl _))
      have X10 := Lib.hid (X9.out.below hb X9.out.lt)
      clear hb B9 K9 X9
      have q0 := X10.out.c0; have q1 := X10.out.c1; have q2 := X10.out.c2; have q3 := X10.out.c3
      go_wp2_with fail
      refine (HMK.out _ _ K10.out HKL.out).mono ?_
      rintro e w11 ⟨rfl, hb⟩
      have B11 := Lib.hid (below_trans' B10.out hb)
      clear hb
      go_wp2
      go_ret
      exact ⟨rfl, B11.out⟩
    · have g1 := HG2.out hE
      have hE2 := ne0 hE
      subst g1
      clear HG HG2 HMK HEK
      go_wp2_with fail
      refine (HDP.out _).mono ?_
      rintro e w9 ⟨v9, rfl, ho, hb⟩
      obtain ⟨va9, vc9, hv9⟩ := ho.shape
      rw [List.length_map] at hv9
      subst hv9
      have HV9 : Hid (hval he0 (.slice va9 he0.log.length vc9) = .agg #[.int .i64 0, .int .i64 0, .int .i64 0, .slice va9 0 vc9]) := Lib.hid rfl
      rw [HV9.out]
      have B9 := Lib.hid ((below_trans' B3.out hb).alloc (below_trans' B3.out hb).size (.cells #[.int .i64 0, .int .i64 0, .int .i64 0, .slice va9 0 vc9] 26))
      clear ho hb q0 q1 q2 q3 X3 B3
      go_wp2
      go_ret
      exact ⟨rfl, B9.out⟩
theorem core (h : He) (u : Value) (p : ByteArray) (w : World) (hf : HFit w h u) (hp : p.size ≤ maxLen) (hT : Hid (Tab w)) : Calls Tryd.prog 6 #[hval h u, .string p] w fun e w' => e = .returned (.bool true) ∧ Below w.heap.size w w' := by
  unfold maxLen at hp
  by_cases hl : 100 < h.log.length ∨ 1000 < p.size
  · exact long h u p w hf (by omega) hl hT
  · exact short h u p w hf (by omega) (by omega) hT
set_option maxRecDepth 100000 in
theorem lifted (os : Os) (started : os.Started) (H : Type) (enc : TypeId × Value → H) :
    ReturnsInHanded {} Tryd.checked os 6 .any (fun w args => (Rows.headBackSpec.pre enc Tryd.prog Tryd.f6 [] false w args ∧ laidMetH Tryd.prog laid w) ∧ sizedMet enc Tryd.prog Tryd.f6 (OpenSpec.ofChange Rows.headBackSpec) false w args)
      (Rows.headBackSpec.post enc Tryd.prog Tryd.f6 false true false false) := by
  refine returnsInHanded_of_change_and (C := Tryd.checked) (X := fun w _ => laidMetH Tryd.prog laid w) (fun _ _ _ hh h => h.of_heap hh) own started (by kernel_rfl) Tryd.func6
    (ChangeSpec.witness_shaped (enc := enc) (C := Tryd.checked) (os := os) (X := fun w _ => laidMetH Tryd.prog laid w) false (World.doorLaid Tryd.prog doorSteps os) #[.agg #[.int .i64 0, .int .i64 0, .int .i64 0, .slice none 0 0], .string ByteArray.empty] 8 rfl (World.shaped_of_RefB (by kernel_rfl) (by kernel_rfl)) (by kernel_rfl) (by kernel_rfl) (by kernel_rfl) (door_met os _)) ?_
  intro W base args ds gs before hval0 hW hcnd _ hL _
  have hval : ∀ (j : Nat) t v, Tryd.f6.params[j]? = some t → args[j]? = some v → Value.okWide Tryd.prog W .any base t v := hval0
  have hW' := hW
  obtain ⟨p, q, hA0, hV, rfl, hfz, hnd⟩ := hW
  have hA : DataW.TrodAll enc Tryd.prog W 0 (fun _ => true) true Tryd.f6.params.toList args.toList ds p := hA0
  rw [Tryd.params6] at hA hval
  obtain ⟨v0, vs0, d0, ds0, p0, q0, hargs, rfl, rfl, h0, r0⟩ := trodAll_cons hA
  obtain ⟨v1, vs1, d1, ds1, p1, q1, rfl, rfl, rfl, h1, r1⟩ := trodAll_cons r0
  obtain ⟨rfl, rfl, rfl⟩ := trodAll_nil r1
  obtain rfl : args = #[v0, v1] := by cases args; simp_all
  obtain ⟨rfl, rfl⟩ := trodVars_none hV
  have k0 := h0
  have lt0 : ∀ x ∈ p0, x.block < W.heap.size := by obtain ⟨m, hm⟩ := k0; exact DataW.trod_lt m _ _ _ hm
  have k1 := h1
  have lt1 : ∀ x ∈ p1, x.block < W.heap.size := by obtain ⟨m, hm⟩ := k1; exact DataW.trod_lt m _ _ _ hm
  obtain ⟨a0, u0, rfl, w0⟩ := open_head (hval 0 26 v0 rfl rfl) h0
  obtain ⟨a1, rfl, rfl, rfl, w1⟩ := open_string Tryd.underlying9 (hval 1 9 v1 rfl rfl) h1
  clear hA0 hval0
  refine (core a0 u0 a1 W w0 w1 (Lib.hid (of_laid hL))).mono fun e W' ⟨he, bel⟩ => ?_
  subst he
  exact ⟨_, rfl, _, _, _, [], _, [], hW', trodAll_mk1 (shut_bool Tryd.underlying4 _), (trodAll_cons_mk (Below.trod laidOut (by kernel_rfl) (of_decide_eq_true (by kernel_rfl)) k0 bel lt0) (trodAll_cons_mk (Below.trod laidOut (by kernel_rfl) (of_decide_eq_true (by kernel_rfl)) k1 bel lt1) trodAll_mk0)), rfl, bel.frame _, fun h => by cases h⟩
theorem over : Rows.headBackRow.holds Tryd.pinned (OpenSpec.ofChange Rows.headBackSpec) :=
  OpenClaim.holds_of_wide 6 Tryd.f6 rfl rfl rfl rfl rfl rfl rfl ⟨rfl, rfl, rfl, rfl, rfl⟩ rfl rfl rfl rfl rfl (by kernel_rfl) Tryd.func6 (by kernel_rfl)
    (of_decide_eq_true (by kernel_rfl)) (by unfold Func.isWrapper; first | (rw [if_pos (by decide +kernel)]; kernel_rfl) | (rw [if_neg (by decide +kernel)]; exact ⟨rfl, rfl⟩))
    (fun os started H enc _ => lifted os started H enc)
theorem proved : Rows.HeadBackCardSaid :=
  Claim7.holds_tied_plain_at .later [] [.data] true (true, "fa333dfdddc382f694442b4cc08e4f2c22340b87e27345508ae927b0c2bc7496") false
    over (fun _ h => by cases h) (by kernel_rfl) (fun _ h => by cases h) headBack_row_tie rfl ⟨rfl, rfl⟩ (by kernel_rfl) rfl
    (fun f fn hf hfn => by
      obtain rfl : f = 6 := Option.some.inj ((show Tryd.prog.funcNamed "baton/batonlaw09.HeadBack" = some 6 by kernel_rfl).symm.trans hf) |>.symm
      obtain rfl : fn = Tryd.f6 := (Option.some.inj (Tryd.func6.symm.trans hfn)).symm
      exact ⟨by kernel_rfl, fun j t ht => by
        rw [Tryd.params6] at ht
        have hm : t ∈ [26, 9] := by simpa using Array.mem_of_getElem? ht
        have hall : ([26, 9].all fun u => !Tryd.prog.wantsStandIn u) = true := by kernel_rfl
        exact (show Tryd.prog.wantsStandIn t = false by simpa using List.all_eq_true.1 hall t hm)⟩)
    (by kernel_rfl)
end Go.Proofs.YtpcpbdcdapmlnaaDoor.headBack
