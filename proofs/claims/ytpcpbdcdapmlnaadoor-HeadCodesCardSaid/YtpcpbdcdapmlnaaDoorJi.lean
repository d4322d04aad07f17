/- HeadCodes' walk. -/
import Derived.Test.YtpcpbdcdapmlnaaDoorJh
namespace Go.Proofs.YtpcpbdcdapmlnaaDoor.headCodes
open Go Go.RowKit Go.Sort BigFrame
set_option maxRecDepth 100000
/-- What is kept from call to call. -/
structure Cd (w W : World) (a b : He) (u v m : Value) (B : Nat) : Prop where
  X4 : Box4 W w.heap.size (.int .i64 a.gen) (.int .i64 a.base) (.int .i64 a.snap) u
  X5 : Box4 W (w.heap.size + 1) (.int .i64 b.gen) (.int .i64 b.base) (.int .i64 b.snap) v
  X9 : Box4 W B (.int .i64 a.gen) (.int .i64 a.base) (.int .i64 a.snap) m
  O : Own W w.heap.size m (a.log.map iv)
  L : Below w.heap.size w W
theorem Cd.below {w W W' : World} {a b : He} {u v m : Value} {B : Nat} (h : Cd w W a b u v m B) (hb : Below W.heap.size W W') : Cd w W' a b u v m B :=
  ⟨h.X4.below hb h.X4.lt, h.X5.below hb h.X5.lt, h.X9.below hb h.X9.lt, h.O.belowAll hb, below_trans' h.L hb⟩
set_option maxHeartbeats 4000000 in
theorem short (a b : He) (u v : Value) (p : ByteArray) (t : Int) (w : World) (hf : HFit w a u) (hg : HFit w b v) (hl : a.log.length ≤ 100) (hl2 : b.log.length ≤ 100) (hp : p.size ≤ 1000) (hT : Hid (Tab w)) : Calls Tryd.prog 4 #[hval a u, hval b v, .string p, .int .i64 t] w (Ret w (.bool true)) := by
  have kA := fun W (hW : Below w.heap.size w W) => hf.k.below hW (Nat.le_refl _)
  have kB := fun W (hW : Below w.heap.size w W) => hg.k.below hW (Nat.le_refl _)
  have HT := fun W (hW : Below w.heap.size w W) => Lib.hid (hT.out.below hW)
  have HA := Lib.hid (fun W (hW : Below w.heap.size w W) => awake_any W (HT W hW))
  have HO := Lib.hid (fun W (hW : Below w.heap.size w W) => own_any a u W (kA W hW) (by omega))
  have HE := Lib.hid (fun W m (hk : KAt W m a.log) => encode_any a m W hk hf.l)
  have RE := Lib.hid (fun W (hW : Below w.heap.size w W) => rencode_any a u W (kA W hW) hf.l)
  have HM := Lib.hid (fun W m (hk : KAt W m a.log) => may_any a m W hk hf.l)
  have RM := Lib.hid (fun W (hW : Below w.heap.size w W) => rmay_any a u W (kA W hW) hf.l)
  have HS := Lib.hid (fun W m (hk : KAt W m a.log) (hW : Below w.heap.size w W) => same_any' a b m v W hk (kB W hW) hf.l hg.l)
  have RS := Lib.hid (fun W (hW : Below w.heap.size w W) => rsame_any a b u v W (kA W hW) (kB W hW) hf.l hg.l)
  have HZ := Lib.hid (fun W m (hk : KAt W m a.log) (hW : Below w.heap.size w W) => hsize_any a m W hk hf.l (HT W hW))
  have RZ := Lib.hid (fun W (hW : Below w.heap.size w W) => rsize_any a u W (kA W hW) hf.l)
  have HU := Lib.hid (fun W m (hk : KAt W m a.log) => uses_any a t m W hk hf.l)
  have RU := Lib.hid (fun W (hW : Below w.heap.size w W) => ruses_any a t u W (kA W hW) hf.l)
  have HF := Lib.hid (fun W m (hk : KAt W m a.log) => free_any a m W hk hf.l)
  have RF := Lib.hid (fun W (hW : Below w.heap.size w W) => rfree_any a u W (kA W hW) hf.l)
  have HD := Lib.hid (fun W => decode_any p (by omega) W)
  have RD := Lib.hid (fun W => rdecode_any p (by omega) W)
  have hdl : (dcR p).1.log.length ≤ 1000 := by
    by_cases h0 : (dcR p).2 = 0
    · have := (mayB_ok (dec_good h0).1).len; omega
    · rw [dec_bad h0]; decide
  have HI := Lib.hid (fun W base x y (hx : Own W base x ((dcR p).1.log.map iv)) (hy : KAt W y (dcR p).1.log) hb => is_any (dcR p).1 (dcR p).1 base x y W hx hy hb (by omega) (by omega))
  have hss : ∀ h, sameB h h = true := fun h => by unfold sameB; simp
  rw [hss] at HI
  have HI2 := Lib.hid (fun W base x y (hx : Own W base x ((frL a 32).map iv)) (hy : KAt W y (frL a 32)) hb => is_any ⟨0, 0, 0, frL a 32⟩ ⟨0, 0, 0, frL a 32⟩ base x y W hx hy hb (by have := frL_len a 32; show (frL a 32).length ≤ _; omega) (by have := frL_len a 32; show (frL a 32).length ≤ _; omega))
  rw [hss] at HI2
  have HI3 := Lib.hid (fun W base x (hx : Own W base x (a.log.map iv)) (hW : Below w.heap.size w W) hb => is_any a a base x u W hx (kA W hW) hb hf.l hf.l)
  rw [hss] at HI3
  obtain ⟨ua, uc, hu⟩ := hf.k.slice
  obtain ⟨va, vc, hv⟩ := hg.k.slice
  have HB0 : Hid (Below w.heap.size w ((w.alloc (.cells #[.int .i64 a.gen, .int .i64 a.base, .int .i64 a.snap, u] 26)).alloc (.cells #[.int .i64 b.gen, .int .i64 b.base, .int .i64 b.snap, v] 26))) := Lib.hid (below_two _ _ _)
  have X0 := Lib.hid ((Box4.new w (.int .i64 a.gen) (.int .i64 a.base) (.int .i64 a.snap) u).alloc (.cells #[.int .i64 b.gen, .int .i64 b.base, .int .i64 b.snap, v] 26))
  have Y0 : Hid (Box4 ((w.alloc (.cells #[.int .i64 a.gen, .int .i64 a.base, .int .i64 a.snap, u] 26)).alloc (.cells #[.int .i64 b.gen, .int .i64 b.base, .int .i64 b.snap, v] 26)) (w.heap.size + 1) (.int .i64 b.gen) (.int .i64 b.base) (.int .i64 b.snap) v) := Lib.hid (by
    have := Box4.new (w.alloc (.cells #[.int .i64 a.gen, .int .i64 a.base, .int .i64 a.snap, u] 26)) (.int .i64 b.gen) (.int .i64 b.base) (.int .i64 b.snap) v
    rw [World.size_alloc] at this; exact this)
  have n1 : (mayB a != mayB a) = false := by simp
  have n2 : (sameB a b != sameB a b) = false := by simp
  have n3 : ((encR a).1.toList != (encR a).1.toList) = false := by simp
  have n4 : (((encR a).2 : Int) != ((encR a).2 : Int)) = false := by simp
  have n5 : ((sizR a : Int) != (sizR a : Int)) = false := by simp
  have n6 : (usB a t != usB a t) = false := by simp
  have n7 : (((dcR p).2 : Int) != ((dcR p).2 : Int)) = false := by simp
  have hfl := frL_len a 32
  clear hf hg kA kB HT hT hss
  generalize mayB a = M at *
  generalize sameB a b = S at *
  generalize encR a = E at *
  obtain ⟨ES, EN⟩ := E
  generalize sizR a = Z at *
  generalize usB a t = U at *
  generalize frL a 32 = F at *
  generalize dcR p = D at *
  obtain ⟨DH, DN⟩ := D
  dsimp only at *
  unfold hval at *
  dsimp only at *
  subst hu hv
  go_enter Tryd.func4, Tryd.ntmps4
  go_wp2_with fail
  refine (HO.out _ HB0.out).mono ?_
  rintro e w1 ⟨m, rfl, ho, hb⟩
  obtain ⟨ma, mc, hm⟩ := ho.shape
  rw [List.length_map] at hm
  subst hm
  have C1 : Hid (Cd w (w1.alloc (.cells #[.int .i64 a.gen, .int .i64 a.base, .int .i64 a.snap, .slice ma a.log.length mc] 26)) a b (.slice ua a.log.length uc) (.slice va b.log.length vc) (.slice ma a.log.length mc) w1.heap.size) :=
    Lib.hid ⟨(X0.out.below hb X0.out.lt).alloc _, (Y0.out.below hb Y0.out.lt).alloc _, Box4.new _ _ _ _ _, (ho.mono HB0.out.size).alloc _, (below_trans' HB0.out hb).alloc (below_trans' HB0.out hb).size _⟩
  clear ho hb X0 Y0 HB0 HO
  go_wp2_with fail
  generalize w1.alloc (.cells #[.int .i64 a.gen, .int .i64 a.base, .int .i64 a.snap, .slice ma a.log.length mc] 26) = w2 at *
  refine (HE.out _ _ C1.out.O.kat).mono ?_
  rintro e w3 ⟨rfl, hb⟩
  have C3 := Lib.hid (C1.out.below hb)
  clear hb C1
  generalize w1.heap.size = B at *
  have q0 := C3.out.X4.c0; have q1 := C3.out.X4.c1; have q2 := C3.out.X4.c2; have q3 := C3.out.X4.c3
  go_wp2_with fail
  refine (RE.out _ C3.out.L).mono ?_
  rintro e w4 ⟨rfl, hb⟩
  have C4 := Lib.hid (C3.out.below hb)
  clear hb C3 q0 q1 q2 q3
  go_wp2_with fail
  have k0 := fun d os => cell_regrown C4.out.X4.c0 d os
  have k1 := fun d os => cell_regrown C4.out.X4.c1 d os
  have k2 := fun d os => cell_regrown C4.out.X4.c2 d os
  have k3 := fun d os => cell_regrown C4.out.X4.c3 d os
  have l0 := fun d os => cell_regrown C4.out.X5.c0 d os
  have l1 := fun d os => cell_regrown C4.out.X5.c1 d os
  have l2 := fun d os => cell_regrown C4.out.X5.c2 d os
  have l3 := fun d os => cell_regrown C4.out.X5.c3 d os
  have m0 := fun d os => cell_regrown C4.out.X9.c0 d os
  have m1 := fun d os => cell_regrown C4.out.X9.c1 d os
  have m2 := fun d os => cell_regrown C4.out.X9.c2 d os
  have m3 := fun d os => cell_regrown C4.out.X9.c3 d os
  have HG := Lib.hid (fun d os => below_trans' C4.out.L (below_regrown w4 d os))
  have HKM := Lib.hid (fun d os => C4.out.O.kat.below (below_regrown w4 d os) (Nat.le_refl _))
  have F10 := Lib.hid (fun d os => Calls.regrown_of (HM.out _ _ (HKM.out d os)))
  have F23 := Lib.hid (fun d os => Calls.regrown_of (RM.out _ (HG.out d os)))
  have F24 := Lib.hid (fun d os => Calls.regrown_of (HS.out _ _ (HKM.out d os) (HG.out d os)))
  have F25 := Lib.hid (fun d os => Calls.regrown_of (RS.out _ (HG.out d os)))
  have F13 := Lib.hid (fun d os => Calls.regrown_of (HZ.out _ _ (HKM.out d os) (HG.out d os)))
  have F26 := Lib.hid (fun d os => Calls.regrown_of (RZ.out _ (HG.out d os)))
  have F19 := Lib.hid (fun d os => Calls.regrown_of (HU.out _ _ (HKM.out d os)))
  have F27 := Lib.hid (fun d os => Calls.regrown_of (RU.out _ (HG.out d os)))
  refine wp_region_quiet_below (by kernel_rfl) (by kernel_rfl) ?_
  iterate 1 (go_big_quiet_step (fail))
  go_big_quiet_step (first | (go_at_call 10; exact F10.out _ _))
  iterate 1 (go_big_quiet_step (fail))
  go_big_quiet_step (first | (go_at_call 23; exact F23.out _ _))
  iterate 4 (go_big_quiet_step (fail))
  go_big_quiet_step (first | (go_at_call 24; exact F24.out _ _))
  iterate 2 (go_big_quiet_step (fail))
  go_big_quiet_step (first | (go_at_call 25; exact F25.out _ _))
  iterate 14 (go_big_quiet_step (fail))
  go_big_quiet_step (first | (go_at_call 13; exact F13.out _ _))
  iterate 1 (go_big_quiet_step (fail))
  go_big_quiet_step (first | (go_at_call 26; exact F26.out _ _))
  iterate 5 (go_big_quiet_step (fail))
  go_big_quiet_step (first | (go_at_call 19; exact F19.out _ _))
  iterate 2 (go_big_quiet_step (fail))
  go_big_quiet_step (first | (go_at_call 27; exact F27.out _ _))
  iterate 2 (go_big_quiet_step (fail))
  refine wpQuiet_nil ?_
  intro w5 hw5
  have hb5 : Below w4.heap.size w4 w5 := by obtain ⟨q, rfl⟩ := hw5; exact below_regrown _ _ _
  have C5 := Lib.hid (C4.out.below hb5)
  clear hw5 hb5 k0 k1 k2 k3 l0 l1 l2 l3 m0 m1 m2 m3 HG HKM F10 F23 F24 F25 F13 F26 F19 F27 C4 HE RE HM RM HS RS HZ RZ HU RU n1 n2 n3 n4 n5 n6
  go_wp2
  go_loopw [14] (fun i wl => ∃ k : Nat, i = .int .i64 (k : Int) ∧ k ≤ 2 ∧ Hid (Cd w wl a b (.slice ua a.log.length uc) (.slice va b.log.length vc) (.slice ma a.log.length mc) B)) (fun i _ => 2 - (intOf i).toNat)
  case atStart => exact ⟨0, rfl, by omega, C5⟩
  case round =>
    obtain ⟨k, rfl, hk, HC⟩ := hrel
    by_cases hlt : k < 2
    · go_wp2_with fail
      refine (HD.out _).mono ?_
      rintro e w6 ⟨x6, rfl, ho, hb⟩
      obtain ⟨xa, xc, hx⟩ := ho.shape
      rw [List.length_map] at hx
      subst hx
      have HVX : Hid (hval DH (.slice xa DH.log.length xc) = .agg #[.int .i64 DH.gen, .int .i64 DH.base, .int .i64 DH.snap, .slice xa DH.log.length xc]) := Lib.hid rfl
      rw [HVX.out]
      have O6 := Lib.hid (ho.alloc (.cells #[.int .i64 DH.gen, .int .i64 DH.base, .int .i64 DH.snap, .slice xa DH.log.length xc] 26))
      have B6 := Lib.hid (hb.alloc hb.size (.cells #[.int .i64 DH.gen, .int .i64 DH.base, .int .i64 DH.snap, .slice xa DH.log.length xc] 26))
      have X6 := Lib.hid (Box4.new w6 (.int .i64 DH.gen) (.int .i64 DH.base) (.int .i64 DH.snap) (.slice xa DH.log.length xc))
      clear ho hb
      go_wp2_with fail
      generalize w6.alloc (.cells #[.int .i64 DH.gen, .int .i64 DH.base, .int .i64 DH.snap, .slice xa DH.log.length xc] 26) = w7 at *
      generalize w6.heap.size = B6' at *
      refine (RD.out _).mono ?_
      rintro e w8 ⟨x8, rfl, ho, hb⟩
      obtain ⟨ya, yc, hx⟩ := ho.shape
      rw [List.length_map] at hx
      subst hx
      have HVY : Hid (hval DH (.slice ya DH.log.length yc) = .agg #[.int .i64 DH.gen, .int .i64 DH.base, .int .i64 DH.snap, .slice ya DH.log.length yc]) := Lib.hid rfl
      rw [HVY.out]
      have O7 := Lib.hid ((O6.out.belowAll hb).alloc (.cells #[.int .i64 DH.gen, .int .i64 DH.base, .int .i64 DH.snap, .slice ya DH.log.length yc] 26))
      have K8 := Lib.hid ((ho.alloc (.cells #[.int .i64 DH.gen, .int .i64 DH.base, .int .i64 DH.snap, .slice ya DH.log.length yc] 26)).kat)
      have B8 := Lib.hid ((below_trans' B6.out hb).alloc (below_trans' B6.out hb).size (.cells #[.int .i64 DH.gen, .int .i64 DH.base, .int .i64 DH.snap, .slice ya DH.log.length yc] 26))
      have X7 := Lib.hid ((X6.out.below hb X6.out.lt).alloc (.cells #[.int .i64 DH.gen, .int .i64 DH.base, .int .i64 DH.snap, .slice ya DH.log.length yc] 26))
      have Y8 := Lib.hid (Box4.new w8 (.int .i64 DH.gen) (.int .i64 DH.base) (.int .i64 DH.snap) (.slice ya DH.log.length yc))
      clear ho hb O6 B6 X6 HVX HVY
      have C8 := Lib.hid (HC.out.below B8.out)
      have q0 := C8.out.X9.c0; have q1 := C8.out.X9.c1; have q2 := C8.out.X9.c2; have q3 := C8.out.X9.c3
      go_wp2_with fail
      generalize w8.alloc (.cells #[.int .i64 DH.gen, .int .i64 DH.base, .int .i64 DH.snap, .slice ya DH.log.length yc] 26) = w9 at *
      generalize w8.heap.size = B8' at *
      refine (HF.out _ _ C8.out.O.kat).mono ?_
      rintro e w10 ⟨f, rfl, ho, hb⟩
      obtain ⟨fa, fc, hf'⟩ := ho.shape
      rw [List.length_map] at hf'
      subst hf'
      have OF := Lib.hid ((ho.mono B8.out.size))
      have O8 := Lib.hid (O7.out.belowAll hb)
      have K10 := Lib.hid (K8.out.below hb (Nat.le_refl _))
      have X8 := Lib.hid (X7.out.below hb X7.out.lt)
      have Y10 := Lib.hid (Y8.out.below hb Y8.out.lt)
      have B10 := Lib.hid (below_trans' B8.out hb)
      have OFl := Lib.hid ho.lt
      have hO7 := Lib.hid (fun k hk => (O7.out.lt k hk).2)
      clear q0 q1 q2 q3 C8 Y8 X7 K8
      have x0 := X8.out.c0; have x1 := X8.out.c1; have x2 := X8.out.c2; have x3 := X8.out.c3
      have y0 := Y10.out.c0; have y1 := Y10.out.c1; have y2 := Y10.out.c2; have y3 := Y10.out.c3
      go_wp2_with fail
      refine (HI.out _ _ _ _ O8.out K10.out B10.out.size).mono ?_
      rintro e w11 ⟨rfl, hb, hgr⟩
      have B11 := Lib.hid (B10.out.trans hb)
      have OF2 := Lib.hid (OF.out.kept hgr (by
        cases hff : Value.ownBlock (.slice fa F.length fc) with
        | none => exact .inl rfl
        | some kf => exact .inr (fun e => by have h1 := (OFl.out kf hff).1; have h2 := hO7.out kf e.symm; omega)))
      have C11 := Lib.hid (HC.out.below B11.out)
      clear hb hgr x0 x1 x2 x3 y0 y1 y2 y3 OF O8 K10 X8 Y10 B10 OFl hO7
      have p0 := C11.out.X4.c0; have p1 := C11.out.X4.c1; have p2 := C11.out.X4.c2; have p3 := C11.out.X4.c3
      go_wp2_with fail
      refine (RF.out _ C11.out.L).mono ?_
      rintro e w12 ⟨z, rfl, ho, hb⟩
      obtain ⟨za, zc, hf'⟩ := ho.shape
      rw [List.length_map] at hf'
      subst hf'
      have B12 := Lib.hid (below_trans' B11.out hb)
      have OF3 := Lib.hid (OF2.out.belowAll hb)
      have KZ := Lib.hid ho.kat
      clear ho hb p0 p1 p2 p3 C11 OF2 B11
      go_wp2_with fail
      refine (HI2.out _ _ _ _ OF3.out KZ.out B12.out.size).mono ?_
      rintro e w13 ⟨rfl, hb, -⟩
      have C13 := Lib.hid (HC.out.below (B12.out.trans hb))
      clear hb B12 OF3 KZ
      go_wp2
      go_roundw
      case rel => exact ⟨k + 1, by go_num, by omega, C13⟩
      case measure => simp [intOf]; omega
    · obtain rfl : k = 2 := by omega
      have q0 := HC.out.X9.c0; have q1 := HC.out.X9.c1; have q2 := HC.out.X9.c2; have q3 := HC.out.X9.c3
      have p0 := HC.out.X4.c0; have p1 := HC.out.X4.c1; have p2 := HC.out.X4.c2; have p3 := HC.out.X4.c3
      go_wp2_with fail
      refine (HI3.out _ _ _ HC.out.O HC.out.L HC.out.L.size).mono ?_
      rintro e w12 ⟨rfl, hb, -⟩
      have B12 := Lib.hid (HC.out.L.trans hb)
      clear hb q0 q1 q2 q3 p0 p1 p2 p3
      go_wp2_with fail
      refine (HA.out _ B12.out).mono ?_
      rintro e w13 ⟨rfl, hb⟩
      have B13 := Lib.hid (below_trans' B12.out hb)
      clear hb
      go_wp2
      go_ret
      exact ⟨rfl, B13.out⟩
end Go.Proofs.YtpcpbdcdapmlnaaDoor.headCodes
