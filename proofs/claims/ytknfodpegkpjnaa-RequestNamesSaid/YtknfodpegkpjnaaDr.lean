/- The contract of the document's Read. -/
import Derived.Test.YtknfodpegkpjnaaDb
namespace Go.Proofs.Ytknfodpegkpjnaa
open Go.RowKit
/-- Told: fields of the document, and an error. -/
def TellsFf (w : World) (x : List Ff × Nat) (e : Ending) (w' : World) : Prop := ∃ v, e = .returned (.tuple #[v, .int .i64 (x.2 : Int)]) ∧ Of w' w.heap.size v x.1 ∧ Below w.heap.size w w'
theorem of_snoc {w1 : World} {base : Nat} {l : List Ff} {n i v : Int} {t : ByteArray} {f : Ff} (hf : fv f = .agg #[.int .i64 n, .int .u8 i, .int .u64 v, .string t]) {v' : Value} (h : w1.ownsRow base 52 4 v' (l.length + 1) (cells4 l ++ [.int .i64 n, .int .u8 i, .int .u64 v, .string t])) : Of w1 base v' (l ++ [f]) := by
  unfold fv at hf
  simp at hf
  obtain ⟨h1, h2, h3, h4⟩ := hf
  unfold Of
  rw [cells4_append, List.length_append, List.length_singleton, h1, h2, h3, h4]
  exact h
theorem Of.alloc {w : World} {base : Nat} {v : Value} {l : List Ff} (h : Of w base v l) (o : Obj) : Of (w.alloc o) base v l := World.ownsRow.alloc h o
theorem Og.alloc {w : World} {base : Nat} {v : Value} {l : List Gf} (h : Og w base v l) (o : Obj) : Og (w.alloc o) base v l := World.ownsRow.alloc h o
theorem one4 {n i v : Int} {t : ByteArray} : ∀ u ∈ [Value.int .i64 n, Value.int .u8 i, Value.int .u64 v, Value.string t], u.oneCell' = true := by simp [Value.oneCell']
theorem msg_end' {l : List UInt8} {acc : List Fd} (h : l = []) : msg l acc = (acc, 0) := by rw [h, msg_nil]
set_option maxRecDepth 100000 in
set_option maxHeartbeats 600000 in
theorem rread_any (s : ByteArray) (hs : s.size ≤ 1000000) (w : World) :
    Calls Try.prog 27 #[.string s] w (TellsFf w ((msg s.data.toList []).1.map ffd, (msg s.data.toList []).2)) := by
  obtain ⟨i0, hi, hz0, hz1, hz2⟩ := info_parts Try.info52
  obtain ⟨M, E, hME⟩ : ∃ M E, msg s.data.toList [] = (M, E) := ⟨_, _, rfl⟩
  have hM0 : msg (lft s 0) [] = (M, E) := hME
  rw [hME]
  have HM0 := Lib.hid hM0
  clear hME hM0
  go_enter Try.func27, Try.ntmps27
  go_wp2
  go_loopw [4, 5] (fun u x wr => ∃ (A : Nat) (acc : List Fd) (gs : List Ff), x = .int .i64 (A : Int) ∧ A ≤ s.size ∧ Hid (acc.map ffd = gs) ∧ gs.length ≤ A ∧ Hid (Of wr w.heap.size u gs) ∧ Hid (msg (lft s A) acc = (M, E)) ∧ Hid (Below w.heap.size w wr)) (fun _ x _ => s.size - (intOf x).toNat)
  case atStart => exact ⟨0, [], [], rfl, by omega, Lib.hid rfl, by simp, Lib.hid (World.ownsRow_nil _ _ _ _), HM0, Lib.hid (Below.refl _ _)⟩
  case round =>
    obtain ⟨A, acc, gs, rfl, hA, HGS, hgl, HO, HM, HB⟩ := hrel
    obtain ⟨ua, uc, hu⟩ := (HO.out).shape
    subst hu
    by_cases hlt : A < s.size
    · have hne : lft s A ≠ [] := fun e => by have := congrArg List.length e; rw [lft_length, List.length_nil] at this; omega
      obtain ⟨f, k, K, hx⟩ : ∃ f k K, rdf (lft s A) = (f, k, K) := ⟨_, _, _, rfl⟩
      obtain ⟨N, C, K1, hr⟩ : ∃ N C K1, Bt.rd (lft s A) 0 0 = (N, C, K1) := ⟨_, _, _, rfl⟩
      have hf := Bt.rd_facts (lft s A) 0 0 (by omega) (by simp)
      rw [hr] at hf
      dsimp only at hf
      have hx0 := hx
      unfold rdf at hx
      rw [hr] at hx
      dsimp only at hx
      have hrun := HM.out
      by_cases hK1 : K1 = 0
      · subst hK1
        rw [if_neg (by simp)] at hx
        obtain ⟨-, hC1, hC2⟩ := hf.2.1 rfl
        rw [Nat.zero_add, lft_length] at hC2
        have hN64 := hf.1
        have HT := Lib.hid (ruv_yes s A N C (by omega) (by omega) hr)
        have hA2 : A + C ≤ s.size := by omega
        have hq : N / 8 < 2305843009213693952 := by omega
        have hr8 : N % 8 < 8 := by omega
        have q1 : (N : Int).tdiv 8 = ((N / 8 : Nat) : Int) := by rw [Int.tdiv_eq_ediv_of_nonneg (by omega)]; omega
        have q2 : (N : Int) / 8 = ((N / 8 : Nat) : Int) := by omega
        have q3 : (N : Int).tmod 8 = ((N % 8 : Nat) : Int) := by rw [Int.tmod_eq_emod_of_nonneg (by omega)]; omega
        have q4 : (N : Int) % 8 = ((N % 8 : Nat) : Int) := by omega
        by_cases hbig : 4294967296 ≤ N
        · rw [if_pos (.inl hbig)] at hx
          simp only [Prod.mk.injEq] at hx
          obtain ⟨rfl, rfl, rfl⟩ := hx
          rw [msg_no hne (by rw [hx0]) (by decide)] at hrun
          have HRN := Lib.hid hrun
          have hbi : 4294967296 ≤ (N : Int) := by omega
          have hqi : ((N / 8 : Nat) : Int) < 2305843009213693952 := by omega
          have hqi0 : 0 ≤ ((N / 8 : Nat) : Int) := by omega
          have hri : ((N % 8 : Nat) : Int) < 8 := by omega
          have hri0 : 0 ≤ ((N % 8 : Nat) : Int) := by omega
          clear hrun hx0 hr hf hN64 hbig hq hr8 hC1 hC2
          generalize ((N / 8 : Nat) : Int) = q at *
          generalize ((N % 8 : Nat) : Int) = r at *
          generalize (N : Int) = n at *
          generalize A + C = A2 at *
          go_wp2_with (go_at_call 43; refine (HT.out _).mono ?_; rintro e w' ⟨rfl, rfl⟩)
          go_ret2
          have h3 := HRN.out
          simp only [Prod.mk.injEq] at h3
          obtain ⟨rfl, rfl⟩ := h3
          exact ⟨_, rfl, World.ownsRow_nil _ _ _ _, HB.out.alloc HB.out.size _⟩
        · have hni : (N : Int) < 4294967296 := by omega
          have hqi : ((N / 8 : Nat) : Int) < 536870912 := by omega
          have hqi0 : 0 ≤ ((N / 8 : Nat) : Int) := by omega
          have hri : ((N % 8 : Nat) : Int) < 8 := by omega
          have hri0 : 0 ≤ ((N % 8 : Nat) : Int) := by omega
          have HMY := Lib.hid (fun W => rmay_any ⟨((N / 8 : Nat) : Int), N % 8, 0, ⟨#[]⟩⟩ W)
          have hmm : Ff.may ⟨((N / 8 : Nat) : Int), N % 8, 0, ⟨#[]⟩⟩ = mayk (N / 8) (N % 8) := by
            rw [Bool.eq_iff_iff, Ff.may_iff]
            unfold mayk
            simp only [Bool.and_eq_true, decide_eq_true_eq]
            omega
          rw [hmm] at HMY
          clear hmm
          unfold fv at HMY
          dsimp only at HMY
          cases hm : mayk (N / 8) (N % 8) with
          | false =>
            rw [if_pos (.inr hm)] at hx
            simp only [Prod.mk.injEq] at hx
            obtain ⟨rfl, rfl, rfl⟩ := hx
            rw [msg_no hne (by rw [hx0]) (by decide)] at hrun
            have HRN := Lib.hid hrun
            rw [hm] at HMY
            clear hrun hx0 hr hf hN64 hbig hq hr8 hC1 hC2 hm
            generalize ((N / 8 : Nat) : Int) = q at *
            generalize ((N % 8 : Nat) : Int) = r at *
            generalize (N : Int) = n at *
            generalize A + C = A2 at *
            go_wp2_with (go_at_call 43; refine (HT.out _).mono ?_; rintro e w' ⟨rfl, rfl⟩)
            refine (HMY.out _).mono ?_
            rintro e w1 ⟨rfl, hb1⟩
            have HB1 := Lib.hid ((HB.out.alloc HB.out.size (.cells #[.int .i64 q, .int .u8 r, .int .u64 0, .string ⟨#[]⟩] 52)).trans (hb1.mono (Nat.le_trans HB.out.size (by simp))))
            clear hb1
            go_wp2
            go_ret2
            have h3 := HRN.out
            simp only [Prod.mk.injEq] at h3
            obtain ⟨rfl, rfl⟩ := h3
            exact ⟨_, rfl, World.ownsRow_nil _ _ _ _, HB1.out⟩
          | true =>
            obtain ⟨m1, m2, m3⟩ := mayk_w hm
            rw [if_neg (by rw [hm]; simp; omega)] at hx
            rw [hm] at HMY
            obtain ⟨v, t, c, e, hv⟩ : ∃ v t c e, rdv (N % 8) (lft s (A + C)) = (v, t, c, e) := ⟨_, _, _, _, rfl⟩
            have hdr : List.drop C (lft s A) = lft s (A + C) := by rw [lft, lft, List.drop_drop]
            rw [hdr, hv] at hx
            dsimp only at hx
            have HV := Lib.hid (fun W => rvalue_any s (A + C) hA2 (by omega) ((N / 8 : Nat) : Int) (N % 8) v m3 t c e hv W)
            have hNB := Lib.hid (fun W => BoxF.new W ((N / 8 : Nat) : Int) ((N % 8 : Nat) : Int) 0 ⟨#[]⟩)
            by_cases he : e = 0
            · subst he
              rw [if_neg (by simp)] at hx
              simp only [Prod.mk.injEq] at hx
              obtain ⟨rfl, rfl, rfl⟩ := hx
              have RF := rdf_facts (by rw [lft_length]; omega) hx0
              have hk2 := RF.fits
              rw [lft_length] at hk2
              rw [msg_ok hne hx0 (by omega), show List.drop (C + c) (lft s A) = lft s (A + (C + c)) by rw [lft, lft, List.drop_drop]] at hrun
              have HRN := Lib.hid hrun
              have HV1 := Lib.hid (fun W => (HV.out W).1 rfl)
              have hfv : fv (ffd ⟨N / 8, N % 8, v, t⟩) = .agg #[.int .i64 ((N / 8 : Nat) : Int), .int .u8 ((N % 8 : Nat) : Int), .int .u64 (v : Int), .string (bs t)] := rfl
              have HSN := Lib.hid (fun (W : World) (v' : Value) (h : W.ownsRow w.heap.size 52 4 v' (gs.length + 1) (cells4 gs ++ [.int .i64 ((N / 8 : Nat) : Int), .int .u8 ((N % 8 : Nat) : Int), .int .u64 (v : Int), .string (bs t)])) => (of_snoc hfv h : Of W w.heap.size v' (gs ++ [ffd ⟨N / 8, N % 8, v, t⟩])))
              have HMF : Hid ((acc ++ [(⟨N / 8, N % 8, v, t⟩ : Fd)]).map ffd = gs ++ [ffd ⟨N / 8, N % 8, v, t⟩]) := Lib.hid (by rw [List.map_append, HGS.out]; rfl)
              have HGL : Hid ((gs ++ [ffd ⟨N / 8, N % 8, v, t⟩]).length = gs.length + 1) := Lib.hid (by simp)
              rw [show A + C + c = A + (C + c) by omega] at HV1
              have hAn : A + (C + c) ≤ s.size := by omega
              have hAn2 : A < A + (C + c) := by omega
              clear hrun hx0 hr hf hN64 hbig hq hr8 hC1 hC2 hm m1 m2 m3 hv hdr HV hk2 RF hfv
              generalize gs ++ [ffd ⟨N / 8, N % 8, v, t⟩] = gsn at *
              obtain ⟨accn, haccn⟩ : ∃ accn, acc ++ [(⟨N / 8, N % 8, v, t⟩ : Fd)] = accn := ⟨_, rfl⟩
              rw [haccn] at HMF HRN
              clear haccn
              generalize A + (C + c) = A3 at *
              generalize ((N / 8 : Nat) : Int) = q at *
              generalize ((N % 8 : Nat) : Int) = r at *
              generalize (N : Int) = n at *
              generalize (v : Int) = vv at *
              generalize bs t = tt at *
              generalize A + C = A2 at *
              go_wp2_with (go_at_call 43; refine (HT.out _).mono ?_; rintro e w' ⟨rfl, rfl⟩)
              refine (HMY.out _).mono ?_
              rintro e w1 ⟨rfl, hb1⟩
              have HB1 := Lib.hid ((HB.out.alloc HB.out.size (.cells #[.int .i64 q, .int .u8 r, .int .u64 0, .string ⟨#[]⟩] 52)).trans (hb1.mono (Nat.le_trans HB.out.size (by simp))))
              have HO1 := Lib.hid ((HO.out.alloc (.cells #[.int .i64 q, .int .u8 r, .int .u64 0, .string ⟨#[]⟩] 52)).below hb1 (Nat.le_refl _))
              have HX1 := Lib.hid ((hNB.out wr).below hb1 (Nat.le_refl _))
              obtain ⟨p0, p1, p2, p3⟩ := HX1.out.cells
              clear hb1
              go_wp2_with fail
              refine (HV1.out _).mono ?_
              rintro e w2 ⟨rfl, hb2⟩
              have HB2 := Lib.hid (HB1.out.trans (hb2.mono HB1.out.size))
              have HO2 := Lib.hid (HO1.out.below hb2 (Nat.le_refl _))
              have HX2 := Lib.hid (HX1.out.below hb2 (Nat.le_refl _))
              obtain ⟨q0, q1, q2, q3⟩ := HX2.out.cells
              have z0 := HX2.out.free 0
              have z1 := HX2.out.free 1
              have z2 := HX2.out.free 2
              have z3 := HX2.out.free 3
              clear hb2 p0 p1 p2 p3
              have hne2 : (Value.slice ua gs.length uc).ownBlock = none ∨ (Value.slice ua gs.length uc).ownBlock ≠ some wr.heap.size := by
                right
                intro e
                have := (own_lt HO.out _ e).2
                omega
              have hgr := grownBy_setCells wr.heap.size 0 [.int .i64 q, .int .u8 r, .int .u64 vv, .string tt] w2
              have hlt2 := HX2.out.lt
              have HO3 : Hid (Of ((((w2.setCell ⟨wr.heap.size, 0, none⟩ (.int .i64 q)).setCell ⟨wr.heap.size, 1, none⟩ (.int .u8 r)).setCell ⟨wr.heap.size, 2, none⟩ (.int .u64 vv)).setCell ⟨wr.heap.size, 3, none⟩ (.string tt)) w.heap.size (.slice ua gs.length uc) gs) := Lib.hid (World.ownsRow.kept HO2.out hgr hne2)
              have HB3 : Hid (Below w.heap.size w ((((w2.setCell ⟨wr.heap.size, 0, none⟩ (.int .i64 q)).setCell ⟨wr.heap.size, 1, none⟩ (.int .u8 r)).setCell ⟨wr.heap.size, 2, none⟩ (.int .u64 vv)).setCell ⟨wr.heap.size, 3, none⟩ (.string tt))) := Lib.hid (HB2.out.grown hgr HB2.out.size (fun g hg => by cases hg; exact HB.out.size))
              have hsz3 : ((((w2.setCell ⟨wr.heap.size, 0, none⟩ (.int .i64 q)).setCell ⟨wr.heap.size, 1, none⟩ (.int .u8 r)).setCell ⟨wr.heap.size, 2, none⟩ (.int .u64 vv)).setCell ⟨wr.heap.size, 3, none⟩ (.string tt)).heap.size = w2.heap.size := by simp
              have hcn := cells_new4 ((((w2.setCell ⟨wr.heap.size, 0, none⟩ (.int .i64 q)).setCell ⟨wr.heap.size, 1, none⟩ (.int .u8 r)).setCell ⟨wr.heap.size, 2, none⟩ (.int .u64 vv)).setCell ⟨wr.heap.size, 3, none⟩ (.string tt)) (.int .i64 q) (.int .u8 r) (.int .u64 vv) (.string tt) 52
              rw [hsz3] at hcn
              have HCN := Lib.hid hcn
              clear hcn
              have HSZ := Lib.hid hsz3
              have HLE : Hid (w.heap.size ≤ w2.heap.size) := Lib.hid HB2.out.size
              clear hgr hne2 hlt2 hsz3
              go_wp2_with (at_builtin; refine wpList_append_own_at _ rfl (.tmp 49) (.tmp 51) 56 rfl w.heap.size 52 i0 _ 4 40 Try.underlying56 hi hz0 hz1 hz2 (by rfl) (by decide) (.slice ua gs.length uc) gs.length (cells4 gs) rfl (World.ownsRow.alloc HO3.out _) ⟨w2.heap.size, 0, none⟩ 1 1 [.int .i64 q, .int .u8 r, .int .u64 vv, .string tt] rfl rfl HCN.out one4 (by unfold maxLen; omega) (by omega) (by have h1 := HSZ.out; have h2 := HLE.out; rw [World.size_alloc]; omega) ?_; intro v' w6 hown' hgrow hnil hloc; have HON := Lib.hid (HSN.out _ _ hown'); have HB6 := Lib.hid ((HB3.out.alloc (by have h1 := HSZ.out; have h2 := HLE.out; omega) _).grown hgrow (by have h1 := HSZ.out; have h2 := HLE.out; rw [World.size_alloc]; omega) (fun g hg => (own_lt HO3.out g hg).1)); clear hown' hgrow hnil hloc)
              go_roundw
              case rel => exact ⟨A3, accn, gsn, by go_num, hAn, HMF, by have := HGL.out; omega, HON, HRN, HB6⟩
              case measure => simp [intOf]; omega
            · rw [if_pos he] at hx
              simp only [Prod.mk.injEq] at hx
              obtain ⟨rfl, rfl, rfl⟩ := hx
              rw [msg_no hne (by rw [hx0]) he] at hrun
              have HRN := Lib.hid hrun
              have HV1 := Lib.hid (fun W => (HV.out W).2 he)
              have he2 : ((e : Int) != 0) = true := by rw [bne_iff_ne]; omega
              clear hrun hx0 hr hf hN64 hbig hq hr8 hC1 hC2 hm m1 m2 m3 hv hdr HV he
              generalize ((N / 8 : Nat) : Int) = q at *
              generalize ((N % 8 : Nat) : Int) = r at *
              generalize (N : Int) = n at *
              generalize A + C = A2 at *
              go_wp2_with (go_at_call 43; refine (HT.out _).mono ?_; rintro e w' ⟨rfl, rfl⟩)
              refine (HMY.out _).mono ?_
              rintro e w1 ⟨rfl, hb1⟩
              have HB1 := Lib.hid ((HB.out.alloc HB.out.size (.cells #[.int .i64 q, .int .u8 r, .int .u64 0, .string ⟨#[]⟩] 52)).trans (hb1.mono (Nat.le_trans HB.out.size (by simp))))
              have HX1 := Lib.hid ((hNB.out wr).below hb1 (Nat.le_refl _))
              obtain ⟨p0, p1, p2, p3⟩ := HX1.out.cells
              clear hb1
              go_wp2_with fail
              refine (HV1.out _).mono ?_
              rintro e w2 ⟨n2, i2, v2, t2, x2, rfl, hb2⟩
              have HB2 := Lib.hid (HB1.out.trans (hb2.mono HB1.out.size))
              have HX2 := Lib.hid (HX1.out.below hb2 (Nat.le_refl _))
              obtain ⟨q0, q1, q2, q3⟩ := HX2.out.cells
              have z0 := HX2.out.free 0
              have z1 := HX2.out.free 1
              have z2 := HX2.out.free 2
              have z3 := HX2.out.free 3
              clear hb2 p0 p1 p2 p3
              have hgr := grownBy_setCells wr.heap.size 0 [.int .i64 n2, .int .u8 i2, .int .u64 v2, .string t2] w2
              have HB3 : Hid (Below w.heap.size w ((((w2.setCell ⟨wr.heap.size, 0, none⟩ (.int .i64 n2)).setCell ⟨wr.heap.size, 1, none⟩ (.int .u8 i2)).setCell ⟨wr.heap.size, 2, none⟩ (.int .u64 v2)).setCell ⟨wr.heap.size, 3, none⟩ (.string t2))) := Lib.hid (HB2.out.grown hgr HB2.out.size (fun g hg => by cases hg; exact HB.out.size))
              clear hgr
              go_wp2_with fail
              go_ret2
              have h3 := HRN.out
              simp only [Prod.mk.injEq] at h3
              obtain ⟨rfl, rfl⟩ := h3
              exact ⟨_, rfl, World.ownsRow_nil _ _ _ _, HB3.out⟩
      · rw [if_pos hK1] at hx
        simp only [Prod.mk.injEq] at hx
        obtain ⟨rfl, rfl, rfl⟩ := hx
        rw [msg_no hne (by rw [hx0]) hK1] at hrun
        have HRN := Lib.hid hrun
        have HT := Lib.hid (ruv_not s A N C K1 (by omega) (by omega) hK1 hr).2.2
        have hk2 : ((K1 : Int) != 0) = true := by rw [bne_iff_ne]; omega
        clear hrun hx0 hr hf hK1
        go_wp2_with (go_at_call 43; refine (HT.out _).mono ?_; rintro e w' ⟨rfl, rfl⟩)
        go_ret2
        have h3 := HRN.out
        simp only [Prod.mk.injEq] at h3
        obtain ⟨rfl, rfl⟩ := h3
        exact ⟨_, rfl, World.ownsRow_nil _ _ _ _, HB.out⟩
    · obtain rfl : A = s.size := by omega
      have hrun := HM.out
      rw [msg_end' (by rw [lft]; simp)] at hrun
      simp only [Prod.mk.injEq] at hrun
      obtain ⟨rfl, rfl⟩ := hrun
      go_wp2
      go_ret2
      refine ⟨_, rfl, ?_, HB.out⟩
      dsimp only
      rw [HGS.out]
      exact HO.out
end Go.Proofs.Ytknfodpegkpjnaa
