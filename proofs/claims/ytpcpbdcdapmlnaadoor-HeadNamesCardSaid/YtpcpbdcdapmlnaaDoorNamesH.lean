/- HeadNames: the closed law answers true. Condition: the table of package sum reads as its initialiser lays it (tied to the program's text by the card). -/
import Derived.Test.YtpcpbdcdapmlnaaDoorCards
import Derived.Test.YtpcpbdcdapmlnaaDoorTie
import Derived.Test.YtpcpbdcdapmlnaaDoorSf
import Derived.Test.YtpcpbdcdapmlnaaDoorNa
import Derived.SevenTiedAt
namespace Go.Proofs.YtpcpbdcdapmlnaaDoor.headNames
open Go Go.ChangeShapes Go.WideShapes Go.ChangeAt Go.RowKit
open Go.ChangeMaps (open_string shut_string)
set_option linter.unusedVariables false
set_option maxRecDepth 100000
set_option maxHeartbeats 4000000 in
theorem core (w : World) (hT : Hid (Tab w)) : Calls Tryd.prog 3 #[] w fun e w' => e = .returned (.bool true) ∧ Below w.heap.size w w' := by
  have HA := Lib.hid (awake_any w hT)
  have HM := Lib.hid (fun W m (hk : KAt W m [2]) => may_any ⟨1099511627776, 1099511627776, 31, [2]⟩ m W hk (by decide))
  rw [show mayB ⟨1099511627776, 1099511627776, 31, [2]⟩ = true by rfl] at HM
  unfold hval at HM
  dsimp only at HM
  go_enter Tryd.func3, Tryd.ntmps3
  go_wp2_with fail
  refine HA.out.mono ?_
  rintro e w1 ⟨rfl, hb⟩
  have HB1 := Lib.hid hb
  clear hb
  have K2 := Lib.hid (kat_1 (heap_alloc_new w1 (.cells #[.int .i64 2] 3)))
  go_wp2_with fail
  refine (HM.out _ _ K2.out).mono ?_
  rintro e w2 ⟨rfl, hb⟩
  have HB2 := Lib.hid (below_trans' (below_trans' HB1.out (below_one w1 (.cells #[.int .i64 2] 3))) hb)
  clear hb K2
  go_wp2
  go_loopw [60] (fun i wl => ∃ k : Nat, i = .int .i64 (k : Int) ∧ k ≤ 16 ∧ Hid (Trow w2.heap.size wl) ∧ Hid (Below w.heap.size w wl)) (fun i _ => 16 - (intOf i).toNat)
  case atStart => exact ⟨0, rfl, by omega, Lib.hid (Trow.new w2), Lib.hid (below_trans' HB2.out (allocs_below (osR w2.heap.size) w2))⟩
  case round =>
    obtain ⟨k, rfl, hk, HR, HB⟩ := hrel
    by_cases hlt : k < 16
    · obtain ⟨p0, p1, p2, p3⟩ := HR.out.c k hlt
      have hrs := HR.out.s
      have q0 : wr.cell? ⟨w2.heap.size + 1 + 1 + 1 + 1 + 1 + 1 + 1 + 1 + 1 + 1 + 1 + 1 + 1 + 1, k * 4, none⟩ = _ := p0
      have q1 : wr.cell? ⟨w2.heap.size + 1 + 1 + 1 + 1 + 1 + 1 + 1 + 1 + 1 + 1 + 1 + 1 + 1 + 1, k * 4 + 1, none⟩ = _ := p1
      have q2 : wr.cell? ⟨w2.heap.size + 1 + 1 + 1 + 1 + 1 + 1 + 1 + 1 + 1 + 1 + 1 + 1 + 1 + 1, k * 4 + 2, none⟩ = _ := p2
      have q3 : wr.cell? ⟨w2.heap.size + 1 + 1 + 1 + 1 + 1 + 1 + 1 + 1 + 1 + 1 + 1 + 1 + 1 + 1, k * 4 + 3, none⟩ = _ := p3
      clear p0 p1 p2 p3
      have hm := bad_no k hlt
      have KK := Lib.hid (fun W (h : Trow w2.heap.size W) => h.K k hlt)
      have hl := bad_len k
      obtain ⟨la, lc, hlv⟩ := lv_slice w2.heap.size k
      rw [hlv] at q3 KK
      clear hlv
      generalize bad k = h at *
      obtain ⟨hg, hbs, hs, hlog⟩ := h
      dsimp only at *
      have CE := Lib.hid (fun W (hr : Trow w2.heap.size W) => encode_no ⟨hg, hbs, hs, hlog⟩ _ W (KK.out W hr) hl hm)
      have CM := Lib.hid (fun W (hr : Trow w2.heap.size W) => may_any ⟨hg, hbs, hs, hlog⟩ _ W (KK.out W hr) hl)
      have CN := Lib.hid (fun W => dnew_any 100 (by omega) W)
      have CS := Lib.hid (fun W (hr : Trow w2.heap.size W) (hT' : Tab W) => hsize_any ⟨hg, hbs, hs, hlog⟩ _ W (KK.out W hr) hl (Lib.hid hT'))
      have CP := Lib.hid (fun W B (hB : DAt W B D0) (hd : D0.ok) (hr : Trow w2.heap.size W) (hT' : Tab W) => put_any B D0 ⟨hg, hbs, hs, hlog⟩ _ W hB hd (KK.out W hr) hl (Lib.hid hT'))
      rw [show putR D0 ⟨hg, hbs, hs, hlog⟩ = (D0, 4) by unfold putR; rw [hm, if_neg (by simp)]] at CP
      rw [show sizR ⟨hg, hbs, hs, hlog⟩ = 0 by unfold sizR; rw [hm, if_neg (by simp)]] at CS
      rw [hm] at CM
      unfold hval at CE CM CS CP
      dsimp only at CE CM CS CP
      clear hm KK
      have Z0 := Lib.hid (Box4.new wr (.int .i64 hg) (.int .i64 hbs) (.int .i64 hs) (.slice la hlog.length lc))
      have HR0 := Lib.hid (HR.out.below (below_one wr (.cells #[.int .i64 hg, .int .i64 hbs, .int .i64 hs, .slice la hlog.length lc] 26)))
      have HB0 := Lib.hid (below_trans' HB.out (below_one wr (.cells #[.int .i64 hg, .int .i64 hbs, .int .i64 hs, .slice la hlog.length lc] 26)))
      go_wp2_with fail
      refine (CE.out _ HR0.out).mono ?_
      rintro e w3 ⟨rfl, hb⟩
      have Z3 := Lib.hid (Z0.out.below hb Z0.out.lt)
      have HR3 := Lib.hid (HR0.out.below hb)
      have HB3 := Lib.hid (below_trans' HB0.out hb)
      clear hb Z0 HR0 HB0 q0 q1 q2 q3
      go_wp2_with fail
      refine (CN.out _).mono ?_
      rintro e w4 ⟨B, hB, rfl, hd, hok, hb⟩
      have Z4 := Lib.hid (Z3.out.below hb Z3.out.lt)
      have hz4 : wr.heap.size < B := by have := Z3.out.lt; omega
      have HR4 := Lib.hid (HR3.out.below hb)
      have hrb : w2.heap.size + 15 ≤ B := Nat.le_trans HR3.out.s hB
      have HB4 := Lib.hid (below_trans' HB3.out hb)
      have hbz : w.heap.size ≤ B := Nat.le_trans HB3.out.size hB
      have D4 : Hid (DAt w4 B D0) := Lib.hid hd
      have hok0 : D0.ok := hok
      have CP2 := Lib.hid (fun W hB hr hT' => CP.out W B hB hok0 hr hT')
      have CU := Lib.hid (fun W (hB : DAt W B D0) => used_any B D0 W hB hok0)
      rw [show D0.used = 0 from made0_used 100] at CU
      clear hb hd hok CP hok0 Z3 HR3 HB3 hB
      generalize D0 = d0 at *
      have x0 := Z4.out.c0; have x1 := Z4.out.c1; have x2 := Z4.out.c2; have x3 := Z4.out.c3
      go_wp2_with fail
      refine (CM.out _ HR4.out).mono ?_
      rintro e w5 ⟨rfl, hb⟩
      have Z5 := Lib.hid (Z4.out.below hb Z4.out.lt)
      have HR5 := Lib.hid (HR4.out.below hb)
      have HB5 := Lib.hid (below_trans' HB4.out hb)
      have D5 := Lib.hid (D4.out.below hb D4.out.lt)
      clear hb x0 x1 x2 x3 Z4 HR4 HB4 D4
      have x0 := Z5.out.c0; have x1 := Z5.out.c1; have x2 := Z5.out.c2; have x3 := Z5.out.c3
      go_wp2_with fail
      refine (CS.out _ HR5.out (hT.out.below HB5.out)).mono ?_
      rintro e w6 ⟨rfl, hb⟩
      have Z6 := Lib.hid (Z5.out.below hb Z5.out.lt)
      have HR6 := Lib.hid (HR5.out.below hb)
      have HB6 := Lib.hid (below_trans' HB5.out hb)
      have D6 := Lib.hid (D5.out.below hb D5.out.lt)
      clear hb x0 x1 x2 x3 Z5 HR5 HB5 D5
      have x0 := Z6.out.c0; have x1 := Z6.out.c1; have x2 := Z6.out.c2; have x3 := Z6.out.c3
      go_wp2_with fail
      refine (CP2.out _ D6.out HR6.out (hT.out.below HB6.out)).mono ?_
      rintro e w7 ⟨rfl, hd, hgr⟩
      have HR7 := Lib.hid (HR6.out.grown hgr hrb)
      have HB7 := Lib.hid (HB6.out.grown hgr HB6.out.size (fun q hq => by cases hq; exact hbz))
      have D7 := Lib.hid hd
      clear hd hgr x0 x1 x2 x3 Z6 HR6 HB6 D6
      go_wp2_with fail
      refine (CU.out _ D7.out).mono ?_
      rintro e w8 ⟨rfl, hb⟩
      have HR8 := Lib.hid (HR7.out.below hb)
      have HB8 := Lib.hid (below_trans' HB7.out hb)
      clear hb HR7 HB7 D7
      go_wp2
      go_roundw
      case rel => exact ⟨k + 1, by go_num, by omega, HR8, HB8⟩
      case measure => simp [intOf]; omega
    · have HRB := HB
      have hge : decide ((k : Int) < 16) = false := decide_eq_false (by omega)
      obtain ⟨w9, hw9⟩ : ∃ wo, wo = wr := ⟨_, rfl⟩
      subst hw9
      clear HR HB hk
      have HP0 : Hid (Tpy w9.heap.size (w9.alloc (.cells psV 37))) := Lib.hid ⟨heap_alloc_new w9 (.cells psV 37)⟩
      have HB0 : Hid (Below w.heap.size w (w9.alloc (.cells psV 37))) := Lib.hid (below_trans' HRB.out (below_one w9 (.cells psV 37)))
      go_wp2
      go_loopw [117] (fun i wl => ∃ j : Nat, i = .int .i64 (j : Int) ∧ j ≤ 11 ∧ Hid (Tpy w9.heap.size wl) ∧ Hid (Below w.heap.size w wl)) (fun i _ => 11 - (intOf i).toNat)
      case atStart => exact ⟨0, rfl, by omega, HP0, HB0⟩
      case round =>
        clear HP0 HB0 HRB hge hlt
        obtain ⟨j, rfl, hj, HP, HB⟩ := hrel
        by_cases hlt : j < 11
        · obtain ⟨p0, p1⟩ := HP.out.c j hlt
          obtain ⟨i1, i2⟩ := ps_is j hlt
          have hsz := ps_size j
          have hel := es_le j
          have CD := Lib.hid (fun W => decode_any (ps j) (by omega) W)
          rw [i1] at CD
          generalize ps j = s at *
          generalize es j = E at *
          generalize (dcR s).1 = h at *
          have n1 : ((E : Int) != (E : Int)) = false := by simp
          have n2 : (!((h.gen != 0) == ((E : Int) == 0))) = false := by rw [i2, beq_dec]; simp
          have X0 : Hid ((wr.alloc (.cells #[.string s, .int .i64 (E : Int)] 37)).heap[wr.heap.size]? = some (.cells #[.string s, .int .i64 (E : Int)] 37 (0, 0))) := Lib.hid (heap_alloc_new _ _)
          have HP0 := Lib.hid (HP.out.below (below_one wr (.cells #[.string s, .int .i64 (E : Int)] 37)))
          have HB0 := Lib.hid (below_trans' HB.out (below_one wr (.cells #[.string s, .int .i64 (E : Int)] 37)))
          clear i1 i2 hsz
          have b0 : (wr.alloc (.cells #[.string s, .int .i64 (E : Int)] 37)).cell? ⟨wr.heap.size, 0, none⟩ = some (.string s) := two_c0 X0.out
          go_wp2_with fail
          refine (CD.out _).mono ?_
          rintro e w3 ⟨v, rfl, ho, hb⟩
          obtain ⟨va, vc, hv⟩ := ho.shape
          rw [List.length_map] at hv
          subst hv
          have X3 := Lib.hid ((hb.block wr.heap.size (by simp)).trans X0.out)
          have HP3 := Lib.hid ((HP0.out.below hb).below (below_one w3 (.cells #[.int .i64 h.gen, .int .i64 h.base, .int .i64 h.snap, .slice va h.log.length vc] 26)))
          have HB3 := Lib.hid (below_trans' (below_trans' HB0.out hb) (below_one w3 (.cells #[.int .i64 h.gen, .int .i64 h.base, .int .i64 h.snap, .slice va h.log.length vc] 26)))
          have hlt3 : wr.heap.size < w3.heap.size := (Array.getElem?_eq_some_iff.1 X3.out).1
          have hne3 : wr.heap.size ≠ w3.heap.size := by omega
          have b1 : w3.cell? ⟨wr.heap.size, 1, none⟩ = some (.int .i64 (E : Int)) := two_c1 X3.out
          clear ho hb X0 HP0 HB0 b0
          have HV : Hid (hval h (.slice va h.log.length vc) = .agg #[.int .i64 h.gen, .int .i64 h.base, .int .i64 h.snap, .slice va h.log.length vc]) := Lib.hid rfl
          rw [HV.out]
          go_wp2
          go_roundw
          case rel => exact ⟨j + 1, by go_num, by omega, HP3, HB3⟩
          case measure => simp [intOf]; omega
        · have hge : decide ((j : Int) < 11) = false := decide_eq_false (by omega)
          have LN := Lib.hid load_nil
          have DN := Lib.hid (fun W => dnew_any 13 (by omega) W)
          have OF := Lib.hid (fun W hT' => of_any' ⟨#[]⟩ (by decide) W (Lib.hid hT'))
          rw [ofB_nil] at OF
          have PN := Lib.hid put_nil
          have PS := Lib.hid (fun W B v (hB : DAt W B (made0 13 [])) (hd : (made0 13 []).ok) hk (hT' : Tab W) => put_any B (made0 13 []) (hA 1) v W hB hd hk (by decide) (Lib.hid hT'))
          rw [put_13] at PS
          have U0 := Lib.hid (fun W v hk => uses_any (hA 1) 0 v W hk (by decide))
          have U2 := Lib.hid (fun W v hk => uses_any (hA 1) 2 v W hk (by decide))
          rw [us_0] at U0
          rw [us_2] at U2
          have FR := Lib.hid (fun W v hk => free_any he0 v W hk (by decide))
          have HVA : Hid (∀ v, hval (hA 1) v = .agg #[.int .i64 1, .int .i64 0, .int .i64 0, v]) := Lib.hid (fun v => rfl)
          have A0 : Hid (Ax wr ((wr.alloc (.cells #[.int .i64 2] 3)).alloc (.cells #[.int .i64 1, .int .i64 0, .int .i64 0, .slice (some ⟨wr.heap.size, 0, none⟩) 1 1] 26)) 1) := by
            refine Lib.hid ⟨(Below.heap_alloc _ _ _ (by simp)).trans (heap_alloc_new _ _), ?_, below_two _ _ _⟩
            have := Box4.new (wr.alloc (.cells #[.int .i64 2] 3)) (.int .i64 1) (.int .i64 0) (.int .i64 0) (.slice (some ⟨wr.heap.size, 0, none⟩) 1 1)
            rw [World.size_alloc] at this; exact this
          go_wp2_with fail
          refine (LN.out _).mono ?_
          rintro e w3 ⟨v, rfl, ho, hb⟩
          obtain ⟨va, vc, hv⟩ := ho.shape
          rw [List.length_map] at hv
          subst hv
          have A3 := Lib.hid ((A0.out.belowAll hb).belowAll (below_one w3 (.cells #[.int .i64 0, .int .i64 0, .int .i64 0, .slice va 0 vc] 26)))
          have HV : Hid (hval he0 (.slice va he0.log.length vc) = .agg #[.int .i64 0, .int .i64 0, .int .i64 0, .slice va 0 vc]) := Lib.hid rfl
          rw [HV.out]
          clear ho hb A0
          go_wp2_with fail
          refine (DN.out _).mono ?_
          rintro e w4 ⟨B, hB, rfl, hd, hok, hb⟩
          have A4 := Lib.hid (A3.out.belowAll hb)
          have D4 := Lib.hid hd
          have hBz : wr.heap.size + 2 ≤ B := by
            have := (Array.getElem?_eq_some_iff.1 A3.out.X).1
            omega
          have HOK := Lib.hid hok
          clear hb hd hok hB A3
          go_wp2_with fail
          refine (OF.out _ (hT.out.below (below_trans' HB.out A4.out.B))).mono ?_
          rintro e w5 ⟨v5, rfl, ho, hb⟩
          generalize (ofB ⟨#[]⟩).1 = h5 at *
          obtain ⟨va5, vc5, hv⟩ := ho.shape
          rw [List.length_map] at hv
          subst hv
          have HV5 : Hid (hval h5 (.slice va5 h5.log.length vc5) = .agg #[.int .i64 h5.gen, .int .i64 h5.base, .int .i64 h5.snap, .slice va5 h5.log.length vc5]) := Lib.hid rfl
          rw [HV5.out]
          have A5 := Lib.hid ((A4.out.belowAll hb).belowAll (below_one w5 (.cells #[.int .i64 h5.gen, .int .i64 h5.base, .int .i64 h5.snap, .slice va5 h5.log.length vc5] 26)))
          have D5 := Lib.hid ((D4.out.below hb D4.out.lt).alloc (.cells #[.int .i64 h5.gen, .int .i64 h5.base, .int .i64 h5.snap, .slice va5 h5.log.length vc5] 26))
          clear ho hb A4 D4
          have x0 := A5.out.X.c0; have x1 := A5.out.X.c1; have x2 := A5.out.X.c2; have x3 := A5.out.X.c3
          go_wp2_with fail
          refine (PN.out 1 0 0 _ _).mono ?_
          rintro e w6 ⟨rfl, hb⟩
          have A6 := Lib.hid (A5.out.belowAll hb)
          have D6 := Lib.hid (D5.out.below hb D5.out.lt)
          clear hb x0 x1 x2 x3 A5 D5
          go_wp2_with fail
          refine (PN.out 0 0 0 _ _).mono ?_
          rintro e w7 ⟨rfl, hb⟩
          have A7 := Lib.hid (A6.out.belowAll hb)
          have D7 := Lib.hid (D6.out.below hb D6.out.lt)
          clear hb A6 D6
          have x0 := A7.out.X.c0; have x1 := A7.out.X.c1; have x2 := A7.out.X.c2; have x3 := A7.out.X.c3
          go_wp2_with fail
          refine (PS.out _ _ _ D7.out HOK.out A7.out.kat (hT.out.below (below_trans' HB.out A7.out.B))).mono ?_
          rintro e w8 ⟨rfl, hd, hgr⟩
          have A8 := Lib.hid (A7.out.disk hgr hBz)
          clear hd hgr x0 x1 x2 x3 A7 D7
          have x0 := A8.out.X.c0; have x1 := A8.out.X.c1; have x2 := A8.out.X.c2; have x3 := A8.out.X.c3
          go_wp2_with fail
          refine (U0.out _ _ A8.out.kat).mono ?_
          rintro e w9 ⟨rfl, hb⟩
          have A9 := Lib.hid (A8.out.belowAll hb)
          clear hb x0 x1 x2 x3 A8
          have x0 := A9.out.X.c0; have x1 := A9.out.X.c1; have x2 := A9.out.X.c2; have x3 := A9.out.X.c3
          go_wp2_with fail
          refine (U2.out _ _ A9.out.kat).mono ?_
          rintro e wa ⟨rfl, hb⟩
          have Aa := Lib.hid (A9.out.belowAll hb)
          clear hb x0 x1 x2 x3 A9
          go_wp2_with fail
          refine (FR.out _ (.slice none 0 0) (.inl ⟨rfl, _, _, rfl⟩)).mono ?_
          rintro e wb ⟨v, rfl, ho, hb⟩
          obtain ⟨vb, vd, hv⟩ := ho.shape
          rw [List.length_map, frL_he0] at hv
          subst hv
          have HBb := Lib.hid (below_trans' HB.out (below_trans' Aa.out.B hb))
          clear ho hb
          go_wp2
          go_ret
          exact ⟨rfl, HBb.out⟩
set_option maxRecDepth 100000 in
theorem lifted (os : Os) (started : os.Started) (H : Type) (enc : TypeId × Value → H) :
    ReturnsInHanded {} Tryd.checked os 3 .any (fun w args => (Rows.headNamesSpec.pre enc Tryd.prog Tryd.f3 [] false w args ∧ laidMetH Tryd.prog laid w) ∧ sizedMet enc Tryd.prog Tryd.f3 (OpenSpec.ofChange Rows.headNamesSpec) false w args)
      (Rows.headNamesSpec.post enc Tryd.prog Tryd.f3 false true false false) := by
  refine returnsInHanded_of_change_and (C := Tryd.checked) (X := fun w _ => laidMetH Tryd.prog laid w) (fun _ _ _ hh h => h.of_heap hh) own started (by kernel_rfl) Tryd.func3
    (ChangeSpec.witness_shaped (enc := enc) (C := Tryd.checked) (os := os) (X := fun w _ => laidMetH Tryd.prog laid w) false (World.doorLaid Tryd.prog doorSteps os) #[] 8 rfl (World.shaped_of_RefB (by kernel_rfl) (by kernel_rfl)) (by kernel_rfl) (by kernel_rfl) (by kernel_rfl) (door_met os _)) ?_
  intro W base args ds gs before hval0 hW hcnd _ hL _
  have hval : ∀ (j : Nat) t v, Tryd.f3.params[j]? = some t → args[j]? = some v → Value.okWide Tryd.prog W .any base t v := hval0
  have hW' := hW
  obtain ⟨p, q, hA0, hV, rfl, hfz, hnd⟩ := hW
  have hA : DataW.TrodAll enc Tryd.prog W 0 (fun _ => true) true Tryd.f3.params.toList args.toList ds p := hA0
  rw [Tryd.params3] at hA hval
  obtain ⟨hargs, rfl, rfl⟩ := trodAll_nil hA
  obtain rfl : args = #[] := by cases args; simp_all
  obtain ⟨rfl, rfl⟩ := trodVars_none hV
  clear hA0 hval0
  refine (core  W  (Lib.hid (of_laid hL))).mono fun e W' ⟨he, bel⟩ => ?_
  subst he
  exact ⟨_, rfl, _, _, _, [], _, [], hW', trodAll_mk1 (shut_bool Tryd.underlying4 _), trodAll_mk0, rfl, bel.frame _, fun h => by cases h⟩
theorem over : Rows.headNamesRow.holds Tryd.pinned (OpenSpec.ofChange Rows.headNamesSpec) :=
  OpenClaim.holds_of_wide 3 Tryd.f3 rfl rfl rfl rfl rfl rfl rfl ⟨rfl, rfl, rfl, rfl, rfl⟩ rfl rfl rfl rfl rfl (by kernel_rfl) Tryd.func3 (by kernel_rfl)
    (of_decide_eq_true (by kernel_rfl)) (by unfold Func.isWrapper; first | (rw [if_pos (by decide +kernel)]; kernel_rfl) | (rw [if_neg (by decide +kernel)]; exact ⟨rfl, rfl⟩))
    (fun os started H enc _ => lifted os started H enc)
theorem proved : Rows.HeadNamesCardSaid :=
  Claim7.holds_tied_plain_at .later [] [.data] true (true, "fa333dfdddc382f694442b4cc08e4f2c22340b87e27345508ae927b0c2bc7496") false
    over (fun _ h => by cases h) (by kernel_rfl) (fun _ h => by cases h) headNames_row_tie rfl ⟨rfl, rfl⟩ (by kernel_rfl) rfl
    (fun f fn hf hfn => by
      obtain rfl : f = 3 := Option.some.inj ((show Tryd.prog.funcNamed "baton/batonlaw09.HeadNames" = some 3 by kernel_rfl).symm.trans hf) |>.symm
      obtain rfl : fn = Tryd.f3 := (Option.some.inj (Tryd.func3.symm.trans hfn)).symm
      exact ⟨by kernel_rfl, fun j t ht => by
        rw [Tryd.params3] at ht
        simp at ht⟩)
    (by kernel_rfl)
end Go.Proofs.YtpcpbdcdapmlnaaDoor.headNames
