/- HeadRises: for any heads the law answers true. Condition: the table of package sum reads as its initialiser lays it (tied to the program's text by the card). -/
import Derived.Test.YtpcpbdcdapmlnaaDoorCards
import Derived.Test.YtpcpbdcdapmlnaaDoorTie
import Derived.Test.YtpcpbdcdapmlnaaDoorSf
import Derived.Test.YtpcpbdcdapmlnaaDoorOx
import Derived.SevenTiedAt
namespace Go.Proofs.YtpcpbdcdapmlnaaDoor.headRises
open Go Go.ChangeShapes Go.WideShapes Go.ChangeAt Go.RowKit
open Go.ChangeMaps (open_string shut_string)
set_option linter.unusedVariables false
set_option maxRecDepth 100000
/-- The disk behind n heads that were written. -/
structure Rd (d : Dk) (n : Nat) : Prop where
  ok : d.ok
  dn : d.dn = false
  dm : d.dm = false
  cap : d.cap = 10000
  us : d.used ≤ 53 * n
  no : n = 0 → ldI d = false
  is : 0 < n → ldI d = true ∧ ldT d = (n - 1) % 2 ∧ (ldH d).gen = n
theorem whl_le {h : He} (hm : mayB h = true) : (whl h).size ≤ 53 := by rw [whl_size]; have := enc_len (mayB_ok hm); omega
theorem Rd.step {d : Dk} {n : Nat} (r : Rd d n) (hn : n ≤ 20) {h : He} (hm : mayB h = true) (hg : h.gen = ((n + 1 : Nat) : Int)) :
    (putR d h).2 = 0 ∧ Rd (putR d h).1 (n + 1) ∧ ldR (putR d h).1 = (h, n % 2, true, 0) := by
  have hw := whl_le hm
  have hp : ptT d = n % 2 := by
    rw [pt_up r.dn]
    rcases Nat.eq_zero_or_pos n with h0 | h0
    · rw [r.no h0, if_neg (by simp), h0]
    · obtain ⟨h1, h2, -⟩ := r.is h0
      rw [h1, if_pos rfl, h2]; omega
  have hc := put_calm r.dn r.dm hm (by unfold room; rw [r.cap]; have := r.us; omega)
  have hl : ldR (putR d h).1 = (h, ptT d, true, 0) := by
    rw [hc]
    refine load_new (d' := { d with T := upd d.T (ptT d) ⟨whl h, (whl h).size⟩ }) r.dn r.dn h hm (fun j _ hj => upd_other _ _ hj) (by show (upd _ _ _ _).s = _; rw [upd_same]) (fun hi => ?_)
    rcases Nat.eq_zero_or_pos n with h0 | h0
    · rw [r.no h0] at hi; cases hi
    · rw [(r.is h0).2.2, hg]; omega
  have hdn : (putR d h).1.dn = false := by rw [hc]; exact r.dn
  have hI : ldI (putR d h).1 = true := by have := ld_up hdn; rw [hl] at this; exact (congrArg (fun x => x.2.2.1) this).symm
  have hT : ldT (putR d h).1 = ptT d := by have := ld_up hdn; rw [hl] at this; exact (congrArg (fun x => x.2.1) this).symm
  have hH : ldH (putR d h).1 = h := by have := ld_up hdn; rw [hl] at this; exact (congrArg (fun x => x.1) this).symm
  refine ⟨by rw [hc], ⟨putR_ok r.ok h, hdn, by rw [hc]; exact r.dm, by rw [hc]; exact r.cap, ?_, fun h0 => by omega, fun _ => ⟨hI, by rw [hT, hp]; rfl, by rw [hH, hg]⟩⟩, by rw [hl, hp]⟩
  have hu := used_upd d (show ptT d < 32 by have := ptT_le d; omega) ⟨whl h, (whl h).size⟩
  have h2 := r.us
  rw [hc]
  dsimp only at *
  omega
theorem Rd.bad {d : Dk} {h : He} (hm : mayB h = false) : putR d h = (d, 4) := by unfold putR; rw [hm, if_neg (by simp)]
theorem Rd.first (hok : (made0 10000 []).ok) : Rd (made0 10000 []) 0 :=
  ⟨hok, rfl, rfl, rfl, by rw [made0_used]; omega, fun _ => rfl, fun h => by omega⟩
set_option maxHeartbeats 1000000 in
theorem long (l : List (He × Value)) (v : Value) (w : World) (hf : Hrow w v l) (hl : 20 < l.length) (hT : Hid (Tab w)) : Calls Tryd.prog 7 #[v] w (Ret w (.bool true)) := by
  have HA := Lib.hid (awake_any w hT)
  have hl2 := hf.len
  obtain ⟨a, c, rfl⟩ : ∃ a c, v = .slice a l.length c := by
    rcases hf.at' with ⟨h0, a, c, rfl⟩ | ⟨g, o, c, rfl, _⟩
    · exact ⟨a, c, by rw [h0]; rfl⟩
    · exact ⟨_, _, rfl⟩
  clear hf
  go_enter Tryd.func7, Tryd.ntmps7
  go_wp2_with fail
  refine HA.out.mono ?_
  rintro e w1 ⟨rfl, hb⟩
  have HB1 := Lib.hid hb
  clear hb
  go_wp2
  go_ret
  exact ⟨rfl, HB1.out⟩
theorem row_below {w W : World} {v : Value} {l : List (He × Value)} (h : Hrow w v l) (hb : Below w.heap.size w W) : ∀ j (hj : j < l.length), ∀ g o n c, v = .slice (some ⟨g, o, none⟩) n c →
    W.cell? ⟨g, o + j * 4, none⟩ = some (.int .i64 l[j].1.gen) ∧ W.cell? ⟨g, o + j * 4 + 1, none⟩ = some (.int .i64 l[j].1.base) ∧ W.cell? ⟨g, o + j * 4 + 2, none⟩ = some (.int .i64 l[j].1.snap) ∧ W.cell? ⟨g, o + j * 4 + 3, none⟩ = some l[j].2 := fun j hj g o n c hv => by
  rcases h.at' with ⟨h0, _⟩ | ⟨g', o', c', e, _, hc⟩
  · rw [h0] at hj; simp at hj
  · rw [hv] at e
    cases e
    obtain ⟨e0, e1, e2, e3⟩ := hc j hj
    exact ⟨(hb.cell (World.block_lt_of_cell? w _ e0)).trans e0, (hb.cell (World.block_lt_of_cell? w _ e1)).trans e1, (hb.cell (World.block_lt_of_cell? w _ e2)).trans e2, (hb.cell (World.block_lt_of_cell? w _ e3)).trans e3⟩
set_option maxHeartbeats 4000000 in
theorem short (l : List (He × Value)) (v : Value) (w : World) (hf : Hrow w v l) (hl : l.length ≤ 20) (hT : Hid (Tab w)) : Calls Tryd.prog 7 #[v] w (Ret w (.bool true)) := by
  have HA := Lib.hid (awake_any w hT)
  have HF := Lib.hid hf
  have C2 := Lib.hid (fun W => dnew_any 10000 (by omega) W)
  obtain ⟨va, vc, hv⟩ : ∃ a c, v = .slice a l.length c := by
    rcases hf.at' with ⟨h0, a, c, rfl⟩ | ⟨g, o, c, rfl, _⟩
    · exact ⟨a, c, by rw [h0]; rfl⟩
    · exact ⟨_, _, rfl⟩
  obtain ⟨L, hL⟩ : ∃ L, L = l.length := ⟨_, rfl⟩
  rw [← hL] at hv hl
  have HL := Lib.hid hL
  subst hv
  clear hf hL
  go_enter Tryd.func7, Tryd.ntmps7
  go_wp2_with fail
  refine HA.out.mono ?_
  rintro e w1 ⟨rfl, hb⟩
  have B1 := Lib.hid hb
  clear hb
  go_wp2_with fail
  refine (C2.out _).mono ?_
  rintro e w2 ⟨B, hB, rfl, hd, hok, hb⟩
  have B2 := Lib.hid (below_trans' B1.out hb)
  have D2 := Lib.hid hd
  have hBz : w.heap.size ≤ B := Nat.le_trans B1.out.size hB
  have R2 := Lib.hid (Rd.first hok)
  clear hb hd hok hB
  generalize made0 10000 [] = d0 at *
  go_wp2
  go_loopw [5, 6] (fun n i wl => ∃ (k m : Nat) (d : Dk), i = .int .i64 (k : Int) ∧ n = .int .i64 (m : Int) ∧ m ≤ k ∧ k ≤ L ∧ Hid (Rd d m) ∧ Hid (DAt wl B d) ∧ Hid (Below w.heap.size w wl)) (fun _ i _ => L - (intOf i).toNat)
  case atStart => exact ⟨0, 0, d0, rfl, rfl, by omega, by omega, R2, D2, B2⟩
  case round =>
    obtain ⟨k, m, d, rfl, rfl, hmk, hk, RD, D, HB⟩ := hrel
    by_cases hlt : k < L
    · have hkl : k < l.length := by rw [← HL.out]; exact hlt
      obtain ⟨g, o, rfl⟩ : ∃ g o, va = some ⟨g, o, none⟩ := by
        rcases HF.out.at' with ⟨h0, _⟩ | ⟨g, o, c, e, _⟩
        · rw [h0] at hkl; simp at hkl
        · cases e; exact ⟨_, _, rfl⟩
      obtain ⟨p0, p1, p2, p3⟩ := row_below HF.out HB.out k hkl g o L vc rfl
      have fit := HF.out.fit _ (List.getElem_mem hkl)
      have FIT := Lib.hid fit
      obtain ⟨ha, hc, hh⟩ := fit.k.slice
      have hcl : L ≤ vc := by
        rcases HF.out.at' with ⟨h0, _⟩ | ⟨g, o, c, e, hc2, _⟩
        · rw [h0] at hkl; simp at hkl
        · cases e; rw [HL.out]; exact hc2
      clear fit
      generalize l[k] = x at *
      obtain ⟨h, hv⟩ := x
      dsimp only at *
      subst hh
      by_cases hlog : 100 < h.log.length
      · have hll := FIT.out.l
        go_wp2
        go_ret
        exact ⟨rfl, HB.out.alloc HB.out.size _⟩
      · have hk2 := Lib.hid (FIT.out.k.below HB.out (Nat.le_refl _))
        have HKW := Lib.hid (fun W (hW : Below w.heap.size w W) => FIT.out.k.below hW (Nat.le_refl _))
        obtain ⟨h', hh'⟩ : ∃ h' : He, h' = ⟨((m + 1 : Nat) : Int), h.base, h.snap, h.log⟩ := ⟨_, rfl⟩
        have hv' : hval h' (.slice ha h.log.length hc) = .agg #[.int .i64 ((m : Int) + 1), .int .i64 h.base, .int .i64 h.snap, .slice ha h.log.length hc] := by rw [hh']; unfold hval; dsimp only; rw [show ((m + 1 : Nat) : Int) = (m : Int) + 1 by omega]
        have hlg : h'.log = h.log := by rw [hh']
        have hgn : h'.gen = ((m + 1 : Nat) : Int) := by rw [hh']
        have hll : h'.log.length ≤ 9223372036854775807 := by rw [hlg]; omega
        have PU := Lib.hid (fun W (hD : DAt W B d) (hW : Below w.heap.size w W) => put_any B d h' (.slice ha h.log.length hc) W hD RD.out.ok (by rw [hlg]; exact HKW.out W hW) hll (Lib.hid (hT.out.below hW)))
        have MA := Lib.hid (fun W (hW : Below w.heap.size w W) => may_any h' (.slice ha h.log.length hc) W (by rw [hlg]; exact HKW.out W hW) hll)
        have SA := Lib.hid (fun (W : World) u (hu : KAt W u h'.log) (hW : Below w.heap.size w W) => same_any' h' h' u (.slice ha h.log.length hc) W hu (by rw [hlg]; exact HKW.out W hW) hll hll)
        have hsm : sameB h' h' = true := by unfold sameB; simp
        rw [hsm, hv'] at SA
        rw [hv'] at PU MA
        have HH := Lib.hid hh'
        have Z1 := Lib.hid (Box4.new wr (.int .i64 ((m : Int) + 1)) (.int .i64 h.base) (.int .i64 h.snap) (.slice ha h.log.length hc))
        have BZ := Lib.hid (HB.out.alloc HB.out.size (.cells #[.int .i64 ((m : Int) + 1), .int .i64 h.base, .int .i64 h.snap, .slice ha h.log.length hc] 26))
        have DZ := Lib.hid (D.out.alloc (.cells #[.int .i64 ((m : Int) + 1), .int .i64 h.base, .int .i64 h.snap, .slice ha h.log.length hc] 26))
        have hDl := D.out.lt
        have hw1 : IntKind.i64.wrap ((m : Int) + 1) = (m : Int) + 1 := by rw [Bt.wrap_i64]; omega
        clear hh' hv' hsm
        have HGN := Lib.hid hgn
        clear hlg hgn
        cases hm : mayB h'
        · have hP := Rd.bad (d := d) hm
          rw [hP] at PU
          rw [hm] at MA
          go_wp2_with fail
          refine (PU.out _ DZ.out BZ.out).mono ?_
          rintro e w3 ⟨rfl, hd3, hg⟩
          have Z3 := Lib.hid (Z1.out.kept hg (by simp; omega))
          have B3 := Lib.hid (BZ.out.grown hg (by simp; omega) (fun q hq => by cases hq; exact hBz))
          have D3 := Lib.hid hd3
          clear hd3 hg
          have q0 := Z3.out.c0; have q1 := Z3.out.c1; have q2 := Z3.out.c2; have q3 := Z3.out.c3
          go_wp2_with fail
          refine (MA.out _ B3.out).mono ?_
          rintro e w4 ⟨rfl, hb⟩
          have B4 := Lib.hid (below_trans' B3.out hb)
          have D4 := Lib.hid (D3.out.below hb D3.out.lt)
          clear hb
          go_wp2
          go_roundw
          case rel => exact ⟨k + 1, m, d, by go_num, rfl, by omega, by omega, RD, D4, B4⟩
          case measure => simp [intOf]; omega
        · obtain ⟨hP, hR, hL2⟩ := RD.out.step (by omega) hm HGN.out
          have RD2 := Lib.hid hR
          have LA := Lib.hid (fun W (hD : DAt W B (putR d h').1) (hW : Below w.heap.size w W) => load_any' B _ W hD hR.ok (Lib.hid (hT.out.below hW)))
          rw [hL2] at LA
          rw [hP] at PU
          clear hP hR hL2
          generalize (putR d h').1 = d2 at *
          have hrem : (m : Int).tmod 2 = ((m % 2 : Nat) : Int) := by rw [Int.tmod_eq_emod_of_nonneg (by omega)]; rfl
          have hmm : (((m % 2 : Nat) : Int) != ((m % 2 : Nat) : Int)) = false := by simp
          generalize m % 2 = M2 at *
          go_wp2_with fail
          refine (PU.out _ DZ.out BZ.out).mono ?_
          rintro e w3 ⟨rfl, hd3, hg⟩
          have Z3 := Lib.hid (Z1.out.kept hg (by simp; omega))
          have B3 := Lib.hid (BZ.out.grown hg (by simp; omega) (fun q hq => by cases hq; exact hBz))
          have D3 := Lib.hid hd3
          clear hd3 hg
          go_wp2_with fail
          refine (LA.out _ D3.out B3.out).mono ?_
          rintro e w4 ⟨v4, rfl, ho, hb⟩
          obtain ⟨va4, vc4, hv4⟩ := ho.shape
          rw [List.length_map] at hv4
          subst hv4
          have B4 := Lib.hid (below_trans' B3.out hb)
          have D4 := Lib.hid (D3.out.below hb D3.out.lt)
          have Z4 := Lib.hid (Z3.out.below hb Z3.out.lt)
          have K4 := Lib.hid ho.kat
          clear ho hb
          have HV : Hid (hval h' (.slice va4 h'.log.length vc4) = .agg #[.int .i64 h'.gen, .int .i64 h'.base, .int .i64 h'.snap, .slice va4 h'.log.length vc4]) := Lib.hid rfl
          rw [HV.out]
          have B5 := Lib.hid (B4.out.alloc B4.out.size (.cells #[.int .i64 h'.gen, .int .i64 h'.base, .int .i64 h'.snap, .slice va4 h'.log.length vc4] 26))
          have D5 := Lib.hid (D4.out.alloc (.cells #[.int .i64 h'.gen, .int .i64 h'.base, .int .i64 h'.snap, .slice va4 h'.log.length vc4] 26))
          have K5 := Lib.hid (K4.out.below (below_one w4 (.cells #[.int .i64 h'.gen, .int .i64 h'.base, .int .i64 h'.snap, .slice va4 h'.log.length vc4] 26)) (Nat.le_refl _))
          have q0 := Z4.out.c0; have q1 := Z4.out.c1; have q2 := Z4.out.c2; have q3 := Z4.out.c3
          have hlt4 := Z4.out.lt
          have hne4 : wr.heap.size ≠ w4.heap.size := by omega
          go_wp2_with fail
          refine (SA.out _ _ K5.out B5.out).mono ?_
          rintro e w6 ⟨rfl, hb⟩
          have B6 := Lib.hid (below_trans' B5.out hb)
          have D6 := Lib.hid (D5.out.below hb D5.out.lt)
          clear hb
          go_wp2
          go_roundw
          case rel => exact ⟨k + 1, m + 1, d2, by go_num, by go_num, by omega, by omega, RD2, D6, B6⟩
          case measure => simp [intOf]; omega
    · have LA := Lib.hid (load_any' B d wr D.out RD.out.ok (Lib.hid (hT.out.below HB.out)))
      rw [ld_up RD.out.dn] at LA
      have hI : ldI d = decide (0 < m) := by
        rcases Nat.eq_zero_or_pos m with h0 | h0
        · rw [RD.out.no h0, h0]; rfl
        · rw [(RD.out.is h0).1, decide_eq_true h0]
      have HH := Lib.hid hI
      clear hI
      generalize ldI d = I at *
      generalize ldH d = hd at *
      go_wp2_with fail
      refine LA.out.mono ?_
      rintro e w4 ⟨v4, rfl, ho, hb⟩
      obtain ⟨va4, vc4, hv4⟩ := ho.shape
      rw [List.length_map] at hv4
      subst hv4
      have B4 := Lib.hid (below_trans' HB.out hb)
      clear ho hb
      have HV : Hid (hval hd (.slice va4 hd.log.length vc4) = .agg #[.int .i64 hd.gen, .int .i64 hd.base, .int .i64 hd.snap, .slice va4 hd.log.length vc4]) := Lib.hid rfl
      rw [HV.out]
      go_wp2
      go_ret
      exact ⟨by show Ending.returned (.bool (I == decide (0 < m))) = _; rw [HH.out]; simp, B4.out.alloc B4.out.size _⟩
theorem core (v : Value) (l : List (He × Value)) (w : World) (hf : Hrow w v l) (hT : Hid (Tab w)) : Calls Tryd.prog 7 #[v] w fun e w' => e = .returned (.bool true) ∧ Below w.heap.size w w' := by
  by_cases hl : 20 < l.length
  · exact long l v w hf hl hT
  · exact short l v w hf (by omega) hT
set_option maxRecDepth 100000 in
theorem lifted (os : Os) (started : os.Started) (H : Type) (enc : TypeId × Value → H) :
    ReturnsInHanded {} Tryd.checked os 7 .any (fun w args => (Rows.headRisesSpec.pre enc Tryd.prog Tryd.f7 [] false w args ∧ laidMetH Tryd.prog laid w) ∧ sizedMet enc Tryd.prog Tryd.f7 (OpenSpec.ofChange Rows.headRisesSpec) false w args)
      (Rows.headRisesSpec.post enc Tryd.prog Tryd.f7 false true false false) := by
  refine returnsInHanded_of_change_and (C := Tryd.checked) (X := fun w _ => laidMetH Tryd.prog laid w) (fun _ _ _ hh h => h.of_heap hh) own started (by kernel_rfl) Tryd.func7
    (ChangeSpec.witness_shaped (enc := enc) (C := Tryd.checked) (os := os) (X := fun w _ => laidMetH Tryd.prog laid w) false (World.doorLaid Tryd.prog doorSteps os) #[.slice none 0 0] 8 rfl (World.shaped_of_RefB (by kernel_rfl) (by kernel_rfl)) (by kernel_rfl) (by kernel_rfl) (by kernel_rfl) (door_met os _)) ?_
  intro W base args ds gs before hval0 hW hcnd _ hL _
  have hval : ∀ (j : Nat) t v, Tryd.f7.params[j]? = some t → args[j]? = some v → Value.okWide Tryd.prog W .any base t v := hval0
  have hW' := hW
  obtain ⟨p, q, hA0, hV, rfl, hfz, hnd⟩ := hW
  have hA : DataW.TrodAll enc Tryd.prog W 0 (fun _ => true) true Tryd.f7.params.toList args.toList ds p := hA0
  rw [Tryd.params7] at hA hval
  obtain ⟨v0, vs0, d0, ds0, p0, q0, hargs, rfl, rfl, h0, r0⟩ := trodAll_cons hA
  obtain ⟨rfl, rfl, rfl⟩ := trodAll_nil r0
  obtain rfl : args = #[v0] := by cases args; simp_all
  obtain ⟨rfl, rfl⟩ := trodVars_none hV
  have k0 := h0
  have lt0 : ∀ x ∈ p0, x.block < W.heap.size := by obtain ⟨m, hm⟩ := k0; exact DataW.trod_lt m _ _ _ hm
  obtain ⟨a0, w0⟩ := open_heads (hval 0 27 v0 rfl rfl) h0
  clear hA0 hval0
  refine (core v0 a0 W w0 (Lib.hid (of_laid hL))).mono fun e W' ⟨he, bel⟩ => ?_
  subst he
  exact ⟨_, rfl, _, _, _, [], _, [], hW', trodAll_mk1 (shut_bool Tryd.underlying4 _), (trodAll_cons_mk (Below.trod laidOut (by kernel_rfl) (of_decide_eq_true (by kernel_rfl)) k0 bel lt0) trodAll_mk0), rfl, bel.frame _, fun h => by cases h⟩
theorem over : Rows.headRisesRow.holds Tryd.pinned (OpenSpec.ofChange Rows.headRisesSpec) :=
  OpenClaim.holds_of_wide 7 Tryd.f7 rfl rfl rfl rfl rfl rfl rfl ⟨rfl, rfl, rfl, rfl, rfl⟩ rfl rfl rfl rfl rfl (by kernel_rfl) Tryd.func7 (by kernel_rfl)
    (of_decide_eq_true (by kernel_rfl)) (by unfold Func.isWrapper; first | (rw [if_pos (by decide +kernel)]; kernel_rfl) | (rw [if_neg (by decide +kernel)]; exact ⟨rfl, rfl⟩))
    (fun os started H enc _ => lifted os started H enc)
theorem proved : Rows.HeadRisesCardSaid :=
  Claim7.holds_tied_plain_at .later [] [.data] true (true, "fa333dfdddc382f694442b4cc08e4f2c22340b87e27345508ae927b0c2bc7496") false
    over (fun _ h => by cases h) (by kernel_rfl) (fun _ h => by cases h) headRises_row_tie rfl ⟨rfl, rfl⟩ (by kernel_rfl) rfl
    (fun f fn hf hfn => by
      obtain rfl : f = 7 := Option.some.inj ((show Tryd.prog.funcNamed "baton/batonlaw09.HeadRises" = some 7 by kernel_rfl).symm.trans hf) |>.symm
      obtain rfl : fn = Tryd.f7 := (Option.some.inj (Tryd.func7.symm.trans hfn)).symm
      exact ⟨by kernel_rfl, fun j t ht => by
        rw [Tryd.params7] at ht
        have hm : t ∈ [27] := by simpa using Array.mem_of_getElem? ht
        have hall : ([27].all fun u => !Tryd.prog.wantsStandIn u) = true := by kernel_rfl
        exact (show Tryd.prog.wantsStandIn t = false by simpa using List.all_eq_true.1 hall t hm)⟩)
    (by kernel_rfl)
end Go.Proofs.YtpcpbdcdapmlnaaDoor.headRises
