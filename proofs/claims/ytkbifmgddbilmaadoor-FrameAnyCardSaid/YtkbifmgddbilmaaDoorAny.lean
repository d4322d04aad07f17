/- FrameAny: for any text and any place the law answers true. Condition: the table of package sum reads as its initialiser lays it (tied to the program's text by the card). -/
import Derived.Test.YtkbifmgddbilmaaDoorCards
import Derived.Test.YtkbifmgddbilmaaDoorTie
import Derived.Test.YtkbifmgddbilmaaDoorSf
import Derived.Test.YtkbifmgddbilmaaDoorAw
import Derived.SevenTiedAt
namespace Go.Proofs.YtkbifmgddbilmaaDoor.frameAny
open Go Go.ChangeShapes Go.WideShapes Go.ChangeAt Go.RowKit
open Go.ChangeMaps (open_string shut_string)
set_option linter.unusedVariables false
theorem long (s : ByteArray) (a : Int) (hs : 20000 < s.size) (h0 : s.size ≤ 9223372036854775807) (w : World) (hT : Hid (Tab w)) : Calls Tryd.prog 10 #[.string s, .int .i64 a] w (Ret w (.bool true)) := by
  go_enter Tryd.func10, Tryd.ntmps10
  go_wp2_with (go_at_call 11; refine (awake_any _ hT).mono ?_; rintro e w1 ⟨rfl, hb1⟩; have HB1 := Lib.hid hb1; clear hb1)
  go_ret
  exact ⟨rfl, HB1.out⟩
set_option maxRecDepth 100000 in
set_option maxHeartbeats 2000000 in
theorem out (s : ByteArray) (a : Int) (ha : a < 0 ∨ (s.size : Int) < a) (hs : s.size ≤ 20000) (w : World) (hT : Hid (Tab w)) : Calls Tryd.prog 10 #[.string s, .int .i64 a] w (Ret w (.bool true)) := by
  have S1 := Lib.hid (fun W => scan_arg s a W ha)
  by_cases h0 : a < 0
  all_goals
    try have h1 : (s.size : Int) < a := by omega
    clear ha
    go_enter Tryd.func10, Tryd.ntmps10
    go_wp2_with fail
    refine (awake_any _ hT).mono ?_
    rintro e w1 ⟨rfl, hb1⟩
    have HB1 := Lib.hid hb1
    clear hb1
    go_wp2_with fail
    refine (S1.out _).mono ?_
    rintro e w2 ⟨v, rfl, ho, hb2⟩
    have HB2 := Lib.hid (below_chain HB1.out hb2)
    obtain ⟨va, vc, hv⟩ := ho.shape
    rw [List.length_nil] at hv
    subst hv
    clear hb2 ho
    go_wp2
    go_ret
    exact ⟨rfl, HB2.out⟩
set_option maxRecDepth 100000 in
set_option maxHeartbeats 2000000 in
theorem main (s : ByteArray) (a : Nat) (ha : a ≤ s.size) (hs : s.size ≤ 20000) (w : World) (hT : Hid (Tab w)) : Calls Tryd.prog 10 #[.string s, .int .i64 (a : Int)] w (Ret w (.bool true)) := by
  obtain ⟨l, G, hq, hg, s1⟩ : ∃ l G, scq s a = l ∧ sce s a = G ∧ ∀ W, Tab W → Calls Tryd.prog 16 #[.string s, .int .i64 (a : Int)] W (Scans 24 W l G) := ⟨_, _, rfl, rfl, fun W hW => scan_any s a ha W (by omega) (Lib.hid hW)⟩
  have S1 := Lib.hid s1
  have hl : l.length ≤ 20000 := by have := scq_len s _ a (Nat.le_refl _); rw [hq] at this; omega
  have HH : Hid (∀ c, c ≤ s.size → Fr.er (bh s c) ≠ 0 → ∀ W, Tab W → Calls Tryd.prog 12 #[.string s, .int .i64 (c : Int)] W (Ret W (noV (Fr.er (bh s c))))) := Lib.hid fun c hc he W hW => read_bad s c _ (er1_at s c hc) he W (by omega) (Lib.hid hW)
  have HGs : Hid (G ≤ s.size) := by
    refine Lib.hid ?_
    rw [← hg]
    have h : ∀ n c, c ≤ s.size → s.size - c ≤ n → sce s c ≤ s.size := by
      intro n
      induction n with
      | zero =>
        intro c hc hn
        have hb : Fr.er (bh s c) ≠ 0 := fun e => by have := (Fr.er_good.1 e).nine; rw [bh_length] at this; omega
        rw [(scq_bad s c hb).2]; exact hc
      | succ n ih =>
        intro c hc hn
        by_cases hb : Fr.er (bh s c) = 0
        · have hg := Fr.er_good.1 hb
          have h1 := hg.nine
          have h2 := hg.whole
          rw [bh_length] at h1 h2
          rw [(scq_good s c hb).2]
          exact ih _ (by omega) (by omega)
        · rw [(scq_bad s c hb).2]; exact hc
    exact h _ a ha (Nat.le_refl _)
  have HQ := Lib.hid hq
  have HG := Lib.hid hg
  have HA := Lib.hid ha
  have hg0 : decide ((a : Int) < 0) = false := decide_eq_false (by omega)
  have hg1 : decide (s.size < a) = false := decide_eq_false (by omega)
  have hg2 : decide (20000 < (s.size : Int)) = false := decide_eq_false (by omega)
  clear hq hg s1
  go_enter Tryd.func10, Tryd.ntmps10
  go_wp2_with fail
  refine (awake_any _ hT).mono ?_
  rintro e w1 ⟨rfl, hb1⟩
  have HB1 := Lib.hid hb1
  clear hb1
  go_wp2_with fail
  refine (S1.out _ (hT.out.below HB1.out)).mono ?_
  rintro e w2 ⟨v, rfl, ho, hb2⟩
  have HB2 := Lib.hid (below_chain HB1.out hb2)
  have HV := Lib.hid ho.at
  obtain ⟨L, hL⟩ : ∃ L, l.length = L := ⟨_, rfl⟩
  have HL := Lib.hid hL
  rw [hL] at hl
  have hshape : (L = 0 ∧ ∃ b c, v = .slice b L c) ∨ ∃ g o c, v = .slice (some ⟨g, o, none⟩) L c ∧
      Hid (∀ j (h : j < l.length), w2.cell? ⟨g, o + j * 3, none⟩ = some (.int .u8 l[j].k) ∧ w2.cell? ⟨g, o + j * 3 + 1, none⟩ = some (.string l[j].p) ∧ w2.cell? ⟨g, o + j * 3 + 2, none⟩ = some (.int .i64 l[j].a)) := by
    rcases HV.out with ⟨h0, b, c, hv⟩ | ⟨g, o, c, hv, h⟩
    · have h1 : L = 0 := by rw [← hL, h0]; rfl
      exact .inl ⟨h1, b, c, by rw [hv, h1]⟩
    · exact .inr ⟨g, o, c, by rw [hv, hL], Lib.hid h⟩
  have HNX : Hid (∀ i c, i < L → scq s c = l.drop i → c ≤ s.size → ∃ x ∈ l[i]?, x.a = (c : Int) ∧ x.p.size ≤ 262144 ∧ c + 9 + x.p.size ≤ s.size ∧ scq s (c + 9 + x.p.size) = l.drop (i + 1) ∧ sce s (c + 9 + x.p.size) = sce s c) := by
    refine Lib.hid fun i c hi hc hcs => ?_
    have hil : i < l.length := by rw [hL]; exact hi
    have her : Fr.er (bh s c) = 0 := Classical.byContradiction fun e => by
      rw [(scq_bad s c e).1] at hc
      have := congrArg List.length hc
      rw [List.length_drop] at this
      simp at this; omega
    obtain ⟨q1, q2⟩ := scq_good s c her
    rw [q1, List.drop_eq_getElem_cons hil] at hc
    injection hc with h1 h2
    have hgd := Fr.er_good.1 her
    have hw := hgd.whole
    have hm := hgd.most
    rw [bh_length] at hw
    have hsz : (qf ⟨Fr.kd (bh s c), Fr.pl (bh s c), c⟩).p.size = Fr.ln (bh s c) := by
      show (bs (Fr.pl (bh s c))).size = _
      rw [bs_size, Fr.pl_length hgd]
    have hn := hgd.nine
    rw [bh_length] at hn
    refine ⟨l[i], List.getElem?_eq_getElem hil, ?_⟩
    rw [← h1, hsz]
    exact ⟨rfl, hm, by omega, h2, q2.symm⟩
  have HND : Hid (∀ c, scq s c = l.drop L → Fr.er (bh s c) ≠ 0) := by
    refine Lib.hid fun c hc e => ?_
    rw [(scq_good s c e).1, ← hL, List.drop_length] at hc
    cases hc
  clear hb2 ho hL
  rcases hshape with ⟨h0, b, cc, rfl⟩ | ⟨g, o, cc, rfl, HC⟩
  · have H0 := Lib.hid h0
    clear h0
    go_wp2_with fail
    go_loopw [1, 7] (fun y x wr => ∃ (c : Nat), c ≤ s.size ∧ y = .int .i64 (c : Int) ∧ x = .int .i64 (L : Int) ∧ Hid (scq s c = l.drop L) ∧ Hid (sce s c = G) ∧ wr = w2) (fun _ x _ => 0)
    case atStart => exact ⟨a, HA.out, rfl, by rw [H0.out]; rfl, by rw [H0.out]; exact HQ.out ▸ Lib.hid rfl, HG, rfl⟩
    case round =>
      obtain ⟨c, hc, rfl, rfl, HS, HE, rfl⟩ := hrel
      have her := HND.out c HS.out
      have hcg : c = G := by rw [← HE.out]; exact (scq_bad s c her).2.symm
      have hR := HH.out c hc her _ (hT.out.below HB2.out)
      have he : ((Fr.er (bh s c) : Int) != 0) = true := by rw [bne_iff_ne]; omega
      rw [hcg] at hR
      have hbe : ((G : Int) == (c : Int)) = true := by rw [hcg]; simp
      have hGs := HGs.out
      rw [hcg] at he
      generalize Fr.er (bh s G) = E at *
      have HR := Lib.hid hR
      clear hR her hcg
      go_wp2_with fail
      refine HR.out.mono ?_
      rintro e w3 ⟨rfl, hb3⟩
      have HB3 := Lib.hid (below_more (.cells #[.int .u8 0, .string ⟨#[]⟩, .int .i64 0] 24) (below_chain HB2.out hb3))
      clear hb3
      go_wp2
      go_ret
      exact ⟨rfl, HB3.out⟩
  · go_wp2_with fail
    go_loopw [1, 7] (fun y x wr => ∃ (i c : Nat), i ≤ L ∧ c ≤ s.size ∧ y = .int .i64 (c : Int) ∧ x = .int .i64 (i : Int) ∧ Hid (scq s c = l.drop i) ∧ Hid (sce s c = G) ∧ wr = w2) (fun _ x _ => L - (intOf x).toNat)
    case atStart => exact ⟨0, a, by omega, HA.out, rfl, rfl, HQ.out ▸ Lib.hid rfl, HG, rfl⟩
    case round =>
      obtain ⟨i, c, hi, hc, rfl, rfl, HS, HE, rfl⟩ := hrel
      by_cases hlt : i < L
      · have hil : i < l.length := by rw [HL.out]; exact hlt
        obtain ⟨x, hx, e1, e2, e3, e4, e5⟩ := HNX.out i c hlt HS.out hc
        obtain ⟨x0, x1, x2⟩ := HC.out i hil
        have hxl : l[i] = x := Option.some.inj ((List.getElem?_eq_getElem hil).symm.trans hx)
        rw [hxl] at x0 x1 x2
        rw [e1] at x2
        have hz := size_any (x.p.size : Int) wr
        rw [show fsz (x.p.size : Int) = ((x.p.size + 9 : Nat) : Int) by unfold fsz; rw [if_neg (by omega)]; omega] at hz
        have HZ := Lib.hid hz
        have E4 := Lib.hid e4
        have E5 := Lib.hid e5
        have hne : ((c : Int) != (c : Int)) = false := by simp
        clear hx e1 e4 e5 hxl hz
        go_wp2_with fail
        refine HZ.out.mono ?_
        rintro e w' ⟨rfl, rfl⟩
        go_wp2
        go_roundw
        case rel => exact ⟨i + 1, c + 9 + x.p.size, by omega, e3, by go_num, by go_num, E4, Lib.hid (E5.out.trans HE.out), trivial⟩
        case measure => simp [intOf]; omega
      · obtain rfl : i = L := by omega
        have her := HND.out c HS.out
        have hcg : c = G := by rw [← HE.out]; exact (scq_bad s c her).2.symm
        have hR := HH.out c hc her _ (hT.out.below HB2.out)
        have he : ((Fr.er (bh s c) : Int) != 0) = true := by rw [bne_iff_ne]; omega
        rw [hcg] at hR
        have hbe : ((G : Int) == (c : Int)) = true := by rw [hcg]; simp
        have hGs := HGs.out
        rw [hcg] at he
        generalize Fr.er (bh s G) = E at *
        have HR := Lib.hid hR
        clear hR her hcg
        go_wp2_with fail
        refine HR.out.mono ?_
        rintro e w3 ⟨rfl, hb3⟩
        have HB3 := Lib.hid (below_more (.cells #[.int .u8 0, .string ⟨#[]⟩, .int .i64 0] 24) (below_chain HB2.out hb3))
        clear hb3
        go_wp2
        go_ret
        exact ⟨rfl, HB3.out⟩
theorem core (s : ByteArray) (a1 : Int) (w0 : s.size ≤ maxLen) (w1 : (Lit.int .i64 a1).wf = true) (w : World) (hT : Hid (Tab w)) :
    Calls Tryd.prog 10 #[.string s, .int .i64 a1] w fun e w' => e = .returned (.bool true) ∧ Below w.heap.size w w' := by
  unfold maxLen at w0
  by_cases h : 20000 < s.size
  · exact long s a1 h (by omega) w hT
  · by_cases ha : a1 < 0 ∨ (s.size : Int) < a1
    · exact out s a1 ha (by omega) w hT
    · obtain ⟨a, rfl⟩ := Int.eq_ofNat_of_zero_le (a := a1) (by omega)
      exact main s a (by omega) (by omega) w hT
set_option maxRecDepth 100000 in
theorem lifted (os : Os) (started : os.Started) (H : Type) (enc : TypeId × Value → H) :
    ReturnsInHanded {} Tryd.checked os 10 .any (fun w args => (Rows.frameAnySpec.pre enc Tryd.prog Tryd.f10 [] false w args ∧ laidMetH Tryd.prog laid w) ∧ sizedMet enc Tryd.prog Tryd.f10 (OpenSpec.ofChange Rows.frameAnySpec) false w args)
      (Rows.frameAnySpec.post enc Tryd.prog Tryd.f10 false true false false) := by
  refine returnsInHanded_of_change_and (C := Tryd.checked) (X := fun w _ => laidMetH Tryd.prog laid w) (fun _ _ _ hh h => h.of_heap hh) own started (by kernel_rfl) Tryd.func10
    (ChangeSpec.witness_shaped (enc := enc) (C := Tryd.checked) (os := os) (X := fun w _ => laidMetH Tryd.prog laid w) false (World.doorLaid Tryd.prog doorSteps os) #[.string ByteArray.empty, .int .i64 0] 8 rfl (World.shaped_of_RefB (by kernel_rfl) (by kernel_rfl)) (by kernel_rfl) (by kernel_rfl) (by kernel_rfl) (door_met os _)) ?_
  intro W base args ds gs before hval0 hW hcnd _ hL _
  have hval : ∀ (j : Nat) t v, Tryd.f10.params[j]? = some t → args[j]? = some v → Value.okWide Tryd.prog W .any base t v := hval0
  have hW' := hW
  obtain ⟨p, q, hA0, hV, rfl, hfz, hnd⟩ := hW
  have hA : DataW.TrodAll enc Tryd.prog W 0 (fun _ => true) true Tryd.f10.params.toList args.toList ds p := hA0
  rw [Tryd.params10] at hA hval
  obtain ⟨v0, vs0, d0, ds0, p0, q0, hargs, rfl, rfl, h0, r0⟩ := trodAll_cons hA
  obtain ⟨v1, vs1, d1, ds1, p1, q1, rfl, rfl, rfl, h1, r1⟩ := trodAll_cons r0
  obtain ⟨rfl, rfl, rfl⟩ := trodAll_nil r1
  obtain rfl : args = #[v0, v1] := by cases args; simp_all
  obtain ⟨rfl, rfl⟩ := trodVars_none hV
  have k0 := h0
  have lt0 : ∀ x ∈ p0, x.block < W.heap.size := by obtain ⟨m, hm⟩ := k0; exact DataW.trod_lt m _ _ _ hm
  have k1 := h1
  have lt1 : ∀ x ∈ p1, x.block < W.heap.size := by obtain ⟨m, hm⟩ := k1; exact DataW.trod_lt m _ _ _ hm
  obtain ⟨a0, rfl, rfl, rfl, w0⟩ := open_string Tryd.underlying9 (hval 0 9 v0 rfl rfl) h0
  obtain ⟨a1, rfl, rfl, rfl, w1⟩ := open_int Tryd.underlying3 (hval 1 3 v1 rfl rfl) h1
  clear hA0 hval0
  refine (core a0 a1 w0 w1 W (Lib.hid (of_laid hL))).mono fun e W' ⟨he, bel⟩ => ?_
  subst he
  exact ⟨_, rfl, _, _, _, [], _, [], hW', trodAll_mk1 (shut_bool Tryd.underlying4 _), (trodAll_cons_mk (Below.trod laidOut (by kernel_rfl) (of_decide_eq_true (by kernel_rfl)) k0 bel lt0) (trodAll_cons_mk (Below.trod laidOut (by kernel_rfl) (of_decide_eq_true (by kernel_rfl)) k1 bel lt1) trodAll_mk0)), rfl, bel.frame _, fun h => by cases h⟩
theorem over : Rows.frameAnyRow.holds Tryd.pinned (OpenSpec.ofChange Rows.frameAnySpec) :=
  OpenClaim.holds_of_wide 10 Tryd.f10 rfl rfl rfl rfl rfl rfl rfl ⟨rfl, rfl, rfl, rfl, rfl⟩ rfl rfl rfl rfl rfl (by kernel_rfl) Tryd.func10 (by kernel_rfl)
    (of_decide_eq_true (by kernel_rfl)) (by unfold Func.isWrapper; first | (rw [if_pos (by decide +kernel)]; kernel_rfl) | (rw [if_neg (by decide +kernel)]; exact ⟨rfl, rfl⟩))
    (fun os started H enc _ => lifted os started H enc)
theorem proved : Rows.FrameAnyCardSaid :=
  Claim7.holds_tied_plain_at .later [] [.data] true (true, "528f451f71a3945e035b345f81124441f1a1f31a8451669a6375411dc09c6830") false
    over (fun _ h => by cases h) (by kernel_rfl) (fun _ h => by cases h) frameAny_row_tie rfl ⟨rfl, rfl⟩ (by kernel_rfl) rfl
    (fun f fn hf hfn => by
      obtain rfl : f = 10 := Option.some.inj ((show Tryd.prog.funcNamed "baton/batonlaw08.FrameAny" = some 10 by kernel_rfl).symm.trans hf) |>.symm
      obtain rfl : fn = Tryd.f10 := (Option.some.inj (Tryd.func10.symm.trans hfn)).symm
      exact ⟨by kernel_rfl, fun j t ht => by
        rw [Tryd.params10] at ht
        have hm : t ∈ [9, 3] := by simpa using Array.mem_of_getElem? ht
        have hall : ([9, 3].all fun u => !Tryd.prog.wantsStandIn u) = true := by kernel_rfl
        exact (show Tryd.prog.wantsStandIn t = false by simpa using List.all_eq_true.1 hall t hm)⟩)
    (by kernel_rfl)
end Go.Proofs.YtkbifmgddbilmaaDoor.frameAny
