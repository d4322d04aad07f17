/- RequestEach: for any series, any text and any count the law answers true. No condition. -/
import Derived.Test.YtakdplfffkadpaaRows
import Derived.Test.YtakdplfffkadpaaOp
import Derived.Test.YtakdplfffkadpaaLh
import Derived.Test.YtakdplfffkadpaaEr
import Derived.WalkKit
import Derived.ProofKit
import Derived.OpenShut
import Derived.ShutString
namespace Go.Proofs.Ytakdplfffkadpaa.requestEach
open Go.ChangeShapes Go.WideShapes Go.ChangeAt Go.RowKit Go.Shelf Go.Sort
open Go.ChangeMaps (open_string shut_string)
set_option linter.unusedVariables false
attribute [local go_sem] Oper.semAt_some
theorem fin2 {n : Nat} {w W : World} {D1 D2 : Nat} {a : Act} (h6 : a.tmps.getD 6 undef = .bool true) (hd : a.defers = [{ target := .collected D2, args := #[] }, { target := .collected D1, args := #[] }]) (hX1 : W.heap[D1]? = some (.deferred (some []))) (hX2 : W.heap[D2]? = some (.deferred (some []))) (hlt : D1 < D2 ∧ w.heap.size ≤ D1) (hb : Below w.heap.size w W) :
    bodyPostM Fence.wide n Try.prog Try.f9 (fun e w' => e = .returned (.bool true) ∧ Below w.heap.size w w') .ret a W := by
  obtain ⟨tm, df⟩ := a
  dsimp only at h6 hd
  subst hd
  have g2 := grownBy_putObj' W D2 (.deferred none)
  have hX1' := (g2.block D1 (Array.getElem?_eq_some_iff.1 hX1).1 (fun e => by have := Option.some.inj e; omega)).trans hX1
  have b2 := hb.grown g2 hb.size (fun k e => by cases e; omega)
  have g1 := grownBy_putObj' (W.putObj D2 (.deferred none)) D1 (.deferred none)
  refine ⟨by simp, .inl ⟨_, _, rfl, run_takeDeferred hX2, ⟨by simp, .inl ⟨_, _, rfl, run_takeDeferred hX1', ⟨_, results_tmp rfl _ _ _, ?_, ?_⟩⟩⟩⟩⟩
  · show Ending.returned (tm.getD 6 undef) = _
    rw [h6]
  · exact b2.grown g1 b2.size (fun k e => by cases e; omega)
theorem rq_len : ∀ l : List Sr, l.length ≤ (eRq l).length
  | [] => Nat.le_refl _
  | x :: r => by
    have h := rq_len r
    show _ ≤ (eM (part 1 (eSr x) :: fRq r)).length
    rw [eM_cons, List.length_append, part_len, List.length_cons]
    have h1 : Bt.vlen (1 * 8 + 2) = 1 := by rw [← Bt.vint_length, vint8 (by decide)]; rfl
    have h2 : (eM (fRq r)).length = (eRq r).length := rfl
    omega
theorem most_of (m : Int) (L : Nat) (hL : (L : Int) ≤ 1000000) : ∃ M : Nat, wrap64 (1 + wrap64 ((IntKind.u64.wrap m).tmod ((L : Int) + 2))) = (M : Int) ∧ 1 ≤ M ∧ M ≤ 1000002 := by
  have h0 := wrap_u64_nonneg m
  have h1 : 0 ≤ (IntKind.u64.wrap m).tmod ((L : Int) + 2) := Int.tmod_nonneg _ h0
  have h2 : (IntKind.u64.wrap m).tmod ((L : Int) + 2) < (L : Int) + 2 := Int.tmod_lt_of_pos _ (by omega)
  generalize (IntKind.u64.wrap m).tmod ((L : Int) + 2) = q at *
  refine ⟨(1 + q).toNat, ?_, by omega, by omega⟩
  rw [IntWalk.wrap64_in q (by omega), IntWalk.wrap64_in (1 + q) (by omega)]
  omega
set_option maxRecDepth 100000 in
set_option maxHeartbeats 1000000 in
theorem main (va : Option Addr) (vc : Nat) (zs : List Zr) (s : ByteArray) (hs : s.size ≤ 10000) (m : Int) (w : World) (HV : Hid (SAt w (.slice va zs.length vc) zs)) (hl2 : (zs.length : Int) ≤ 1000000)
    (HLG : Hid (∀ W, SAt W (.slice va zs.length vc) zs → Calls Try.prog 22 #[.slice va zs.length vc] W (Ret W (.bool false)))) (B1 : ByteArray) (hB1 : B1.size ≤ 20000) (HE : Hid (∀ W, SAt W (.slice va zs.length vc) zs → Calls Try.prog 16 #[.slice va zs.length vc] W (Ret W (.string B1))))
    (XS : List (Sr × Nat)) (A : List Sr) (E : Nat) (HF : Hid (EachFacts (zs.map Zr.x) XS A E)) (HG : Hid (∀ n b W, Boxed W b 9 (.string (B1 ++ s)) → Gives n Try.prog 37 #[.pointer (some ⟨b, 0, none⟩)] (En2 (QS W.heap.size)) XS (fun _ => False) W))
    (HFN : Hid (Fin0 zs)) (HD : Hid (∀ W, Calls Try.prog 12 #[.string (B1 ++ s)] W (TellsD W (A, E)))) :
    Calls Try.prog 9 #[.slice va zs.length vc, .string s, .int .i64 m] w fun e w' => e = .returned (.bool true) ∧ Below w.heap.size w w' := by
  generalize hL : zs.length = L at *
  have HL := Lib.hid hL
  clear hL
  have hs63 : (s.size : Int) ≤ 10000 := by omega
  have hB63 : (B1.size : Int) ≤ 20000 := by omega
  refine (callsIn_wide (n := 7)).1 ?_
  refine callsIn_of_wp_marks Try.func9 rfl trivial ?_ rfl
  simp only [Try.ntmps9, List.size_toArray, List.length_cons, List.length_nil, Nat.reduceAdd, Nat.reduceSub, Array.replicate_succ, Array.replicate_zero, List.push_toArray, List.append_toArray, List.nil_append, List.cons_append]
  obtain ⟨w0, hw0⟩ : ∃ w0, (w.alloc (.cells #[.slice va L vc] 23)).alloc (.cells #[.int .i64 m] 3) = w0 := ⟨_, rfl⟩
  have hb0 : Below w.heap.size w w0 := by
    rw [← hw0]
    exact ((Below.refl _ w).alloc (Nat.le_refl _) _).alloc (by simp) _
  have q0 : Boxed w0 w.heap.size 23 (.slice va L vc) := by rw [← hw0]; exact (Boxed.new w 23 _).alloc _
  have q1 : Boxed w0 (w.heap.size + 1) 3 (.int .i64 m) := by
    have := Boxed.new (w.alloc (.cells #[.slice va L vc] 23)) 3 (.int .i64 m)
    simp only [World.size_alloc] at this
    rw [← hw0]; exact this
  have HV0 := Lib.hid (HV.out.below hb0 (Nat.le_refl _))
  have HB0 := Lib.hid hb0
  have HQ0 := Lib.hid q0
  have HQ1 := Lib.hid q1
  have HW0 := Lib.hid hw0
  rw [← hw0] at q0
  have c0 := q0.cell
  clear hw0 hb0 q0 q1
  gi_wp2_with fail
  rw [HW0.out]
  refine ⟨trivial, (callsIn_wide.2 (HLG.out _ HV0.out)).mono ?_⟩
  rintro e w1 ⟨rfl, hb1⟩
  have HB1 := Lib.hid (below_trans' HB0.out hb1)
  have HV1 := Lib.hid (HV0.out.below hb1 (Nat.le_refl _))
  have HR0 : Hid (Boxed w1 w.heap.size 23 (.slice va L vc)) := Lib.hid ((hb1.block _ HQ0.out.lt).trans HQ0.out)
  have HR1 : Hid (Boxed w1 (w.heap.size + 1) 3 (.int .i64 m)) := Lib.hid ((hb1.block _ HQ1.out.lt).trans HQ1.out)
  clear hb1 c0
  gi_wp2_with fail
  refine ⟨trivial, (callsIn_wide.2 (awake_any _)).mono ?_⟩
  rintro e w2 ⟨rfl, hb2⟩
  have HB2 := Lib.hid (below_trans' HB1.out hb2)
  have HV2 := Lib.hid (HV1.out.below hb2 (Nat.le_refl _))
  have HS0 : Hid (Boxed w2 w.heap.size 23 (.slice va L vc)) := Lib.hid ((hb2.block _ HR0.out.lt).trans HR0.out)
  have HS1 : Hid (Boxed w2 (w.heap.size + 1) 3 (.int .i64 m)) := Lib.hid ((hb2.block _ HR1.out.lt).trans HR1.out)
  have c0 := HS0.out.cell
  clear hb2
  gi_wp2_with fail
  refine ⟨trivial, (callsIn_wide.2 (HE.out _ HV2.out)).mono ?_⟩
  rintro e w3 ⟨rfl, hb3⟩
  have HB3 := Lib.hid (below_trans' HB2.out hb3)
  have HV3 := Lib.hid (HV2.out.below hb3 (Nat.le_refl _))
  have HT0 : Hid (Boxed w3 w.heap.size 23 (.slice va L vc)) := Lib.hid ((hb3.block _ HS0.out.lt).trans HS0.out)
  have HT1 : Hid (Boxed w3 (w.heap.size + 1) 3 (.int .i64 m)) := Lib.hid ((hb3.block _ HS1.out.lt).trans HS1.out)
  clear hb3 c0
  have c0 := HT0.out.cell
  have c1 := HT1.out.cell
  have f1 := HT1.out.frozen
  gi_wp2_with fail
  obtain ⟨M, hM, hM1, hM2⟩ := most_of m L hl2
  rw [hM]
  have HM := Lib.hid (And.intro hM1 hM2)
  clear hM hM1 hM2
  obtain ⟨w4, hw4⟩ : ∃ W, w3.setCell ⟨w.heap.size + 1, 0, none⟩ (.int .i64 (M : Int)) = W := ⟨_, rfl⟩
  have HB4 : Hid (Below w.heap.size w w4) := Lib.hid (by rw [← hw4]; exact below_set HB3.out (by omega) _)
  have HU0 : Hid (Boxed w4 w.heap.size 23 (.slice va L vc)) := Lib.hid (by rw [← hw4]; exact HT0.out.other (by omega) _)
  have HU1 : Hid (Boxed w4 (w.heap.size + 1) 3 (.int .i64 (M : Int))) := Lib.hid (by rw [← hw4]; exact HT1.out.set _)
  rw [hw4]
  clear hw4 c0 c1 f1
  refine ⟨trivial, (callsIn_wide.2 (each_any _ w4)).mono ?_⟩
  rintro e w5 ⟨rfl, hw5⟩
  have hb5 : Below w4.heap.size w4 w5 := by rw [hw5]; exact (Below.refl _ _).alloc (Nat.le_refl _) _
  have HB5 := Lib.hid (below_trans' HB4.out hb5)
  have HX0 : Hid (Boxed w5 w.heap.size 23 (.slice va L vc)) := Lib.hid ((hb5.block _ HU0.out.lt).trans HU0.out)
  have HX1 : Hid (Boxed w5 (w.heap.size + 1) 3 (.int .i64 (M : Int))) := Lib.hid ((hb5.block _ HU1.out.lt).trans HU1.out)
  have HX9 : Hid (Boxed w5 w4.heap.size 9 (.string (B1 ++ s))) := Lib.hid (by rw [hw5]; exact Boxed.new _ _ _)
  clear hw5 hb5
  have hcmp := cmp_nil w4.heap.size
  gi_wp2
  obtain ⟨w6, hw6⟩ : ∃ W, w5.alloc (.cells #[.int .i64 0] 3) = W := ⟨_, rfl⟩
  have h45 := HX9.out.lt
  have h14 := HU1.out.lt
  have h56 : w5.heap.size < w6.heap.size := by rw [← hw6, World.size_alloc]; exact Nat.lt_succ_self _
  have ha6 : Aft w (.slice va L vc) (.string (B1 ++ s)) M w5.heap.size w4.heap.size 0 w6 := by
    rw [← hw6]
    exact ⟨HX0.out.alloc _, HX1.out.alloc _, HX9.out.alloc _, Boxed.new _ _ _, HB5.out.alloc HB5.out.size _⟩
  have HV6 : Hid (SAt w6 (.slice va L vc) zs) := Lib.hid (HV.out.below ha6.bel (Nat.le_refl _))
  rw [hw6]
  have HA6 := Lib.hid ha6
  clear hw6 ha6 hcmp
  generalize hTB : w5.heap.size = TB at *
  generalize hB9 : w4.heap.size = B9 at *
  clear hTB hB9
  obtain ⟨T, hT⟩ : ∃ T, min (cnt XS) M = T := ⟨_, rfl⟩
  have HT := Lib.hid hT
  have HI0 : Hid (∃ k, E1 w (.slice va L vc) (.string (B1 ++ s)) M TB B9 T (zs.map Zr.x) XS (fun _ => False) w6 k) := Lib.hid ⟨0, HA6.out, by rw [Nat.zero_add]; exact hT, by have := HM.out; omega, HF.out.pr, HF.out.ok, fun j h => h.elim⟩
  clear hT
  have hl14 : w.heap.size + 1 < TB := by omega
  refine range_cut { target := .collected w6.heap.size, args := #[] } (fun W => Aft w (.slice va L vc) (.string (B1 ++ s)) M TB B9 T W ∧ W.heap[w6.heap.size]? = some (.deferred (some []))) ?_ ?_
  · apply wp_range2 (β := Pv) (gf := 37) (lb := #[.pointer (some ⟨B9, 0, none⟩)]) rfl (enters_of Try.func37 (by kernel_rfl) rfl) (En2 (QS (w6.heap.size + 2))) (fun x us W h => by obtain ⟨p, h⟩ := h; rw [h.eq]; rfl) XS (fun _ => False) (by intro j hj; exact hj.elim) ?seq
      (fun rest F W => ∃ k, E1 w (.slice va L vc) (.string (B1 ++ s)) M TB B9 T (zs.map Zr.x) rest F W k) (fun c W => c = .exit 0 ∧ Aft w (.slice va L vc) (.string (B1 ++ s)) M TB B9 T W) (E1.ab (by omega) (by omega) (by omega)) (fun c A A' row h hg hr => ⟨h.1, Aft.ab (by omega) (by omega) (by omega) _ _ row h.2 hg hr⟩) HI0.out
      (BPn (w6.heap.size + 2) (w6.heap.size + 2)) (BPn.ab (Nat.le_refl _)) _ ?assign ?body ?done ?stop
    case seq =>
      intro W hW hb
      rw [← hW]
      exact HG.out _ _ W ((hb.block _ HA6.out.b9.lt).trans HA6.out.b9)
    case assign =>
      rintro l x rest us F W K hI ⟨p, hp⟩ hB hK
      have HBP : Hid (BPn (w6.heap.size + 2) (w6.heap.size + 2) x W.heap.size p (W.alloc (.cells #[p.1, p.2] 40))) := Lib.hid ⟨Box2.new _ _ _ _, hB, QS.ok _ _ _ _ _ _ hp.q (World.grownBy_alloc W _ none) (fun r e => by cases e)⟩
      have hs1 : ∀ (w : World) (a : Addr), (store a p.1).run Try.prog w = stored Try.prog w a p.1 .plain := fun w a => run_store Try.prog w a _ .plain hp.o1
      have hs2 : ∀ (w : World) (a : Addr), (store a p.2).run Try.prog w = stored Try.prog w a p.2 .plain := fun w a => run_store Try.prog w a _ .plain hp.o2
      have HI2 := Lib.hid (E1.ab (b := w6.heap.size) (by omega) (by omega) (by omega) _ F F _ _ none hI (World.grownBy_alloc W (.cells #[p.1, p.2] 40) none) (fun r e => by cases e) (fun j h => .inl h))
      have he := hp.eq
      subst he
      clear hp hI
      gi_wp2
      obtain ⟨Bx, hBx⟩ : ∃ Bx, W.heap.size = Bx := ⟨_, rfl⟩
      rw [hBx] at HBP ⊢
      exact hK Bx p _ (Kept.grown (World.grownBy_alloc W _ none) (fun r e => by cases e)) HI2.out HBP.out
    case body =>
      rintro l0 x rest F Bx p W ⟨k, hI⟩ hbx hB
      obtain ⟨a1, d1, hp1⟩ := O2.shape hbx.q.1
      obtain ⟨a2, d2, hp2⟩ := O2.shape hbx.q.2
      have HLA := Lib.hid hbx.q.1.at
      have HMA := Lib.hid hbx.q.2.at
      obtain ⟨p0, p1⟩ := p
      dsimp only at hp1 hp2 HLA HMA ⊢
      rw [List.length_map] at hp1 hp2
      subst hp1 hp2
      have HI := Lib.hid hI
      have HBX := Lib.hid hbx
      obtain ⟨x, e⟩ := x
      dsimp only at *
      have hok := hI.ok
      have hpr := hI.pr
      have hrun := hI.run
      have hklt := hI.lt
      have hFk : ∀ d os, (Sort.grow (redrawn W d) os).cell? ⟨TB, 0, none⟩ = some (.int .i64 (k : Int)) := fun d os => cell_regrown hI.af.bt.cell d os
      have hFl : ∀ d os, (Sort.grow (redrawn W d) os).cell? ⟨w.heap.size, 0, none⟩ = some (.slice va L vc) := fun d os => cell_regrown hI.af.b0.cell d os
      have hFx : ∀ d os, (Sort.grow (redrawn W d) os).cell? ⟨Bx, 0, none⟩ = some (.slice a1 x.ls.length d1) := fun d os => cell_regrown hbx.box.c0 d os
      have hFy : ∀ d os, (Sort.grow (redrawn W d) os).cell? ⟨Bx, 1, none⟩ = some (.slice a2 x.ss.length d2) := fun d os => cell_regrown hbx.box.c1 d os
      have hkL : (k : Int) ≤ 1000002 := by have := HM.out; omega
      clear hI hbx
      by_cases he : e = 0
      · subst he
        have HOK := Lib.hid hok.2
        have HRN : Hid (min (k + 1 + cnt rest) M = T) := Lib.hid (by rw [cnt, if_pos rfl] at hrun; omega)
        clear hrun hok
        by_cases hkl : k < L
        · have hk1 : k < zs.length := by have := HL.out; omega
          have hV := HV.out.below HI.out.af.bel (Nat.le_refl _)
          rcases hV.row with ⟨h0, _⟩ | ⟨g, o, c, hg, hcs⟩
          · have := congrArg List.length h0; rw [List.length_map, List.length_nil] at this; omega
          obtain ⟨q0, q1⟩ := hcs k (by rw [List.length_map]; exact hk1)
          rw [List.getElem_map] at q0 q1
          have hdr : (zs.map Zr.x).drop k = zs[k].x :: (zs.map Zr.x).drop (k + 1) := by rw [List.drop_eq_getElem_cons (by rw [List.length_map]; exact hk1), List.getElem_map]
          rw [hdr] at hpr
          obtain ⟨hx, hpr2⟩ := hpr
          have HPR := Lib.hid hpr2
          have hx := hx rfl
          have hA := hV.ls zs[k] (List.getElem_mem hk1)
          have hB2 := hV.ss zs[k] (List.getElem_mem hk1)
          have hfin := HFN.out.l zs[k] (List.getElem_mem hk1)
          rw [List.length_map, HL.out] at hg
          clear hcs hdr hpr2 hV
          generalize zs[k] = Z at *
          obtain ⟨zx, za, zb⟩ := Z
          unfold zp at q0 q1
          dsimp only at q0 q1 hx hA hB2 hfin
          subst hx
          obtain ⟨a3, d3, hza⟩ := At2.slice hA
          obtain ⟨a4, d4, hzb⟩ := At2.slice hB2
          rw [List.length_map] at hza hzb
          subst hza hzb
          have HAL : Hid (∀ W', Below W.heap.size W W' → Calls Try.prog 26 #[.agg #[.slice a1 x.ls.length d1, .slice a2 x.ss.length d2], .agg #[.slice a3 x.ls.length d3, .slice a4 x.ss.length d4]] W' (Ret W' (.bool true))) := Lib.hid fun W' hb => by
            have := alike_any x x hfin hfin _ _ _ _ W' (At2.below HLA.out hb (Nat.le_refl _)) (At2.below HMA.out hb (Nat.le_refl _)) (At2.below hA hb (Nat.le_refl _)) (At2.below hB2 hb (Nat.le_refl _))
            simp only [eq_self, decide_true] at this
            exact this
          have hFa : ∀ d os, (Sort.grow (redrawn W d) os).cell? ⟨g, o + k * 2, none⟩ = some (.slice a3 x.ls.length d3) := fun d os => cell_regrown q0 d os
          have hFb : ∀ d os, (Sort.grow (redrawn W d) os).cell? ⟨g, o + k * 2 + 1, none⟩ = some (.slice a4 x.ss.length d4) := fun d os => cell_regrown q1 d os
          have hlt : decide ((k : Int) < (L : Int)) = true := decide_eq_true (by omega)
          clear hA hB2 hfin q0 q1
          generalize x.ls.length = L1 at *
          generalize x.ss.length = L2 at *
          cases hg
          gi_wp2
          refine region_round_below (by kernel_rfl) (by kernel_rfl) (by kernel_rfl) ?_
          repeat (go_big_quiet_step (first | (go_at_call 26; exact Calls.regrown_of (HAL.out _ (below_regrown _ _ _)))))
          refine wpQuiet_nil ?_
          intro W2 hw2
          have hb2 : Below W.heap.size W W2 := by obtain ⟨q, rfl⟩ := hw2; exact below_regrown _ _ _
          have HB2 := Lib.hid hb2
          have haf2 := Aft.ab (b := w6.heap.size) (by omega) (by omega) (by omega) _ _ none HI.out.af (grown_of_below hb2) (fun r e => by cases e)
          have HAF2 := Lib.hid haf2
          have u9 := haf2.bt.cell
          have g9 := haf2.bt.frozen
          have u1 : (W2.setCell ⟨TB, 0, none⟩ (.int .i64 ((k : Int) + 1))).cell? ⟨w.heap.size + 1, 0, none⟩ = some (.int .i64 (M : Int)) := (haf2.b1.other (by omega) _).cell
          have v9 : (W2.setCell ⟨TB, 0, none⟩ (.int .i64 ((k : Int) + 1))).cell? ⟨TB, 0, none⟩ = some (.int .i64 ((k : Int) + 1)) := (haf2.bt.set _).cell
          have ek : ((k : Int) + 1) = ((k + 1 : Nat) : Int) := by omega
          have HEK := Lib.hid ek
          have HKE : Hid (Kept (fun j => F j ∨ j = w6.heap.size ∨ j = w6.heap.size + 1) W (W2.setCell ⟨TB, 0, none⟩ (.int .i64 ((k : Int) + 1)))) := Lib.hid ((Kept.below hb2).trans (Kept.grown (grownBy_setCell' W2 TB (.int .i64 ((k : Int) + 1))) (fun r e => by cases e; rintro (h | h | h) <;> first | omega | (have := (HI.out.fb _ h).1; omega))))
          have HPU : Hid (Aft w (.slice (some ⟨g, o, none⟩) L vc) (.string (B1 ++ s)) M TB B9 (k + 1) (W2.setCell ⟨TB, 0, none⟩ (.int .i64 ((k : Int) + 1)))) := Lib.hid (by rw [ek]; exact haf2.put (by omega) (by omega) (k + 1))
          clear hw2 hb2 hFk hFl hFx hFy haf2 ek hFa hFb
          by_cases hMM : k + 1 = M
          · have hMi : (k : Int) + 1 = (M : Int) := by omega
            have HTK : Hid (k + 1 = T) := Lib.hid (by have := HRN.out; omega)
            rw [hMi] at u1 v9 HKE HPU
            clear hMM
            gi_wp2
            refine ⟨HKE.out.mono (fun j h => .inr h), rfl, ?_⟩
            rw [← HTK.out]
            exact HPU.out
          · have hMi : ¬ (k : Int) + 1 = (M : Int) := by omega
            have HMM := Lib.hid hMM
            clear hMM
            gi_wp2
            exact ⟨HKE.out, k + 1, HPU.out, by have := HRN.out; omega, by have := HMM.out; omega, HPR.out, HOK.out, fun j hj => by have := HI.out.fb j hj; have := HKE.out.size; omega⟩
        · have hlt : decide ((k : Int) < (L : Int)) = false := decide_eq_false (by omega)
          have HPR : Hid (pre rest ((zs.map Zr.x).drop (k + 1))) := Lib.hid (by rw [List.drop_of_length_le (by rw [List.length_map, HL.out]; omega)]; exact pre_nil _)
          clear hpr
          generalize x.ls.length = L1 at *
          generalize x.ss.length = L2 at *
          gi_wp2
          refine region_round_below (by kernel_rfl) (by kernel_rfl) (by kernel_rfl) ?_
          repeat (go_big_quiet_step (fail))
          refine wpQuiet_nil ?_
          intro W2 hw2
          have hb2 : Below W.heap.size W W2 := by obtain ⟨q, rfl⟩ := hw2; exact below_regrown _ _ _
          have HB2 := Lib.hid hb2
          have haf2 := Aft.ab (b := w6.heap.size) (by omega) (by omega) (by omega) _ _ none HI.out.af (grown_of_below hb2) (fun r e => by cases e)
          have HAF2 := Lib.hid haf2
          have u9 := haf2.bt.cell
          have g9 := haf2.bt.frozen
          have u1 : (W2.setCell ⟨TB, 0, none⟩ (.int .i64 ((k : Int) + 1))).cell? ⟨w.heap.size + 1, 0, none⟩ = some (.int .i64 (M : Int)) := (haf2.b1.other (by omega) _).cell
          have v9 : (W2.setCell ⟨TB, 0, none⟩ (.int .i64 ((k : Int) + 1))).cell? ⟨TB, 0, none⟩ = some (.int .i64 ((k : Int) + 1)) := (haf2.bt.set _).cell
          have ek : ((k : Int) + 1) = ((k + 1 : Nat) : Int) := by omega
          have HEK := Lib.hid ek
          have HKE : Hid (Kept (fun j => F j ∨ j = w6.heap.size ∨ j = w6.heap.size + 1) W (W2.setCell ⟨TB, 0, none⟩ (.int .i64 ((k : Int) + 1)))) := Lib.hid ((Kept.below hb2).trans (Kept.grown (grownBy_setCell' W2 TB (.int .i64 ((k : Int) + 1))) (fun r e => by cases e; rintro (h | h | h) <;> first | omega | (have := (HI.out.fb _ h).1; omega))))
          have HPU : Hid (Aft w (.slice va L vc) (.string (B1 ++ s)) M TB B9 (k + 1) (W2.setCell ⟨TB, 0, none⟩ (.int .i64 ((k : Int) + 1)))) := Lib.hid (by rw [ek]; exact haf2.put (by omega) (by omega) (k + 1))
          clear hw2 hb2 hFk hFl hFx hFy haf2 ek
          by_cases hMM : k + 1 = M
          · have hMi : (k : Int) + 1 = (M : Int) := by omega
            have HTK : Hid (k + 1 = T) := Lib.hid (by have := HRN.out; omega)
            rw [hMi] at u1 v9 HKE HPU
            clear hMM
            gi_wp2
            refine ⟨HKE.out.mono (fun j h => .inr h), rfl, ?_⟩
            rw [← HTK.out]
            exact HPU.out
          · have hMi : ¬ (k : Int) + 1 = (M : Int) := by omega
            have HMM := Lib.hid hMM
            clear hMM
            gi_wp2
            exact ⟨HKE.out, k + 1, HPU.out, by have := HRN.out; omega, by have := HMM.out; omega, HPR.out, HOK.out, fun j hj => by have := HI.out.fb j hj; have := HKE.out.size; omega⟩
      · have he1 : ((e : Int) != 0) = true := by rw [bne_iff_ne]; omega
        obtain ⟨rfl, -⟩ := hok.1 he
        have HKT : Hid (k = T) := Lib.hid (by rw [cnt, if_neg he] at hrun; simp only [cnt] at hrun; omega)
        clear hok hpr hrun he
        gi_wp2
        refine region_round_below (by kernel_rfl) (by kernel_rfl) (by kernel_rfl) ?_
        repeat (go_big_quiet_step (fail))
        refine wpQuiet_nil ?_
        intro W2 hw2
        have hb2 : Below W.heap.size W W2 := by obtain ⟨q, rfl⟩ := hw2; exact below_regrown _ _ _
        have HB2 := Lib.hid hb2
        clear hw2 hb2 hFk hFl hFx hFy
        gi_wp2
        have h := Aft.ab (b := w6.heap.size) (by omega) (by omega) (by omega) _ _ none HI.out.af (grown_of_below HB2.out) (fun r e => by cases e)
        rw [HKT.out] at h
        exact ⟨Kept.below HB2.out, rfl, h⟩
    case done =>
      rintro F W ⟨k, hI⟩ hD
      have hk : k = T := by have := hI.run; have := hI.lt; simp only [cnt] at *; omega
      subst hk
      exact ⟨.inl rfl, rfl, hI.af, hD⟩
    case stop =>
      rintro c W ⟨rfl, hA⟩ hD
      exact wpIn_exit ⟨.inr rfl, rfl, hA, hD⟩
  · rintro W7 ⟨hA7, hD7⟩
    have HA7 := Lib.hid hA7
    have HD7 := Lib.hid hD7
    have hlt7 := (Array.getElem?_eq_some_iff.1 hD7).1
    clear hA7 hD7
    gi_wp2
    obtain ⟨w8, hw8⟩ : ∃ W, (W7.alloc (.cells #[.int .i64 0] 3)).alloc (.cells #[.int .i64 0] 24) = W := ⟨_, rfl⟩
    have hs8 : w8.heap.size = W7.heap.size + 2 := by rw [← hw8]; simp
    have he8 : E2 w (.slice va L vc) (.string (B1 ++ s)) M TB B9 T W7.heap.size w6.heap.size (cnt XS) E XS (fun _ => False) w8 0 0 := by
      have g1 := World.grownBy_alloc W7 (.cells #[.int .i64 0] 3) none
      have g2 := World.grownBy_alloc (W7.alloc (.cells #[.int .i64 0] 3)) (.cells #[.int .i64 0] 24) none
      have a1 := Aft.ab (b := w6.heap.size) (by omega) (by omega) (by omega) _ _ none HA7.out g1 (fun r e => by cases e)
      have a2 := Aft.ab (b := w6.heap.size) (by omega) (by omega) (by omega) _ _ none a1 g2 (fun r e => by cases e)
      have b2 := Boxed.new (W7.alloc (.cells #[.int .i64 0] 3)) 24 (.int .i64 0)
      rw [World.size_alloc] at b2
      rw [← hw8]
      exact ⟨a2, (g2.block _ (by rw [World.size_alloc]; omega) (by simp)).trans ((g1.block _ hlt7 (by simp)).trans HD7.out), (Boxed.new _ _ _).alloc _, b2, by rw [Nat.zero_add], HF.out.last, fun j h => h.elim⟩
    rw [hw8]
    have HE8 := Lib.hid he8
    clear hw8 he8 HD7
    generalize hAB : W7.heap.size = AB at *
    clear hAB HA7
    obtain ⟨N, hN⟩ : ∃ N, cnt XS = N := ⟨_, rfl⟩
    rw [hN] at HE8 HT
    have HN := Lib.hid hN
    clear hN
    refine range_cut { target := .collected w8.heap.size, args := #[] } (fun W => ∃ a la, E2 w (.slice va L vc) (.string (B1 ++ s)) M TB B9 T AB w6.heap.size N E [] (fun _ => False) W a la ∧ W.heap[w8.heap.size]? = some (.deferred (some []))) ?_ ?_
    · apply wp_range2 (β := Pv) (gf := 37) (lb := #[.pointer (some ⟨B9, 0, none⟩)]) rfl (enters_of Try.func37 (by kernel_rfl) rfl) (En2 (QS (w8.heap.size + 2))) (fun x us W h => by obtain ⟨p, h⟩ := h; rw [h.eq]; rfl) XS (fun _ => False) (by intro j hj; exact hj.elim) ?seq
        (fun rest F W => ∃ a la, E2 w (.slice va L vc) (.string (B1 ++ s)) M TB B9 T AB w6.heap.size N E rest F W a la) (fun c W => False) (E2.ab (by omega) (by omega) (by omega) (by omega) (by omega)) (fun c A A' row h hg hr => h.elim) ⟨0, 0, HE8.out⟩
        (fun _ _ _ _ => True) (fun _ _ _ _ _ _ _ _ _ => trivial) _ ?assign ?body ?done ?stop
      case seq =>
        intro W hW hb
        rw [← hW]
        exact HG.out _ _ W ((hb.block _ HE8.out.af.b9.lt).trans HE8.out.af.b9)
      case assign =>
        rintro l x rest us F W K hI ⟨p, hp⟩ hB hK
        have he := hp.eq
        subst he
        clear hp
        have HI := Lib.hid hI
        clear hI
        gi_wp2
        obtain ⟨i0, hi0⟩ : ∃ i : Nat, i = 0 := ⟨_, rfl⟩
        exact hK i0 p W (Kept.refl _ _) HI.out trivial
      case body =>
        rintro l0 x rest F i p W ⟨a, la, hI⟩ - hB
        have HI := Lib.hid hI
        obtain ⟨x, e⟩ := x
        dsimp only at *
        have ca := hI.ba.cell
        have fa := hI.ba.frozen
        have fl := hI.bl.frozen
        have cl := hI.bl.cell
        have ha : (a : Int) ≤ 1000000 := by
          have h1 := hI.run
          have h2 := HN.out
          have h3 := HF.out.len
          have h4 := cnt_le XS
          omega
        by_cases he : e = 0
        · subst he
          have hR := HI.out.right rfl (by omega) (by omega) (by omega) (by omega)
          have ek : ((a : Int) + 1) = ((a + 1 : Nat) : Int) := by omega
          rw [← ek] at hR
          have HR := Lib.hid hR
          have fl2 : (W.setCell ⟨AB, 0, none⟩ (.int .i64 ((a : Int) + 1))).frozen? ⟨AB + 1, 0, none⟩ = false := (hI.bl.other (by omega) _).frozen
          have cl2 : (W.setCell ⟨AB, 0, none⟩ (.int .i64 ((a : Int) + 1))).cell? ⟨AB + 1, 0, none⟩ = some (.int .i64 (la : Int)) := (hI.bl.other (by omega) _).cell
          have HK : Hid (Kept (fun j => F j ∨ j = w8.heap.size ∨ j = w8.heap.size + 1) W ((W.setCell ⟨AB, 0, none⟩ (.int .i64 ((a : Int) + 1))).setCell ⟨AB + 1, 0, none⟩ (.int .i64 ((0 : Nat) : Int)))) := Lib.hid ((Kept.grown (grownBy_setCell' W AB _) (fun r e => by cases e; rintro (h | h | h) <;> first | omega | (have := (HI.out.fb _ h).1; omega))).trans (Kept.grown (grownBy_setCell' _ (AB + 1) _) (fun r e => by cases e; rintro (h | h | h) <;> first | omega | (have := (HI.out.fb _ h).1; omega))))
          clear hR hI ek hs8
          gi_wp2
          exact ⟨HK.out, a + 1, 0, HR.out⟩
        · have he1 : ((e : Int) == 0) = false := by rw [beq_eq_false_iff_ne]; omega
          have he2 : decide ((e : Int) = 0) = false := decide_eq_false (by omega)
          have he3 : ¬ (e : Int) = 0 := by omega
          have HR := Lib.hid (HI.out.wrong he (by omega) (by omega) (by omega) (by omega))
          have HK : Hid (Kept (fun j => F j ∨ j = w8.heap.size ∨ j = w8.heap.size + 1) W (W.setCell ⟨AB + 1, 0, none⟩ (.int .i64 (e : Int)))) := Lib.hid (Kept.grown (grownBy_setCell' _ (AB + 1) _) (fun r e => by cases e; rintro (h | h | h) <;> first | omega | (have := (HI.out.fb _ h).1; omega)))
          clear hI he hs8
          gi_wp2
          exact ⟨HK.out, a, e, HR.out⟩
      case done =>
        rintro F W ⟨a, la, hI⟩ hD
        exact ⟨.inl rfl, rfl, a, la, ⟨hI.af, hI.dd, hI.ba, hI.bl, hI.run, hI.last, fun j h => h.elim⟩, hD⟩
      case stop =>
        rintro c W h hD
        exact h.elim
    · rintro W9 ⟨a, la, hE9, hD9⟩
      have hrun := hE9.run
      have hlast := hE9.last
      simp only [cnt, lastE] at hrun hlast
      obtain rfl : a = N := by omega
      subst hlast
      have HE9 := Lib.hid hE9
      have HD9 := Lib.hid hD9
      clear hE9 hD9 hrun
      gi_wp2_with fail
      refine ⟨trivial, (callsIn_wide.2 (HD.out _)).mono ?_⟩
      rintro e w10 ⟨v, zz, rfl, ho, hmap, hb10⟩
      obtain ⟨da, dc, hv⟩ := ho.shape
      have hzl : zz.length = A.length := by have := congrArg List.length hmap; simpa using this
      rw [hzl] at hv
      subst hv
      have hA10 := Aft.ab (b := w8.heap.size) (by omega) (by omega) (by omega) _ _ none HE9.out.af (grown_of_below hb10) (fun r e => by cases e)
      have k0 := hA10.b0.cell
      have k1 := hA10.b1.cell
      have kt := hA10.bt.cell
      have ja : Boxed w10 AB 3 (.int .i64 (a : Int)) := (hb10.block _ HE9.out.ba.lt).trans HE9.out.ba
      have ka := ja.cell
      have jl : Boxed w10 (AB + 1) 24 (.int .i64 (la : Int)) := (hb10.block _ HE9.out.bl.lt).trans HE9.out.bl
      have kl := jl.cell
      have HX6 := Lib.hid ((hb10.block _ (Array.getElem?_eq_some_iff.1 HE9.out.dd).1).trans HE9.out.dd)
      have HX8 := Lib.hid ((hb10.block _ (Array.getElem?_eq_some_iff.1 HD9.out).1).trans HD9.out)
      have HBL := Lib.hid hA10.bel
      have hmin : min (a : Int) (M : Int) = (T : Int) := by have := HT.out; omega
      have hb63 : (a : Int) ≤ 1000000 := by have h2 := HN.out; have h3 := HF.out.len; have h4 := cnt_le XS; omega
      have HLT : Hid (w6.heap.size < w8.heap.size ∧ w.heap.size ≤ w6.heap.size) := Lib.hid ⟨by omega, by omega⟩
      clear ho hmap hzl hb10 hA10 hs8 ja jl
      by_cases hE : la = 0
      · subst hE
        obtain ⟨hall, hge0⟩ := HF.out.all rfl
        have hAN : A.length = a := by rw [← hall]; exact HN.out
        have hge : (L : Int) ≤ (a : Int) := by rw [List.length_map, HL.out, HN.out] at hge0; omega
        rw [hAN]
        clear hall hge0 hAN
        gi_wp2
        all_goals first | (exfalso; rename_i b hb ht; cases hb; done) | skip
        all_goals exact fin2 rfl rfl HX6.out HX8.out HLT.out HBL.out
      · have hA0 := HF.out.none hE
        have e1 : ((la : Int) == 0) = false := by rw [beq_eq_false_iff_ne]; omega
        have e2 : ((la : Int) != 0) = true := by rw [bne_iff_ne]; omega
        have e3 : ¬ (la : Int) = 0 := by omega
        rw [hA0]
        clear hE hA0
        generalize (la : Int) = LA at *
        gi_wp2
        all_goals first | (exfalso; rename_i b hb ht; cases hb; done) | skip
        all_goals exact fin2 rfl rfl HX6.out HX8.out HLT.out HBL.out
set_option maxRecDepth 100000 in
set_option maxHeartbeats 1000000 in
theorem core (v : Value) (zs : List Zr) (s : ByteArray) (m : Int) (ws : s.size ≤ maxLen) (wm : (Lit.int .i64 m).wf = true) (w : World) (h : ArgZ w v zs) :
    Calls Try.prog 9 #[v, .string s, .int .i64 m] w fun e w' => e = .returned (.bool true) ∧ Below w.heap.size w w' := by
  clear wm
  have hs63 : (s.size : Int) ≤ 9223372036854775807 := by unfold maxLen at ws; omega
  have HLG := Lib.hid (fun W (hW : SAt W v zs) => large_any zs h.len h.wide v W hW)
  have HV := Lib.hid h.at'
  have hok : ∀ x ∈ zs.map Zr.x, ∀ y ∈ x.ss, y.ok := fun x hx => by obtain ⟨z, hz, rfl⟩ := List.mem_map.1 hx; exact (h.wide z hz).o
  have hokz : ∀ z ∈ zs, ∀ y ∈ z.x.ss, y.ok := fun z hz => (h.wide z hz).o
  obtain ⟨va, vc, hv⟩ := h.at'.slice
  clear h
  by_cases hb : 4000 ≤ lg (zs.map Zr.x) 0
  · have hd : decide (4000 ≤ lg (zs.map Zr.x) 0) = true := decide_eq_true hb
    rw [hd] at HLG
    generalize hL : zs.length = L at hv
    subst hv
    clear hb hd hL hok hokz
    obtain ⟨w0, hw0⟩ : ∃ w0, (w.alloc (.cells #[.slice va L vc] 23)).alloc (.cells #[.int .i64 m] 3) = w0 := ⟨_, rfl⟩
    have hb0 : Below w.heap.size w w0 := by
      rw [← hw0]
      exact ((Below.refl _ w).alloc (Nat.le_refl _) _).alloc (by simp) _
    have q0 : Boxed w0 w.heap.size 23 (.slice va L vc) := by rw [← hw0]; exact (Boxed.new w 23 _).alloc _
    have HV0 := Lib.hid (HV.out.below hb0 (Nat.le_refl _))
    have HB0 := Lib.hid hb0
    have HW0 := Lib.hid hw0
    rw [← hw0] at q0
    have c0 := q0.cell
    clear hw0 hb0 q0
    go_enter Try.func9, Try.ntmps9
    go_wp2_with fail
    rw [HW0.out]
    refine (HLG.out _ HV0.out).mono ?_
    rintro e w1 ⟨rfl, hb1⟩
    have HB1 := Lib.hid (below_trans' HB0.out hb1)
    clear hb1 c0
    go_wp2_with fail
    refine (awake_any _).mono ?_
    rintro e w2 ⟨rfl, hb2⟩
    have HB2 := Lib.hid (below_trans' HB1.out hb2)
    clear hb2
    go_wp2
    go_ret
    exact ⟨rfl, HB2.out⟩
  · have hd : decide (4000 ≤ lg (zs.map Zr.x) 0) = false := decide_eq_false hb
    rw [hd] at HLG
    have hlen := lg_len (zs.map Zr.x) 0 hok (by omega)
    have hlen : (eRq (zs.map Zr.x)).length ≤ 16000 := by omega
    clear hd
    by_cases hbig : 10000 < s.size
    · generalize hL : zs.length = L at hv
      subst hv
      clear hb hL hok hokz hlen
      have hbi : (10000 : Int) < (s.size : Int) := by omega
      obtain ⟨w0, hw0⟩ : ∃ w0, (w.alloc (.cells #[.slice va L vc] 23)).alloc (.cells #[.int .i64 m] 3) = w0 := ⟨_, rfl⟩
      have hb0 : Below w.heap.size w w0 := by
        rw [← hw0]
        exact ((Below.refl _ w).alloc (Nat.le_refl _) _).alloc (by simp) _
      have q0 : Boxed w0 w.heap.size 23 (.slice va L vc) := by rw [← hw0]; exact (Boxed.new w 23 _).alloc _
      have HV0 := Lib.hid (HV.out.below hb0 (Nat.le_refl _))
      have HB0 := Lib.hid hb0
      have HW0 := Lib.hid hw0
      rw [← hw0] at q0
      have c0 := q0.cell
      clear hw0 hb0 q0
      go_enter Try.func9, Try.ntmps9
      go_wp2_with fail
      rw [HW0.out]
      refine (HLG.out _ HV0.out).mono ?_
      rintro e w1 ⟨rfl, hb1⟩
      have HB1 := Lib.hid (below_trans' HB0.out hb1)
      clear hb1 c0
      go_wp2_with fail
      refine (awake_any _).mono ?_
      rintro e w2 ⟨rfl, hb2⟩
      have HB2 := Lib.hid (below_trans' HB1.out hb2)
      clear hb2
      go_wp2
      go_ret
      exact ⟨rfl, HB2.out⟩
    · have hsz := Siz.of hok (by omega)
      have hrk := Siz.rok hsz
      have hsl : s.data.toList.length = s.size := by simp
      have hnl : zs.length ≤ (eRq (zs.map Zr.x)).length := by
        have := rq_len (zs.map Zr.x)
        rwa [List.length_map] at this
      have hbd : (bs (eRq (zs.map Zr.x)) ++ s).data.toList = eRq (zs.map Zr.x) ++ s.data.toList := by simp [bs_data]
      have hbs : (bs (eRq (zs.map Zr.x)) ++ s).size ≤ 1000000 := by rw [← ByteArray.size_data, ← Array.length_toList, hbd, List.length_append]; omega
      subst hv
      exact main va vc zs s (by omega) m w HV (by omega) HLG (bs (eRq (zs.map Zr.x))) (by rw [bs_size]; omega) (Lib.hid fun W hW => encode_any zs hokz (by omega) _ W hW) _ _ _
        (Lib.hid (each_facts hrk s.data.toList (by omega) (by omega))) (Lib.hid fun n b W hW => by
          have := each_gives n (bs (eRq (zs.map Zr.x)) ++ s) hbs b (fun _ => False) W hW
          rwa [hbd] at this)
        (Lib.hid (fin_of hsz (by omega))) (Lib.hid fun W => by
          have := decode_any (bs (eRq (zs.map Zr.x)) ++ s) hbs W
          rwa [hbd] at this)
theorem own : ownKnob Try.prog.godebug = none := by kernel_rfl
theorem laidOut : laidOutB Try.prog = true := by kernel_rfl
set_option maxRecDepth 100000 in
theorem lifted (os : Os) (started : os.Started) (H : Type) (enc : TypeId × Value → H) :
    ReturnsInHanded {} Try.checked os 9 .any (Rows.requestEachSpec.pre6 enc Try.prog Try.f9 Rows.requestEachRow.domain false) (Rows.requestEachSpec.post enc Try.prog Try.f9 false true false false) := by
  refine returnsInHanded_of_change_sized (C := Try.checked) own started (by kernel_rfl) Try.func9
    (ChangeSpec.witness6 (enc := enc) (C := Try.checked) false ⟨#[], #[.slice none 0 0, .string ByteArray.empty, .int .i64 0], []⟩ 8 (by kernel_rfl) (by kernel_rfl) (by kernel_rfl) (by kernel_rfl)) ?_
  intro W base args ds gs before hval0 hW hcnd hwt _
  have hval : ∀ (j : Nat) t v, Try.f9.params[j]? = some t → args[j]? = some v → Value.okWide Try.prog W .any base t v := hval0
  have hW' := hW
  obtain ⟨p, q, hA0, hV, rfl, hfz, hnd⟩ := hW
  have hA : DataW.TrodAll enc Try.prog W 0 (fun _ => true) true Try.f9.params.toList args.toList ds p := hA0
  rw [Try.params9] at hA hval
  obtain ⟨v0, vs0, d0, ds0, p0, q0, hargs, rfl, rfl, h0, r0⟩ := trodAll_cons hA
  obtain ⟨v1, vs1, d1, ds1, p1, q1, rfl, rfl, rfl, h1, r1⟩ := trodAll_cons r0
  obtain ⟨v2, vs2, d2, ds2, p2, q2, rfl, rfl, rfl, h2, r2⟩ := trodAll_cons r1
  obtain ⟨rfl, rfl, rfl⟩ := trodAll_nil r2
  obtain rfl : args = #[v0, v1, v2] := by cases args; simp_all
  obtain ⟨rfl, rfl⟩ := trodVars_none hV
  have hwts := all_weights hwt
  have k0 := h0
  have lt0 : ∀ x ∈ p0, x.block < W.heap.size := by obtain ⟨m, hm⟩ := k0; exact DataW.trod_lt m _ _ _ hm
  have k1 := h1
  have lt1 : ∀ x ∈ p1, x.block < W.heap.size := by obtain ⟨m, hm⟩ := k1; exact DataW.trod_lt m _ _ _ hm
  have k2 := h2
  have lt2 : ∀ x ∈ p2, x.block < W.heap.size := by obtain ⟨m, hm⟩ := k2; exact DataW.trod_lt m _ _ _ hm
  obtain ⟨a0, w0⟩ := open_series (hval 0 23 v0 rfl rfl) h0 (fun k hk => hwts k (by simp only [Try.params9, List.cons_append, List.nil_append, DataW.weightsEach]; exact List.mem_append_left _ hk))
  obtain ⟨a1, rfl, rfl, rfl, w1⟩ := open_string Try.underlying9 (hval 1 9 v1 rfl rfl) h1
  obtain ⟨a2, rfl, rfl, rfl, w2⟩ := open_int Try.underlying3 (hval 2 3 v2 rfl rfl) h2
  clear hA0 hval0
  refine (core v0 a0 a1 a2 w1 w2 W w0).mono fun e W' ⟨he, bel⟩ => ?_
  subst he
  exact ⟨_, rfl, _, _, _, [], _, [], hW', trodAll_mk1 (shut_bool Try.underlying4 _), (trodAll_cons_mk (Below.trod laidOut (by kernel_rfl) (of_decide_eq_true (by kernel_rfl)) k0 bel lt0) (trodAll_cons_mk (Below.trod laidOut (by kernel_rfl) (of_decide_eq_true (by kernel_rfl)) k1 bel lt1) (trodAll_cons_mk (Below.trod laidOut (by kernel_rfl) (of_decide_eq_true (by kernel_rfl)) k2 bel lt2) trodAll_mk0))), rfl, bel.frame _, fun h => by cases h⟩
theorem over : Rows.requestEachRow.holds Try.pinned (OpenSpec.ofChange Rows.requestEachSpec) :=
  OpenClaim.holds_of_wide 9 Try.f9 rfl rfl rfl rfl rfl rfl rfl ⟨rfl, rfl, rfl, rfl, rfl⟩ rfl rfl rfl rfl rfl (by kernel_rfl) Try.func9 (by kernel_rfl)
    (of_decide_eq_true (by kernel_rfl)) (by unfold Func.isWrapper; first | (rw [if_pos (by decide +kernel)]; kernel_rfl) | (rw [if_neg (by decide +kernel)]; exact ⟨rfl, rfl⟩))
    (fun os started H enc _ => lifted os started H enc)
theorem proved : Rows.RequestEachSaid := over
end Go.Proofs.Ytakdplfffkadpaa.requestEach
