/- ProtoWrites: for any fields the law answers true. No condition. -/
import Derived.Test.YtbckkfoenembmaaRows
import Derived.Test.YtbckkfoenembmaaAw
import Derived.Test.YtbckkfoenembmaaMo
import Derived.WalkKit
import Derived.ProofKit
import Derived.OpenShut
import Derived.ShutString
namespace Go.Proofs.Ytbckkfoenembmaa.protoWrites
open Go.ChangeShapes Go.WideShapes Go.ChangeAt Go.RowKit
open Go.ChangeMaps (open_string shut_string)
set_option linter.unusedVariables false
set_option maxRecDepth 100000 in
set_option maxHeartbeats 4000000 in
theorem core (v : Value) (l : List Ff) (w : World) (h : Arg w v l) :
    Calls Try.prog 4 #[v] w fun e w' => e = .returned (.bool true) ∧ Below w.heap.size w w' := by
  obtain ⟨hA, hlm, hwd⟩ := h
  have HA := Lib.hid hA
  have HLG := Lib.hid (fun W (hW : FAt W v l) => large_any l hlm hwd v W hW)
  obtain ⟨va, vc, hv⟩ := hA.slice
  generalize hLL : l.length = LL at hv
  have HLL := Lib.hid hLL
  clear hLL
  subst hv
  clear hA
  by_cases hb : 10000 ≤ lng l 0
  · have hd : decide (10000 ≤ lng l 0) = true := decide_eq_true hb
    clear hb
    rw [hd] at HLG
    clear hd hwd hlm
    go_enter Try.func4, Try.ntmps4
    go_wp2_with fail
    refine (HLG.out _ HA.out).mono ?_
    rintro e w1 ⟨rfl, rfl⟩
    go_wp2_with fail
    refine (awake_any _).mono ?_
    rintro e w1 ⟨rfl, hb1⟩
    have HB1 := Lib.hid hb1
    clear hb1
    go_wp2
    go_ret
    exact ⟨rfl, HB1.out⟩
  · have hd : decide (10000 ≤ lng l 0) = false := decide_eq_false hb
    rw [hd] at HLG
    have F := fit_of hwd (by omega)
    have hl5 := F.len
    have HMD := Lib.hid (fun V W hv => made_any l (by omega) F.ok V W hv)
    have HRW := Lib.hid (fun V W hv => rwrite_any l (by omega) F.ok (fun f hf => by have := F.t f hf; omega) V W hv)
    have HST := Lib.hid (fun V W hv => strip_any l (by omega) F.ok V W hv)
    have hgl : (l.map made1).length = l.length := by simp
    have hgok : ∀ g ∈ l.map made1, g.ok := fun g hg => by obtain ⟨f, hf, rfl⟩ := List.mem_map.1 hg; exact made_ok (F.ok f hf)
    have hgby : ∀ g ∈ l.map made1, g.v.by.length ≤ 1000000 := fun g hg => by obtain ⟨f, hf, rfl⟩ := List.mem_map.1 hg; have := made_by_le (F.ok f hf) (F.t f hf); omega
    have HWR := Lib.hid (fun V W hv => write_any (l.map made1) (by omega) hgok hgby V W hv)
    have HPL := Lib.hid (fun V W hv => plain_any (l.map made1) (by omega) (fun g hg => (hgok g hg).v) V W hv)
    rw [wrk_made l []] at HWR
    rw [show (l.map made1).map plain1 = l.map strip by rw [List.map_map]; rfl] at HPL
    have HSM := Lib.hid (fun V U W h1 h2 => same_any (l.map strip) (by simp; omega) V U W h1 h2)
    have HOK := Lib.hid F.ok
    have HL5 := Lib.hid hl5
    have HGL := Lib.hid hgl
    have HGE : Hid (∀ j (h : j < l.length) (h2 : j < (l.map made1).length), (l.map made1)[j] = made1 l[j]) := Lib.hid (fun j h h2 => by simp)
    clear hd hwd hlm hb F hgl hgok hgby hl5
    obtain ⟨R, E, hRE⟩ : ∃ R E, rwk l [] = (R, E) := ⟨_, _, rfl⟩
    rw [hRE] at HWR HRW
    clear hRE
    have e2 : ((E : Int) != (E : Int)) = false := by simp
    have e3 : ((bs R).toList != (bs R).toList) = false := by simp
    generalize l.map made1 = gs at *
    generalize l.map strip = ps at *
    go_enter Try.func4, Try.ntmps4
    go_wp2_with fail
    refine (HLG.out _ HA.out).mono ?_
    rintro e w0 ⟨rfl, rfl⟩
    go_wp2_with fail
    refine (HMD.out _ _ HA.out).mono ?_
    rintro e w2 ⟨v2, rfl, ho2, hb2⟩
    have HB2 := Lib.hid hb2
    have HA2 := Lib.hid (HA.out.below hb2 (Nat.le_refl _))
    have HG2 := Lib.hid ho2.at
    obtain ⟨a2, c2, hv2⟩ := ho2.shape
    clear hb2 ho2
    generalize hGG : gs.length = GG at hv2
    have HGG := Lib.hid hGG
    clear hGG
    subst hv2
    go_wp2_with fail
    refine (HWR.out _ _ HG2.out).mono ?_
    rintro e w3 ⟨rfl, hb3⟩
    have HB3 := Lib.hid (below_trans' HB2.out hb3)
    have HA3 := Lib.hid (HA2.out.below hb3 (Nat.le_refl _))
    have HG3 := Lib.hid (HG2.out.below hb3 (Nat.le_refl _))
    clear hb3
    dsimp only
    go_wp2_with fail
    refine (HRW.out _ _ HA3.out).mono ?_
    rintro e w4 ⟨rfl, hb4⟩
    have HB4 := Lib.hid (below_trans' HB3.out hb4)
    have HA4 := Lib.hid (HA3.out.below hb4 (Nat.le_refl _))
    have HG4 := Lib.hid (HG3.out.below hb4 (Nat.le_refl _))
    clear hb4
    dsimp only
    go_wp2_with fail
    refine (HPL.out _ _ HG4.out).mono ?_
    rintro e w5 ⟨v5, rfl, ho5, hb5⟩
    have HB5 := Lib.hid (below_trans' HB4.out hb5)
    have HA5 := Lib.hid (HA4.out.below hb5 (Nat.le_refl _))
    have HG5 := Lib.hid (HG4.out.below hb5 (Nat.le_refl _))
    have HP5 := Lib.hid ho5.at
    clear hb5 ho5
    go_wp2_with fail
    refine (HST.out _ _ HA5.out).mono ?_
    rintro e w6 ⟨v6, rfl, ho6, hb6⟩
    have HB6 := Lib.hid (below_trans' HB5.out hb6)
    have HA6 := Lib.hid (HA5.out.below hb6 (Nat.le_refl _))
    have HG6 := Lib.hid (HG5.out.below hb6 (Nat.le_refl _))
    have HP6 := Lib.hid (HP5.out.below hb6 (Nat.le_refl _))
    have HQ6 := Lib.hid ho6.at
    clear hb6 ho6
    go_wp2_with fail
    refine (HSM.out _ _ _ HP6.out HQ6.out).mono ?_
    rintro e w7 ⟨rfl, hb7⟩
    have HB7 := Lib.hid (below_trans' HB6.out hb7)
    have HA7 := Lib.hid (HA6.out.below hb7 (Nat.le_refl _))
    have HG7 := Lib.hid (HG6.out.below hb7 (Nat.le_refl _))
    clear hb7
    go_wp2
    go_loopw [8] (fun i wr => ∃ k : Nat, i = .int .i64 (k : Int) ∧ k ≤ GG ∧ Hid (FAt wr (.slice va LL vc) l) ∧ Hid (GAt wr (.slice a2 GG c2) gs) ∧ Hid (Below w.heap.size w wr)) (fun i _ => GG - (intOf i).toNat)
    case atStart => exact ⟨0, rfl, by omega, HA7, HG7, HB7⟩
    case round =>
      obtain ⟨k, rfl, hk, HA, HG, HB⟩ := hrel
      by_cases hlt : k < GG
      · have hkg : k < gs.length := by have := HGG.out; omega
        have hkl : k < l.length := by have := HGL.out; omega
        rcases HA.out with ⟨h0, _⟩ | ⟨g, o, c, hg, hcs⟩
        · rw [h0] at hkl; simp at hkl
        rcases HG.out with ⟨h0, _⟩ | ⟨g2, o2, cc2, hg2, hcs2⟩
        · rw [h0] at hkg; simp at hkg
        obtain ⟨q0, q1, q2, q3⟩ := hcs k hkl
        obtain ⟨r0, r1⟩ := hcs2 k hkg
        rw [HGE.out k hkl hkg] at r0 r1
        have hfo := HOK.out l[k] (List.getElem_mem hkl)
        have hkLL : k < LL := by have := HLL.out; omega
        have hLL5 : LL ≤ 500 := by have := HLL.out; have := HL5.out; omega
        have hGG5 : GG ≤ 500 := by have := HGG.out; have := HGL.out; have := HL5.out; omega
        clear hcs hcs2
        generalize l[k] = f at *
        clear hkg hkl
        have M1 := fun W => (may_any (made1 f) W : Calls Try.prog 22 #[gv (made1 f)] W (Ret W (.bool (made1 f).may)))
        have M2 := fun W => rmay_any f W
        have M3 := fun W => size_any (made1 f) (made_ok hfo) W
        have M4 := fun W => rsize_any f hfo W
        rw [made_may] at M1
        rw [made_size] at M3
        unfold gv at M1 M3
        unfold fv at M2 M4
        have HM1 := Lib.hid M1; have HM2 := Lib.hid M2; have HM3 := Lib.hid M3; have HM4 := Lib.hid M4
        clear M1 M2 M3 M4 hfo
        have e5 : ((f.size : Int) != (f.size : Int)) = false := by simp
        generalize f.size = S at *
        generalize (made1 f).n = n1 at *
        generalize (made1 f).v.v = V at *
        obtain ⟨n, i, m, s⟩ := f
        dsimp only at *
        generalize Ff.may _ = B at *
        generalize (i : Int) = i at *
        generalize (m : Int) = m at *
        cases hg
        cases hg2
        have k0 : ∀ d os, («Sort».grow (redrawn wr d) os).cell? ⟨g, o + k * 4, none⟩ = some (.int .i64 n) := fun d os => cell_regrown q0 d os
        have k1 : ∀ d os, («Sort».grow (redrawn wr d) os).cell? ⟨g, o + k * 4 + 1, none⟩ = some (.int .u8 i) := fun d os => cell_regrown q1 d os
        have k2 : ∀ d os, («Sort».grow (redrawn wr d) os).cell? ⟨g, o + k * 4 + 2, none⟩ = some (.int .u64 m) := fun d os => cell_regrown q2 d os
        have k3 : ∀ d os, («Sort».grow (redrawn wr d) os).cell? ⟨g, o + k * 4 + 3, none⟩ = some (.string s) := fun d os => cell_regrown q3 d os
        have k4 : ∀ d os, («Sort».grow (redrawn wr d) os).cell? ⟨g2, o2 + k * 2, none⟩ = some (.int .i64 n1) := fun d os => cell_regrown r0 d os
        have k5 : ∀ d os, («Sort».grow (redrawn wr d) os).cell? ⟨g2, o2 + k * 2 + 1, none⟩ = some V := fun d os => cell_regrown r1 d os
        cases B <;>
        · go_wp2
          refine wp_region_quiet_below (by kernel_rfl) (by kernel_rfl) ?_
          repeat (go_big_quiet_step (first | (go_at_call 22; exact Calls.regrown_of (HM1.out _)) | (go_at_call 23; exact Calls.regrown_of (HM2.out _)) | (go_at_call 24; exact Calls.regrown_of (HM3.out _)) | (go_at_call 25; exact Calls.regrown_of (HM4.out _))))
          refine wpQuiet_nil ?_
          intro W2 hw2
          have hb2 : Below wr.heap.size wr W2 := by obtain ⟨q, rfl⟩ := hw2; exact below_regrown _ _ _
          have HBN := Lib.hid (HB.out.trans (hb2.mono HB.out.size))
          have HAN := Lib.hid (HA.out.below hb2 (Nat.le_refl _))
          have HGN := Lib.hid (HG.out.below hb2 (Nat.le_refl _))
          clear hw2 hb2 k0 k1 k2 k3 k4 k5
          go_wp2
          go_roundw
          case rel => exact ⟨k + 1, by go_num, by omega, HAN, HGN, HBN⟩
          case measure => simp [intOf]; omega
      · obtain rfl : k = GG := by omega
        have hGG5 : k ≤ 500 := by have := HGG.out; have := HGL.out; have := HL5.out; omega
        go_wp2_with fail
        refine (awake_any _).mono ?_
        rintro e w8 ⟨rfl, hb8⟩
        have HB8 := Lib.hid (below_trans' HB.out hb8)
        clear hb8
        go_wp2
        go_ret
        exact ⟨rfl, HB8.out⟩
theorem own : ownKnob Try.prog.godebug = none := by kernel_rfl
theorem laidOut : laidOutB Try.prog = true := by kernel_rfl
set_option maxRecDepth 100000 in
theorem lifted (os : Os) (started : os.Started) (H : Type) (enc : TypeId × Value → H) :
    ReturnsInHanded {} Try.checked os 4 .any (Rows.protoWritesSpec.pre6 enc Try.prog Try.f4 Rows.protoWritesRow.domain false) (Rows.protoWritesSpec.post enc Try.prog Try.f4 false true false false) := by
  refine returnsInHanded_of_change (C := Try.checked) own started (by kernel_rfl) Try.func4
    (ChangeSpec.witness6 (enc := enc) (C := Try.checked) false ⟨#[], #[.slice none 0 0], []⟩ 8 (by kernel_rfl) (by kernel_rfl) (by kernel_rfl) (by kernel_rfl)) ?_
  intro W base args ds gs before hval0 hW hcnd _
  have hval : ∀ (j : Nat) t v, Try.f4.params[j]? = some t → args[j]? = some v → Value.okWide Try.prog W .any base t v := hval0
  have hW' := hW
  obtain ⟨p, q, hA0, hV, rfl, hfz, hnd⟩ := hW
  have hA : DataW.TrodAll enc Try.prog W 0 (fun _ => true) true Try.f4.params.toList args.toList ds p := hA0
  rw [Try.params4] at hA hval
  obtain ⟨v0, vs0, d0, ds0, p0, q0, hargs, rfl, rfl, h0, r0⟩ := trodAll_cons hA
  obtain ⟨rfl, rfl, rfl⟩ := trodAll_nil r0
  obtain rfl : args = #[v0] := by cases args; simp_all
  obtain ⟨rfl, rfl⟩ := trodVars_none hV
  have k0 := h0
  have lt0 : ∀ x ∈ p0, x.block < W.heap.size := by obtain ⟨m, hm⟩ := k0; exact DataW.trod_lt m _ _ _ hm
  obtain ⟨a0, w0⟩ := open_fields (hval 0 23 v0 rfl rfl) h0
  clear hA0 hval0
  refine (core v0 a0  W w0).mono fun e W' ⟨he, bel⟩ => ?_
  subst he
  exact ⟨_, rfl, _, _, _, [], _, [], hW', trodAll_mk1 (shut_bool Try.underlying4 _), (trodAll_cons_mk (Below.trod laidOut (by kernel_rfl) (of_decide_eq_true (by kernel_rfl)) k0 bel lt0) trodAll_mk0), rfl, bel.frame _, fun h => by cases h⟩
theorem over : Rows.protoWritesRow.holds Try.pinned (OpenSpec.ofChange Rows.protoWritesSpec) :=
  OpenClaim.holds_of_wide 4 Try.f4 rfl rfl rfl rfl rfl rfl rfl ⟨rfl, rfl, rfl, rfl, rfl⟩ rfl rfl rfl rfl rfl (by kernel_rfl) Try.func4 (by kernel_rfl)
    (of_decide_eq_true (by kernel_rfl)) (by unfold Func.isWrapper; first | (rw [if_pos (by decide +kernel)]; kernel_rfl) | (rw [if_neg (by decide +kernel)]; exact ⟨rfl, rfl⟩))
    (fun os started H enc _ => lifted os started H enc)
theorem proved : Rows.ProtoWritesSaid := over
end Go.Proofs.Ytbckkfoenembmaa.protoWrites
