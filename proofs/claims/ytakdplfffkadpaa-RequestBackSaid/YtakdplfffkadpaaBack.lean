/- RequestBack: for any series and any text the law answers true. No condition. -/
import Derived.Test.YtakdplfffkadpaaRows
import Derived.Test.YtakdplfffkadpaaOp
import Derived.Test.YtakdplfffkadpaaLh
import Derived.WalkKit
import Derived.ProofKit
import Derived.OpenShut
import Derived.ShutString
namespace Go.Proofs.Ytakdplfffkadpaa.requestBack
open Go.ChangeShapes Go.WideShapes Go.ChangeAt Go.RowKit
open Go.ChangeMaps (open_string shut_string)
set_option linter.unusedVariables false
set_option maxRecDepth 100000 in
set_option maxHeartbeats 4000000 in
theorem core (v : Value) (zs : List Zr) (s : ByteArray) (ws : s.size ≤ maxLen) (w : World) (h : ArgZ w v zs) :
    Calls Try.prog 5 #[v, .string s] w fun e w' => e = .returned (.bool true) ∧ Below w.heap.size w w' := by
  have hs63 : (s.size : Int) ≤ 9223372036854775807 := by unfold maxLen at ws; omega
  have HLG := Lib.hid (fun W (hW : SAt W v zs) => large_any zs h.len h.wide v W hW)
  have HV := Lib.hid h.at'
  have hok : ∀ x ∈ zs.map Zr.x, ∀ y ∈ x.ss, y.ok := fun x hx => by obtain ⟨z, hz, rfl⟩ := List.mem_map.1 hx; exact (h.wide z hz).o
  have hokz : ∀ z ∈ zs, ∀ y ∈ z.x.ss, y.ok := fun z hz => (h.wide z hz).o
  obtain ⟨va, vc, hv⟩ := h.at'.slice
  clear h
  generalize hL : zs.length = L at hv
  subst hv
  by_cases hb : 4000 ≤ lg (zs.map Zr.x) 0
  · have hd : decide (4000 ≤ lg (zs.map Zr.x) 0) = true := decide_eq_true hb
    rw [hd] at HLG
    clear hb hd hL hok hokz
    go_enter Try.func5, Try.ntmps5
    go_wp2_with fail
    refine (HLG.out _ HV.out).mono ?_
    rintro e w1 ⟨rfl, hb1⟩
    have HB1 := Lib.hid hb1
    clear hb1
    go_wp2_with fail
    refine (awake_any _).mono ?_
    rintro e w2 ⟨rfl, hb2⟩
    have HB2 := Lib.hid (below_trans' HB1.out hb2)
    clear hb2
    go_wp2
    go_ret
    exact ⟨rfl, HB2.out⟩
  · have hd : decide (4000 ≤ lg (zs.map Zr.x) 0) = false := decide_eq_false hb
    rw [hd] at HLG
    have hlen := lg_len (zs.map Zr.x) 0 hok (by omega)
    have hlen : (eRq (zs.map Zr.x)).length ≤ 16000 := by omega
    clear hd
    by_cases hbig : 20000 < s.size
    · clear hb hL hok hokz hlen
      go_enter Try.func5, Try.ntmps5
      go_wp2_with fail
      refine (HLG.out _ HV.out).mono ?_
      rintro e w1 ⟨rfl, hb1⟩
      have HB1 := Lib.hid hb1
      clear hb1
      go_wp2_with fail
      refine (awake_any _).mono ?_
      rintro e w2 ⟨rfl, hb2⟩
      have HB2 := Lib.hid (below_trans' HB1.out hb2)
      clear hb2
      go_wp2
      go_ret
      exact ⟨rfl, HB2.out⟩
    have hs : s.size ≤ 20000 := by omega
    have hsl : s.data.toList.length = s.size := by simp
    have HE := Lib.hid (fun W hW => encode_any zs hokz (by omega) (.slice va L vc) W hW)
    have hsz := Siz.of hok (by omega)
    have HT := Lib.hid (fun W hW => told1_any (bs (eRq (zs.map Zr.x))) (by rw [bs_size]; omega) zs (fin_of hsz (by omega)) (by rw [bs_data]; exact dec_of (rRq_e (Siz.rok hsz))) (.slice va L vc) W hW)
    have HD := Lib.hid (fun W => decode_any s (by omega) W)
    obtain ⟨m, k, hmk⟩ : ∃ m k, dec s.data.toList = (m, k) := ⟨_, _, rfl⟩
    rw [hmk] at HD
    clear hb hok hokz hlen hsz hL
    generalize bs (eRq (zs.map Zr.x)) = B1 at *
    by_cases hk : k = 0
    · subst hk
      obtain ⟨z1, n1⟩ := dec_siz (by omega) hmk
      have HE2 : Hid (∀ ys : List Zr, ys.map Zr.x = m → ∀ V W, SAt W V ys → Calls Try.prog 16 #[V] W (Ret W (.string (bs (eRq m))))) := Lib.hid fun ys hy V W hW => by
        have := encode_any ys (fun z hz y hyy => (z1 z.x (by rw [← hy]; exact List.mem_map_of_mem hz)).ss y hyy) (by rw [hy]; omega) V W hW
        rwa [hy] at this
      have HT2 : Hid (∀ ys : List Zr, ys.map Zr.x = m → ∀ V W, SAt W V ys → Calls Try.prog 17 #[.string (bs (eRq m)), V] W (Ret W (.bool true))) := Lib.hid fun ys hy V W hW =>
        told1_any (bs (eRq m)) (by rw [bs_size]; omega) ys (fin_of (by rw [hy]; exact z1) (by rw [hy]; omega)) (by rw [bs_data, hy]; exact dec_of (rRq_e (Siz.rok z1))) V W hW
      have hle : ((bs (eRq m)).size : Int) ≤ (s.size : Int) := by rw [bs_size]; omega
      have hle0 : (bs (eRq m)).size ≤ s.size := by rw [bs_size]; omega
      clear z1 n1 hmk hsl
      generalize bs (eRq m) = B2 at *
      go_enter Try.func5, Try.ntmps5
      go_wp2_with fail
      refine (HLG.out _ HV.out).mono ?_
      rintro e w1 ⟨rfl, hb1⟩
      have HB1 := Lib.hid hb1
      have HV1 := Lib.hid (HV.out.below hb1 (Nat.le_refl _))
      clear hb1
      go_wp2_with fail
      refine (HE.out _ HV1.out).mono ?_
      rintro e w2 ⟨rfl, hb2⟩
      have HB2 := Lib.hid (below_trans' HB1.out hb2)
      have HV2 := Lib.hid (HV1.out.below hb2 (Nat.le_refl _))
      clear hb2
      go_wp2_with fail
      refine (HT.out _ HV2.out).mono ?_
      rintro e w3 ⟨rfl, hb3⟩
      have HB3 := Lib.hid (below_trans' HB2.out hb3)
      clear hb3
      go_wp2_with fail
      refine (HD.out _).mono ?_
      rintro e w4 ⟨u, ys, rfl, ho, hy, hb4⟩
      have HB4 := Lib.hid (below_trans' HB3.out hb4)
      have HY := Lib.hid hy
      have HU := Lib.hid ho.at
      obtain ⟨a4, c4, hu⟩ := ho.shape
      subst hu
      clear ho hy hb4
      go_wp2_with fail
      refine (HE2.out _ HY.out _ _ HU.out).mono ?_
      rintro e w5 ⟨rfl, hb5⟩
      have HB5 := Lib.hid (below_trans' HB4.out hb5)
      have HU5 := Lib.hid (HU.out.below hb5 (Nat.le_refl _))
      clear hb5
      go_wp2_with fail
      refine (HT2.out _ HY.out _ _ HU5.out).mono ?_
      rintro e w6 ⟨rfl, hb6⟩
      have HB6 := Lib.hid (below_trans' HB5.out hb6)
      clear hb6
      go_wp2_with fail
      refine (awake_any _).mono ?_
      rintro e w7 ⟨rfl, hb7⟩
      have HB7 := Lib.hid (below_trans' HB6.out hb7)
      clear hb7
      go_wp2
      go_ret
      exact ⟨rfl, HB7.out⟩
    · have hk2 : ((k : Int) != 0) = true := by rw [bne_iff_ne]; omega
      clear hk hmk hsl
      go_enter Try.func5, Try.ntmps5
      go_wp2_with fail
      refine (HLG.out _ HV.out).mono ?_
      rintro e w1 ⟨rfl, hb1⟩
      have HB1 := Lib.hid hb1
      have HV1 := Lib.hid (HV.out.below hb1 (Nat.le_refl _))
      clear hb1
      go_wp2_with fail
      refine (HE.out _ HV1.out).mono ?_
      rintro e w2 ⟨rfl, hb2⟩
      have HB2 := Lib.hid (below_trans' HB1.out hb2)
      have HV2 := Lib.hid (HV1.out.below hb2 (Nat.le_refl _))
      clear hb2
      go_wp2_with fail
      refine (HT.out _ HV2.out).mono ?_
      rintro e w3 ⟨rfl, hb3⟩
      have HB3 := Lib.hid (below_trans' HB2.out hb3)
      clear hb3
      go_wp2_with fail
      refine (HD.out _).mono ?_
      rintro e w4 ⟨u, ys, rfl, ho, hy, hb4⟩
      have HB4 := Lib.hid (below_trans' HB3.out hb4)
      clear ho hy hb4
      go_wp2_with fail
      refine (awake_any _).mono ?_
      rintro e w7 ⟨rfl, hb7⟩
      have HB7 := Lib.hid (below_trans' HB4.out hb7)
      clear hb7
      go_wp2
      go_ret
      exact ⟨rfl, HB7.out⟩
theorem own : ownKnob Try.prog.godebug = none := by kernel_rfl
theorem laidOut : laidOutB Try.prog = true := by kernel_rfl
set_option maxRecDepth 100000 in
theorem lifted (os : Os) (started : os.Started) (H : Type) (enc : TypeId × Value → H) :
    ReturnsInHanded {} Try.checked os 5 .any (Rows.requestBackSpec.pre6 enc Try.prog Try.f5 Rows.requestBackRow.domain false) (Rows.requestBackSpec.post enc Try.prog Try.f5 false true false false) := by
  refine returnsInHanded_of_change_sized (C := Try.checked) own started (by kernel_rfl) Try.func5
    (ChangeSpec.witness6 (enc := enc) (C := Try.checked) false ⟨#[], #[.slice none 0 0, .string ByteArray.empty], []⟩ 8 (by kernel_rfl) (by kernel_rfl) (by kernel_rfl) (by kernel_rfl)) ?_
  intro W base args ds gs before hval0 hW hcnd hwt _
  have hval : ∀ (j : Nat) t v, Try.f5.params[j]? = some t → args[j]? = some v → Value.okWide Try.prog W .any base t v := hval0
  have hW' := hW
  obtain ⟨p, q, hA0, hV, rfl, hfz, hnd⟩ := hW
  have hA : DataW.TrodAll enc Try.prog W 0 (fun _ => true) true Try.f5.params.toList args.toList ds p := hA0
  rw [Try.params5] at hA hval
  obtain ⟨v0, vs0, d0, ds0, p0, q0, hargs, rfl, rfl, h0, r0⟩ := trodAll_cons hA
  obtain ⟨v1, vs1, d1, ds1, p1, q1, rfl, rfl, rfl, h1, r1⟩ := trodAll_cons r0
  obtain ⟨rfl, rfl, rfl⟩ := trodAll_nil r1
  obtain rfl : args = #[v0, v1] := by cases args; simp_all
  obtain ⟨rfl, rfl⟩ := trodVars_none hV
  have hwts := all_weights hwt
  have k0 := h0
  have lt0 : ∀ x ∈ p0, x.block < W.heap.size := by obtain ⟨m, hm⟩ := k0; exact DataW.trod_lt m _ _ _ hm
  have k1 := h1
  have lt1 : ∀ x ∈ p1, x.block < W.heap.size := by obtain ⟨m, hm⟩ := k1; exact DataW.trod_lt m _ _ _ hm
  obtain ⟨a0, w0⟩ := open_series (hval 0 23 v0 rfl rfl) h0 (fun k hk => hwts k (by simp only [Try.params5, List.cons_append, List.nil_append, DataW.weightsEach]; exact List.mem_append_left _ hk))
  obtain ⟨a1, rfl, rfl, rfl, w1⟩ := open_string Try.underlying9 (hval 1 9 v1 rfl rfl) h1
  clear hA0 hval0
  refine (core v0 a0 a1 w1 W w0).mono fun e W' ⟨he, bel⟩ => ?_
  subst he
  exact ⟨_, rfl, _, _, _, [], _, [], hW', trodAll_mk1 (shut_bool Try.underlying4 _), (trodAll_cons_mk (Below.trod laidOut (by kernel_rfl) (of_decide_eq_true (by kernel_rfl)) k0 bel lt0) (trodAll_cons_mk (Below.trod laidOut (by kernel_rfl) (of_decide_eq_true (by kernel_rfl)) k1 bel lt1) trodAll_mk0)), rfl, bel.frame _, fun h => by cases h⟩
theorem over : Rows.requestBackRow.holds Try.pinned (OpenSpec.ofChange Rows.requestBackSpec) :=
  OpenClaim.holds_of_wide 5 Try.f5 rfl rfl rfl rfl rfl rfl rfl ⟨rfl, rfl, rfl, rfl, rfl⟩ rfl rfl rfl rfl rfl (by kernel_rfl) Try.func5 (by kernel_rfl)
    (of_decide_eq_true (by kernel_rfl)) (by unfold Func.isWrapper; first | (rw [if_pos (by decide +kernel)]; kernel_rfl) | (rw [if_neg (by decide +kernel)]; exact ⟨rfl, rfl⟩))
    (fun os started H enc _ => lifted os started H enc)
theorem proved : Rows.RequestBackSaid := over
end Go.Proofs.Ytakdplfffkadpaa.requestBack
