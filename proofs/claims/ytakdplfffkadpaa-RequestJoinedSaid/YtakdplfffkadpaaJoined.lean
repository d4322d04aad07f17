/- RequestJoined: for any two texts the law answers true. No condition. -/
import Derived.Test.YtakdplfffkadpaaRows
import Derived.Test.YtakdplfffkadpaaAp
import Derived.WalkKit
import Derived.ProofKit
import Derived.OpenShut
import Derived.ShutString
namespace Go.Proofs.Ytakdplfffkadpaa.requestJoined
open Go.ChangeShapes Go.WideShapes Go.ChangeAt Go.RowKit
open Go.ChangeMaps (open_string shut_string)
set_option linter.unusedVariables false
theorem data_append (s t : ByteArray) : (s ++ t).data.toList = s.data.toList ++ t.data.toList := by simp
set_option maxRecDepth 100000 in
set_option maxHeartbeats 4000000 in
theorem core (s t : ByteArray) (ws : s.size ≤ maxLen) (wt : t.size ≤ maxLen) (w : World) :
    Calls Try.prog 6 #[.string s, .string t] w fun e w' => e = .returned (.bool true) ∧ Below w.heap.size w w' := by
  have hs63 : (s.size : Int) ≤ 9223372036854775807 := by unfold maxLen at ws; omega
  have ht63 : (t.size : Int) ≤ 9223372036854775807 := by unfold maxLen at wt; omega
  by_cases hbig : 10000 < s.size
  · go_enter Try.func6, Try.ntmps6
    go_wp2_with fail
    refine (awake_any _).mono ?_
    rintro e w1 ⟨rfl, hb1⟩
    have HB1 := Lib.hid hb1
    clear hb1
    go_wp2
    go_ret
    exact ⟨rfl, HB1.out⟩
  by_cases hbig2 : 10000 < t.size
  · go_enter Try.func6, Try.ntmps6
    go_wp2_with fail
    refine (awake_any _).mono ?_
    rintro e w1 ⟨rfl, hb1⟩
    have HB1 := Lib.hid hb1
    clear hb1
    go_wp2
    go_ret
    exact ⟨rfl, HB1.out⟩
  have hs : s.size ≤ 10000 := by omega
  have ht : t.size ≤ 10000 := by omega
  have hsl : s.data.toList.length = s.size := by simp
  have htl : t.data.toList.length = t.size := by simp
  have hst : (s ++ t).size = s.size + t.size := by simp
  have HD1 := Lib.hid (fun W => decode_any s (by omega) W)
  have HD2 := Lib.hid (fun W => decode_any t (by omega) W)
  have HT := Lib.hid (fun ys hy hd v W hW => told1_any (s ++ t) (by omega) ys hy hd v W hW)
  rw [data_append] at HT
  obtain ⟨l, k, hlk⟩ : ∃ l k, dec s.data.toList = (l, k) := ⟨_, _, rfl⟩
  obtain ⟨m, j, hmj⟩ : ∃ m j, dec t.data.toList = (m, j) := ⟨_, _, rfl⟩
  rw [hlk] at HD1
  rw [hmj] at HD2
  by_cases hk : k = 0
  · subst hk
    by_cases hj : j = 0
    · subst hj
      have hd : dec (s.data.toList ++ t.data.toList) = (l ++ m, 0) := dec_of (rRq_join (by omega) (by omega) (dec_ok hlk) (dec_ok hmj))
      obtain ⟨z1, n1⟩ := dec_siz (by omega) hlk
      obtain ⟨z2, n2⟩ := dec_siz (by omega) hmj
      obtain ⟨z3, n3⟩ := dec_siz (s := s.data.toList ++ t.data.toList) (by rw [List.length_append]; omega) hd
      rw [List.length_append] at n3
      have HT2 : Hid (∀ xs ys : List Zr, xs.map Zr.x = l → ys.map Zr.x = m → ∀ V W, SAt W V (xs ++ ys) → Calls Try.prog 17 #[.string (s ++ t), V] W (Ret W (.bool true))) := Lib.hid fun xs ys hx hy V W hW => by
        have e : (xs ++ ys).map Zr.x = l ++ m := by rw [List.map_append, hx, hy]
        exact HT.out (xs ++ ys) (fin_of (by rw [e]; exact z3) (by rw [e]; omega)) (by rw [e]; exact hd) V W hW
      have HN : Hid (∀ xs ys : List Zr, xs.map Zr.x = l → ys.map Zr.x = m → xs.length + ys.length ≤ 1000000) := Lib.hid fun xs ys hx hy => by
        have h1 := eM_cnt (fRq l)
        have h2 := eM_cnt (fRq m)
        have e1 : (eM (fRq l)).length = (eRq l).length := rfl
        have e2 : (eM (fRq m)).length = (eRq m).length := rfl
        have e3 : (fRq l).length = xs.length := by rw [← hx]; unfold fRq; simp
        have e4 : (fRq m).length = ys.length := by rw [← hy]; unfold fRq; simp
        omega
      clear HT hd z1 z2 z3 n1 n2 n3 hlk hmj hst hsl htl
      go_enter Try.func6, Try.ntmps6
      go_wp2_with fail
      refine (HD1.out _).mono ?_
      rintro e w1 ⟨v1, xs, rfl, ho1, hx, hb1⟩
      have HB1 := Lib.hid hb1
      have HS1 := Lib.hid ho1.at
      obtain ⟨a1, c1, hv1⟩ := ho1.shape
      subst hv1
      have HX := Lib.hid hx
      clear ho1 hb1 hx
      go_wp2_with fail
      refine (HD2.out _).mono ?_
      rintro e w2 ⟨v2, ys, rfl, ho2, hy, hb2⟩
      have HB2 := Lib.hid (below_trans' HB1.out hb2)
      have HS2 := Lib.hid (HS1.out.below hb2 (Nat.le_refl _))
      have HN2 := Lib.hid ho2.at
      obtain ⟨a2, c2, hv2⟩ := ho2.shape
      subst hv2
      have HY := Lib.hid hy
      have hn := HN.out _ _ HX.out HY.out
      clear ho2 hb2 hy
      have HE := Lib.hid (O2.empty 40 w2 w2.heap.size (Nat.le_refl _))
      have HX4 : Hid (Below w2.heap.size w2 (w2.alloc (.cells #[] 40))) := Lib.hid ((Below.refl w2.heap.size w2).alloc (Nat.le_refl _) _)
      have HS4 := Lib.hid (HS2.out.below HX4.out (Nat.le_refl _))
      have hn1 : xs.length ≤ 1000000 := by omega
      have hn2 : ys.length ≤ 1000000 := by omega
      generalize hxl : xs.length = X at *
      generalize hyl : ys.length = Y at *
      have HXL := Lib.hid hxl
      have HYL := Lib.hid hyl
      clear hxl hyl
      go_wp2_with (first
        | (at_builtin; refine wpList_append_s (.tmp 38) (.tmp 39) rfl rfl w2.heap.size _ [] rfl HE.out (.slice a1 X c1) (xs.map zp) rfl HS4.out.row HS4.out.one (by rw [List.length_map, HXL.out]; simp; omega) (by simp) ?_; intro v5 w5 ho5 hg5; have HO5 := Lib.hid ho5; obtain ⟨a5, c5, hv5⟩ := ho5.shape; rw [List.length_append, List.length_map, HXL.out, List.length_nil, Nat.zero_add] at hv5; have HX5 : Hid (Below w2.heap.size w2 w5) := Lib.hid (HX4.out.grown hg5 (by simp) (fun g hg => (HE.out.lt g hg).1)); have HN5 := Lib.hid (HN2.out.below HX5.out (Nat.le_refl _)); clear ho5 hg5; subst hv5)
        | (at_builtin; refine wpList_append_s (.tmp 40) (.tmp 41) rfl rfl w2.heap.size _ ([] ++ xs.map zp) rfl HO5.out (.slice a2 Y c2) (ys.map zp) rfl HN5.out.row HN5.out.one (by rw [List.length_append, List.length_map, List.length_map, HXL.out, HYL.out]; simp; omega) HX5.out.size ?_; intro v6 w6 ho6 hg6; have HO6 := Lib.hid ho6; have HX6 : Hid (Below w2.heap.size w2 w6) := Lib.hid (HX5.out.grown hg6 HX5.out.size (fun g hg => (HO5.out.lt g hg).1)); clear ho6 hg6))
      have HP := Lib.hid (HS2.out.below HX6.out (Nat.le_refl _))
      have HQ := Lib.hid (HN2.out.below HX6.out (Nat.le_refl _))
      refine (HT2.out xs ys HX.out HY.out _ _ (SAt.app HO6.out.at ⟨HP.out.ls, HP.out.ss⟩ ⟨HQ.out.ls, HQ.out.ss⟩)).mono ?_
      rintro e w7 ⟨rfl, hb7⟩
      have HB7 := Lib.hid (below_trans' (below_trans' HB2.out HX6.out) hb7)
      clear hb7
      go_wp2_with fail
      refine (awake_any _).mono ?_
      rintro e w8 ⟨rfl, hb8⟩
      have HB8 := Lib.hid (below_trans' HB7.out hb8)
      clear hb8
      go_wp2
      go_ret
      exact ⟨rfl, HB8.out⟩
    · have hj2 : ((j : Int) != 0) = true := by rw [bne_iff_ne]; omega
      clear HT hlk hmj hj hst
      go_enter Try.func6, Try.ntmps6
      go_wp2_with fail
      refine (HD1.out _).mono ?_
      rintro e w1 ⟨v1, xs, rfl, ho1, hx, hb1⟩
      have HB1 := Lib.hid hb1
      clear ho1 hb1 hx
      go_wp2_with fail
      refine (HD2.out _).mono ?_
      rintro e w2 ⟨v2, ys, rfl, ho2, hy, hb2⟩
      have HB2 := Lib.hid (below_trans' HB1.out hb2)
      clear ho2 hb2 hy
      go_wp2_with fail
      refine (awake_any _).mono ?_
      rintro e w8 ⟨rfl, hb8⟩
      have HB8 := Lib.hid (below_trans' HB2.out hb8)
      clear hb8
      go_wp2
      go_ret
      exact ⟨rfl, HB8.out⟩
  · have hk2 : ((k : Int) != 0) = true := by rw [bne_iff_ne]; omega
    clear HT hlk hmj hk hst
    go_enter Try.func6, Try.ntmps6
    go_wp2_with fail
    refine (HD1.out _).mono ?_
    rintro e w1 ⟨v1, xs, rfl, ho1, hx, hb1⟩
    have HB1 := Lib.hid hb1
    clear ho1 hb1 hx
    go_wp2_with fail
    refine (HD2.out _).mono ?_
    rintro e w2 ⟨v2, ys, rfl, ho2, hy, hb2⟩
    have HB2 := Lib.hid (below_trans' HB1.out hb2)
    clear ho2 hb2 hy
    go_wp2_with fail
    refine (awake_any _).mono ?_
    rintro e w8 ⟨rfl, hb8⟩
    have HB8 := Lib.hid (below_trans' HB2.out hb8)
    clear hb8
    go_wp2
    go_ret
    exact ⟨rfl, HB8.out⟩
theorem own : ownKnob Try.prog.godebug = none := by kernel_rfl
theorem laidOut : laidOutB Try.prog = true := by kernel_rfl
set_option maxRecDepth 100000 in
theorem lifted (os : Os) (started : os.Started) (H : Type) (enc : TypeId × Value → H) :
    ReturnsInHanded {} Try.checked os 6 .any (Rows.requestJoinedSpec.pre6 enc Try.prog Try.f6 Rows.requestJoinedRow.domain false) (Rows.requestJoinedSpec.post enc Try.prog Try.f6 false true false false) := by
  refine returnsInHanded_of_change (C := Try.checked) own started (by kernel_rfl) Try.func6
    (ChangeSpec.witness6 (enc := enc) (C := Try.checked) false ⟨#[], #[.string ByteArray.empty, .string ByteArray.empty], []⟩ 8 (by kernel_rfl) (by kernel_rfl) (by kernel_rfl) (by kernel_rfl)) ?_
  intro W base args ds gs before hval0 hW hcnd _
  have hval : ∀ (j : Nat) t v, Try.f6.params[j]? = some t → args[j]? = some v → Value.okWide Try.prog W .any base t v := hval0
  have hW' := hW
  obtain ⟨p, q, hA0, hV, rfl, hfz, hnd⟩ := hW
  have hA : DataW.TrodAll enc Try.prog W 0 (fun _ => true) true Try.f6.params.toList args.toList ds p := hA0
  rw [Try.params6] at hA hval
  obtain ⟨v0, vs0, d0, ds0, p0, q0, hargs, rfl, rfl, h0, r0⟩ := trodAll_cons hA
  obtain ⟨v1, vs1, d1, ds1, p1, q1, rfl, rfl, rfl, h1, r1⟩ := trodAll_cons r0
  obtain ⟨rfl, rfl, rfl⟩ := trodAll_nil r1
  obtain rfl : args = #[v0, v1] := by cases args; simp_all
  obtain ⟨rfl, rfl⟩ := trodVars_none hV
  have k0 := h0
  have lt0 : ∀ x ∈ p0, x.block < W.heap.size := by obtain ⟨m, hm⟩ := k0; exact DataW.trod_lt m _ _ _ hm
  have k1 := h1
  have lt1 : ∀ x ∈ p1, x.block < W.heap.size := by obtain ⟨m, hm⟩ := k1; exact DataW.trod_lt m _ _ _ hm
  obtain ⟨a0, rfl, rfl, rfl, w0⟩ := open_string Try.underlying9 (hval 0 9 v0 rfl rfl) h0
  obtain ⟨a1, rfl, rfl, rfl, w1⟩ := open_string Try.underlying9 (hval 1 9 v1 rfl rfl) h1
  clear hA0 hval0
  refine (core a0 a1 w0 w1 W ).mono fun e W' ⟨he, bel⟩ => ?_
  subst he
  exact ⟨_, rfl, _, _, _, [], _, [], hW', trodAll_mk1 (shut_bool Try.underlying4 _), (trodAll_cons_mk (Below.trod laidOut (by kernel_rfl) (of_decide_eq_true (by kernel_rfl)) k0 bel lt0) (trodAll_cons_mk (Below.trod laidOut (by kernel_rfl) (of_decide_eq_true (by kernel_rfl)) k1 bel lt1) trodAll_mk0)), rfl, bel.frame _, fun h => by cases h⟩
theorem over : Rows.requestJoinedRow.holds Try.pinned (OpenSpec.ofChange Rows.requestJoinedSpec) :=
  OpenClaim.holds_of_wide 6 Try.f6 rfl rfl rfl rfl rfl rfl rfl ⟨rfl, rfl, rfl, rfl, rfl⟩ rfl rfl rfl rfl rfl (by kernel_rfl) Try.func6 (by kernel_rfl)
    (of_decide_eq_true (by kernel_rfl)) (by unfold Func.isWrapper; first | (rw [if_pos (by decide +kernel)]; kernel_rfl) | (rw [if_neg (by decide +kernel)]; exact ⟨rfl, rfl⟩))
    (fun os started H enc _ => lifted os started H enc)
theorem proved : Rows.RequestJoinedSaid := over
end Go.Proofs.Ytakdplfffkadpaa.requestJoined
