/- ProtoJoined: for any two texts the law answers true. No condition. -/
import Derived.Test.YtbckkfoenembmaaRows
import Derived.Test.YtbckkfoenembmaaAw
import Derived.Test.YtbckkfoenembmaaAp
import Derived.WalkKit
import Derived.ProofKit
import Derived.OpenShut
import Derived.ShutString
namespace Go.Proofs.Ytbckkfoenembmaa.protoJoined
open Go.ChangeShapes Go.WideShapes Go.ChangeAt Go.RowKit
open Go.ChangeMaps (open_string shut_string)
set_option linter.unusedVariables false
theorem data_append (s t : ByteArray) : (s ++ t).data.toList = s.data.toList ++ t.data.toList := by simp
set_option maxRecDepth 100000 in
set_option maxHeartbeats 4000000 in
theorem core (s t : ByteArray) (ws : s.size ≤ maxLen) (wt : t.size ≤ maxLen) (w : World) :
    Calls Try.prog 8 #[.string s, .string t] w fun e w' => e = .returned (.bool true) ∧ Below w.heap.size w w' := by
  have hs63 : (s.size : Int) ≤ 9223372036854775807 := by unfold maxLen at ws; omega
  have ht63 : (t.size : Int) ≤ 9223372036854775807 := by unfold maxLen at wt; omega
  by_cases hbig : 10000 < s.size
  · go_enter Try.func8, Try.ntmps8
    go_wp2_with fail
    refine (awake_any _).mono ?_
    rintro e w1 ⟨rfl, hb1⟩
    have HB1 := Lib.hid hb1
    clear hb1
    go_wp2
    go_ret
    exact ⟨rfl, HB1.out⟩
  by_cases hbig2 : 10000 < t.size
  · go_enter Try.func8, Try.ntmps8
    go_wp2_with fail
    refine (awake_any _).mono ?_
    rintro e w1 ⟨rfl, hb1⟩
    have HB1 := Lib.hid hb1
    clear hb1
    go_wp2
    go_ret
    exact ⟨rfl, HB1.out⟩
  have hs : s.size ≤ 10000 := by omega
  have ht : t.size ≤ 10000 := by omega
  have hsl : s.data.toList.length = s.size := by simp
  have htl : t.data.toList.length = t.size := by simp
  have hst : (s ++ t).size = s.size + t.size := by simp
  have HR1 := Lib.hid (fun W => pread_any s (by omega) W)
  have HR3 := Lib.hid (fun W => pread_any (s ++ t) (by omega) W)
  obtain ⟨M, E, hME⟩ : ∃ M E, msg s.data.toList [] = (M, E) := ⟨_, _, rfl⟩
  have hE := msg_err s.data.toList.length s.data.toList [] (Nat.le_refl _) (by omega)
  rw [hME] at hE HR1
  rw [data_append] at HR3
  by_cases h0 : E = 0
  · subst h0
    rw [msg_join _ _ t.data.toList [] M (Nat.le_refl _) (by omega) hME, msg_acc _ t.data.toList M (Nat.le_refl _) (by omega)] at HR3
    have HR2 := Lib.hid (fun W => pread_any t (by omega) W)
    obtain ⟨N, E2, hNE⟩ : ∃ N E2, msg t.data.toList [] = (N, E2) := ⟨_, _, rfl⟩
    rw [hNE] at HR2 HR3
    dsimp only at HR3
    by_cases h2 : E2 = 0
    · subst h2
      rw [if_pos rfl] at HR3
      dsimp only at HR3
      obtain ⟨g1, -, g3, -⟩ := read_all (s := s) (by omega) hME
      obtain ⟨k1, -, k3, -⟩ := read_all (s := t) (by omega) hNE
      have hml := rd_len (s := s) (by omega)
      have hnl := rd_len (s := t) (by omega)
      rw [hME] at hml
      rw [hNE] at hnl
      dsimp only at hml hnl
      rw [List.map_append] at HR3
      have hma : (M.map gfd).length ≤ 10000 := by rw [List.length_map]; omega
      have hna : (N.map gfd).length ≤ 10000 := by rw [List.length_map]; omega
      have hall : ∀ g ∈ M.map gfd ++ N.map gfd, g.may = true ∧ g.ok := fun g hg => by
        rcases List.mem_append.1 hg with h | h
        · exact g1 g h
        · exact k1 g h
      have HSM := Lib.hid (fun V U W h1 h2 => by
        have h := psame_any (M.map gfd ++ N.map gfd) (M.map gfd ++ N.map gfd) (by rw [List.length_append]; omega) (by rw [List.length_append]; omega) (fun g hg => (hall g hg).2.v) V U W h1 h2
        rw [sml_refl _ (fun g hg => (hall g hg).1)] at h
        exact h)
      clear hME hNE hE g1 g3 k1 k3 hml hnl hall hst
      generalize M.map gfd = ms at *
      generalize N.map gfd = ns at *
      go_enter Try.func8, Try.ntmps8
      go_wp2_with fail
      refine (HR1.out _).mono ?_
      rintro e w1 ⟨v1, rfl, ho1, hb1⟩
      have HB1 := Lib.hid hb1
      have HG1 := Lib.hid ho1.at
      obtain ⟨a1, c1, hv1⟩ := ho1.shape
      subst hv1
      clear ho1 hb1
      go_wp2_with fail
      refine (HR2.out _).mono ?_
      rintro e w2 ⟨v2, rfl, ho2, hb2⟩
      have HB2 := Lib.hid (below_trans' HB1.out hb2)
      have HG2 := Lib.hid (HG1.out.below hb2 (Nat.le_refl _))
      have HN2 := Lib.hid ho2.at
      obtain ⟨a2, c2, hv2⟩ := ho2.shape
      subst hv2
      clear ho2 hb2
      go_wp2_with fail
      refine (HR3.out _).mono ?_
      rintro e w3 ⟨v3, rfl, ho3, hb3⟩
      have HB3 := Lib.hid (below_trans' HB2.out hb3)
      have HG3 := Lib.hid (HG2.out.below hb3 (Nat.le_refl _))
      have HN3 := Lib.hid (HN2.out.below hb3 (Nat.le_refl _))
      have HC3 := Lib.hid ho3.at
      obtain ⟨a3, c3, hv3⟩ := ho3.shape
      generalize (ms ++ ns).length = LL at hv3
      subst hv3
      clear ho3 hb3
      dsimp only
      have HE3 := Lib.hid (og_empty w3 w3.heap.size (Nat.le_refl _))
      have HG4 := Lib.hid (HG3.out.below ((Below.refl w3.heap.size w3).alloc (Nat.le_refl _) (.cells #[] 35)) (Nat.le_refl _))
      have HN4 := Lib.hid (HN3.out.below ((Below.refl w3.heap.size w3).alloc (Nat.le_refl _) (.cells #[] 35)) (Nat.le_refl _))
      have HC4 := Lib.hid (HC3.out.below ((Below.refl w3.heap.size w3).alloc (Nat.le_refl _) (.cells #[] 35)) (Nat.le_refl _))
      have HB4 := Lib.hid (HB3.out.alloc HB3.out.size (.cells #[] 35))
      have HX4 : Hid (Below w3.heap.size w3 (w3.alloc (.cells #[] 35))) := Lib.hid ((Below.refl w3.heap.size w3).alloc (Nat.le_refl _) _)
      go_wp2_with (first
        | (at_builtin; refine wpList_append_w (by rfl) (.tmp 69) (.tmp 70) rfl w3.heap.size _ [] rfl HE3.out (.slice a1 ms.length c1) ms rfl HG4.out (by simp; omega) (by simp) ?_; intro v5 w5 ho5 hg5 hb5; have HO5 := Lib.hid ho5; have HX5 : Hid (Below w3.heap.size w3 w5) := Lib.hid (HX4.out.grown hg5 (by simp) (fun g hg => (own_lt HE3.out g hg).1)); have HN5 := Lib.hid (HN3.out.below HX5.out (Nat.le_refl _)); clear ho5 hg5 hb5)
        | (at_builtin; refine wpList_append_w (by rfl) (.tmp 71) (.tmp 72) rfl w3.heap.size _ ([] ++ ms) rfl HO5.out (.slice a2 ns.length c2) ns rfl HN5.out (by simp; omega) HX5.out.size ?_; intro v6 w6 ho6 hg6 hb6; have HO6 := Lib.hid ho6; have HX6 : Hid (Below w3.heap.size w3 w6) := Lib.hid (HX5.out.grown hg6 HX5.out.size (fun g hg => (own_lt HO5.out g hg).1)); have HC6 := Lib.hid (HC3.out.below HX6.out (Nat.le_refl _)); clear ho6 hg6 hb6))
      refine (HSM.out _ _ _ HC6.out HO6.out.at).mono ?_
      rintro e w7 ⟨rfl, hb7⟩
      have HB7 := Lib.hid (below_trans' (below_trans' HB3.out HX6.out) hb7)
      clear hb7
      go_wp2_with fail
      refine (awake_any _).mono ?_
      rintro e w8 ⟨rfl, hb8⟩
      have HB8 := Lib.hid (below_trans' HB7.out hb8)
      clear hb8
      go_wp2
      go_ret
      exact ⟨rfl, HB8.out⟩
    · rw [if_neg h2] at HR3
      have he2 : ((E2 : Int) != 0) = true := by rw [bne_iff_ne]; omega
      have he3 : ((E2 : Int) == (E2 : Int)) = true := by simp
      clear hME hNE hE h2
      generalize M.map gfd = ms at *
      generalize N.map gfd = ns at *
      go_enter Try.func8, Try.ntmps8
      go_wp2_with fail
      refine (HR1.out _).mono ?_
      rintro e w1 ⟨v1, rfl, ho1, hb1⟩
      have HB1 := Lib.hid hb1
      clear ho1 hb1
      go_wp2_with fail
      refine (HR2.out _).mono ?_
      rintro e w2 ⟨v2, rfl, ho2, hb2⟩
      have HB2 := Lib.hid (below_trans' HB1.out hb2)
      clear ho2 hb2
      go_wp2_with fail
      refine (HR3.out _).mono ?_
      rintro e w3 ⟨v3, rfl, ho3, hb3⟩
      have HB3 := Lib.hid (below_trans' HB2.out hb3)
      obtain ⟨a3, c3, hv3⟩ := ho3.shape
      subst hv3
      clear ho3 hb3
      dsimp only
      go_wp2
      go_ret
      exact ⟨rfl, HB3.out⟩
  · have he : ((E : Int) != 0) = true := by rw [bne_iff_ne]; omega
    have hcase : E = 8 ∨ (E = 4 ∧ msg (s.data.toList ++ t.data.toList) [] = ([], 4)) := by
      rcases hE with h | h | h
      · exact absurd h h0
      · have h4 : E = 4 := by simp only [Prod.mk.injEq] at h; exact h.2
        refine .inr ⟨h4, msg_bad _ _ t.data.toList [] (Nat.le_refl _) (by omega) (by rw [hME]; exact h4)⟩
      · exact .inl (by simp only [Prod.mk.injEq] at h; exact h.2)
    clear hME hE
    generalize M.map gfd = ms at *
    rcases hcase with rfl | ⟨rfl, h4⟩
    · obtain ⟨N, E3, hNE⟩ : ∃ N E3, msg (s.data.toList ++ t.data.toList) [] = (N, E3) := ⟨_, _, rfl⟩
      rw [hNE] at HR3
      clear hNE he
      generalize N.map gfd = ns at *
      go_enter Try.func8, Try.ntmps8
      go_wp2_with fail
      refine (HR1.out _).mono ?_
      rintro e w1 ⟨v1, rfl, ho1, hb1⟩
      have HB1 := Lib.hid hb1
      clear ho1 hb1
      go_wp2_with fail
      refine (HR3.out _).mono ?_
      rintro e w3 ⟨v3, rfl, ho3, hb3⟩
      have HB3 := Lib.hid (below_trans' HB1.out hb3)
      clear ho3 hb3
      dsimp only
      go_wp2
      go_ret
      exact ⟨rfl, HB3.out⟩
    · rw [h4] at HR3
      clear h4 he
      go_enter Try.func8, Try.ntmps8
      go_wp2_with fail
      refine (HR1.out _).mono ?_
      rintro e w1 ⟨v1, rfl, ho1, hb1⟩
      have HB1 := Lib.hid hb1
      clear ho1 hb1
      go_wp2_with fail
      refine (HR3.out _).mono ?_
      rintro e w3 ⟨v3, rfl, ho3, hb3⟩
      have HB3 := Lib.hid (below_trans' HB1.out hb3)
      clear ho3 hb3
      dsimp only
      go_wp2
      go_ret
      exact ⟨rfl, HB3.out⟩
theorem own : ownKnob Try.prog.godebug = none := by kernel_rfl
theorem laidOut : laidOutB Try.prog = true := by kernel_rfl
set_option maxRecDepth 100000 in
theorem lifted (os : Os) (started : os.Started) (H : Type) (enc : TypeId × Value → H) :
    ReturnsInHanded {} Try.checked os 8 .any (Rows.protoJoinedSpec.pre6 enc Try.prog Try.f8 Rows.protoJoinedRow.domain false) (Rows.protoJoinedSpec.post enc Try.prog Try.f8 false true false false) := by
  refine returnsInHanded_of_change (C := Try.checked) own started (by kernel_rfl) Try.func8
    (ChangeSpec.witness6 (enc := enc) (C := Try.checked) false ⟨#[], #[.string ByteArray.empty, .string ByteArray.empty], []⟩ 8 (by kernel_rfl) (by kernel_rfl) (by kernel_rfl) (by kernel_rfl)) ?_
  intro W base args ds gs before hval0 hW hcnd _
  have hval : ∀ (j : Nat) t v, Try.f8.params[j]? = some t → args[j]? = some v → Value.okWide Try.prog W .any base t v := hval0
  have hW' := hW
  obtain ⟨p, q, hA0, hV, rfl, hfz, hnd⟩ := hW
  have hA : DataW.TrodAll enc Try.prog W 0 (fun _ => true) true Try.f8.params.toList args.toList ds p := hA0
  rw [Try.params8] at hA hval
  obtain ⟨v0, vs0, d0, ds0, p0, q0, hargs, rfl, rfl, h0, r0⟩ := trodAll_cons hA
  obtain ⟨v1, vs1, d1, ds1, p1, q1, rfl, rfl, rfl, h1, r1⟩ := trodAll_cons r0
  obtain ⟨rfl, rfl, rfl⟩ := trodAll_nil r1
  obtain rfl : args = #[v0, v1] := by cases args; simp_all
  obtain ⟨rfl, rfl⟩ := trodVars_none hV
  have k0 := h0
  have lt0 : ∀ x ∈ p0, x.block < W.heap.size := by obtain ⟨m, hm⟩ := k0; exact DataW.trod_lt m _ _ _ hm
  have k1 := h1
  have lt1 : ∀ x ∈ p1, x.block < W.heap.size := by obtain ⟨m, hm⟩ := k1; exact DataW.trod_lt m _ _ _ hm
  obtain ⟨a0, rfl, rfl, rfl, w0⟩ := open_string Try.underlying9 (hval 0 9 v0 rfl rfl) h0
  obtain ⟨a1, rfl, rfl, rfl, w1⟩ := open_string Try.underlying9 (hval 1 9 v1 rfl rfl) h1
  clear hA0 hval0
  refine (core a0 a1 w0 w1 W ).mono fun e W' ⟨he, bel⟩ => ?_
  subst he
  exact ⟨_, rfl, _, _, _, [], _, [], hW', trodAll_mk1 (shut_bool Try.underlying4 _), (trodAll_cons_mk (Below.trod laidOut (by kernel_rfl) (of_decide_eq_true (by kernel_rfl)) k0 bel lt0) (trodAll_cons_mk (Below.trod laidOut (by kernel_rfl) (of_decide_eq_true (by kernel_rfl)) k1 bel lt1) trodAll_mk0)), rfl, bel.frame _, fun h => by cases h⟩
theorem over : Rows.protoJoinedRow.holds Try.pinned (OpenSpec.ofChange Rows.protoJoinedSpec) :=
  OpenClaim.holds_of_wide 8 Try.f8 rfl rfl rfl rfl rfl rfl rfl ⟨rfl, rfl, rfl, rfl, rfl⟩ rfl rfl rfl rfl rfl (by kernel_rfl) Try.func8 (by kernel_rfl)
    (of_decide_eq_true (by kernel_rfl)) (by unfold Func.isWrapper; first | (rw [if_pos (by decide +kernel)]; kernel_rfl) | (rw [if_neg (by decide +kernel)]; exact ⟨rfl, rfl⟩))
    (fun os started H enc _ => lifted os started H enc)
theorem proved : Rows.ProtoJoinedSaid := over
end Go.Proofs.Ytbckkfoenembmaa.protoJoined
