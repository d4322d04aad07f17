/- SnappyAny: for any parts the law answers true. No condition. -/
import Derived.Test.YtnnogjojoeajnaaRows
import Derived.Test.YtnnogjojoeajnaaAw
import Derived.Test.YtnnogjojoeajnaaGi
import Derived.WalkKit
import Derived.ProofKit
import Derived.OpenShut
import Derived.ShutString
namespace Go.Proofs.Ytnnogjojoeajnaa.snappyAny
open Go.ChangeShapes Go.WideShapes Go.ChangeAt Go.RowKit
set_option linter.unusedVariables false
theorem expand_refused {most : Int} : ∀ (l : List Pt) (b : List UInt8), (expand most l b).2 ≠ 0 → (expand most l b).1 = []
  | [], b, h => by rw [expand] at h; exact absurd rfl h
  | p :: l, b, h => by
    rw [expand] at h ⊢
    split
    · rfl
    · rename_i h1
      rw [if_neg h1] at h
      split
      · rfl
      · rename_i h2
        rw [if_neg h2] at h
        exact expand_refused l _ h
theorem prt_map : ∀ (l ps : List Pt), prt (l.map fun p => (p, (0 : Int))) ps = (ps ++ l, 0)
  | [], ps => by rw [List.map_nil, prt, List.append_nil]
  | p :: l, ps => by
    rw [List.map_cons, prt, if_neg (by simp), prt_map l (ps ++ [p]), List.append_assoc]
    rfl
theorem parts_blk {most : Int} {l : List Pt} {out : List UInt8} (h : expand most l [] = (out, 0)) (hn : out.length < 4294967296) : parts (blk l out) = (l, 0) := by
  unfold parts blk
  rw [szs_blk hn]
  dsimp only
  rw [if_neg (by simp), drop_pre (Bt.vint_length _), its_wrt l (expand_may h), prt_map]
  rfl
theorem wrt_len {p : Pt} (h : may p = true) : (wrt p).length ≤ p.t.size + 5 := by
  obtain ⟨c, t, o, l⟩ := p
  unfold may at h
  unfold wrt
  cases c
  · simp only [Bool.false_eq_true, if_false, Bool.and_eq_true, decide_eq_true_eq] at h ⊢
    have hll : (lhead t.size).length ≤ 5 := by unfold lhead nsz; split <;> simp [Bt.fx_length]; (repeat' split) <;> omega
    have : t.data.toList.length = t.size := by simp
    rw [List.length_append]
    omega
  · simp only [if_true]
    (repeat' split) <;> simp [Bt.fx_length]
theorem wrts_len : ∀ {l : List Pt}, (∀ p ∈ l, may p = true) → (∀ p ∈ l, p.t.size < 5000) → (l.flatMap wrt).length ≤ 5005 * l.length
  | [], _, _ => by simp
  | p :: l, h, h' => by
    have h1 := wrt_len (h p (by simp))
    have h0 := h' p (by simp)
    have h2 := wrts_len (l := l) (fun q hq => h q (by simp [hq])) (fun q hq => h' q (by simp [hq]))
    rw [List.flatMap_cons, List.length_append, List.length_cons]
    omega
theorem blk_len {l : List Pt} {out : List UInt8} (hl : l.length ≤ 100) (hm : ∀ p ∈ l, may p = true) (hs : ∀ p ∈ l, p.t.size < 5000) (hn : out.length < 4294967296) : (blk l out).length ≤ 600000 := by
  have h1 := wrts_len hm hs
  have h2 : Bt.vlen out.length ≤ 10 := Bt.vlen_u64 (by omega)
  unfold blk
  rw [List.length_append, Bt.vint_length]
  omega
set_option maxRecDepth 100000 in
set_option maxHeartbeats 2000000 in
theorem core (v : Value) (l : List Pt) (w : World) (h : Arg w v l) :
    Calls Try.prog 8 #[v] w fun e w' => e = .returned (.bool true) ∧ Below w.heap.size w w' := by
  obtain ⟨hA, hlm, hwd⟩ := h
  have HA := Lib.hid hA
  have HLO := fun W (hW : ArgAt W v l) => long_any l hlm hwd v W hW
  have HLG := Lib.hid HLO
  clear HLO
  obtain ⟨va, vc, hv⟩ := hA.slice
  generalize hLL : l.length = LL at hv
  subst hv
  clear hA
  by_cases hb : 5000 ≤ lng l 0
  · have hd : decide (5000 ≤ lng l 0) = true := decide_eq_true hb
    clear hb
    rw [hd] at HLG
    have HX := Lib.hid hwd
    clear hd hwd hlm
    go_enter Try.func8, Try.ntmps8
    go_wp2_with fail
    refine (HLG.out _ HA.out).mono ?_
    rintro e w1 ⟨rfl, rfl⟩
    go_wp2_with fail
    refine (awake_any _).mono ?_
    rintro e w1 ⟨rfl, hb1⟩
    have HB1 := Lib.hid hb1
    clear hb1
    go_wp2
    go_ret
    exact ⟨rfl, HB1.out⟩
  · have hd : decide (5000 ≤ lng l 0) = false := decide_eq_false hb
    rw [hd] at HLG
    obtain ⟨hs1, hs2⟩ := lng_short l 0 (by omega)
    have hok : ∀ p ∈ l, p.ok := fun p hp => by
      have h1 := hwd p hp
      have h2 := hs2 p hp
      exact ⟨by omega, h1.o0, h1.o1, h1.l0, h1.l1⟩
    have hl71 : l.length ≤ 71 := by omega
    obtain ⟨out, er, hx⟩ : ∃ out er, expand 65536 l [] = (out, er) := ⟨_, _, rfl⟩
    have HE := Lib.hid (fun V W hv => expand_any l (by omega) hok 65536 (by omega) (by omega) V W hv)
    have HW := Lib.hid (fun V W hv => write_any l (by omega) hok V W hv)
    have HG := Lib.hid (fun V W hv => given_any l (by omega) V W hv)
    have HS := Lib.hid (fun V U W hv hu => same_any l (by omega) V U W hv hu)
    rw [hx] at HE
    by_cases he : er = 0
    · subst he
      have hmay := expand_may hx
      have hout : out.length ≤ 65536 := by
        rcases (expand_grows hx).2 with h | h
        · omega
        · subst h
          rw [expand] at hx
          simp only [Prod.mk.injEq, and_true] at hx
          rw [← hx]
          simp
      have hwr : write l = (blk l out, 0) := by
        unfold write
        rw [hx, if_neg (by simp)]
      have hbl := blk_len (l := l) (out := out) (by omega) hmay hs2 (by omega)
      have hde : decode (blk l out) 65536 = (out, 0) := by rw [decode_blk hx (by omega), if_neg (by omega)]
      have hpa := parts_blk hx (by omega)
      rw [hwr] at HW
      generalize blk l out = B at *
      have hBs : (bs B).size = B.length := rfl
      have HD := Lib.hid (fun W => decode_any (bs B) (by omega) 65536 (by omega) (by omega) W)
      have HP := Lib.hid (fun W => parts_any (bs B) (by omega) W)
      rw [bs_data, hde] at HD
      rw [bs_data, hpa] at HP
      clear hde hpa hwr hmay hok hx hs2 hd hs1 hlm hwd hb hBs hbl hout hl71 hLL
      go_enter Try.func8, Try.ntmps8
      go_wp2_with fail
      refine (HLG.out _ HA.out).mono ?_
      rintro e w1 ⟨rfl, rfl⟩
      go_wp2_with fail
      refine (awake_any _).mono ?_
      rintro e w1 ⟨rfl, hb1⟩
      have HB1 := Lib.hid hb1
      have HA1 := Lib.hid (HA.out.below hb1 rfl)
      clear hb1
      go_wp2_with fail
      refine (HG.out _ _ HA1.out).mono ?_
      rintro e w2 ⟨v2, rfl, ho2, hb2⟩
      have HB2 := Lib.hid (HB1.out.trans (hb2.mono HB1.out.size))
      have HA2 := Lib.hid (HA1.out.below hb2 rfl)
      have HV2 := Lib.hid (partsAt_of ho2)
      clear hb2 ho2
      go_wp2_with fail
      refine (HE.out _ _ HV2.out).mono ?_
      rintro e w3 ⟨rfl, hb3⟩
      have HB3 := Lib.hid (HB2.out.trans (hb3.mono HB2.out.size))
      have HA3 := Lib.hid (HA2.out.below hb3 rfl)
      have HV3 := Lib.hid (HV2.out.below hb3 rfl)
      clear hb3
      go_wp2_with fail
      refine (HW.out _ _ HV3.out).mono ?_
      rintro e w4 ⟨rfl, hb4⟩
      have HB4 := Lib.hid (HB3.out.trans (hb4.mono HB3.out.size))
      have HA4 := Lib.hid (HA3.out.below hb4 rfl)
      clear hb4
      go_wp2_with fail
      refine (HD.out _).mono ?_
      rintro e w5 ⟨rfl, hb5⟩
      have HB5 := Lib.hid (HB4.out.trans (hb5.mono HB4.out.size))
      have HA5 := Lib.hid (HA4.out.below hb5 rfl)
      clear hb5
      go_wp2_with fail
      refine (HP.out _).mono ?_
      rintro e w6 ⟨v6, rfl, ho6, hb6⟩
      have HB6 := Lib.hid (HB5.out.trans (hb6.mono HB5.out.size))
      have HA6 := Lib.hid (HA5.out.below hb6 rfl)
      have HV6 := Lib.hid (partsAt_of ho6)
      clear hb6 ho6
      go_wp2_with fail
      refine (HS.out _ _ _ HV6.out HA6.out).mono ?_
      rintro e w7 ⟨rfl, hb7⟩
      have HB7 := Lib.hid (HB6.out.trans (hb7.mono HB6.out.size))
      clear hb7
      go_wp2
      go_ret
      exact ⟨rfl, HB7.out⟩
    · have hout : out = [] := by
        have := expand_refused (most := 65536) l [] (by rw [hx]; exact he)
        rw [hx] at this
        exact this
      subst hout
      have hwr : write l = ([], er) := by
        unfold write
        rw [hx, if_pos he]
      rw [hwr] at HW
      have he1 : (er != 0) = true := by rw [bne_iff_ne]; exact he
      have he2 : (er == er) = true := by simp
      have hn : (bs []).toList.isEmpty = true := by rw [bs_toList]; rfl
      clear hwr hok hx hs2 hd hs1 hlm hwd hb hl71 he hLL
      go_enter Try.func8, Try.ntmps8
      go_wp2_with fail
      refine (HLG.out _ HA.out).mono ?_
      rintro e w1 ⟨rfl, rfl⟩
      go_wp2_with fail
      refine (awake_any _).mono ?_
      rintro e w1 ⟨rfl, hb1⟩
      have HB1 := Lib.hid hb1
      have HA1 := Lib.hid (HA.out.below hb1 rfl)
      clear hb1
      go_wp2_with fail
      refine (HG.out _ _ HA1.out).mono ?_
      rintro e w2 ⟨v2, rfl, ho2, hb2⟩
      have HB2 := Lib.hid (HB1.out.trans (hb2.mono HB1.out.size))
      have HV2 := Lib.hid (partsAt_of ho2)
      clear hb2 ho2
      go_wp2_with fail
      refine (HE.out _ _ HV2.out).mono ?_
      rintro e w3 ⟨rfl, hb3⟩
      have HB3 := Lib.hid (HB2.out.trans (hb3.mono HB2.out.size))
      have HV3 := Lib.hid (HV2.out.below hb3 rfl)
      clear hb3
      go_wp2_with fail
      refine (HW.out _ _ HV3.out).mono ?_
      rintro e w4 ⟨rfl, hb4⟩
      have HB4 := Lib.hid (HB3.out.trans (hb4.mono HB3.out.size))
      clear hb4
      go_wp2
      go_ret
      exact ⟨rfl, HB4.out⟩
theorem own : ownKnob Try.prog.godebug = none := by kernel_rfl
theorem laidOut : laidOutB Try.prog = true := by kernel_rfl
set_option maxRecDepth 100000 in
theorem lifted (os : Os) (started : os.Started) (H : Type) (enc : TypeId × Value → H) :
    ReturnsInHanded {} Try.checked os 8 .any (Rows.snappyAnySpec.pre6 enc Try.prog Try.f8 Rows.snappyAnyRow.domain false) (Rows.snappyAnySpec.post enc Try.prog Try.f8 false true false false) := by
  refine returnsInHanded_of_change (C := Try.checked) own started (by kernel_rfl) Try.func8
    (ChangeSpec.witness6 (enc := enc) (C := Try.checked) false ⟨#[], #[.slice none 0 0], []⟩ 8 (by kernel_rfl) (by kernel_rfl) (by kernel_rfl) (by kernel_rfl)) ?_
  intro W base args ds gs before hval0 hW hcnd _
  have hval : ∀ (j : Nat) t v, Try.f8.params[j]? = some t → args[j]? = some v → Value.okWide Try.prog W .any base t v := hval0
  have hW' := hW
  obtain ⟨p, q, hA0, hV, rfl, hfz, hnd⟩ := hW
  have hA : DataW.TrodAll enc Try.prog W 0 (fun _ => true) true Try.f8.params.toList args.toList ds p := hA0
  rw [Try.params8] at hA hval
  obtain ⟨v0, vs0, d0, ds0, p0, q0, hargs, rfl, rfl, h0, r0⟩ := trodAll_cons hA
  obtain ⟨rfl, rfl, rfl⟩ := trodAll_nil r0
  obtain rfl : args = #[v0] := by cases args; simp_all
  obtain ⟨rfl, rfl⟩ := trodVars_none hV
  have k0 := h0
  have lt0 : ∀ x ∈ p0, x.block < W.heap.size := by obtain ⟨m, hm⟩ := k0; exact DataW.trod_lt m _ _ _ hm
  obtain ⟨a0, w0⟩ := open_parts (hval 0 42 v0 rfl rfl) h0
  clear hA0 hval0
  refine (core v0 a0  W w0).mono fun e W' ⟨he, bel⟩ => ?_
  subst he
  exact ⟨_, rfl, _, _, _, [], _, [], hW', trodAll_mk1 (shut_bool Try.underlying4 _), (trodAll_cons_mk (Below.trod laidOut (by kernel_rfl) (of_decide_eq_true (by kernel_rfl)) k0 bel lt0) trodAll_mk0), rfl, bel.frame _, fun h => by cases h⟩
theorem over : Rows.snappyAnyRow.holds Try.pinned (OpenSpec.ofChange Rows.snappyAnySpec) :=
  OpenClaim.holds_of_wide 8 Try.f8 rfl rfl rfl rfl rfl rfl rfl ⟨rfl, rfl, rfl, rfl, rfl⟩ rfl rfl rfl rfl rfl (by kernel_rfl) Try.func8 (by kernel_rfl)
    (of_decide_eq_true (by kernel_rfl)) (by unfold Func.isWrapper; first | (rw [if_pos (by decide +kernel)]; kernel_rfl) | (rw [if_neg (by decide +kernel)]; exact ⟨rfl, rfl⟩))
    (fun os started H enc _ => lifted os started H enc)
theorem proved : Rows.SnappyAnySaid := over
end Go.Proofs.Ytnnogjojoeajnaa.snappyAny
