/- SnappyBack: for any text the law answers true. No condition. -/
import Derived.Test.YtnnogjojoeajnaaRows
import Derived.Test.YtnnogjojoeajnaaAw
import Derived.WalkKit
import Derived.ProofKit
import Derived.OpenShut
import Derived.ShutString
namespace Go.Proofs.Ytnnogjojoeajnaa.snappyBack
open Go.ChangeShapes Go.WideShapes Go.ChangeAt Go.RowKit
open Go.ChangeMaps (open_string shut_string)
set_option linter.unusedVariables false
theorem lit_len {N : Nat} (h : N ≤ 65536) : (lhead N).length = if N ≤ 60 then 1 else if N ≤ 256 then 2 else 3 := by
  unfold lhead nsz
  by_cases h1 : N - 1 < 60
  · rw [if_pos h1, if_pos (show N ≤ 60 by omega)]; rfl
  · rw [if_neg h1, if_neg (show ¬ N ≤ 60 by omega)]
    by_cases h2 : N - 1 < 256
    · rw [if_pos h2, if_pos (show N ≤ 256 by omega)]; simp [Bt.fx_length]
    · rw [if_neg h2, if_neg (show ¬ N ≤ 256 by omega), if_pos (show N - 1 < 65536 by omega)]; simp [Bt.fx_length]
theorem wrts_app (a b : List Pt) : ((a ++ b).flatMap wrt).length = (a.flatMap wrt).length + (b.flatMap wrt).length := by
  rw [List.flatMap_append, List.length_append]
theorem litp_len (l : List UInt8) (hl : l.length ≤ 65536) (p a : Nat) (ha : a ≤ l.length) (h : p < a) : ((litp l p a).flatMap wrt).length = (a - p) + if a - p ≤ 60 then 1 else if a - p ≤ 256 then 2 else 3 := by
  have hs : (bs ((l.drop p).take (a - p))).size = a - p := by rw [bs_size, List.length_take, List.length_drop]; omega
  unfold litp
  rw [if_pos h]
  simp only [List.flatMap_cons, List.flatMap_nil, List.append_nil, wrt, Bool.false_eq_true, if_false]
  rw [List.length_append, hs, lit_len (by omega), bs_data, List.length_take, List.length_drop]
  omega
theorem copy_len (o n : Nat) (ho : o ≤ 65535) : ([(⟨true, bs [], o, n⟩ : Pt)].flatMap wrt).length ≤ 3 := by
  simp only [List.flatMap_cons, List.flatMap_nil, List.append_nil, wrt, if_true]
  split
  · simp
  · rw [if_pos (by omega)]
    simp [Bt.fx_length]
theorem pk_short (l : List UInt8) (hl : l.length ≤ 65536) : ∀ (k a p : Nat) (ps : List Pt), l.length - a = k → p ≤ a → a ≤ l.length → 60 * (ps.flatMap wrt).length ≤ 61 * p → 60 * ((pk l a p ps).flatMap wrt).length ≤ 61 * l.length + 180 := by
  intro k
  induction k using Nat.strongRecOn with
  | _ k ih =>
    intro a p ps hk hpa ha he
    by_cases hlt : a < l.length
    · by_cases h4 : 4 ≤ (mat l a).2
      · rcases mat_says l a hlt with h | h
        · rw [h] at h4; omega
        · have hf := h.fits
          have hc := copy_len (mat l a).1 (mat l a).2 h.far
          rw [pk_copy l a p ps hlt h4]
          refine ih _ ?_ _ _ _ rfl (Nat.le_refl _) (by omega) ?_
          · omega
          · rw [wrts_app, wrts_app]
            by_cases hpl : p < a
            · rw [litp_len l hl p a ha hpl]
              (repeat' split) <;> omega
            · have : litp l p a = [] := by unfold litp; rw [if_neg hpl]
              rw [this, List.flatMap_nil, List.length_nil]
              omega
      · rw [pk_lit l a p ps hlt h4]
        exact ih _ (by omega) _ _ _ rfl (by omega) (by omega) he
    · rw [pk_end l a p ps hlt, wrts_app]
      by_cases hpl : p < l.length
      · rw [litp_len l hl p _ (Nat.le_refl _) hpl]
        (repeat' split) <;> omega
      · have : litp l p l.length = [] := by unfold litp; rw [if_neg hpl]
        rw [this, List.flatMap_nil, List.length_nil]
        omega
theorem blk_short (l : List UInt8) (hl : l.length ≤ 65536) : (blk (pk l 0 0 []) l).length ≤ 3 + l.length + l.length / 30 + 4 := by
  have h1 := pk_short l hl _ 0 0 [] rfl (Nat.le_refl _) (Nat.zero_le _) (by simp)
  have h2 : Bt.vlen l.length ≤ 3 := by
    by_cases h : l.length < 128
    · rw [Bt.vlen_small h]; omega
    · rw [Bt.vlen_big (by omega)]
      by_cases h : l.length / 128 < 128
      · rw [Bt.vlen_small h]; omega
      · rw [Bt.vlen_big (by omega), Bt.vlen_small (by omega)]; omega
  unfold blk
  rw [List.length_append, Bt.vint_length]
  omega
set_option maxRecDepth 100000 in
set_option maxHeartbeats 2000000 in
theorem core (s : ByteArray) (hs : s.size ≤ maxLen) (w : World) :
    Calls Try.prog 7 #[.string s] w fun e w' => e = .returned (.bool true) ∧ Below w.heap.size w w' := by
  by_cases hb : 3000 < s.size
  · have hsi : (3000 : Int) < (s.size : Int) := by omega
    go_enter Try.func7, Try.ntmps7
    go_wp2_with fail
    refine (awake_any _).mono ?_
    rintro e w1 ⟨rfl, hb1⟩
    have HB1 := Lib.hid hb1
    clear hb1
    go_wp2
    go_ret
    exact ⟨rfl, HB1.out⟩
  · have hl0 : s.data.toList.length = s.size := by simp
    have hsi : ¬ (3000 : Int) < (s.size : Int) := by omega
    have hs1 : s.size ≤ 3000 := by omega
    have HE := fun w => Lib.hid (encode_any s w)
    have hsh := blk_short s.data.toList (by omega)
    have hd := fun m => decode_blk (m := m) (pack_back (most := 65536) s.data.toList (by omega) (by omega)) (by omega)
    have hz : szs (blk (pk s.data.toList 0 0 []) s.data.toList) = (s.size, Bt.vlen s.size, 0) := by
      unfold blk
      rw [hl0]
      exact szs_blk (by omega) _
    unfold encode at HE
    rw [hl0] at hsh hd
    have hif : ¬ (65536 < s.data.toList.length) := by omega
    simp only [if_neg hif] at HE
    generalize blk (pk s.data.toList 0 0 []) s.data.toList = B at *
    have hbl : (bs B).size = B.length := rfl
    have HD := fun w => Lib.hid (decode_any (bs B) (by omega) (s.size : Int) (by omega) (by omega) w)
    rw [bs_data, hd, if_neg (by omega)] at HD
    have HF := fun w => Lib.hid (decode_any (bs B) (by omega) ((s.size : Int) - 1) (by omega) (by omega) w)
    rw [bs_data, hd, if_pos (by omega)] at HF
    have HS := fun w => Lib.hid (size_any (bs B) (by omega) w)
    rw [bs_data, hz] at HS
    have eqs := bs_of s
    clear hz hd hif
    have hdiv : ((s.size : Int)).tdiv 30 = ((s.size / 30 : Nat) : Int) := by
      rw [Int.tdiv_eq_ediv_of_nonneg (by omega)]
      omega
    have hfin : (B.length : Int) ≤ 3 + (s.size : Int) + ((s.size / 30 : Nat) : Int) + 4 := by omega
    have hdb : (((s.size / 30 : Nat)) : Int) ≤ 100 := by omega
    have hd0 : 0 ≤ (((s.size / 30 : Nat)) : Int) := by omega
    have HB := Lib.hid hbl
    clear hbl hsh
    generalize (((s.size / 30 : Nat)) : Int) = D at *
    go_enter Try.func7, Try.ntmps7
    go_wp2_with fail
    refine (awake_any _).mono ?_
    rintro e w1 ⟨rfl, hb1⟩
    have HB1 := Lib.hid hb1
    clear hb1
    go_wp2_with fail
    refine (HE _).out.mono ?_
    rintro e w2 ⟨rfl, hb2⟩
    have HB2 := Lib.hid hb2
    clear hb2
    go_wp2_with fail
    refine (HD _).out.mono ?_
    rintro e w3 ⟨rfl, hb3⟩
    have HB3 := Lib.hid hb3
    clear hb3
    go_wp2_with fail
    refine (HS _).out.mono ?_
    rintro e w4 ⟨rfl, rfl⟩
    go_wp2_with fail
    refine (HF _).out.mono ?_
    rintro e w4 ⟨rfl, hb4⟩
    have HB4 := Lib.hid hb4
    clear hb4
    have hbl := HB.out
    dsimp only
    go_wp2
    go_ret
    have t2 := HB1.out.trans (HB2.out.mono HB1.out.size)
    have t3 := t2.trans (HB3.out.mono t2.size)
    have t4 := t3.trans (HB4.out.mono t3.size)
    exact ⟨rfl, t4⟩
theorem own : ownKnob Try.prog.godebug = none := by kernel_rfl
theorem laidOut : laidOutB Try.prog = true := by kernel_rfl
set_option maxRecDepth 100000 in
theorem lifted (os : Os) (started : os.Started) (H : Type) (enc : TypeId × Value → H) :
    ReturnsInHanded {} Try.checked os 7 .any (Rows.snappyBackSpec.pre6 enc Try.prog Try.f7 Rows.snappyBackRow.domain false) (Rows.snappyBackSpec.post enc Try.prog Try.f7 false true false false) := by
  refine returnsInHanded_of_change (C := Try.checked) own started (by kernel_rfl) Try.func7
    (ChangeSpec.witness6 (enc := enc) (C := Try.checked) false ⟨#[], #[.string ByteArray.empty], []⟩ 8 (by kernel_rfl) (by kernel_rfl) (by kernel_rfl) (by kernel_rfl)) ?_
  intro W base args ds gs before hval0 hW hcnd _
  have hval : ∀ (j : Nat) t v, Try.f7.params[j]? = some t → args[j]? = some v → Value.okWide Try.prog W .any base t v := hval0
  have hW' := hW
  obtain ⟨p, q, hA0, hV, rfl, hfz, hnd⟩ := hW
  have hA : DataW.TrodAll enc Try.prog W 0 (fun _ => true) true Try.f7.params.toList args.toList ds p := hA0
  rw [Try.params7] at hA hval
  obtain ⟨v0, vs0, d0, ds0, p0, q0, hargs, rfl, rfl, h0, r0⟩ := trodAll_cons hA
  obtain ⟨rfl, rfl, rfl⟩ := trodAll_nil r0
  obtain rfl : args = #[v0] := by cases args; simp_all
  obtain ⟨rfl, rfl⟩ := trodVars_none hV
  have k0 := h0
  have lt0 : ∀ x ∈ p0, x.block < W.heap.size := by obtain ⟨m, hm⟩ := k0; exact DataW.trod_lt m _ _ _ hm
  obtain ⟨a0, rfl, rfl, rfl, w0⟩ := open_string Try.underlying9 (hval 0 9 v0 rfl rfl) h0
  clear hA0 hval0
  refine (core a0 w0 W).mono fun e W' ⟨he, bel⟩ => ?_
  subst he
  exact ⟨_, rfl, _, _, _, [], _, [], hW', trodAll_mk1 (shut_bool Try.underlying4 _), (trodAll_cons_mk (Below.trod laidOut (by kernel_rfl) (of_decide_eq_true (by kernel_rfl)) k0 bel lt0) trodAll_mk0), rfl, bel.frame _, fun h => by cases h⟩
theorem over : Rows.snappyBackRow.holds Try.pinned (OpenSpec.ofChange Rows.snappyBackSpec) :=
  OpenClaim.holds_of_wide 7 Try.f7 rfl rfl rfl rfl rfl rfl rfl ⟨rfl, rfl, rfl, rfl, rfl⟩ rfl rfl rfl rfl rfl (by kernel_rfl) Try.func7 (by kernel_rfl)
    (of_decide_eq_true (by kernel_rfl)) (by unfold Func.isWrapper; first | (rw [if_pos (by decide +kernel)]; kernel_rfl) | (rw [if_neg (by decide +kernel)]; exact ⟨rfl, rfl⟩))
    (fun os started H enc _ => lifted os started H enc)
theorem proved : Rows.SnappyBackSaid := over
end Go.Proofs.Ytnnogjojoeajnaa.snappyBack
