/- BitsLeast: for any two numbers the law answers true. No condition. -/
import Derived.Test.YtnoejddhdgmkcaaRows
import Derived.Test.YtnoejddhdgmkcaaAw
import Derived.WalkKit
import Derived.ProofKit
import Derived.OpenShut
import Derived.ShutString
namespace Go.Proofs.Ytnoejddhdgmkcaa.bitsLeast
open Go.ChangeShapes Go.WideShapes Go.ChangeAt Go.RowKit
set_option linter.unusedVariables false

theorem data_append (s t : ByteArray) : (s ++ t).data.toList = s.data.toList ++ t.data.toList := by simp
set_option maxRecDepth 100000 in
set_option maxHeartbeats 2000000 in
theorem main (a b : Nat) (ha : a ≤ 18446744073709551615) (hb : b ≤ 18446744073709551615) (w : World) :
    Calls Try.prog 8 #[.int .u64 a, .int .u64 b] w fun e w' => e = .returned (.bool true) ∧ Below w.heap.size w w' := by
  have A1 := fun w => put_any a ha w
  have A2 := fun w => put_any b hb w
  have A3 := fun w => len_any a w ha
  have va := Bt.vlen_u64 (n := a) (by omega)
  have vb := Bt.vlen_u64 (n := b) (by omega)
  have hsa : (bs (Bt.vint a)).size = Bt.vlen a := by rw [bs_size, Bt.vint_length]
  have hsb : (bs (Bt.vint b)).size = Bt.vlen b := by rw [bs_size, Bt.vint_length]
  have hda : (bs (Bt.vint a)).data.toList = Bt.vint a := rfl
  have hdb : (bs (Bt.vint b)).data.toList = Bt.vint b := rfl
  have hta := bs_toList (Bt.vint a)
  have htb := bs_toList (Bt.vint b)
  have hl : 1 < (bs (Bt.vint a)).size → ∀ h : (bs (Bt.vint a)).size - 1 < (bs (Bt.vint a)).size, ((bs (Bt.vint a))[(bs (Bt.vint a)).size - 1]).toNat ≠ 0 := Bt.vint_last a
  have hm := Bt.vlen_mono a b
  rw [← hsa] at A3
  rw [← hsa, ← hsb] at hm
  rw [← hsa] at va
  rw [← hsb] at vb
  have heq : ((bs (Bt.vint a)).toList == (bs (Bt.vint b)).toList) = ((a : Int) == (b : Int)) := by
    rw [hta, htb]
    by_cases h : a = b
    · subst h; simp
    · have h2 : ¬ Bt.vint a = Bt.vint b := fun e => h (Bt.vint_inj (by omega) (by omega) e)
      rw [beq_eq_false_iff_ne.2 h2, beq_eq_false_iff_ne.2 (by omega)]
  have R1 : Bt.rd (((bs (Bt.vint a)) ++ (bs (Bt.vint b))).data.toList.drop 0) 0 0 = (a, (bs (Bt.vint a)).size, 0) := by
    rw [List.drop_zero, data_append, hda, hdb, hsa]; exact Bt.rd_put (by omega) _
  have R2 : Bt.rd (((bs (Bt.vint a)) ++ (bs (Bt.vint b))).data.toList.drop (bs (Bt.vint a)).size) 0 0 = (b, (bs (Bt.vint b)).size, 0) := by
    rw [data_append, hda, hdb, bs_size, List.drop_left, hsb, ← List.append_nil (Bt.vint b)]; exact Bt.rd_put (by omega) _
  have hz : ((bs (Bt.vint a)) ++ (bs (Bt.vint b))).size = (bs (Bt.vint a)).size + (bs (Bt.vint b)).size := by simp
  have hla : 1 ≤ (bs (Bt.vint a)).size := by rw [hsa]; exact Bt.vlen_pos a
  clear hsa hsb hda hdb hta htb
  generalize bs (Bt.vint a) = s at *
  generalize bs (Bt.vint b) = t at *
  have B1 := Lib.hid A1
  have B2 := Lib.hid A2
  have B3 := Lib.hid A3
  have C1 := fun w => Lib.hid (uvarint_ok (s ++ t) 0 w (by omega) (by omega) a s.size s.size R1 (by omega))
  have C2 := fun w => Lib.hid (uvarint_ok (s ++ t) s.size w (by omega) (by omega) b t.size (s.size + t.size) R2 rfl)
  have D1 := Lib.hid C1
  have D2 := Lib.hid C2
  have HE := Lib.hid heq
  clear A1 A2 A3 R1 R2 C1 C2 heq hz
  by_cases h1 : 1 < s.size
  · have hl1 : ((s[s.size - 1].toNat : Int) == 0) = false := by
      have := hl h1 (by omega)
      rw [beq_eq_false_iff_ne]; omega
    clear hl
    by_cases h2 : s.size < t.size
    · have h3 : decide ((b : Int) ≤ (a : Int)) = false := decide_eq_false (by omega)
      have h4 : a < b := by omega
      clear hm
      go_enter Try.func8, Try.ntmps8
      go_wp2_with fail
      refine (B1.out _).mono ?_
      rintro e w1 ⟨rfl, hb1⟩
      have HB1 := Lib.hid hb1; clear hb1
      go_wp2_with fail
      refine (B2.out _).mono ?_
      rintro e w2 ⟨rfl, hb2⟩
      have HB2 := Lib.hid hb2; clear hb2
      go_wp2_with fail
      refine (B3.out _).mono ?_
      rintro e w3 ⟨rfl, rfl⟩
      go_wp2_with fail
      refine (D1.out _).out.mono ?_
      rintro e w3 ⟨rfl, rfl⟩
      go_wp2_with fail
      refine (D2.out _).out.mono ?_
      rintro e w3 ⟨rfl, rfl⟩
      have hq := HE.out
      go_wp2_with fail
      refine (awake_any _).mono ?_
      rintro e w3 ⟨rfl, hb3⟩
      have HB3 := Lib.hid hb3; clear hb3
      go_wp2
      go_ret
      exact ⟨rfl, (HB1.out.trans (HB2.out.mono HB1.out.size)).trans (HB3.out.mono (Nat.le_trans HB1.out.size HB2.out.size))⟩
    · clear hm
      go_enter Try.func8, Try.ntmps8
      go_wp2_with fail
      refine (B1.out _).mono ?_
      rintro e w1 ⟨rfl, hb1⟩
      have HB1 := Lib.hid hb1; clear hb1
      go_wp2_with fail
      refine (B2.out _).mono ?_
      rintro e w2 ⟨rfl, hb2⟩
      have HB2 := Lib.hid hb2; clear hb2
      go_wp2_with fail
      refine (B3.out _).mono ?_
      rintro e w3 ⟨rfl, rfl⟩
      go_wp2_with fail
      refine (D1.out _).out.mono ?_
      rintro e w3 ⟨rfl, rfl⟩
      go_wp2_with fail
      refine (D2.out _).out.mono ?_
      rintro e w3 ⟨rfl, rfl⟩
      have hq := HE.out
      go_wp2_with fail
      refine (awake_any _).mono ?_
      rintro e w3 ⟨rfl, hb3⟩
      have HB3 := Lib.hid hb3; clear hb3
      go_wp2
      go_ret
      exact ⟨rfl, (HB1.out.trans (HB2.out.mono HB1.out.size)).trans (HB3.out.mono (Nat.le_trans HB1.out.size HB2.out.size))⟩
  · clear hl
    by_cases h2 : s.size < t.size
    · have h3 : decide ((b : Int) ≤ (a : Int)) = false := decide_eq_false (by omega)
      have h4 : a < b := by omega
      clear hm
      go_enter Try.func8, Try.ntmps8
      go_wp2_with fail
      refine (B1.out _).mono ?_
      rintro e w1 ⟨rfl, hb1⟩
      have HB1 := Lib.hid hb1; clear hb1
      go_wp2_with fail
      refine (B2.out _).mono ?_
      rintro e w2 ⟨rfl, hb2⟩
      have HB2 := Lib.hid hb2; clear hb2
      go_wp2_with fail
      refine (B3.out _).mono ?_
      rintro e w3 ⟨rfl, rfl⟩
      go_wp2_with fail
      refine (D1.out _).out.mono ?_
      rintro e w3 ⟨rfl, rfl⟩
      go_wp2_with fail
      refine (D2.out _).out.mono ?_
      rintro e w3 ⟨rfl, rfl⟩
      have hq := HE.out
      go_wp2_with fail
      refine (awake_any _).mono ?_
      rintro e w3 ⟨rfl, hb3⟩
      have HB3 := Lib.hid hb3; clear hb3
      go_wp2
      go_ret
      exact ⟨rfl, (HB1.out.trans (HB2.out.mono HB1.out.size)).trans (HB3.out.mono (Nat.le_trans HB1.out.size HB2.out.size))⟩
    · clear hm
      go_enter Try.func8, Try.ntmps8
      go_wp2_with fail
      refine (B1.out _).mono ?_
      rintro e w1 ⟨rfl, hb1⟩
      have HB1 := Lib.hid hb1; clear hb1
      go_wp2_with fail
      refine (B2.out _).mono ?_
      rintro e w2 ⟨rfl, hb2⟩
      have HB2 := Lib.hid hb2; clear hb2
      go_wp2_with fail
      refine (B3.out _).mono ?_
      rintro e w3 ⟨rfl, rfl⟩
      go_wp2_with fail
      refine (D1.out _).out.mono ?_
      rintro e w3 ⟨rfl, rfl⟩
      go_wp2_with fail
      refine (D2.out _).out.mono ?_
      rintro e w3 ⟨rfl, rfl⟩
      have hq := HE.out
      go_wp2_with fail
      refine (awake_any _).mono ?_
      rintro e w3 ⟨rfl, hb3⟩
      have HB3 := Lib.hid hb3; clear hb3
      go_wp2
      go_ret
      exact ⟨rfl, (HB1.out.trans (HB2.out.mono HB1.out.size)).trans (HB3.out.mono (Nat.le_trans HB1.out.size HB2.out.size))⟩

theorem core (a0 a1 : Int) (w0 : (Lit.int .u64 a0).wf = true) (w1 : (Lit.int .u64 a1).wf = true) (w : World) :
    Calls Try.prog 8 #[.int .u64 a0, .int .u64 a1] w fun e w' => e = .returned (.bool true) ∧ Below w.heap.size w w' := by
  obtain ⟨n0, n1⟩ := bounds_u64 w0
  obtain ⟨b0, b1⟩ := bounds_u64 w1
  obtain ⟨a, rfl⟩ := Int.eq_ofNat_of_zero_le n0
  obtain ⟨b, rfl⟩ := Int.eq_ofNat_of_zero_le b0
  exact main a b (by omega) (by omega) w
theorem own : ownKnob Try.prog.godebug = none := by kernel_rfl
theorem laidOut : laidOutB Try.prog = true := by kernel_rfl
set_option maxRecDepth 100000 in
theorem lifted (os : Os) (started : os.Started) (H : Type) (enc : TypeId × Value → H) :
    ReturnsInHanded {} Try.checked os 8 .any (Rows.bitsLeastSpec.pre6 enc Try.prog Try.f8 Rows.bitsLeastRow.domain false) (Rows.bitsLeastSpec.post enc Try.prog Try.f8 false true false false) := by
  refine returnsInHanded_of_change (C := Try.checked) own started (by kernel_rfl) Try.func8
    (ChangeSpec.witness6 (enc := enc) (C := Try.checked) false ⟨#[], #[.int .u64 0, .int .u64 0], []⟩ 8 (by kernel_rfl) (by kernel_rfl) (by kernel_rfl) (by kernel_rfl)) ?_
  intro W base args ds gs before hval0 hW hcnd _
  have hval : ∀ (j : Nat) t v, Try.f8.params[j]? = some t → args[j]? = some v → Value.okWide Try.prog W .any base t v := hval0
  have hW' := hW
  obtain ⟨p, q, hA0, hV, rfl, hfz, hnd⟩ := hW
  have hA : DataW.TrodAll enc Try.prog W 0 (fun _ => true) true Try.f8.params.toList args.toList ds p := hA0
  rw [Try.params8] at hA hval
  obtain ⟨v0, vs0, d0, ds0, p0, q0, hargs, rfl, rfl, h0, r0⟩ := trodAll_cons hA
  obtain ⟨v1, vs1, d1, ds1, p1, q1, rfl, rfl, rfl, h1, r1⟩ := trodAll_cons r0
  obtain ⟨rfl, rfl, rfl⟩ := trodAll_nil r1
  obtain rfl : args = #[v0, v1] := by cases args; simp_all
  obtain ⟨rfl, rfl⟩ := trodVars_none hV
  have k0 := h0
  have lt0 : ∀ x ∈ p0, x.block < W.heap.size := by obtain ⟨m, hm⟩ := k0; exact DataW.trod_lt m _ _ _ hm
  have k1 := h1
  have lt1 : ∀ x ∈ p1, x.block < W.heap.size := by obtain ⟨m, hm⟩ := k1; exact DataW.trod_lt m _ _ _ hm
  obtain ⟨a0, rfl, rfl, rfl, w0⟩ := open_int Try.underlying24 (hval 0 24 v0 rfl rfl) h0
  obtain ⟨a1, rfl, rfl, rfl, w1⟩ := open_int Try.underlying24 (hval 1 24 v1 rfl rfl) h1
  clear hA0 hval0
  refine (core a0 a1 w0 w1 W).mono fun e W' ⟨he, bel⟩ => ?_
  subst he
  exact ⟨_, rfl, _, _, _, [], _, [], hW', trodAll_mk1 (shut_bool Try.underlying4 _), (trodAll_cons_mk (Below.trod laidOut (by kernel_rfl) (of_decide_eq_true (by kernel_rfl)) k0 bel lt0) (trodAll_cons_mk (Below.trod laidOut (by kernel_rfl) (of_decide_eq_true (by kernel_rfl)) k1 bel lt1) trodAll_mk0)), rfl, bel.frame _, fun h => by cases h⟩
theorem over : Rows.bitsLeastRow.holds Try.pinned (OpenSpec.ofChange Rows.bitsLeastSpec) :=
  OpenClaim.holds_of_wide 8 Try.f8 rfl rfl rfl rfl rfl rfl rfl ⟨rfl, rfl, rfl, rfl, rfl⟩ rfl rfl rfl rfl rfl (by kernel_rfl) Try.func8 (by kernel_rfl)
    (of_decide_eq_true (by kernel_rfl)) (by unfold Func.isWrapper; first | (rw [if_pos (by decide +kernel)]; kernel_rfl) | (rw [if_neg (by decide +kernel)]; exact ⟨rfl, rfl⟩))
    (fun os started H enc _ => lifted os started H enc)
theorem proved : Rows.BitsLeastSaid := over

end Go.Proofs.Ytnoejddhdgmkcaa.bitsLeast
