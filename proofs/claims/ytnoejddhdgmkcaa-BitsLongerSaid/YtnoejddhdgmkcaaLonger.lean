/- BitsLonger: for every number, and however many bytes more, the law answers true. No condition. -/
import Derived.Test.YtnoejddhdgmkcaaRows
import Derived.Test.YtnoejddhdgmkcaaAw
import Derived.WalkKit
import Derived.ProofKit
import Derived.OpenShut
import Derived.ShutString
namespace Go.Proofs.Ytnoejddhdgmkcaa.bitsLonger
open Go.ChangeShapes Go.WideShapes Go.ChangeAt Go.RowKit
set_option linter.unusedVariables false
theorem set_last {pre : List UInt8} {c d : UInt8} : ((pre ++ [c]).map bv).set pre.length (bv d) = (pre ++ [d]).map bv := by
  simp
theorem fin {w w1 w2 wr : World} {u : Value} (h1 : Below w.heap.size w w1) (h2 : Below w1.heap.size w1 w2) (h3 : Step w2 wr (.slice none 0 0) u) : Below w.heap.size w wr :=
  (h1.trans (h2.mono h1.size)).trans ((h3.below (Nat.le_refl _) (fun k hk => by cases hk)).mono (Nat.le_trans h1.size h2.size))
set_option maxRecDepth 100000 in
set_option maxHeartbeats 2000000 in
theorem main (a m : Nat) (ha : a ≤ 18446744073709551615) (hm : m ≤ 255) (w : World) :
    Calls Try.prog 9 #[.int .u64 a, .int .u8 m] w fun e w' => e = .returned (.bool true) ∧ Below w.heap.size w w' := by
  have va := Bt.vlen_u64 (n := a) (by omega)
  have HV := Lib.hid (Bt.vi_vint a)
  have HL := Lib.hid (Bt.vint_length a)
  obtain ⟨i0, hi, hz0, hz1, hz2⟩ := info_parts Try.info5
  go_enter Try.func9, Try.ntmps9
  go_wp2_with fail
  refine (awake_any _).mono ?_
  rintro e w1 ⟨rfl, hb1⟩
  have HB1 := Lib.hid hb1; clear hb1
  go_wp2_with fail
  refine (put_any a ha _).mono ?_
  rintro e w2 ⟨rfl, hb2⟩
  have HB2 := Lib.hid hb2; clear hb2
  obtain ⟨v0, w3, hcv, hO, hS⟩ := run_bytes (P := Try.prog) w2 w2.heap.size 9 41 5 (bs (Bt.vint a)) Try.underlying9 Try.underlying41 Try.underlying5 (Nat.le_refl _) (by rw [bs_size, HL.out]; omega)
  have HO := Lib.hid hO
  have HS := Lib.hid hS
  clear hO hS
  go_wp2
  go_loopw [5, 6] (fun u i wr => ∃ (k : Nat) (xs : List UInt8), k ≤ m ∧ i = .int .i64 k ∧ Hid (xs.length = Bt.vlen a + k) ∧ xs.length ≤ 12 ∧ Hid (Bt.Vi a xs) ∧ Hid (Own wr w2.heap.size u (xs.map bv)) ∧ Hid (Step w2 wr (.slice none 0 0) u)) (fun _ i _ => m - (intOf i).toNat)
  case atStart => exact ⟨0, Bt.vint a, by omega, rfl, Lib.hid (by rw [HL.out]; omega), by rw [HL.out]; omega, HV, HO, HS⟩
  case round =>
    obtain ⟨k, xs, hk, rfl, HXL, hxl, HX, HW, HT⟩ := hrel
    obtain ⟨pre, c, rfl, hp2, hp3, hp4⟩ := HX.out
    have hp2 := Lib.hid hp2
    have hp4 := Lib.hid hp4
    have hpl : (pre ++ [c]).length = pre.length + 1 := by simp
    rw [hpl] at hxl
    have hcl := c.toNat_lt
    obtain ⟨g, cap, hv, hg1, hg2, hg3, hg4⟩ := HW.out.pos (by simp)
    rw [List.length_map, hpl] at hg4 hg3 hv
    subst hv
    have hc1 : wr.cell? ⟨g, pre.length, none⟩ = some (.int .u8 (c.toNat : Int)) := by rw [(hg4 pre.length (by omega)).1]; simp [bv]
    have hf1 := (hg4 pre.length (by omega)).2
    clear hg4 hpl
    by_cases hin : k < m ∧ pre.length + 1 < 12
    · obtain ⟨hkm, hx12⟩ := hin
      have HW2 : Hid (Own (wr.setCell ⟨g, pre.length, none⟩ (.int .u8 (bits .or .u8 (c.toNat : Int) 128))) w2.heap.size (.slice (some ⟨g, 0, none⟩) (pre.length + 1) cap) ((pre ++ [UInt8.ofNat (c.toNat + 128)]).map bv)) := by
        have h := HW.out.stored' pre.length (by simp) (.int .u8 (bits .or .u8 (c.toNat : Int) 128))
        rw [Bt.or_c c hp3] at h ⊢
        have e := set_last (pre := pre) (c := c) (d := UInt8.ofNat (c.toNat + 128))
        unfold bv at e h ⊢
        rw [e] at h
        exact h
      have HT2 : Hid (Step w2 (wr.setCell ⟨g, pre.length, none⟩ (.int .u8 (bits .or .u8 (c.toNat : Int) 128))) (.slice none 0 0) (.slice (some ⟨g, 0, none⟩) (pre.length + 1) cap)) := Lib.hid (HT.out.setCell _ _)
      have HSrc : Hid (Src Try.prog 1 41 (.slice (some ⟨wr.heap.size, 0, none⟩) 1 1) 1 [.int .u8 0] ((wr.setCell ⟨g, pre.length, none⟩ (.int .u8 (bits .or .u8 (c.toNat : Int) 128))).alloc (.cells #[.int .u8 0] 5))) := by
        have h := Src.one (P := Try.prog) (wr.setCell ⟨g, pre.length, none⟩ (.int .u8 (bits .or .u8 (c.toNat : Int) 128))) Try.underlying41 (.int .u8 0) 5 rfl
        rw [World.size_setCell] at h
        exact h
      have HB : Hid (w2.heap.size ≤ wr.heap.size) := Lib.hid HT.out.grown.size
      have hll : ((pre ++ [UInt8.ofNat (c.toNat + 128)]).map bv).length ≤ 20 := by simp; omega
      go_wp2_with (at_builtin; refine wpList_append_Own _ rfl (.tmp 38) (.tmp 39) 41 41 rfl w2.heap.size 5 i0 (.int .u8 0) 1 Try.underlying41 hi hz0 hz1 hz2 rfl (.slice (some ⟨g, 0, none⟩) (pre.length + 1) cap) ((pre ++ [UInt8.ofNat (c.toNat + 128)]).map bv) rfl (HW2.out.alloc _) _ 1 _ rfl HSrc.out ?c1 ?c2 ?c3 ?_; rotate_right; intro v' w1 hown1 hgr hwh; have HO1 := Lib.hid hown1; have HG := Lib.hid hgr; have HH := Lib.hid hwh; clear hown1 hgr hwh)
      case c1 => omega
      case c2 => omega
      case c3 => exact Nat.le_trans HB.out (by simp [World.setCell])
      go_roundw
      case rel =>
        refine ⟨k + 1, pre ++ [UInt8.ofNat (c.toNat + 128)] ++ [0], by omega, by go_num, Lib.hid ?_, ?_, Lib.hid (Bt.vi_more hp2.out hp3 hp4.out), Lib.hid ?_, Lib.hid ?_⟩
        · have := HXL.out
          simp at this ⊢
          omega
        · simp; omega
        · exact own_snoc (bv_ofNat (n := 0) rfl) HO1.out
        · exact (HT2.out.alloc _).trans ⟨HG.out, HH.out⟩
      case measure => simp [intOf]; omega
    · by_cases hkm : k < m
      · have hx12 : 12 ≤ pre.length + 1 := by omega
        have hr := run_string_Own wr _ 41 9 5 _ (pre ++ [c]) HW.out Try.underlying41 Try.underlying5 Try.underlying9
        have R := Bt.vi_rd HX.out (by omega) [120]
        have hz : (bs (pre ++ [c])).size = pre.length + 1 := by rw [bs_size]; simp
        have hz2 : ((bs (pre ++ [c])) ++ ⟨#[120]⟩ : ByteArray).size = pre.length + 2 := by rw [ByteArray.size_append, hz]; rfl
        have hda : ((bs (pre ++ [c])) ++ ⟨#[120]⟩ : ByteArray).data.toList.drop 0 = (pre ++ [c]) ++ [120] := by rw [List.drop_zero]; simp [bs]
        rw [← hda, show (pre ++ [c]).length = pre.length + 1 from by simp] at R
        have hr' : Sem.run Try.prog (convert 41 9 (Value.slice (some ⟨g, 0, none⟩) (pre.length + 1) cap)) wr = .ok (.string (bs (pre ++ [c]))) wr := hr
        clear hr hda
        generalize hS : bs (pre ++ [c]) = s at *
        clear hS
        have HR := Lib.hid hr'
        clear hr'
        by_cases hlt : pre.length + 1 ≤ 10
        · exfalso; omega
        · have U := Lib.hid (uvarint_no (s ++ ⟨#[120]⟩) 0 wr (by omega) (by omega) 4 (by omega) (R.2 (by omega)))
          clear R hz2
          have hrr := HR.out
          go_wp2_with fail
          refine U.out.mono ?_
          rintro e w4 ⟨rfl, rfl⟩
          go_wp2
          go_ret
          exact ⟨rfl, fin HB1.out HB2.out HT.out⟩
      · have hkm' : m ≤ k := by omega
        have hr := run_string_Own wr _ 41 9 5 _ (pre ++ [c]) HW.out Try.underlying41 Try.underlying5 Try.underlying9
        have R := Bt.vi_rd HX.out (by omega) [120]
        have hz : (bs (pre ++ [c])).size = pre.length + 1 := by rw [bs_size]; simp
        have hz2 : ((bs (pre ++ [c])) ++ ⟨#[120]⟩ : ByteArray).size = pre.length + 2 := by rw [ByteArray.size_append, hz]; rfl
        have hda : ((bs (pre ++ [c])) ++ ⟨#[120]⟩ : ByteArray).data.toList.drop 0 = (pre ++ [c]) ++ [120] := by rw [List.drop_zero]; simp [bs]
        rw [← hda, show (pre ++ [c]).length = pre.length + 1 from by simp] at R
        have hr' : Sem.run Try.prog (convert 41 9 (Value.slice (some ⟨g, 0, none⟩) (pre.length + 1) cap)) wr = .ok (.string (bs (pre ++ [c]))) wr := hr
        clear hr hda
        generalize hS : bs (pre ++ [c]) = s at *
        clear hS
        have HR := Lib.hid hr'
        clear hr'
        by_cases hlt : pre.length + 1 ≤ 10
        · have U := Lib.hid (uvarint_ok (s ++ ⟨#[120]⟩) 0 wr (by omega) (by omega) a (pre.length + 1) (pre.length + 1) (R.1 hlt) (by omega))
          clear R hz2
          have hrr := HR.out
          go_wp2_with fail
          refine U.out.mono ?_
          rintro e w4 ⟨rfl, rfl⟩
          go_wp2
          go_ret
          exact ⟨rfl, fin HB1.out HB2.out HT.out⟩
        · have U := Lib.hid (uvarint_no (s ++ ⟨#[120]⟩) 0 wr (by omega) (by omega) 4 (by omega) (R.2 (by omega)))
          clear R hz2
          have hrr := HR.out
          go_wp2_with fail
          refine U.out.mono ?_
          rintro e w4 ⟨rfl, rfl⟩
          go_wp2
          go_ret
          exact ⟨rfl, fin HB1.out HB2.out HT.out⟩

theorem core (a0 a1 : Int) (w0 : (Lit.int .u64 a0).wf = true) (w1 : (Lit.int .u8 a1).wf = true) (w : World) :
    Calls Try.prog 9 #[.int .u64 a0, .int .u8 a1] w fun e w' => e = .returned (.bool true) ∧ Below w.heap.size w w' := by
  obtain ⟨n0, n1⟩ := bounds_u64 w0
  obtain ⟨b0, b1⟩ := bounds_u8 w1
  obtain ⟨a, rfl⟩ := Int.eq_ofNat_of_zero_le n0
  obtain ⟨b, rfl⟩ := Int.eq_ofNat_of_zero_le b0
  exact main a b (by omega) (by omega) w
theorem own : ownKnob Try.prog.godebug = none := by kernel_rfl
theorem laidOut : laidOutB Try.prog = true := by kernel_rfl
set_option maxRecDepth 100000 in
theorem lifted (os : Os) (started : os.Started) (H : Type) (enc : TypeId × Value → H) :
    ReturnsInHanded {} Try.checked os 9 .any (Rows.bitsLongerSpec.pre6 enc Try.prog Try.f9 Rows.bitsLongerRow.domain false) (Rows.bitsLongerSpec.post enc Try.prog Try.f9 false true false false) := by
  refine returnsInHanded_of_change (C := Try.checked) own started (by kernel_rfl) Try.func9
    (ChangeSpec.witness6 (enc := enc) (C := Try.checked) false ⟨#[], #[.int .u64 0, .int .u8 0], []⟩ 8 (by kernel_rfl) (by kernel_rfl) (by kernel_rfl) (by kernel_rfl)) ?_
  intro W base args ds gs before hval0 hW hcnd _
  have hval : ∀ (j : Nat) t v, Try.f9.params[j]? = some t → args[j]? = some v → Value.okWide Try.prog W .any base t v := hval0
  have hW' := hW
  obtain ⟨p, q, hA0, hV, rfl, hfz, hnd⟩ := hW
  have hA : DataW.TrodAll enc Try.prog W 0 (fun _ => true) true Try.f9.params.toList args.toList ds p := hA0
  rw [Try.params9] at hA hval
  obtain ⟨v0, vs0, d0, ds0, p0, q0, hargs, rfl, rfl, h0, r0⟩ := trodAll_cons hA
  obtain ⟨v1, vs1, d1, ds1, p1, q1, rfl, rfl, rfl, h1, r1⟩ := trodAll_cons r0
  obtain ⟨rfl, rfl, rfl⟩ := trodAll_nil r1
  obtain rfl : args = #[v0, v1] := by cases args; simp_all
  obtain ⟨rfl, rfl⟩ := trodVars_none hV
  have k0 := h0
  have lt0 : ∀ x ∈ p0, x.block < W.heap.size := by obtain ⟨m, hm⟩ := k0; exact DataW.trod_lt m _ _ _ hm
  have k1 := h1
  have lt1 : ∀ x ∈ p1, x.block < W.heap.size := by obtain ⟨m, hm⟩ := k1; exact DataW.trod_lt m _ _ _ hm
  obtain ⟨a0, rfl, rfl, rfl, w0⟩ := open_int Try.underlying24 (hval 0 24 v0 rfl rfl) h0
  obtain ⟨a1, rfl, rfl, rfl, w1⟩ := open_int Try.underlying5 (hval 1 5 v1 rfl rfl) h1
  clear hA0 hval0
  refine (core a0 a1 w0 w1 W).mono fun e W' ⟨he, bel⟩ => ?_
  subst he
  exact ⟨_, rfl, _, _, _, [], _, [], hW', trodAll_mk1 (shut_bool Try.underlying4 _), (trodAll_cons_mk (Below.trod laidOut (by kernel_rfl) (of_decide_eq_true (by kernel_rfl)) k0 bel lt0) (trodAll_cons_mk (Below.trod laidOut (by kernel_rfl) (of_decide_eq_true (by kernel_rfl)) k1 bel lt1) trodAll_mk0)), rfl, bel.frame _, fun h => by cases h⟩
theorem over : Rows.bitsLongerRow.holds Try.pinned (OpenSpec.ofChange Rows.bitsLongerSpec) :=
  OpenClaim.holds_of_wide 9 Try.f9 rfl rfl rfl rfl rfl rfl rfl ⟨rfl, rfl, rfl, rfl, rfl⟩ rfl rfl rfl rfl rfl (by kernel_rfl) Try.func9 (by kernel_rfl)
    (of_decide_eq_true (by kernel_rfl)) (by unfold Func.isWrapper; first | (rw [if_pos (by decide +kernel)]; kernel_rfl) | (rw [if_neg (by decide +kernel)]; exact ⟨rfl, rfl⟩))
    (fun os started H enc _ => lifted os started H enc)
theorem proved : Rows.BitsLongerSaid := over

end Go.Proofs.Ytnoejddhdgmkcaa.bitsLonger
