/- SnappyDecodes: for any text and any number the law answers true. No condition. -/
import Derived.Test.YtnnogjojoeajnaaRows
import Derived.Test.YtnnogjojoeajnaaAw
import Derived.Test.YtnnogjojoeajnaaRd
import Derived.WalkKit
import Derived.ProofKit
import Derived.OpenShut
import Derived.ShutString
namespace Go.Proofs.Ytnnogjojoeajnaa.snappyDecodes
open Go.ChangeShapes Go.WideShapes Go.ChangeAt Go.RowKit
open Go.ChangeMaps (open_string shut_string)
set_option linter.unusedVariables false
theorem below_trans' {w a b : World} (h : Below w.heap.size w a) (k : Below a.heap.size a b) : Below w.heap.size w b := h.trans (k.mono h.size)
theorem prt_length : ∀ (xs : List (Pt × Int)) (ps : List Pt), (prt xs ps).1.length ≤ ps.length + xs.length
  | [], ps => by rw [prt]; simp
  | (p, e) :: r, ps => by
    rw [prt]
    split
    · simp
    · have := prt_length r (ps ++ [p])
      rw [List.length_append, List.length_singleton] at this
      rw [List.length_cons]
      omega
theorem parts_length (l : List UInt8) : (parts l).1.length ≤ l.length := by
  unfold parts
  split
  · simp
  · have h1 := prt_length (its (l.drop (szs l).2.1)) []
    have h2 := its_length _ (l.drop (szs l).2.1) (Nat.le_refl _)
    rw [List.length_drop] at h2
    rw [List.length_nil] at h1
    omega
/-- Owned parts, of no matter what. -/
def Of (w : World) (base : Nat) (v : Value) (n : Nat) : Prop := ∃ xs, w.ownsRow base 35 4 v n xs
theorem Of.cells {w : World} {base g n c : Nat} (h : Of w base (.slice (some ⟨g, 0, none⟩) n c) n) (j : Nat) (hj : j < n) : base ≤ g ∧ (∃ u0, w.cell? ⟨g, j * 4, none⟩ = some u0) ∧ (∃ u1, w.cell? ⟨g, j * 4 + 1, none⟩ = some u1) ∧ (∃ u2, w.cell? ⟨g, j * 4 + 2, none⟩ = some u2) ∧ (∃ u3, w.cell? ⟨g, j * 4 + 3, none⟩ = some u3) ∧ ∀ k, w.frozen? ⟨g, k, none⟩ = false := by
  obtain ⟨xs, h⟩ := h
  have hl := h.1
  refine ⟨(own_lt h g rfl).1, ⟨xs[j * 4], ?_⟩, ⟨xs[j * 4 + 1], ?_⟩, ⟨xs[j * 4 + 2], ?_⟩, ⟨xs[j * 4 + 3], ?_⟩, fun k => h.frozenAt k⟩
  all_goals rw [h.cellAt _ (by omega), List.getElem?_eq_getElem]
theorem Of.stored {w : World} {base g n c : Nat} (h : Of w base (.slice (some ⟨g, 0, none⟩) n c) n) (j : Nat) (u : Value) : Of (w.setCell ⟨g, j, none⟩ u) base (.slice (some ⟨g, 0, none⟩) n c) n := by
  obtain ⟨xs, h⟩ := h
  exact ⟨_, (h.stored j u).1⟩
theorem Of.below {w w' : World} {base n : Nat} {v : Value} (h : Of w base v n) (hb : Below w.heap.size w w') : Of w' base v n := by
  obtain ⟨xs, h1, h2⟩ := h
  refine ⟨xs, h1, h2.imp id ?_⟩
  rintro ⟨g, cap, cur, e, hb', hh, rest⟩
  exact ⟨g, cap, cur, e, hb', (hb.block g (Array.getElem?_eq_some_iff.1 hh).1).trans hh, rest⟩
set_option maxRecDepth 100000 in
set_option maxHeartbeats 4000000 in
theorem main (s : ByteArray) (most : Int) (hs : s.size ≤ 3000) (hm1 : -9223372036854775808 ≤ most) (hm2 : most ≤ 20000) (w : World) :
    Calls Try.prog 4 #[.string s, .int .i64 most] w fun e w' => e = .returned (.bool true) ∧ Below w.heap.size w w' := by
  have hl0 : s.data.toList.length = s.size := by simp
  have hsi : ¬ (3000 : Int) < (s.size : Int) := by omega
  have hmi : ¬ (20000 : Int) < most := by omega
  have HZ1 := Lib.hid (fun W => size_any s (by omega) W)
  have HZ2 := Lib.hid (fun W => rsize_any s (by omega) W)
  have HD1 := Lib.hid (fun W => decode_any s (by omega) most hm1 (by omega) W)
  have HD2 := Lib.hid (fun W => rdecode_any s (by omega) most hm1 (by omega) W)
  have HP1 := Lib.hid (fun W => parts_any s (by omega) W)
  have HP2 := Lib.hid (fun W => rparts_any s (by omega) W)
  have hpl := parts_length s.data.toList
  obtain ⟨N, C, K, hz⟩ : ∃ N C K, szs s.data.toList = (N, C, K) := ⟨_, _, _, rfl⟩
  obtain ⟨out, er, hd⟩ : ∃ out er, decode s.data.toList most = (out, er) := ⟨_, _, rfl⟩
  obtain ⟨PL, PE, hp⟩ : ∃ PL PE, parts s.data.toList = (PL, PE) := ⟨_, _, rfl⟩
  rw [hz] at HZ1 HZ2
  rw [hd] at HD1 HD2
  rw [hp] at HP1 HP2 hpl
  dsimp only at HZ1 HZ2 hpl
  have HSM := Lib.hid (fun V U W hv hu => same_any PL (by omega) V U W hv hu)
  have hLs : PL.length ≤ 3000 := by omega
  clear hz hd hp hpl hl0 hm1 hm2
  generalize (N : Int) = M at *
  generalize (K : Int) = k at *
  have e1 : (M != M) = false := by simp
  have e2 : (k != k) = false := by simp
  have e3 : (er != er) = false := by simp
  have e4 : ((bs out).toList != (bs out).toList) = false := by simp
  have e5 : (PE != PE) = false := by simp
  go_enter Try.func4, Try.ntmps4
  go_wp2_with (first | (go_at_call 19; refine (HZ1.out _).mono ?_; rintro e w' ⟨rfl, rfl⟩) | (go_at_call 20; refine (HZ2.out _).mono ?_; rintro e w' ⟨rfl, rfl⟩))
  go_wp2_with fail
  refine (HD1.out _).mono ?_
  rintro e w1 ⟨rfl, hb1⟩
  have HB1 := Lib.hid hb1
  clear hb1
  go_wp2_with fail
  refine (HD2.out _).mono ?_
  rintro e w2 ⟨rfl, hb2⟩
  have HB2 := Lib.hid (below_trans' HB1.out hb2)
  clear hb2
  go_wp2
  go_loopw [13] (fun i wr => ∃ q : Nat, i = .int .i64 (q : Int) ∧ q ≤ 2 ∧ Hid (Below w.heap.size w wr)) (fun i _ => 2 - (intOf i).toNat)
  case atStart => exact ⟨0, rfl, by omega, HB2⟩
  case round =>
    obtain ⟨q, rfl, hq, HB⟩ := hrel
    by_cases hlt : q < 2
    · go_wp2_with fail
      refine (HP1.out _).mono ?_
      rintro e w3 ⟨v3, rfl, ho3, hb3⟩
      have HB3 := Lib.hid (below_trans' HB.out hb3)
      have HV3 := Lib.hid (partsAt_of ho3)
      have HO3 : Hid (Of w3 wr.heap.size v3 PL.length) := Lib.hid ⟨_, ho3⟩
      clear hb3 ho3
      go_wp2_with fail
      refine (HP2.out _).mono ?_
      rintro e w4 ⟨v4, rfl, ho4, hb4⟩
      have HB4 := Lib.hid (below_trans' HB3.out hb4)
      have HV4 := Lib.hid (HV3.out.below hb4 rfl)
      have HA4 := Lib.hid (argAt_of ho4)
      have HO4 := Lib.hid (HO3.out.below hb4)
      clear hb4 ho4
      go_wp2_with fail
      refine (HSM.out _ _ _ HV4.out HA4.out).mono ?_
      rintro e w5 ⟨rfl, hb5⟩
      have HB5 := Lib.hid (below_trans' HB4.out hb5)
      have HO5 := Lib.hid (HO4.out.below hb5)
      clear hb5
      obtain ⟨va, vc, hv⟩ := HV4.out.slice
      generalize PL.length = L at *
      subst hv
      have hwb : w.heap.size ≤ wr.heap.size := HB.out.size
      go_wp2
      go_loopw [18] (fun i wi => ∃ k2 : Nat, i = .int .i64 (k2 : Int) ∧ k2 ≤ L ∧ Hid (Of wi wr.heap.size (.slice va L vc) L) ∧ Hid (Below w.heap.size w wi)) (fun i _ => L - (intOf i).toNat)
      case atStart => exact ⟨0, rfl, by omega, HO5, HB5⟩
      case round =>
        obtain ⟨k2, rfl, hk2, HOi, HBi⟩ := hrel
        by_cases hlt2 : k2 < L
        · have hsome : ∃ g, va = some ⟨g, 0, none⟩ := by
            obtain ⟨xs, h1, h2⟩ := HOi.out
            rcases h2 with ⟨h2, h3⟩ | ⟨g, cap, cur, h2, _⟩
            · omega
            · cases h2; exact ⟨g, rfl⟩
          obtain ⟨g, rfl⟩ := hsome
          obtain ⟨hg, ⟨u0, c0⟩, ⟨u1, c1⟩, ⟨u2, c2⟩, ⟨u3, c3⟩, hf⟩ := HOi.out.cells k2 hlt2
          have f0 := hf (k2 * 4)
          have f1 := hf (k2 * 4 + 1)
          have f2 := hf (k2 * 4 + 2)
          have f3 := hf (k2 * 4 + 3)
          clear hf
          go_wp2
          go_roundw
          case rel =>
            have hgw : w.heap.size ≤ g := Nat.le_trans hwb hg
            exact ⟨k2 + 1, by go_num, by omega, Lib.hid ((((HOi.out.stored _ _).stored _ _).stored _ _).stored _ _), Lib.hid ((((HBi.out.setCell hgw _).setCell hgw _).setCell hgw _).setCell hgw _)⟩
          case measure => simp [intOf]; omega
        · obtain rfl : k2 = L := by omega
          go_wp2
          go_roundw
          case rel => exact ⟨q + 1, by go_num, by omega, HBi⟩
          case measure => simp [intOf]; omega
    · obtain rfl : q = 2 := by omega
      go_wp2_with fail
      refine (awake_any _).mono ?_
      rintro e w9 ⟨rfl, hb9⟩
      have HB9 := Lib.hid (below_trans' HB.out hb9)
      clear hb9
      go_wp2
      go_ret
      exact ⟨rfl, HB9.out⟩
set_option maxRecDepth 100000 in
set_option maxHeartbeats 1000000 in
theorem core (s : ByteArray) (most : Int) (hs : s.size ≤ maxLen) (wm : (Lit.int .i64 most).wf = true) (w : World) :
    Calls Try.prog 4 #[.string s, .int .i64 most] w fun e w' => e = .returned (.bool true) ∧ Below w.heap.size w w' := by
  obtain ⟨m0, m1⟩ := bounds_i64 wm
  by_cases hb : 3000 < s.size
  · have hsi : (3000 : Int) < (s.size : Int) := by omega
    go_enter Try.func4, Try.ntmps4
    go_wp2_with fail
    refine (awake_any _).mono ?_
    rintro e w1 ⟨rfl, hb1⟩
    have HB1 := Lib.hid hb1
    clear hb1
    go_wp2
    go_ret
    exact ⟨rfl, HB1.out⟩
  · by_cases hm : 20000 < most
    · have hsi : ¬ (3000 : Int) < (s.size : Int) := by omega
      go_enter Try.func4, Try.ntmps4
      go_wp2_with fail
      refine (awake_any _).mono ?_
      rintro e w1 ⟨rfl, hb1⟩
      have HB1 := Lib.hid hb1
      clear hb1
      go_wp2
      go_ret
      exact ⟨rfl, HB1.out⟩
    · exact main s most (by omega) m0 (by omega) w
theorem own : ownKnob Try.prog.godebug = none := by kernel_rfl
theorem laidOut : laidOutB Try.prog = true := by kernel_rfl
set_option maxRecDepth 100000 in
theorem lifted (os : Os) (started : os.Started) (H : Type) (enc : TypeId × Value → H) :
    ReturnsInHanded {} Try.checked os 4 .any (Rows.snappyDecodesSpec.pre6 enc Try.prog Try.f4 Rows.snappyDecodesRow.domain false) (Rows.snappyDecodesSpec.post enc Try.prog Try.f4 false true false false) := by
  refine returnsInHanded_of_change (C := Try.checked) own started (by kernel_rfl) Try.func4
    (ChangeSpec.witness6 (enc := enc) (C := Try.checked) false ⟨#[], #[.string ByteArray.empty, .int .i64 0], []⟩ 8 (by kernel_rfl) (by kernel_rfl) (by kernel_rfl) (by kernel_rfl)) ?_
  intro W base args ds gs before hval0 hW hcnd _
  have hval : ∀ (j : Nat) t v, Try.f4.params[j]? = some t → args[j]? = some v → Value.okWide Try.prog W .any base t v := hval0
  have hW' := hW
  obtain ⟨p, q, hA0, hV, rfl, hfz, hnd⟩ := hW
  have hA : DataW.TrodAll enc Try.prog W 0 (fun _ => true) true Try.f4.params.toList args.toList ds p := hA0
  rw [Try.params4] at hA hval
  obtain ⟨v0, vs0, d0, ds0, p0, q0, hargs, rfl, rfl, h0, r0⟩ := trodAll_cons hA
  obtain ⟨v1, vs1, d1, ds1, p1, q1, rfl, rfl, rfl, h1, r1⟩ := trodAll_cons r0
  obtain ⟨rfl, rfl, rfl⟩ := trodAll_nil r1
  obtain rfl : args = #[v0, v1] := by cases args; simp_all
  obtain ⟨rfl, rfl⟩ := trodVars_none hV
  have k0 := h0
  have lt0 : ∀ x ∈ p0, x.block < W.heap.size := by obtain ⟨m, hm⟩ := k0; exact DataW.trod_lt m _ _ _ hm
  have k1 := h1
  have lt1 : ∀ x ∈ p1, x.block < W.heap.size := by obtain ⟨m, hm⟩ := k1; exact DataW.trod_lt m _ _ _ hm
  obtain ⟨a0, rfl, rfl, rfl, w0⟩ := open_string Try.underlying9 (hval 0 9 v0 rfl rfl) h0
  obtain ⟨a1, rfl, rfl, rfl, w1⟩ := open_int Try.underlying3 (hval 1 3 v1 rfl rfl) h1
  clear hA0 hval0
  refine (core a0 a1 w0 w1 W ).mono fun e W' ⟨he, bel⟩ => ?_
  subst he
  exact ⟨_, rfl, _, _, _, [], _, [], hW', trodAll_mk1 (shut_bool Try.underlying4 _), (trodAll_cons_mk (Below.trod laidOut (by kernel_rfl) (of_decide_eq_true (by kernel_rfl)) k0 bel lt0) (trodAll_cons_mk (Below.trod laidOut (by kernel_rfl) (of_decide_eq_true (by kernel_rfl)) k1 bel lt1) trodAll_mk0)), rfl, bel.frame _, fun h => by cases h⟩
theorem over : Rows.snappyDecodesRow.holds Try.pinned (OpenSpec.ofChange Rows.snappyDecodesSpec) :=
  OpenClaim.holds_of_wide 4 Try.f4 rfl rfl rfl rfl rfl rfl rfl ⟨rfl, rfl, rfl, rfl, rfl⟩ rfl rfl rfl rfl rfl (by kernel_rfl) Try.func4 (by kernel_rfl)
    (of_decide_eq_true (by kernel_rfl)) (by unfold Func.isWrapper; first | (rw [if_pos (by decide +kernel)]; kernel_rfl) | (rw [if_neg (by decide +kernel)]; exact ⟨rfl, rfl⟩))
    (fun os started H enc _ => lifted os started H enc)
theorem proved : Rows.SnappyDecodesSaid := over
end Go.Proofs.Ytnnogjojoeajnaa.snappyDecodes
