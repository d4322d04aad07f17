/- ProtoLonger: for any numbers and any text the law answers true. No condition. -/
import Derived.Test.YtbckkfoenembmaaRows
import Derived.Test.YtbckkfoenembmaaAw
import Derived.Test.YtbckkfoenembmaaMo
import Derived.Test.YtbckkfoenembmaaLo
import Derived.Lib.QuietBelow
import Derived.WalkKit
import Derived.ProofKit
import Derived.OpenShut
import Derived.ShutString
namespace Go.Proofs.Ytbckkfoenembmaa.protoLonger
open Go.ChangeShapes Go.WideShapes Go.ChangeAt Go.RowKit
open Go.ChangeMaps (open_string shut_string)
set_option linter.unusedVariables false
theorem lgr_form {pre : List UInt8} {c : UInt8} (hc : c.toNat < 128) (m : Nat) : lgr (pre ++ [c]) (m + 1) = pre ++ [UInt8.ofNat (c.toNat + 128)] ++ List.replicate m 128 ++ [0] := by
  unfold lgr
  rw [if_neg (by omega), List.dropLast_concat, List.getLastD_concat, Nat.add_sub_cancel, Nat.or_comm, nat_join 7 128 c.toNat (by decide) hc, Nat.add_comm 128]
theorem vi_rep {n : Nat} {pre : List UInt8} {c : UInt8} (h2 : ∀ b ∈ pre, 128 ≤ b.toNat) (h3 : c.toNat < 128) (h4 : Bt.val (pre ++ [c]) = n) : ∀ m, (∀ b ∈ pre ++ [UInt8.ofNat (c.toNat + 128)] ++ List.replicate m 128, 128 ≤ b.toNat) ∧ Bt.val (pre ++ [UInt8.ofNat (c.toNat + 128)] ++ List.replicate m 128 ++ [0]) = n
  | 0 => by
    obtain ⟨p, d, e1, e2, e3, e4⟩ := Bt.vi_more h2 h3 h4
    obtain ⟨rfl, rfl⟩ : p = pre ++ [UInt8.ofNat (c.toNat + 128)] ∧ d = 0 := by
      have := List.append_inj' e1 rfl
      exact ⟨this.1.symm, by simpa using this.2.symm⟩
    rw [List.replicate_zero, List.append_nil]
    exact ⟨e2, e4⟩
  | m + 1 => by
    obtain ⟨g2, g4⟩ := vi_rep h2 h3 h4 m
    obtain ⟨p, d, e1, e2, e3, e4⟩ := Bt.vi_more g2 (by decide : (0 : UInt8).toNat < 128) g4
    obtain ⟨rfl, rfl⟩ : p = pre ++ [UInt8.ofNat (c.toNat + 128)] ++ List.replicate m 128 ++ [UInt8.ofNat ((0 : UInt8).toNat + 128)] ∧ d = 0 := by
      have := List.append_inj' e1 rfl
      exact ⟨this.1.symm, by simpa using this.2.symm⟩
    have hr : List.replicate (m + 1) (128 : UInt8) = List.replicate m 128 ++ [128] := List.replicate_succ'
    rw [hr, ← List.append_assoc]
    exact ⟨e2, e4⟩
theorem lgr_vi (n m : Nat) : Bt.Vi n (lgr (Bt.vint n) m) ∧ (lgr (Bt.vint n) m).length = Bt.vlen n + m := by
  obtain ⟨pre, c, h1, h2, h3, h4⟩ := Bt.vi_vint n
  have hl := Bt.vint_length n
  cases m with
  | zero => exact ⟨⟨pre, c, by unfold lgr; rw [if_pos rfl]; exact h1, h2, h3, by unfold lgr; rw [if_pos rfl]; exact h4⟩, by unfold lgr; rw [if_pos rfl]; exact hl⟩
  | succ m =>
    rw [h1] at h4 hl ⊢
    rw [lgr_form h3]
    obtain ⟨g2, g4⟩ := vi_rep h2 h3 h4 m
    refine ⟨⟨_, 0, rfl, g2, by decide, g4⟩, ?_⟩
    simp at hl ⊢
    omega
/-- The call of longer, of a number's bytes. -/
theorem longer_any (n : Nat) (hn : n < 18446744073709551616) (m : Nat) (hm : m ≤ 10) (w : World) : Calls Try.prog 51 #[.string (bs (Bt.vint n)), .int .i64 (m : Int)] w (Ret w (.string (bs (lgr (Bt.vint n) m)))) := by
  have h1 := Bt.vlen_u64 hn
  have h2 := Bt.vlen_pos n
  by_cases h0 : m = 0
  · subst h0
    have := longer_none (bs (Bt.vint n)) ((0 : Nat) : Int) (by omega) w
    unfold lgr
    rw [if_pos rfl]
    exact this
  · have := longer_some (bs (Bt.vint n)) (by rw [bs_size, Bt.vint_length]; omega) (by rw [bs_size, Bt.vint_length]; omega) m (by omega) (by omega) w
    rw [bs_data] at this
    exact this
/-- How many more. -/
theorem more (x : Int) (h0 : 0 ≤ x) (z : Nat) (hz0 : 1 ≤ z) (hz : z ≤ 10) : ∃ m : Nat, x.tmod (11 - (z : Int)) = (m : Int) ∧ z + m ≤ 10 := by
  have h1 := Int.emod_nonneg x (b := 11 - (z : Int)) (by omega)
  have h2 := Int.emod_lt_of_pos x (b := 11 - (z : Int)) (by omega)
  rw [Int.tmod_eq_emod_of_nonneg h0]
  exact ⟨(x % (11 - (z : Int))).toNat, by omega, by omega⟩
theorem fat_two (W : World) (x0 x1 x2 : Int) (x3 : ByteArray) (y0 y1 y2 : Int) (y3 : ByteArray) (f g : Ff) (hf : fv f = .agg #[.int .i64 x0, .int .u8 x1, .int .u64 x2, .string x3]) (hg : fv g = .agg #[.int .i64 y0, .int .u8 y1, .int .u64 y2, .string y3]) : FAt (W.alloc (.cells #[.int .i64 x0, .int .u8 x1, .int .u64 x2, .string x3, .int .i64 y0, .int .u8 y1, .int .u64 y2, .string y3] 47)) (.slice (some ⟨W.heap.size, 0, none⟩) 2 2) [f, g] := by
  unfold fv at hf hg
  simp at hf hg
  obtain ⟨rfl, rfl, rfl, rfl⟩ := hf
  obtain ⟨rfl, rfl, rfl, rfl⟩ := hg
  refine .inr ⟨W.heap.size, 0, 2, rfl, fun j hj => ?_⟩
  match j, hj with
  | 0, hj => refine ⟨?_, ?_, ?_, ?_⟩ <;> (rw [World.cell?_alloc_mark]; rfl)
  | 1, hj => refine ⟨?_, ?_, ?_, ?_⟩ <;> (rw [World.cell?_alloc_mark]; rfl)
set_option maxRecDepth 100000 in
set_option maxHeartbeats 1000000 in
theorem core (num n : Int) (t : ByteArray) (a b c : Int) (w0 : (Lit.int .i64 num).wf = true) (w1 : (Lit.int .u64 n).wf = true) (wt : t.size ≤ maxLen) (w3 : (Lit.int .u8 a).wf = true) (w4 : (Lit.int .u8 b).wf = true) (w5 : (Lit.int .u8 c).wf = true) (w : World) :
    Calls Try.prog 10 #[.int .i64 num, .int .u64 n, .string t, .int .u8 a, .int .u8 b, .int .u8 c] w fun e w' => e = .returned (.bool true) ∧ Below w.heap.size w w' := by
  obtain ⟨hn0, hn1⟩ := bounds_i64 w0
  obtain ⟨hm0, hm1⟩ := bounds_u64 w1
  obtain ⟨ha0, ha1⟩ := bounds_u8 w3
  obtain ⟨hb0, hb1⟩ := bounds_u8 w4
  obtain ⟨hc0, hc1⟩ := bounds_u8 w5
  have ht63 : (t.size : Int) ≤ 9223372036854775807 := by unfold maxLen at wt; omega
  by_cases hbig : 3000 < t.size
  · go_enter Try.func10, Try.ntmps10
    go_wp2_with fail
    refine (awake_any _).mono ?_
    rintro e w1 ⟨rfl, hb1⟩
    have HB1 := Lib.hid hb1
    clear hb1
    go_wp2
    go_ret
    exact ⟨rfl, HB1.out⟩
  · have ht : t.size ≤ 3000 := by omega
    obtain ⟨K0, hT, hK0⟩ : ∃ K0 : Nat, (IntKind.u64.wrap num).tmod 536870911 = (K0 : Int) ∧ K0 < 536870911 := by
      have hN0 : 0 ≤ IntKind.u64.wrap num := by rw [IntKind.wrap_u64]; omega
      have h1 := Int.emod_nonneg (IntKind.u64.wrap num) (b := 536870911) (by omega)
      have h2 := Int.emod_lt_of_pos (IntKind.u64.wrap num) (b := 536870911) (by omega)
      rw [Int.tmod_eq_emod_of_nonneg hN0]
      exact ⟨((IntKind.u64.wrap num) % 536870911).toNat, by omega, by omega⟩
    obtain ⟨K, hK⟩ : ∃ K, K0 + 1 = K := ⟨_, rfl⟩
    obtain ⟨N, rfl⟩ := Int.eq_ofNat_of_zero_le (a := n) (by omega)
    have hNN : N < 18446744073709551616 := by omega
    have hK1 : 1 ≤ K ∧ K ≤ 536870911 := by omega
    have hKi : 1 + (K0 : Int) = (K : Int) := by omega
    obtain ⟨X, hX⟩ : ∃ X, K * 8 = X := ⟨_, rfl⟩
    have hXi : (K : Int) * 8 = (X : Int) := by omega
    obtain ⟨Y, hY⟩ : ∃ Y, X + 2 = Y := ⟨_, rfl⟩
    have hYi : (X : Int) + 2 = (Y : Int) := by omega
    have hX2 : X ≤ 4294967288 := by omega
    have hv1 := Bt.vlen_u64 (n := X) (by omega)
    have hv2 := Bt.vlen_u64 (n := N) hNN
    have hv3 := Bt.vlen_u64 (n := Y) (by omega)
    have hv4 := Bt.vlen_u64 (n := t.size) (by omega)
    have hp1 := Bt.vlen_pos X
    have hp2 := Bt.vlen_pos N
    have hp3 := Bt.vlen_pos Y
    have hp4 := Bt.vlen_pos t.size
    obtain ⟨m1, e1, l1⟩ := more a (by omega) (Bt.vlen X) hp1 hv1
    obtain ⟨m2, e2, l2⟩ := more b (by omega) (Bt.vlen N) hp2 hv2
    obtain ⟨m3, e3, l3⟩ := more c (by omega) (Bt.vlen Y) hp3 hv3
    obtain ⟨m4, e4, l4⟩ := more a (by omega) (Bt.vlen t.size) hp4 hv4
    obtain ⟨i1, j1⟩ := lgr_vi X m1
    obtain ⟨i2, j2⟩ := lgr_vi N m2
    obtain ⟨i3, j3⟩ := lgr_vi Y m3
    obtain ⟨i4, j4⟩ := lgr_vi t.size m4
    have L1 := fun W d os => Calls.regrown_of (w := W) (d := d) (os := os) (longer_any X (by omega) m1 (by omega) _)
    have L2 := fun W d os => Calls.regrown_of (w := W) (d := d) (os := os) (longer_any N hNN m2 (by omega) _)
    have L3 := fun W d os => Calls.regrown_of (w := W) (d := d) (os := os) (longer_any Y (by omega) m3 (by omega) _)
    have L4 := fun W d os => Calls.regrown_of (w := W) (d := d) (os := os) (longer_any t.size (by omega) m4 (by omega) _)
    have V1 := fun W => rvint X W (by omega)
    have V2 := fun W => rvint N W (by omega)
    have V3 := fun W => rvint Y W (by omega)
    have V4 := fun W => rvint t.size W (by omega)
    -- what is read
    have hmk : ∀ w, w = 0 ∨ w = 1 ∨ w = 2 ∨ w = 5 → mayk K w = true := fun w hw => by
      unfold mayk
      rw [decide_eq_true hK1, decide_eq_true hw]
      rfl
    have htl : t.data.toList.length = t.size := by simp
    have hread : msg (lgr (Bt.vint X) m1 ++ (lgr (Bt.vint N) m2 ++ (lgr (Bt.vint Y) m3 ++ (lgr (Bt.vint t.size) m4 ++ t.data.toList)))) [] = ([⟨K, 0, N, []⟩, ⟨K, 2, 0, t.data.toList⟩], 0) := by
      have r1 := rdf_long0 (kb := lgr (Bt.vint X) m1) (vb := lgr (Bt.vint N) m2) (hmk 0 (by omega)) hNN (by rw [hX]; exact i1) (by omega) i2 (by omega) (lgr (Bt.vint Y) m3 ++ (lgr (Bt.vint t.size) m4 ++ t.data.toList))
      have r2 := rdf_long2 (hmk 2 (by omega)) (t := t.data.toList) (by omega) (kb := lgr (Bt.vint Y) m3) (by rw [hX, hY]; exact i3) (by omega) (sb := lgr (Bt.vint t.size) m4) (by rw [htl]; exact i4) (by omega) []
      rw [List.append_assoc] at r1
      have hne : ∀ (l r : List UInt8), 1 ≤ l.length → l ++ r ≠ [] := fun l r h e => by have := congrArg List.length e; rw [List.length_append, List.length_nil] at this; omega
      rw [msg_ok (hne _ _ (by omega)) r1 (by rw [List.length_append]; omega), ← List.append_assoc, drop_pre0 (by rw [List.length_append])]
      rw [List.append_nil, List.append_assoc] at r2
      rw [msg_ok (hne _ _ (by omega)) r2 (by rw [List.length_append, List.length_append]; omega), List.drop_eq_nil_of_le (by simp), msg_nil]
      rfl
    have hcat : bs (lgr (Bt.vint X) m1) ++ bs (lgr (Bt.vint N) m2) ++ bs (lgr (Bt.vint Y) m3) ++ bs (lgr (Bt.vint t.size) m4) ++ t = bs (lgr (Bt.vint X) m1 ++ (lgr (Bt.vint N) m2 ++ (lgr (Bt.vint Y) m3 ++ (lgr (Bt.vint t.size) m4 ++ t.data.toList)))) := by
      rw [bs_append, bs_append, bs_append, show t = bs t.data.toList from (bs_of t).symm, bs_append, bs_data]
      simp only [List.append_assoc]
    have hR := fun W => pread_any (bs (lgr (Bt.vint X) m1 ++ (lgr (Bt.vint N) m2 ++ (lgr (Bt.vint Y) m3 ++ (lgr (Bt.vint t.size) m4 ++ t.data.toList))))) (by rw [bs_size]; simp only [List.length_append]; omega) W
    rw [bs_data, hread, ← hcat] at hR
    have hP := fun V W hV => plain_any [gfd ⟨K, 0, N, []⟩, gfd ⟨K, 2, 0, t.data.toList⟩] (by simp) (fun f hf => by
      rcases List.mem_cons.1 hf with rfl | hf
      · exact hNN
      · rcases List.mem_cons.1 hf with rfl | hf
        · show t.data.toList.length ≤ _; omega
        · cases hf) V W hV
    have hS := fun V U W h1 h2 => same_any [(⟨(K : Int), 0, N, ⟨#[]⟩⟩ : Ff), ⟨(K : Int), 2, 0, t⟩] (by simp) V U W h1 h2
    have hpl : [gfd ⟨K, 0, N, []⟩, gfd ⟨K, 2, 0, t.data.toList⟩].map plain1 = [(⟨(K : Int), 0, N, ⟨#[]⟩⟩ : Ff), ⟨(K : Int), 2, 0, t⟩] := by
      show [(⟨(K : Int), 0, N, ⟨#[]⟩⟩ : Ff), ⟨(K : Int), 2, 0, bs t.data.toList⟩] = _
      rw [bs_of]
    rw [hpl] at hP
    have z1 : (bs (Bt.vint X)).size = Bt.vlen X := by rw [bs_size, Bt.vint_length]
    have z2 : (bs (Bt.vint N)).size = Bt.vlen N := by rw [bs_size, Bt.vint_length]
    have z3 : (bs (Bt.vint Y)).size = Bt.vlen Y := by rw [bs_size, Bt.vint_length]
    have z4 : (bs (Bt.vint t.size)).size = Bt.vlen t.size := by rw [bs_size, Bt.vint_length]
    have y1 : (bs (lgr (Bt.vint X) m1)).size ≤ 10 := by rw [bs_size]; omega
    have y2 : (bs (lgr (Bt.vint N) m2)).size ≤ 10 := by rw [bs_size]; omega
    have y3 : (bs (lgr (Bt.vint Y) m3)).size ≤ 10 := by rw [bs_size]; omega
    have y4 : (bs (lgr (Bt.vint t.size) m4)).size ≤ 10 := by rw [bs_size]; omega
    have HF2 := Lib.hid (fun W => fat_two W K 0 N ⟨#[]⟩ K 2 0 t ⟨(K : Int), 0, N, ⟨#[]⟩⟩ ⟨(K : Int), 2, 0, t⟩ rfl rfl)
    have HL1 := Lib.hid L1; have HL2 := Lib.hid L2; have HL3 := Lib.hid L3; have HL4 := Lib.hid L4
    have HV1 := Lib.hid V1; have HV2 := Lib.hid V2; have HV3 := Lib.hid V3; have HV4 := Lib.hid V4
    have HR := Lib.hid hR; have HP := Lib.hid hP; have HS := Lib.hid hS
    have n1 : ((11 - (Bt.vlen X : Int)) == 0) = false := by rw [beq_eq_false_iff_ne]; omega
    have n2 : ((11 - (Bt.vlen N : Int)) == 0) = false := by rw [beq_eq_false_iff_ne]; omega
    have n3 : ((11 - (Bt.vlen Y : Int)) == 0) = false := by rw [beq_eq_false_iff_ne]; omega
    have n4 : ((11 - (Bt.vlen t.size : Int)) == 0) = false := by rw [beq_eq_false_iff_ne]; omega
    clear L1 L2 L3 L4 V1 V2 V3 V4 hR hP hS hread hcat hpl hmk htl i1 i2 i3 i4 j1 j2 j3 j4
    generalize bs (lgr (Bt.vint X) m1) = k1 at *
    generalize bs (lgr (Bt.vint N) m2) = k2 at *
    generalize bs (lgr (Bt.vint Y) m3) = k3 at *
    generalize bs (lgr (Bt.vint t.size) m4) = k4 at *
    generalize bs (Bt.vint X) = u1 at *
    generalize bs (Bt.vint N) = u2 at *
    generalize bs (Bt.vint Y) = u3 at *
    generalize bs (Bt.vint t.size) = u4 at *
    generalize Bt.vlen X = p1 at *
    generalize Bt.vlen N = p2 at *
    generalize Bt.vlen Y = p3 at *
    generalize Bt.vlen t.size = p4 at *
    clear hX hY hK hNN
    go_enter Try.func10, Try.ntmps10
    go_wp2_with fail
    refine (awake_any _).mono ?_
    rintro e w1 ⟨rfl, hb1⟩
    have HB1 := Lib.hid hb1
    clear hb1
    go_wp2_with fail
    refine (HV2.out _).mono ?_
    rintro e w2 ⟨rfl, hb2⟩
    have HB2 := Lib.hid (below_trans' HB1.out hb2)
    clear hb2
    go_wp2_with fail
    refine (HV1.out _).mono ?_
    rintro e w3 ⟨rfl, hb3⟩
    have HB3 := Lib.hid (below_trans' HB2.out hb3)
    clear hb3
    go_wp2_with fail
    refine (HV3.out _).mono ?_
    rintro e w4 ⟨rfl, hb4⟩
    have HB4 := Lib.hid (below_trans' HB3.out hb4)
    clear hb4
    go_wp2_with fail
    refine (HV4.out _).mono ?_
    rintro e w5 ⟨rfl, hb5⟩
    have HB5 := Lib.hid (below_trans' HB4.out hb5)
    clear hb5
    go_wp2
    refine wp_region_quiet_below (by kernel_rfl) (by kernel_rfl) ?_
    iterate 7 (go_big_quiet_step (fail))
    go_big_quiet_step (first | (go_at_call 51; exact HL1.out _ _ _))
    iterate 7 (go_big_quiet_step (fail))
    go_big_quiet_step (first | (go_at_call 51; exact HL2.out _ _ _))
    iterate 8 (go_big_quiet_step (fail))
    go_big_quiet_step (first | (go_at_call 51; exact HL3.out _ _ _))
    iterate 8 (go_big_quiet_step (fail))
    go_big_quiet_step (first | (go_at_call 51; exact HL4.out _ _ _))
    iterate 4 (go_big_quiet_step (fail))
    refine wpQuiet_nil ?_
    intro W6 hw6
    have HB6 : Hid (Below w.heap.size w W6) := Lib.hid (below_trans' HB5.out (by obtain ⟨q, rfl⟩ := hw6; exact below_regrown _ _ _))
    clear hw6
    go_wp2_with fail
    refine (HR.out _).mono ?_
    rintro e w7 ⟨v7, rfl, ho7, hb7⟩
    have HB7 := Lib.hid (below_trans' HB6.out hb7)
    have HG7 := Lib.hid ho7.at
    obtain ⟨a7, c7, hv7⟩ := ho7.shape
    subst hv7
    clear ho7 hb7
    dsimp only
    go_wp2_with fail
    refine (HP.out _ _ HG7.out).mono ?_
    rintro e w8 ⟨v8, rfl, ho8, hb8⟩
    have HB8 := Lib.hid (below_trans' HB7.out hb8)
    have HF8 := Lib.hid ho8.at
    clear ho8 hb8
    go_wp2_with fail
    refine (HS.out _ _ _ (HF8.out.below ((Below.refl w8.heap.size w8).alloc (Nat.le_refl _) _) (Nat.le_refl _)) (HF2.out w8)).mono ?_
    rintro e w9 ⟨rfl, hb9⟩
    have HB9 := Lib.hid (below_trans' (HB8.out.alloc HB8.out.size _) hb9)
    clear hb9
    go_wp2
    go_ret
    exact ⟨rfl, HB9.out⟩
theorem own : ownKnob Try.prog.godebug = none := by kernel_rfl
theorem laidOut : laidOutB Try.prog = true := by kernel_rfl
set_option maxRecDepth 100000 in
theorem lifted (os : Os) (started : os.Started) (H : Type) (enc : TypeId × Value → H) :
    ReturnsInHanded {} Try.checked os 10 .any (Rows.protoLongerSpec.pre6 enc Try.prog Try.f10 Rows.protoLongerRow.domain false) (Rows.protoLongerSpec.post enc Try.prog Try.f10 false true false false) := by
  refine returnsInHanded_of_change (C := Try.checked) own started (by kernel_rfl) Try.func10
    (ChangeSpec.witness6 (enc := enc) (C := Try.checked) false ⟨#[], #[.int .i64 0, .int .u64 0, .string ByteArray.empty, .int .u8 0, .int .u8 0, .int .u8 0], []⟩ 8 (by kernel_rfl) (by kernel_rfl) (by kernel_rfl) (by kernel_rfl)) ?_
  intro W base args ds gs before hval0 hW hcnd _
  have hval : ∀ (j : Nat) t v, Try.f10.params[j]? = some t → args[j]? = some v → Value.okWide Try.prog W .any base t v := hval0
  have hW' := hW
  obtain ⟨p, q, hA0, hV, rfl, hfz, hnd⟩ := hW
  have hA : DataW.TrodAll enc Try.prog W 0 (fun _ => true) true Try.f10.params.toList args.toList ds p := hA0
  rw [Try.params10] at hA hval
  obtain ⟨v0, vs0, d0, ds0, p0, q0, hargs, rfl, rfl, h0, r0⟩ := trodAll_cons hA
  obtain ⟨v1, vs1, d1, ds1, p1, q1, rfl, rfl, rfl, h1, r1⟩ := trodAll_cons r0
  obtain ⟨v2, vs2, d2, ds2, p2, q2, rfl, rfl, rfl, h2, r2⟩ := trodAll_cons r1
  obtain ⟨v3, vs3, d3, ds3, p3, q3, rfl, rfl, rfl, h3, r3⟩ := trodAll_cons r2
  obtain ⟨v4, vs4, d4, ds4, p4, q4, rfl, rfl, rfl, h4, r4⟩ := trodAll_cons r3
  obtain ⟨v5, vs5, d5, ds5, p5, q5, rfl, rfl, rfl, h5, r5⟩ := trodAll_cons r4
  obtain ⟨rfl, rfl, rfl⟩ := trodAll_nil r5
  obtain rfl : args = #[v0, v1, v2, v3, v4, v5] := by cases args; simp_all
  obtain ⟨rfl, rfl⟩ := trodVars_none hV
  have k0 := h0
  have lt0 : ∀ x ∈ p0, x.block < W.heap.size := by obtain ⟨m, hm⟩ := k0; exact DataW.trod_lt m _ _ _ hm
  have k1 := h1
  have lt1 : ∀ x ∈ p1, x.block < W.heap.size := by obtain ⟨m, hm⟩ := k1; exact DataW.trod_lt m _ _ _ hm
  have k2 := h2
  have lt2 : ∀ x ∈ p2, x.block < W.heap.size := by obtain ⟨m, hm⟩ := k2; exact DataW.trod_lt m _ _ _ hm
  have k3 := h3
  have lt3 : ∀ x ∈ p3, x.block < W.heap.size := by obtain ⟨m, hm⟩ := k3; exact DataW.trod_lt m _ _ _ hm
  have k4 := h4
  have lt4 : ∀ x ∈ p4, x.block < W.heap.size := by obtain ⟨m, hm⟩ := k4; exact DataW.trod_lt m _ _ _ hm
  have k5 := h5
  have lt5 : ∀ x ∈ p5, x.block < W.heap.size := by obtain ⟨m, hm⟩ := k5; exact DataW.trod_lt m _ _ _ hm
  obtain ⟨a0, rfl, rfl, rfl, w0⟩ := open_int Try.underlying3 (hval 0 3 v0 rfl rfl) h0
  obtain ⟨a1, rfl, rfl, rfl, w1⟩ := open_int Try.underlying45 (hval 1 45 v1 rfl rfl) h1
  obtain ⟨a2, rfl, rfl, rfl, w2⟩ := open_string Try.underlying9 (hval 2 9 v2 rfl rfl) h2
  obtain ⟨a3, rfl, rfl, rfl, w3⟩ := open_int Try.underlying5 (hval 3 5 v3 rfl rfl) h3
  obtain ⟨a4, rfl, rfl, rfl, w4⟩ := open_int Try.underlying5 (hval 4 5 v4 rfl rfl) h4
  obtain ⟨a5, rfl, rfl, rfl, w5⟩ := open_int Try.underlying5 (hval 5 5 v5 rfl rfl) h5
  clear hA0 hval0
  refine (core a0 a1 a2 a3 a4 a5 w0 w1 w2 w3 w4 w5 W ).mono fun e W' ⟨he, bel⟩ => ?_
  subst he
  exact ⟨_, rfl, _, _, _, [], _, [], hW', trodAll_mk1 (shut_bool Try.underlying4 _), (trodAll_cons_mk (Below.trod laidOut (by kernel_rfl) (of_decide_eq_true (by kernel_rfl)) k0 bel lt0) (trodAll_cons_mk (Below.trod laidOut (by kernel_rfl) (of_decide_eq_true (by kernel_rfl)) k1 bel lt1) (trodAll_cons_mk (Below.trod laidOut (by kernel_rfl) (of_decide_eq_true (by kernel_rfl)) k2 bel lt2) (trodAll_cons_mk (Below.trod laidOut (by kernel_rfl) (of_decide_eq_true (by kernel_rfl)) k3 bel lt3) (trodAll_cons_mk (Below.trod laidOut (by kernel_rfl) (of_decide_eq_true (by kernel_rfl)) k4 bel lt4) (trodAll_cons_mk (Below.trod laidOut (by kernel_rfl) (of_decide_eq_true (by kernel_rfl)) k5 bel lt5) trodAll_mk0)))))), rfl, bel.frame _, fun h => by cases h⟩
theorem over : Rows.protoLongerRow.holds Try.pinned (OpenSpec.ofChange Rows.protoLongerSpec) :=
  OpenClaim.holds_of_wide 10 Try.f10 rfl rfl rfl rfl rfl rfl rfl ⟨rfl, rfl, rfl, rfl, rfl⟩ rfl rfl rfl rfl rfl (by kernel_rfl) Try.func10 (by kernel_rfl)
    (of_decide_eq_true (by kernel_rfl)) (by unfold Func.isWrapper; first | (rw [if_pos (by decide +kernel)]; kernel_rfl) | (rw [if_neg (by decide +kernel)]; exact ⟨rfl, rfl⟩))
    (fun os started H enc _ => lifted os started H enc)
theorem proved : Rows.ProtoLongerSaid := over
end Go.Proofs.Ytbckkfoenembmaa.protoLonger
