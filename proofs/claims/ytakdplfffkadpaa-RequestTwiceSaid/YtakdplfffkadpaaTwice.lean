/- RequestTwice: for any two labels and any two samples the law answers true. No condition. -/
import Derived.Test.YtakdplfffkadpaaRows
import Derived.Test.YtakdplfffkadpaaOa
import Derived.WalkKit
import Derived.ProofKit
import Derived.OpenShut
import Derived.ShutString
namespace Go.Proofs.Ytakdplfffkadpaa.requestTwice
open Go.ChangeShapes Go.WideShapes Go.ChangeAt Go.RowKit
set_option linter.unusedVariables false
theorem tby_cons (f : Ff) (r : List Ff) : tby (f :: r) = f.by ++ tby r := rfl
theorem tby_nil : tby [] = [] := rfl
def lF (a b : Lb) : List Ff := [⟨1, 2, 0, a.n⟩, ⟨2, 2, 0, a.v⟩, ⟨1, 2, 0, b.n⟩, ⟨2, 2, 0, b.v⟩]
def sF (c d : Sm) : List Ff := [⟨2, 0, tn c.t, ⟨#[]⟩⟩, ⟨1, 1, c.b, ⟨#[]⟩⟩, ⟨2, 0, tn d.t, ⟨#[]⟩⟩, ⟨1, 1, d.b, ⟨#[]⟩⟩]
def rF (S L : ByteArray) : List Ff := [⟨2, 2, 0, S⟩, ⟨1, 2, 0, L⟩]
theorem e_l (a b : Lb) : tby (lF a b) = eM [part 1 a.n.data.toList, part 2 a.v.data.toList, part 1 b.n.data.toList, part 2 b.v.data.toList] := by
  unfold lF
  rw [tby_cons, tby_cons, tby_cons, tby_cons, tby_nil, show (1 : Int) = ((1 : Nat) : Int) from rfl, show (2 : Int) = ((2 : Nat) : Int) from rfl, by_part, by_part, by_part, by_part, eM_cons, eM_cons, eM_cons, eM_cons]
  rfl
theorem e_s (c d : Sm) : tby (sF c d) = eM [⟨2, 0, tn c.t, []⟩, ⟨1, 1, c.b, []⟩, ⟨2, 0, tn d.t, []⟩, ⟨1, 1, d.b, []⟩] := rfl
theorem e_r (S L : ByteArray) : tby (rF S L) = eM [part 2 S.data.toList, part 1 L.data.toList] := by
  unfold rF
  rw [tby_cons, tby_cons, tby_nil, show (1 : Int) = ((1 : Nat) : Int) from rfl, show (2 : Int) = ((2 : Nat) : Int) from rfl, by_part, by_part, eM_cons, eM_cons]
  rfl
theorem e_q (R : ByteArray) : tby [⟨1, 2, 0, R⟩] = eM [part 1 R.data.toList] := by
  rw [tby_cons, tby_nil, show (1 : Int) = ((1 : Nat) : Int) from rfl, by_part, eM_cons]
  rfl
theorem num_ok {n w v : Nat} (h : mayk n w = true) (hw : w = 0 ∨ w = 1) (hv : v < 18446744073709551616) : (⟨n, w, v, []⟩ : Fd).ok :=
  ⟨h, fun _ => hv, fun e => by have e : w = 5 := e; omega, fun e => by have e : w = 2 := e; omega, fun _ => rfl⟩
theorem r_l (a b : Lb) (ha : a.n.size + a.v.size + b.n.size + b.v.size ≤ 4000) : rLb (tby (lF a b)) = (b, 0) ∧ (tby (lF a b)).length ≤ 5000 := by
  have h1 : a.n.data.toList.length = a.n.size := by simp
  have h2 : a.v.data.toList.length = a.v.size := by simp
  have h3 : b.n.data.toList.length = b.n.size := by simp
  have h4 : b.v.data.toList.length = b.v.size := by simp
  have hm := msg_eM (fs := [part 1 a.n.data.toList, part 2 a.v.data.toList, part 1 b.n.data.toList, part 2 b.v.data.toList]) (fun f hf => by
    simp only [List.mem_cons, List.not_mem_nil, or_false] at hf
    rcases hf with rfl | rfl | rfl | rfl
    all_goals exact part_ok (by omega) (by omega))
  rw [e_l]
  refine ⟨?_, ?_⟩
  · unfold rLb
    rw [hm, if_neg (by simp)]
    dsimp only
    rw [gLb_name, gLb_val, gLb_name, gLb_val]
    show ((⟨ba b.n.data.toList, ba b.v.data.toList⟩ : Lb), 0) = _
    rw [ba_list, ba_list]
  · rw [eM_cons, eM_cons, eM_cons, eM_cons]
    have e0 : (eM []).length = 0 := rfl
    have a1 : Bt.vlen (1 * 8 + 2) = 1 := by rw [← Bt.vint_length, vint8 (by decide)]; rfl
    have a2 : Bt.vlen (2 * 8 + 2) = 1 := by rw [← Bt.vint_length, vint8 (by decide)]; rfl
    have v1 := Bt.vlen_u64 (n := a.n.size) (by omega)
    have v2 := Bt.vlen_u64 (n := a.v.size) (by omega)
    have v3 := Bt.vlen_u64 (n := b.n.size) (by omega)
    have v4 := Bt.vlen_u64 (n := b.v.size) (by omega)
    rw [List.length_append, List.length_append, List.length_append, List.length_append, part_len, part_len, part_len, part_len, h1, h2, h3, h4]
    omega
theorem r_s (c d : Sm) (hc : c.ok) (hd : d.ok) : rSm (tby (sF c d)) = (d, 0) ∧ (tby (sF c d)).length ≤ 100 := by
  have hm := msg_eM (fs := [⟨2, 0, tn c.t, []⟩, ⟨1, 1, c.b, []⟩, ⟨2, 0, tn d.t, []⟩, ⟨1, 1, d.b, []⟩]) (fun f hf => by
    simp only [List.mem_cons, List.not_mem_nil, or_false] at hf
    rcases hf with rfl | rfl | rfl | rfl
    · exact num_ok (by decide) (.inl rfl) (tn_lt _)
    · exact num_ok (by decide) (.inr rfl) hc.b
    · exact num_ok (by decide) (.inl rfl) (tn_lt _)
    · exact num_ok (by decide) (.inr rfl) hd.b)
  rw [e_s]
  refine ⟨?_, ?_⟩
  · unfold rSm
    rw [hm, if_neg (by simp)]
    dsimp only
    rw [gSm_time, gSm_bits, gSm_time, gSm_bits]
    show ((⟨nt (tn d.t), d.b⟩ : Sm), 0) = _
    rw [nt_tn hd.lo hd.hi]
  · have f0 : ∀ t : Nat, t < 18446744073709551616 → (fby ⟨2, 0, t, []⟩).length ≤ 11 := fun t ht => by
      unfold fby vby
      rw [List.length_append, if_pos (by simp), vint8 (show (2 : Nat) * 8 + 0 < 128 by decide), Bt.vint_length]
      have := Bt.vlen_u64 (n := t) ht
      simp only [List.length_cons, List.length_nil]
      omega
    have f1 : ∀ t : Nat, (fby ⟨1, 1, t, []⟩).length ≤ 9 := fun t => by
      unfold fby vby
      rw [List.length_append, if_neg (by simp), if_pos (by simp), vint8 (show (1 : Nat) * 8 + 1 < 128 by decide)]
      have := Bt.fx_length 8 t
      simp [this]
    have e0 : (eM []).length = 0 := rfl
    rw [eM_cons, eM_cons, eM_cons, eM_cons, List.length_append, List.length_append, List.length_append, List.length_append]
    have q1 := f0 (tn c.t) (tn_lt _)
    have q2 := f0 (tn d.t) (tn_lt _)
    have q3 := f1 c.b
    have q4 := f1 d.b
    omega
theorem part_le2 (n : Nat) (hn : n < 10) (t : List UInt8) (ht : t.length < 18446744073709551616) : (fby (part n t)).length ≤ 11 + t.length := by
  rw [part_len]
  have v1 := Bt.vlen_u64 ht
  have a1 : Bt.vlen (n * 8 + 2) = 1 := by rw [← Bt.vint_length, vint8 (by omega)]; rfl
  omega
theorem r_r (a b : Lb) (c d : Sm) (ha : a.n.size + a.v.size + b.n.size + b.v.size ≤ 4000) (hc : c.ok) (hd : d.ok) : rSr (tby (rF (bs (tby (sF c d))) (bs (tby (lF a b))))) = (⟨[b], [d]⟩, 0) ∧ (tby (rF (bs (tby (sF c d))) (bs (tby (lF a b))))).length ≤ 6000 := by
  obtain ⟨l1, l2⟩ := r_l a b ha
  obtain ⟨s1, s2⟩ := r_s c d hc hd
  have hm := msg_eM (fs := [part 2 (tby (sF c d)), part 1 (tby (lF a b))]) (fun f hf => by
    simp only [List.mem_cons, List.not_mem_nil, or_false] at hf
    rcases hf with rfl | rfl
    all_goals exact part_ok (by omega) (by omega))
  rw [e_r, bs_data, bs_data]
  refine ⟨?_, ?_⟩
  · unfold rSr
    rw [hm, if_neg (by simp)]
    unfold gSr
    have b2 : bad2 [part 2 (tby (sF c d)), part 1 (tby (lF a b))] = false := bad2_parts (fun f hf => by
      simp only [List.mem_cons, List.not_mem_nil, or_false] at hf
      rcases hf with rfl | rfl
      all_goals exact .inr rfl)
    have p1 : pts 1 rLb [part 2 (tby (sF c d)), part 1 (tby (lF a b))] = ([b], 0) := by
      rw [pts_cons, if_neg (show ¬ (part 2 (tby (sF c d))).n = 1 from (by decide : ¬ (2 : Nat) = 1)), pts_cons, if_pos (show (part 1 (tby (lF a b))).n = 1 from rfl), show (part 1 (tby (lF a b))).t = tby (lF a b) from rfl, l1, if_neg (by simp)]
      rfl
    have p2 : pts 2 rSm [part 2 (tby (sF c d)), part 1 (tby (lF a b))] = ([d], 0) := by
      rw [pts_cons, if_pos (show (part 2 (tby (sF c d))).n = 2 from rfl), show (part 2 (tby (sF c d))).t = tby (sF c d) from rfl, s1, if_neg (by simp), pts_cons, if_neg (show ¬ (part 1 (tby (lF a b))).n = 2 from (by decide : ¬ (1 : Nat) = 2))]
      rfl
    dsimp only
    rw [b2, p1, p2]
    rfl
  · rw [eM_cons, eM_cons, List.length_append, List.length_append]
    have e0 : (eM []).length = 0 := rfl
    have q1 := part_le2 2 (by decide) (tby (sF c d)) (by omega)
    have q2 := part_le2 1 (by decide) (tby (lF a b)) (by omega)
    omega
theorem r_q (a b : Lb) (c d : Sm) (ha : a.n.size + a.v.size + b.n.size + b.v.size ≤ 4000) (hc : c.ok) (hd : d.ok) : dec (tby [⟨1, 2, 0, bs (tby (rF (bs (tby (sF c d))) (bs (tby (lF a b)))))⟩]) = ([⟨[b], [d]⟩], 0) ∧ (tby [⟨1, 2, 0, bs (tby (rF (bs (tby (sF c d))) (bs (tby (lF a b)))))⟩]).length ≤ 7000 := by
  obtain ⟨r1, r2⟩ := r_r a b c d ha hc hd
  generalize tby (rF (bs (tby (sF c d))) (bs (tby (lF a b)))) = R at *
  have hm := msg_eM (fs := [part 1 R]) (fun f hf => by
    obtain rfl := List.mem_singleton.1 hf
    exact part_ok (by omega) (by omega))
  rw [e_q, bs_data]
  refine ⟨dec_of ?_, ?_⟩
  · unfold rRq
    rw [hm, if_neg (by simp)]
    unfold gRq
    have b1 : bad1 [part 1 R] = false := rfl
    have p1 : pts 1 rSr [part 1 R] = ([⟨[b], [d]⟩], 0) := by
      rw [pts_cons, if_pos (show (part 1 R).n = 1 from rfl), show (part 1 R).t = R from rfl, r1, if_neg (by simp)]
      rfl
    dsimp only
    rw [b1, p1]
    rfl
  · rw [eM_cons, List.length_append]
    have e0 : (eM []).length = 0 := rfl
    have q1 := part_le2 1 (by decide) R (by omega)
    omega
set_option maxRecDepth 100000 in
set_option maxHeartbeats 1000000 in
theorem core (a b : Lb) (c d : Sm) (wa : a.n.size ≤ 140737488351232 ∧ a.v.size ≤ 140737488351232) (wb : b.n.size ≤ 140737488351232 ∧ b.v.size ≤ 140737488351232) (hc : c.ok) (hd : d.ok) (w : World) :
    Calls Try.prog 8 #[.agg #[.string a.n, .string a.v], .agg #[.string b.n, .string b.v], .agg #[.int .i64 c.t, .int .u64 (c.b : Int)], .agg #[.int .i64 d.t, .int .u64 (d.b : Int)]] w fun e w' => e = .returned (.bool true) ∧ Below w.heap.size w w' := by
  have hr : a.n.size + a.v.size + b.n.size + b.v.size ≤ 4000 → _ := fun h => r_q a b c d h hc hd
  have hr1 : a.n.size + a.v.size + b.n.size + b.v.size ≤ 4000 → _ := fun h => r_r a b c d h hc hd
  have hr2 : a.n.size + a.v.size + b.n.size + b.v.size ≤ 4000 → _ := fun h => r_l a b h
  have hr3 := r_s c d hc hd
  have htl : ∀ {f : Ff} {l : List Ff}, f ∈ l → Fw f → Fw f := fun _ h => h
  have T1 : a.n.size + a.v.size + b.n.size + b.v.size ≤ 4000 → Hid (∀ V W, FAt W V (lF a b) → Calls Try.prog 24 #[V] W (Ret W (.string (bs (tby (lF a b)))))) := fun h => Lib.hid fun V W hV => text_any (lF a b) (by simp [lF]) (fun f hf => by
    simp only [lF, List.mem_cons, List.not_mem_nil, or_false] at hf
    rcases hf with rfl | rfl | rfl | rfl
    all_goals exact fw_part (by omega) (by omega)) V W hV
  have T2 : Hid (∀ V W, FAt W V (sF c d) → Calls Try.prog 24 #[V] W (Ret W (.string (bs (tby (sF c d)))))) := Lib.hid fun V W hV => text_any (sF c d) (by simp [sF]) (fun f hf => by
    simp only [sF, List.mem_cons, List.not_mem_nil, or_false] at hf
    rcases hf with rfl | rfl | rfl | rfl
    · exact fw_num (by omega) (.inl rfl) (tn_lt _)
    · exact fw_num (by omega) (.inr (.inl rfl)) hc.b
    · exact fw_num (by omega) (.inl rfl) (tn_lt _)
    · exact fw_num (by omega) (.inr (.inl rfl)) hd.b) V W hV
  have T3 : a.n.size + a.v.size + b.n.size + b.v.size ≤ 4000 → Hid (∀ V W, FAt W V (rF (bs (tby (sF c d))) (bs (tby (lF a b)))) → Calls Try.prog 24 #[V] W (Ret W (.string (bs (tby (rF (bs (tby (sF c d))) (bs (tby (lF a b))))))))) := fun h => Lib.hid fun V W hV => text_any _ (by simp [rF]) (fun f hf => by
    have q1 := (hr2 h).2
    have q2 := hr3.2
    simp only [rF, List.mem_cons, List.not_mem_nil, or_false] at hf
    rcases hf with rfl | rfl
    · exact fw_part (by omega) (by rw [bs_size]; omega)
    · exact fw_part (by omega) (by rw [bs_size]; omega)) V W hV
  have T4 : a.n.size + a.v.size + b.n.size + b.v.size ≤ 4000 → Hid (∀ V W, FAt W V [⟨1, 2, 0, bs (tby (rF (bs (tby (sF c d))) (bs (tby (lF a b)))))⟩] → Calls Try.prog 24 #[V] W (Ret W (.string (bs (tby [⟨1, 2, 0, bs (tby (rF (bs (tby (sF c d))) (bs (tby (lF a b)))))⟩]))))) := fun h => Lib.hid fun V W hV => text_any _ (by simp) (fun f hf => by
    have q1 := (hr1 h).2
    obtain rfl := List.mem_singleton.1 hf
    exact fw_part (by omega) (by rw [bs_size]; omega)) V W hV
  have T5 : a.n.size + a.v.size + b.n.size + b.v.size ≤ 4000 → Hid (∀ p q V W, SAt W V [⟨⟨[b], [d]⟩, p, q⟩] → Calls Try.prog 17 #[.string (bs (tby [⟨1, 2, 0, bs (tby (rF (bs (tby (sF c d))) (bs (tby (lF a b)))))⟩])), V] W (Ret W (.bool true))) := fun h => Lib.hid fun p q V W hV => by
    obtain ⟨q1, q2⟩ := hr h
    obtain ⟨z1, n1⟩ := dec_siz (by omega) q1
    exact told1_any _ (by rw [bs_size]; omega) [⟨⟨[b], [d]⟩, p, q⟩] (fin_of (zs := [⟨⟨[b], [d]⟩, p, q⟩]) z1 (by show (eRq [⟨[b], [d]⟩]).length ≤ _; omega)) (by rw [bs_data]; exact q1) V W hV
  have hwc := tn_wrap hc.lo hc.hi
  have hwd := tn_wrap hd.lo hd.hi
  have hcl := hc.lo
  have hch := hc.hi
  have hdl := hd.lo
  have hdh := hd.hi
  have hma := wa.1
  have hmb := wa.2
  have hmc := wb.1
  have hmd := wb.2
  clear htl hr hr1 hr2 hr3 hc hd wa wb
  obtain ⟨an, av⟩ := a
  obtain ⟨bn, bv⟩ := b
  obtain ⟨ct, cb⟩ := c
  obtain ⟨dt, db⟩ := d
  unfold lF at T1 T3 T4 T5
  unfold sF at T2 T3 T4 T5
  unfold rF at T3 T4 T5
  dsimp only at *
  generalize hX1 : bs (tby [⟨1, 2, 0, an⟩, ⟨2, 2, 0, av⟩, ⟨1, 2, 0, bn⟩, ⟨2, 2, 0, bv⟩]) = X1 at *
  generalize hX2 : bs (tby [⟨2, 0, tn ct, ⟨#[]⟩⟩, ⟨1, 1, cb, ⟨#[]⟩⟩, ⟨2, 0, tn dt, ⟨#[]⟩⟩, ⟨1, 1, db, ⟨#[]⟩⟩]) = X2 at *
  generalize hX3 : bs (tby [⟨2, 2, 0, X2⟩, ⟨1, 2, 0, X1⟩]) = X3 at *
  generalize hX4 : bs (tby [⟨1, 2, 0, X3⟩]) = X4 at *
  clear hX1 hX2 hX3 hX4
  obtain ⟨W0, hW0⟩ : ∃ W0, ((((w.alloc (.cells #[.string an, .string av] 33)).alloc (.cells #[.string bn, .string bv] 33)).alloc (.cells #[.int .i64 ct, .int .u64 (cb : Int)] 37)).alloc (.cells #[.int .i64 dt, .int .u64 (db : Int)] 37)) = W0 := ⟨_, rfl⟩
  have hB0 : Below w.heap.size w W0 := by
    rw [← hW0]
    exact ((((Below.refl _ w).alloc (Nat.le_refl _) _).alloc (by simp) _).alloc (by simp; omega) _).alloc (by simp; omega) _
  have hs0 : W0.heap.size = w.heap.size + 4 := by rw [← hW0]; simp
  have x0 : Box2 W0 w.heap.size 33 (.string an) (.string av) := by rw [← hW0]; exact (((Box2.new w 33 (.string an) (.string av)).alloc _).alloc _).alloc _
  have x1 : Box2 W0 (w.heap.size + 1) 33 (.string bn) (.string bv) := by
    have := Box2.new (w.alloc (.cells #[.string an, .string av] 33)) 33 (.string bn) (.string bv)
    rw [World.size_alloc] at this
    rw [← hW0]; exact (this.alloc _).alloc _
  have x2 : Box2 W0 (w.heap.size + 1 + 1) 37 (.int .i64 ct) (.int .u64 (cb : Int)) := by
    have := Box2.new ((w.alloc (.cells #[.string an, .string av] 33)).alloc (.cells #[.string bn, .string bv] 33)) 37 (.int .i64 ct) (.int .u64 (cb : Int))
    rw [World.size_alloc, World.size_alloc] at this
    rw [← hW0]; exact this.alloc _
  have x3 : Box2 W0 (w.heap.size + 1 + 1 + 1) 37 (.int .i64 dt) (.int .u64 (db : Int)) := by
    have := Box2.new (((w.alloc (.cells #[.string an, .string av] 33)).alloc (.cells #[.string bn, .string bv] 33)).alloc (.cells #[.int .i64 ct, .int .u64 (cb : Int)] 37)) 37 (.int .i64 dt) (.int .u64 (db : Int))
    rw [World.size_alloc, World.size_alloc, World.size_alloc] at this
    rw [← hW0]; exact this
  have HX0 := Lib.hid x0
  have HX1 := Lib.hid x1
  have HX2 := Lib.hid x2
  have HX3 := Lib.hid x3
  have HB0 := Lib.hid hB0
  have HS0 := Lib.hid hs0
  rw [← hW0] at x0 x1 x2 x3
  have HW0 := Lib.hid hW0
  have y00 := x0.c0
  have y01 := x0.c1
  have y10 := x1.c0
  have y11 := x1.c1
  clear hB0 hs0 hW0 x0 x1 x2 x3
  by_cases hsz : 4000 < an.size + av.size + bn.size + bv.size
  · have hszi : 4000 < (an.size : Int) + (av.size : Int) + (bn.size : Int) + (bv.size : Int) := by omega
    clear T1 T2 T3 T4 T5 hsz
    go_enter Try.func8, Try.ntmps8
    go_wp2_with fail
    rw [HW0.out]
    refine (awake_any _).mono ?_
    rintro e w1 ⟨rfl, hb1⟩
    have HB1 := Lib.hid (below_trans' HB0.out hb1)
    clear hb1
    go_wp2
    go_ret
    exact ⟨rfl, HB1.out⟩
  · have hle : an.size + av.size + bn.size + bv.size ≤ 4000 := by omega
    have hszi : (an.size : Int) + (av.size : Int) + (bn.size : Int) + (bv.size : Int) ≤ 4000 := by omega
    have U1 := T1 hle
    have U3 := T3 hle
    have U4 := T4 hle
    have U5 := T5 hle
    clear T1 T3 T4 T5 hsz hle
    go_enter Try.func8, Try.ntmps8
    go_wp2_with fail
    rw [HW0.out]
    refine (awake_any _).mono ?_
    rintro e w1 ⟨rfl, hb1⟩
    have HB1 := Lib.hid (below_trans' HB0.out hb1)
    have b0 := HX0.out.below hb1 HX0.out.lt
    have b1 := HX1.out.below hb1 HX1.out.lt
    have b2 := HX2.out.below hb1 HX2.out.lt
    have b3 := HX3.out.below hb1 HX3.out.lt
    have HY1 := Lib.hid b1
    have HY2 := Lib.hid b2
    have HY3 := Lib.hid b3
    have z00 := b0.c0
    have z01 := b0.c1
    have z10 := b1.c0
    have z11 := b1.c1
    clear y00 y01 y10 y11 b0 b1 b2 b3 hb1
    have HF1 := Lib.hid (fat_new w1 [⟨1, 2, 0, an⟩, ⟨2, 2, 0, av⟩, ⟨1, 2, 0, bn⟩, ⟨2, 2, 0, bv⟩] _ rfl 4 rfl)
    go_wp2_with fail
    refine (U1.out _ _ HF1.out).mono ?_
    rintro e w2 ⟨rfl, hb2⟩
    have HB2 := Lib.hid (below_trans' (HB1.out.alloc HB1.out.size (.cells (cells4 [⟨1, 2, 0, an⟩, ⟨2, 2, 0, av⟩, ⟨1, 2, 0, bn⟩, ⟨2, 2, 0, bv⟩]).toArray 52)) hb2)
    have k1 : ∀ {B : Nat} {t : TypeId} {x y : Value}, Box2 w1 B t x y → Box2 w2 B t x y := fun h => (h.alloc _).below hb2 (h.alloc _).lt
    have b1 := k1 HY1.out
    have b2 := k1 HY2.out
    have b3 := k1 HY3.out
    have HZ1 := Lib.hid b1
    have HZ3 := Lib.hid b3
    have v20 := b2.c0
    have v21 := b2.c1
    have v30 := b3.c0
    have v31 := b3.c1
    clear z00 z01 z10 z11 hb2 b1 b2 b3 k1
    have HF2 := Lib.hid (fat_new w2 [⟨2, 0, tn ct, ⟨#[]⟩⟩, ⟨1, 1, cb, ⟨#[]⟩⟩, ⟨2, 0, tn dt, ⟨#[]⟩⟩, ⟨1, 1, db, ⟨#[]⟩⟩] _ rfl 4 rfl)
    go_wp2_with fail
    refine (T2.out _ _ HF2.out).mono ?_
    rintro e w3 ⟨rfl, hb3⟩
    have HB3 := Lib.hid (below_trans' (HB2.out.alloc HB2.out.size (.cells (cells4 [⟨2, 0, tn ct, ⟨#[]⟩⟩, ⟨1, 1, cb, ⟨#[]⟩⟩, ⟨2, 0, tn dt, ⟨#[]⟩⟩, ⟨1, 1, db, ⟨#[]⟩⟩]).toArray 52)) hb3)
    have k1 : ∀ {B : Nat} {t : TypeId} {x y : Value}, Box2 w2 B t x y → Box2 w3 B t x y := fun h => (h.alloc _).below hb3 (h.alloc _).lt
    have HQ1 := Lib.hid (k1 HZ1.out)
    have HQ3 := Lib.hid (k1 HZ3.out)
    clear v20 v21 v30 v31 hb3 k1
    have HF3 := Lib.hid (fat_new w3 [⟨2, 2, 0, X2⟩, ⟨1, 2, 0, X1⟩] _ rfl 2 rfl)
    go_wp2_with fail
    refine (U3.out _ _ HF3.out).mono ?_
    rintro e w4 ⟨rfl, hb4⟩
    have HB4 := Lib.hid (below_trans' (HB3.out.alloc HB3.out.size (.cells (cells4 [⟨2, 2, 0, X2⟩, ⟨1, 2, 0, X1⟩]).toArray 52)) hb4)
    have k1 : ∀ {B : Nat} {t : TypeId} {x y : Value}, Box2 w3 B t x y → Box2 w4 B t x y := fun h => (h.alloc _).below hb4 (h.alloc _).lt
    have HR1 := Lib.hid (k1 HQ1.out)
    have HR3 := Lib.hid (k1 HQ3.out)
    clear hb4 k1
    have HF4 := Lib.hid (fat_new w4 [⟨1, 2, 0, X3⟩] _ rfl 1 rfl)
    go_wp2_with fail
    refine (U4.out _ _ HF4.out).mono ?_
    rintro e w5 ⟨rfl, hb5⟩
    have HB5 := Lib.hid (below_trans' (HB4.out.alloc HB4.out.size (.cells (cells4 [⟨1, 2, 0, X3⟩]).toArray 52)) hb5)
    have k1 : ∀ {B : Nat} {t : TypeId} {x y : Value}, Box2 w4 B t x y → Box2 w5 B t x y := fun h => (h.alloc _).below hb5 (h.alloc _).lt
    have b1 := k1 HR1.out
    have b3 := (k1 HR3.out).alloc (.cells #[.string bn, .string bv] 33)
    have s10 := b1.c0
    have s11 := b1.c1
    have s30 := b3.c0
    have s31 := b3.c1
    have hl := (O2.one 33 w5 0 (Nat.zero_le _) (.string bn) (.string bv)).at
    have hm := (O2.one 37 (w5.alloc (.cells #[.string bn, .string bv] 33)) 0 (Nat.zero_le _) (.int .i64 dt) (.int .u64 (db : Int))).at
    have hsat := sat_one (W := (w5.alloc (.cells #[.string bn, .string bv] 33)).alloc (.cells #[.int .i64 dt, .int .u64 (db : Int)] 37)) (x := ⟨[⟨bn, bv⟩], [⟨dt, db⟩]⟩) (At2.below hl ((Below.refl _ _).alloc (Nat.le_refl _) _) (Nat.le_refl _)) hm
    simp only [World.size_alloc] at hsat
    have HSA := Lib.hid hsat
    have HB6 : Hid (Below w.heap.size w (((w5.alloc (.cells #[.string bn, .string bv] 33)).alloc (.cells #[.int .i64 dt, .int .u64 (db : Int)] 37)).alloc (.cells #[.slice (some ⟨w5.heap.size, 0, none⟩) 1 1, .slice (some ⟨w5.heap.size + 1, 0, none⟩) 1 1] 40))) := Lib.hid (by
      have := HB5.out.size
      exact ((HB5.out.alloc (by omega) _).alloc (by simp; omega) _).alloc (by simp; omega) _)
    clear hb5 k1 b1 b3 hl hm hsat
    go_wp2_with fail
    refine (U5.out _ _ _ _ HSA.out).mono ?_
    rintro e w6 ⟨rfl, hb6⟩
    have HB7 := Lib.hid (below_trans' HB6.out hb6)
    clear hb6
    go_wp2
    go_ret
    exact ⟨rfl, HB7.out⟩
theorem own : ownKnob Try.prog.godebug = none := by kernel_rfl
theorem laidOut : laidOutB Try.prog = true := by kernel_rfl
set_option maxRecDepth 100000 in
theorem lifted (os : Os) (started : os.Started) (H : Type) (enc : TypeId × Value → H) :
    ReturnsInHanded {} Try.checked os 8 .any (Rows.requestTwiceSpec.pre6 enc Try.prog Try.f8 Rows.requestTwiceRow.domain false) (Rows.requestTwiceSpec.post enc Try.prog Try.f8 false true false false) := by
  refine returnsInHanded_of_change_sized (C := Try.checked) own started (by kernel_rfl) Try.func8
    (ChangeSpec.witness6 (enc := enc) (C := Try.checked) false ⟨#[], #[.agg #[.string ByteArray.empty, .string ByteArray.empty], .agg #[.string ByteArray.empty, .string ByteArray.empty], .agg #[.int .i64 0, .int .u64 0], .agg #[.int .i64 0, .int .u64 0]], []⟩ 8 (by kernel_rfl) (by kernel_rfl) (by kernel_rfl) (by kernel_rfl)) ?_
  intro W base args ds gs before hval0 hW hcnd hwt _
  have hval : ∀ (j : Nat) t v, Try.f8.params[j]? = some t → args[j]? = some v → Value.okWide Try.prog W .any base t v := hval0
  have hW' := hW
  obtain ⟨p, q, hA0, hV, rfl, hfz, hnd⟩ := hW
  have hA : DataW.TrodAll enc Try.prog W 0 (fun _ => true) true Try.f8.params.toList args.toList ds p := hA0
  rw [Try.params8] at hA hval
  obtain ⟨v0, vs0, d0, ds0, p0, q0, hargs, rfl, rfl, h0, r0⟩ := trodAll_cons hA
  obtain ⟨v1, vs1, d1, ds1, p1, q1, rfl, rfl, rfl, h1, r1⟩ := trodAll_cons r0
  obtain ⟨v2, vs2, d2, ds2, p2, q2, rfl, rfl, rfl, h2, r2⟩ := trodAll_cons r1
  obtain ⟨v3, vs3, d3, ds3, p3, q3, rfl, rfl, rfl, h3, r3⟩ := trodAll_cons r2
  obtain ⟨rfl, rfl, rfl⟩ := trodAll_nil r3
  obtain rfl : args = #[v0, v1, v2, v3] := by cases args; simp_all
  obtain ⟨rfl, rfl⟩ := trodVars_none hV
  have hwts := all_weights hwt
  have k0 := h0
  have lt0 : ∀ x ∈ p0, x.block < W.heap.size := by obtain ⟨m, hm⟩ := k0; exact DataW.trod_lt m _ _ _ hm
  have k1 := h1
  have lt1 : ∀ x ∈ p1, x.block < W.heap.size := by obtain ⟨m, hm⟩ := k1; exact DataW.trod_lt m _ _ _ hm
  have k2 := h2
  have lt2 : ∀ x ∈ p2, x.block < W.heap.size := by obtain ⟨m, hm⟩ := k2; exact DataW.trod_lt m _ _ _ hm
  have k3 := h3
  have lt3 : ∀ x ∈ p3, x.block < W.heap.size := by obtain ⟨m, hm⟩ := k3; exact DataW.trod_lt m _ _ _ hm
  obtain ⟨a0, rfl, w0⟩ := open_label (hval 0 33 v0 rfl rfl) h0 (fun k hk => hwts k (by simp only [Try.params8, List.cons_append, List.nil_append, DataW.weightsEach]; exact List.mem_append_left _ hk))
  obtain ⟨a1, rfl, w1⟩ := open_label (hval 1 33 v1 rfl rfl) h1 (fun k hk => hwts k (by simp only [Try.params8, List.cons_append, List.nil_append, DataW.weightsEach]; exact List.mem_append_right _ (List.mem_append_left _ hk)))
  obtain ⟨a2, rfl, w2⟩ := open_sample (hval 2 37 v2 rfl rfl) h2
  obtain ⟨a3, rfl, w3⟩ := open_sample (hval 3 37 v3 rfl rfl) h3
  clear hA0 hval0
  refine (core a0 a1 a2 a3 w0 w1 w2 w3 W ).mono fun e W' ⟨he, bel⟩ => ?_
  subst he
  exact ⟨_, rfl, _, _, _, [], _, [], hW', trodAll_mk1 (shut_bool Try.underlying4 _), (trodAll_cons_mk (Below.trod laidOut (by kernel_rfl) (of_decide_eq_true (by kernel_rfl)) k0 bel lt0) (trodAll_cons_mk (Below.trod laidOut (by kernel_rfl) (of_decide_eq_true (by kernel_rfl)) k1 bel lt1) (trodAll_cons_mk (Below.trod laidOut (by kernel_rfl) (of_decide_eq_true (by kernel_rfl)) k2 bel lt2) (trodAll_cons_mk (Below.trod laidOut (by kernel_rfl) (of_decide_eq_true (by kernel_rfl)) k3 bel lt3) trodAll_mk0)))), rfl, bel.frame _, fun h => by cases h⟩
theorem over : Rows.requestTwiceRow.holds Try.pinned (OpenSpec.ofChange Rows.requestTwiceSpec) :=
  OpenClaim.holds_of_wide 8 Try.f8 rfl rfl rfl rfl rfl rfl rfl ⟨rfl, rfl, rfl, rfl, rfl⟩ rfl rfl rfl rfl rfl (by kernel_rfl) Try.func8 (by kernel_rfl)
    (of_decide_eq_true (by kernel_rfl)) (by unfold Func.isWrapper; first | (rw [if_pos (by decide +kernel)]; kernel_rfl) | (rw [if_neg (by decide +kernel)]; exact ⟨rfl, rfl⟩))
    (fun os started H enc _ => lifted os started H enc)
theorem proved : Rows.RequestTwiceSaid := over
end Go.Proofs.Ytakdplfffkadpaa.requestTwice
