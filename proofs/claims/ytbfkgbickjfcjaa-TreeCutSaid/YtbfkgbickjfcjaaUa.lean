/- Rows compared. -/
import Derived.Test.YtbfkgbickjfcjaaTn
import Derived.Laws.StructEq
import Derived.BigQuiet
namespace Go.Proofs.Ytbfkgbickjfcjaa
set_option linter.unusedVariables false
set_option linter.unusedSimpArgs false
open Go Go.RowKit
set_option maxRecDepth 100000
def eqE (x y : En) : Bool := x.k.toList == y.k.toList && (x.v.toList == y.v.toList && (x.made == y.made && x.mod == y.mod))
def eqV (x y : Ev) : Bool := x.rev == y.rev && (x.del == y.del && (x.k.toList == y.k.toList && x.v.toList == y.v.toList))
def rowEq {α : Type} (q : α → α → Bool) : List α → List α → Bool
  | [], [] => true
  | x :: xs, y :: ys => q x y && rowEq q xs ys
  | _, _ => false
theorem rowEq_len {α : Type} {q : α → α → Bool} : ∀ {l m : List α}, l.length ≠ m.length → rowEq q l m = false
  | [], [], h => absurd rfl h
  | [], _ :: _, _ => rfl
  | _ :: _, [], _ => rfl
  | x :: xs, y :: ys, h => by
    rw [rowEq, rowEq_len (l := xs) (m := ys) (by simpa using h), Bool.and_false]
theorem rowEq_drop {α : Type} {q : α → α → Bool} {l m : List α} {k : Nat} (h1 : k < l.length) (h2 : k < m.length) : rowEq q (l.drop k) (m.drop k) = (q l[k] m[k] && rowEq q (l.drop (k + 1)) (m.drop (k + 1))) := by
  rw [List.drop_eq_getElem_cons h1, List.drop_eq_getElem_cons h2, rowEq]
theorem eq57 (x y : En) (w : World) : (Op.equalIn 10000 57 (.agg #[.string x.k, .string x.v, .int .i64 x.made, .int .i64 x.mod]) (.agg #[.string y.k, .string y.v, .int .i64 y.made, .int .i64 y.mod])).run Try.prog w = .ok (eqE x y) w := by
  have hU : Try.prog.underlying 57 = some (.struct (Try.prog.fieldsOf 57)) := by rw [Try.underlying57]; kernel_rfl
  have hH : Try.prog.stoodInHeld 57 = false := by kernel_rfl
  rw [run_equalIn_agg w 9999 57 _ _ hU hH]
  have hfs : (Try.prog.fieldsOf 57).toList.map (fun x => (x.name != "_", x.type, x.offset)) = [(true, 9, 0), (true, 9, 1), (true, 2, 2), (true, 2, 3)] := by kernel_rfl
  generalize (Try.prog.fieldsOf 57).toList = fs at *
  have hl : fs.length = 4 := by have := congrArg List.length hfs; simpa using this
  match fs, hl with
  | [a, b, c, d], _ =>
  simp only [List.map_cons, List.map_nil, List.cons.injEq, Prod.mk.injEq, bne_iff_ne, ne_eq, and_true] at hfs
  obtain ⟨⟨a0, a1, a2⟩, ⟨b0, b1, b2⟩, ⟨c0, c1, c2⟩, d0, d1, d2⟩ := hfs
  have u2 := Try.underlying2
  have g2 := Try.isAgg2
  have z2 := Try.sizeOf2
  have u9 := Try.underlying9
  have g9 := Try.isAgg9
  have z9 := Try.sizeOf9
  simp only [Op.eqFields, ne_eq, a0, a1, a2, b0, b1, b2, c0, c1, c2, d0, d1, d2, not_false_eq_true, if_true]
  go_simp
  unfold eqE
  by_cases h1 : x.k.toList = y.k.toList <;> by_cases h2 : x.v.toList = y.v.toList <;> by_cases h3 : x.made = y.made <;> by_cases h4 : x.mod = y.mod <;> simp [h1, h2, h3, h4]
theorem eq44 (x y : Ev) (w : World) : (Op.equalIn 10000 44 (.agg #[.int .i64 x.rev, .bool x.del, .string x.k, .string x.v]) (.agg #[.int .i64 y.rev, .bool y.del, .string y.k, .string y.v])).run Try.prog w = .ok (eqV x y) w := by
  have hU : Try.prog.underlying 44 = some (.struct (Try.prog.fieldsOf 44)) := by rw [Try.underlying44]; kernel_rfl
  have hH : Try.prog.stoodInHeld 44 = false := by kernel_rfl
  rw [run_equalIn_agg w 9999 44 _ _ hU hH]
  have hfs : (Try.prog.fieldsOf 44).toList.map (fun x => (x.name != "_", x.type, x.offset)) = [(true, 2, 0), (true, 4, 1), (true, 9, 2), (true, 9, 3)] := by kernel_rfl
  generalize (Try.prog.fieldsOf 44).toList = fs at *
  have hl : fs.length = 4 := by have := congrArg List.length hfs; simpa using this
  match fs, hl with
  | [a, b, c, d], _ =>
  simp only [List.map_cons, List.map_nil, List.cons.injEq, Prod.mk.injEq, bne_iff_ne, ne_eq, and_true] at hfs
  obtain ⟨⟨a0, a1, a2⟩, ⟨b0, b1, b2⟩, ⟨c0, c1, c2⟩, d0, d1, d2⟩ := hfs
  have u2 := Try.underlying2
  have g2 := Try.isAgg2
  have z2 := Try.sizeOf2
  have u4 := Try.underlying4
  have g4 := Try.isAgg4
  have z4 := Try.sizeOf4
  have u9 := Try.underlying9
  have g9 := Try.isAgg9
  have z9 := Try.sizeOf9
  simp only [Op.eqFields, ne_eq, a0, a1, a2, b0, b1, b2, c0, c1, c2, d0, d1, d2, not_false_eq_true, if_true]
  go_simp
  unfold eqV
  by_cases h1 : x.k.toList = y.k.toList <;> by_cases h2 : x.v.toList = y.v.toList <;> by_cases h3 : x.rev = y.rev <;> by_cases h4 : x.del = y.del <;> simp [h1, h2, h3, h4]
theorem below_drewN' {n : Nat} {w w' : World} (h : Below n w w') (m : Nat) : Below n w (w'.drewN m) := ⟨h.os, h.tape, h.output, h.size, h.block⟩

set_option maxHeartbeats 2000000 in
theorem equalE_any (l m : List En) (u v : Value) (w : World) (hu : RAt encE w u l) (hv : RAt encE w v m) (hl : l.length ≤ 1000000000) (hm : m.length ≤ 1000000000) :
    Calls Try.prog 63 #[u, v] w fun e w' => e = .returned (.bool (rowEq eqE l m)) ∧ Below w.heap.size w w' := by
  have HU := Lib.hid hu
  have HV := Lib.hid hv
  obtain ⟨ua, uc, rfl⟩ := hu.slice
  obtain ⟨va, vc, rfl⟩ := hv.slice
  obtain ⟨r, hr⟩ : ∃ r, rowEq eqE l m = r := ⟨_, rfl⟩
  rw [hr]
  have HR := Lib.hid hr
  obtain ⟨N, hN⟩ : ∃ n, l.length = n := ⟨_, rfl⟩
  obtain ⟨M, hM⟩ : ∃ n, m.length = n := ⟨_, rfl⟩
  have HN := Lib.hid hN
  have HM := Lib.hid hM
  rw [hN] at hl HU ⊢
  rw [hM] at hm HV ⊢
  clear hu hv hr hN hM
  by_cases hlen : N = M
  · subst hlen
    have hne : ((N : Int) != (N : Int)) = false := by rw [bne_eq_false_iff_eq]
    go_enter Try.func63, Try.ntmps63
    go_wp2_with fail
    go_loopw [13, 5] (fun s _ wr => ∃ i : Nat, s = .int .i64 i ∧ i ≤ N ∧ Hid (Below w.heap.size w wr ∧ rowEq eqE (l.drop i) (m.drop i) = r)) (fun s _ _ => N - (intOf s).toNat)
    case atStart => exact ⟨0, rfl, Nat.zero_le _, Lib.hid ⟨Below.refl _ _, HR.out⟩⟩
    case round =>
      obtain ⟨i, rfl, hi, HH⟩ := hrel
      by_cases hlt : i < N
      · have hli : i < l.length := by rw [HN.out]; exact hlt
        have hmi : i < m.length := by rw [HM.out]; exact hlt
        obtain ⟨x, hx⟩ : ∃ x, l[i] = x := ⟨_, rfl⟩
        obtain ⟨y, hy⟩ : ∃ x, m[i] = x := ⟨_, rfl⟩
        obtain ⟨g, o, c', e1, -, hc⟩ := (HU.out.below HH.out.1).pos (by intro e; rw [e] at hli; exact absurd hli (by simp))
        obtain ⟨g2, o2, c2', e2, -, hc2⟩ := (HV.out.below HH.out.1).pos (by intro e; rw [e] at hmi; exact absurd hmi (by simp))
        injection e1 with e1 e3 e4
        injection e2 with e2 e5 e6
        subst e1
        subst e2
        obtain ⟨q0, q1, q2, q3⟩ := RAt.atE hc i hli
        obtain ⟨p0, p1, p2, p3⟩ := RAt.atE hc2 i hmi
        rw [hx] at q0 q1 q2 q3
        rw [hy] at p0 p1 p2 p3
        have hd := HH.out.2.symm.trans (rowEq_drop (q := eqE) hli hmi)
        rw [hx, hy] at hd
        have HD := Lib.hid hd
        have HB := Lib.hid HH.out.1
        have he := fun W => eq57 x y W
        clear hc hc2 hd hx hy e3 e4 e5 e6 HH
        cases hq : eqE x y
        all_goals
          rw [hq] at HD he
          clear hq
          go_wp2_with fail
          go_big_quiet (fail)
          go_wp2
          first
          | (go_ret; exact ⟨by rw [HD.out]; rfl, below_drewN' HB.out _⟩)
          | (go_roundw
             case rel => exact ⟨i + 1, by go_num, by omega, Lib.hid ⟨below_drewN' HB.out _, by rw [HD.out]; rfl⟩⟩
             case measure => simp [intOf]; omega)
      · obtain rfl : i = N := by omega
        have hr : r = true := by
          rw [← HH.out.2, List.drop_of_length_le (by rw [HN.out]; exact Nat.le_refl _), List.drop_of_length_le (by rw [HM.out]; exact Nat.le_refl _)]; rfl
        subst hr
        go_wp2
        go_ret
        exact ⟨rfl, HH.out.1⟩
  · have hr : r = false := by rw [← HR.out]; exact rowEq_len (by rw [HN.out, HM.out]; exact hlen)
    subst hr
    have hne : ((N : Int) != (M : Int)) = true := by simp; omega
    clear hlen
    go_enter Try.func63, Try.ntmps63
    go_wp2
    go_ret
    exact ⟨rfl, Below.refl _ _⟩

set_option maxHeartbeats 2000000 in
theorem equalV_any (l m : List Ev) (u v : Value) (w : World) (hu : RAt encV w u l) (hv : RAt encV w v m) (hl : l.length ≤ 1000000000) (hm : m.length ≤ 1000000000) :
    Calls Try.prog 64 #[u, v] w fun e w' => e = .returned (.bool (rowEq eqV l m)) ∧ Below w.heap.size w w' := by
  have HU := Lib.hid hu
  have HV := Lib.hid hv
  obtain ⟨ua, uc, rfl⟩ := hu.slice
  obtain ⟨va, vc, rfl⟩ := hv.slice
  obtain ⟨r, hr⟩ : ∃ r, rowEq eqV l m = r := ⟨_, rfl⟩
  rw [hr]
  have HR := Lib.hid hr
  obtain ⟨N, hN⟩ : ∃ n, l.length = n := ⟨_, rfl⟩
  obtain ⟨M, hM⟩ : ∃ n, m.length = n := ⟨_, rfl⟩
  have HN := Lib.hid hN
  have HM := Lib.hid hM
  rw [hN] at hl HU ⊢
  rw [hM] at hm HV ⊢
  clear hu hv hr hN hM
  by_cases hlen : N = M
  · subst hlen
    have hne : ((N : Int) != (N : Int)) = false := by rw [bne_eq_false_iff_eq]
    go_enter Try.func64, Try.ntmps64
    go_wp2_with fail
    go_loopw [13, 5] (fun s _ wr => ∃ i : Nat, s = .int .i64 i ∧ i ≤ N ∧ Hid (Below w.heap.size w wr ∧ rowEq eqV (l.drop i) (m.drop i) = r)) (fun s _ _ => N - (intOf s).toNat)
    case atStart => exact ⟨0, rfl, Nat.zero_le _, Lib.hid ⟨Below.refl _ _, HR.out⟩⟩
    case round =>
      obtain ⟨i, rfl, hi, HH⟩ := hrel
      by_cases hlt : i < N
      · have hli : i < l.length := by rw [HN.out]; exact hlt
        have hmi : i < m.length := by rw [HM.out]; exact hlt
        obtain ⟨x, hx⟩ : ∃ x, l[i] = x := ⟨_, rfl⟩
        obtain ⟨y, hy⟩ : ∃ x, m[i] = x := ⟨_, rfl⟩
        obtain ⟨g, o, c', e1, -, hc⟩ := (HU.out.below HH.out.1).pos (by intro e; rw [e] at hli; exact absurd hli (by simp))
        obtain ⟨g2, o2, c2', e2, -, hc2⟩ := (HV.out.below HH.out.1).pos (by intro e; rw [e] at hmi; exact absurd hmi (by simp))
        injection e1 with e1 e3 e4
        injection e2 with e2 e5 e6
        subst e1
        subst e2
        obtain ⟨q0, q1, q2, q3⟩ := RAt.atV hc i hli
        obtain ⟨p0, p1, p2, p3⟩ := RAt.atV hc2 i hmi
        rw [hx] at q0 q1 q2 q3
        rw [hy] at p0 p1 p2 p3
        have hd := HH.out.2.symm.trans (rowEq_drop (q := eqV) hli hmi)
        rw [hx, hy] at hd
        have HD := Lib.hid hd
        have HB := Lib.hid HH.out.1
        have he := fun W => eq44 x y W
        clear hc hc2 hd hx hy e3 e4 e5 e6 HH
        cases hq : eqV x y
        all_goals
          rw [hq] at HD he
          clear hq
          go_wp2_with fail
          go_big_quiet (fail)
          go_wp2
          first
          | (go_ret; exact ⟨by rw [HD.out]; rfl, below_drewN' HB.out _⟩)
          | (go_roundw
             case rel => exact ⟨i + 1, by go_num, by omega, Lib.hid ⟨below_drewN' HB.out _, by rw [HD.out]; rfl⟩⟩
             case measure => simp [intOf]; omega)
      · obtain rfl : i = N := by omega
        have hr : r = true := by
          rw [← HH.out.2, List.drop_of_length_le (by rw [HN.out]; exact Nat.le_refl _), List.drop_of_length_le (by rw [HM.out]; exact Nat.le_refl _)]; rfl
        subst hr
        go_wp2
        go_ret
        exact ⟨rfl, HH.out.1⟩
  · have hr : r = false := by rw [← HR.out]; exact rowEq_len (by rw [HN.out, HM.out]; exact hlen)
    subst hr
    have hne : ((N : Int) != (M : Int)) = true := by simp; omega
    clear hlen
    go_enter Try.func64, Try.ntmps64
    go_wp2
    go_ret
    exact ⟨rfl, Below.refl _ _⟩

set_option maxHeartbeats 2000000 in
theorem rentries_any (l m : List En) (u v : Value) (w : World) (hu : RAt encE w u l) (hv : RAt encE w v m) (hl : l.length ≤ 1000000000) (hm : m.length ≤ 1000000000) :
    Calls Try.prog 46 #[u, v] w fun e w' => e = .returned (.bool (rowEq eqE l m)) ∧ Below w.heap.size w w' := by
  have HU := Lib.hid hu
  have HV := Lib.hid hv
  obtain ⟨ua, uc, rfl⟩ := hu.slice
  obtain ⟨va, vc, rfl⟩ := hv.slice
  obtain ⟨r, hr⟩ : ∃ r, rowEq eqE l m = r := ⟨_, rfl⟩
  rw [hr]
  have HR := Lib.hid hr
  obtain ⟨N, hN⟩ : ∃ n, l.length = n := ⟨_, rfl⟩
  obtain ⟨M, hM⟩ : ∃ n, m.length = n := ⟨_, rfl⟩
  have HN := Lib.hid hN
  have HM := Lib.hid hM
  rw [hN] at hl HU ⊢
  rw [hM] at hm HV ⊢
  clear hu hv hr hN hM
  by_cases hlen : N = M
  · subst hlen
    have hne : ((N : Int) != (N : Int)) = false := by rw [bne_eq_false_iff_eq]
    go_enter Try.func46, Try.ntmps46
    go_wp2_with fail
    go_loopw [5] (fun s wr => ∃ i : Nat, s = .int .i64 i ∧ i ≤ N ∧ Hid (Below w.heap.size w wr ∧ rowEq eqE (l.drop i) (m.drop i) = r)) (fun s _ => N - (intOf s).toNat)
    case atStart => exact ⟨0, rfl, Nat.zero_le _, Lib.hid ⟨Below.refl _ _, HR.out⟩⟩
    case round =>
      obtain ⟨i, rfl, hi, HH⟩ := hrel
      by_cases hlt : i < N
      · have hli : i < l.length := by rw [HN.out]; exact hlt
        have hmi : i < m.length := by rw [HM.out]; exact hlt
        obtain ⟨x, hx⟩ : ∃ x, l[i] = x := ⟨_, rfl⟩
        obtain ⟨y, hy⟩ : ∃ x, m[i] = x := ⟨_, rfl⟩
        obtain ⟨g, o, c', e1, -, hc⟩ := (HU.out.below HH.out.1).pos (by intro e; rw [e] at hli; exact absurd hli (by simp))
        obtain ⟨g2, o2, c2', e2, -, hc2⟩ := (HV.out.below HH.out.1).pos (by intro e; rw [e] at hmi; exact absurd hmi (by simp))
        injection e1 with e1 e3 e4
        injection e2 with e2 e5 e6
        subst e1
        subst e2
        obtain ⟨q0, q1, q2, q3⟩ := RAt.atE hc i hli
        obtain ⟨p0, p1, p2, p3⟩ := RAt.atE hc2 i hmi
        rw [hx] at q0 q1 q2 q3
        rw [hy] at p0 p1 p2 p3
        have hd := HH.out.2.symm.trans (rowEq_drop (q := eqE) hli hmi)
        rw [hx, hy] at hd
        have HD := Lib.hid hd
        have HB := Lib.hid HH.out.1
        have he := fun W => eq57 x y W
        clear hc hc2 hd hx hy e3 e4 e5 e6 HH
        cases hq : eqE x y
        all_goals
          rw [hq] at HD he
          clear hq
          go_wp2_with fail
          go_big_quiet (fail)
          go_wp2
          first
          | (go_ret; exact ⟨by rw [HD.out]; rfl, below_drewN' HB.out _⟩)
          | (go_roundw
             case rel => exact ⟨i + 1, by go_num, by omega, Lib.hid ⟨below_drewN' HB.out _, by rw [HD.out]; rfl⟩⟩
             case measure => simp [intOf]; omega)
      · obtain rfl : i = N := by omega
        have hr : r = true := by
          rw [← HH.out.2, List.drop_of_length_le (by rw [HN.out]; exact Nat.le_refl _), List.drop_of_length_le (by rw [HM.out]; exact Nat.le_refl _)]; rfl
        subst hr
        go_wp2
        go_ret
        exact ⟨rfl, HH.out.1⟩
  · have hr : r = false := by rw [← HR.out]; exact rowEq_len (by rw [HN.out, HM.out]; exact hlen)
    subst hr
    have hne : ((N : Int) != (M : Int)) = true := by simp; omega
    clear hlen
    go_enter Try.func46, Try.ntmps46
    go_wp2
    go_ret
    exact ⟨rfl, Below.refl _ _⟩

set_option maxHeartbeats 2000000 in
theorem revents_any (l m : List Ev) (u v : Value) (w : World) (hu : RAt encV w u l) (hv : RAt encV w v m) (hl : l.length ≤ 1000000000) (hm : m.length ≤ 1000000000) :
    Calls Try.prog 17 #[u, v] w fun e w' => e = .returned (.bool (rowEq eqV l m)) ∧ Below w.heap.size w w' := by
  have HU := Lib.hid hu
  have HV := Lib.hid hv
  obtain ⟨ua, uc, rfl⟩ := hu.slice
  obtain ⟨va, vc, rfl⟩ := hv.slice
  obtain ⟨r, hr⟩ : ∃ r, rowEq eqV l m = r := ⟨_, rfl⟩
  rw [hr]
  have HR := Lib.hid hr
  obtain ⟨N, hN⟩ : ∃ n, l.length = n := ⟨_, rfl⟩
  obtain ⟨M, hM⟩ : ∃ n, m.length = n := ⟨_, rfl⟩
  have HN := Lib.hid hN
  have HM := Lib.hid hM
  rw [hN] at hl HU ⊢
  rw [hM] at hm HV ⊢
  clear hu hv hr hN hM
  by_cases hlen : N = M
  · subst hlen
    have hne : ((N : Int) != (N : Int)) = false := by rw [bne_eq_false_iff_eq]
    go_enter Try.func17, Try.ntmps17
    go_wp2_with fail
    go_loopw [5] (fun s wr => ∃ i : Nat, s = .int .i64 i ∧ i ≤ N ∧ Hid (Below w.heap.size w wr ∧ rowEq eqV (l.drop i) (m.drop i) = r)) (fun s _ => N - (intOf s).toNat)
    case atStart => exact ⟨0, rfl, Nat.zero_le _, Lib.hid ⟨Below.refl _ _, HR.out⟩⟩
    case round =>
      obtain ⟨i, rfl, hi, HH⟩ := hrel
      by_cases hlt : i < N
      · have hli : i < l.length := by rw [HN.out]; exact hlt
        have hmi : i < m.length := by rw [HM.out]; exact hlt
        obtain ⟨x, hx⟩ : ∃ x, l[i] = x := ⟨_, rfl⟩
        obtain ⟨y, hy⟩ : ∃ x, m[i] = x := ⟨_, rfl⟩
        obtain ⟨g, o, c', e1, -, hc⟩ := (HU.out.below HH.out.1).pos (by intro e; rw [e] at hli; exact absurd hli (by simp))
        obtain ⟨g2, o2, c2', e2, -, hc2⟩ := (HV.out.below HH.out.1).pos (by intro e; rw [e] at hmi; exact absurd hmi (by simp))
        injection e1 with e1 e3 e4
        injection e2 with e2 e5 e6
        subst e1
        subst e2
        obtain ⟨q0, q1, q2, q3⟩ := RAt.atV hc i hli
        obtain ⟨p0, p1, p2, p3⟩ := RAt.atV hc2 i hmi
        rw [hx] at q0 q1 q2 q3
        rw [hy] at p0 p1 p2 p3
        have hd := HH.out.2.symm.trans (rowEq_drop (q := eqV) hli hmi)
        rw [hx, hy] at hd
        have HD := Lib.hid hd
        have HB := Lib.hid HH.out.1
        have he := fun W => eq44 x y W
        clear hc hc2 hd hx hy e3 e4 e5 e6 HH
        cases hq : eqV x y
        all_goals
          rw [hq] at HD he
          clear hq
          go_wp2_with fail
          go_big_quiet (fail)
          go_wp2
          first
          | (go_ret; exact ⟨by rw [HD.out]; rfl, below_drewN' HB.out _⟩)
          | (go_roundw
             case rel => exact ⟨i + 1, by go_num, by omega, Lib.hid ⟨below_drewN' HB.out _, by rw [HD.out]; rfl⟩⟩
             case measure => simp [intOf]; omega)
      · obtain rfl : i = N := by omega
        have hr : r = true := by
          rw [← HH.out.2, List.drop_of_length_le (by rw [HN.out]; exact Nat.le_refl _), List.drop_of_length_le (by rw [HM.out]; exact Nat.le_refl _)]; rfl
        subst hr
        go_wp2
        go_ret
        exact ⟨rfl, HH.out.1⟩
  · have hr : r = false := by rw [← HR.out]; exact rowEq_len (by rw [HN.out, HM.out]; exact hlen)
    subst hr
    have hne : ((N : Int) != (M : Int)) = true := by simp; omega
    clear hlen
    go_enter Try.func17, Try.ntmps17
    go_wp2
    go_ret
    exact ⟨rfl, Below.refl _ _⟩
end Go.Proofs.Ytbfkgbickjfcjaa
