/- MayTxn: whether a transaction may be. -/
import Derived.Test.YtbfkgbickjfcjaaRw
import Derived.Test.YtbfkgbickjfcjaaKc
namespace Go.Proofs.Ytbfkgbickjfcjaa
set_option linter.unusedVariables false
set_option linter.unusedSimpArgs false
open Go.RowKit
set_option maxRecDepth 100000
theorem RAt.atC {W : World} {g o : Nat} {l : List Cn} (h : ∀ j u, (cz encC l)[j]? = some u → W.cell? ⟨g, o + j, none⟩ = some u) (i : Nat) (hi : i < l.length) :
    W.cell? ⟨g, o + i * 2, none⟩ = some (.string l[i].k) ∧ W.cell? ⟨g, o + i * 2 + 1, none⟩ = some (.int .i64 l[i].mod) := by
  have z := cz_at (enc := encC) (z := 2) (fun _ => rfl) l i hi
  exact ⟨h _ _ (z 0 (by omega)), by have := h _ _ (z 1 (by omega)); rwa [← Nat.add_assoc] at this⟩
theorem RAt.atO {W : World} {g o : Nat} {l : List Op'} (h : ∀ j u, (cz encO l)[j]? = some u → W.cell? ⟨g, o + j, none⟩ = some u) (i : Nat) (hi : i < l.length) :
    W.cell? ⟨g, o + i * 3, none⟩ = some (.bool l[i].del) ∧ W.cell? ⟨g, o + i * 3 + 1, none⟩ = some (.string l[i].k) ∧ W.cell? ⟨g, o + i * 3 + 2, none⟩ = some (.string l[i].v) := by
  have z := cz_at (enc := encO) (z := 3) (fun _ => rfl) l i hi
  exact ⟨h _ _ (z 0 (by omega)), by have := h _ _ (z 1 (by omega)); rwa [← Nat.add_assoc] at this, by have := h _ _ (z 2 (by omega)); rwa [← Nat.add_assoc] at this⟩
theorem RAt.atE {W : World} {g o : Nat} {l : List En} (h : ∀ j u, (cz encE l)[j]? = some u → W.cell? ⟨g, o + j, none⟩ = some u) (i : Nat) (hi : i < l.length) :
    W.cell? ⟨g, o + i * 4, none⟩ = some (.string l[i].k) ∧ W.cell? ⟨g, o + i * 4 + 1, none⟩ = some (.string l[i].v) ∧ W.cell? ⟨g, o + i * 4 + 2, none⟩ = some (.int .i64 l[i].made) ∧ W.cell? ⟨g, o + i * 4 + 3, none⟩ = some (.int .i64 l[i].mod) := by
  have z := cz_at (enc := encE) (z := 4) (fun _ => rfl) l i hi
  exact ⟨h _ _ (z 0 (by omega)), by have := h _ _ (z 1 (by omega)); rwa [← Nat.add_assoc] at this, by have := h _ _ (z 2 (by omega)); rwa [← Nat.add_assoc] at this, by have := h _ _ (z 3 (by omega)); rwa [← Nat.add_assoc] at this⟩
theorem RAt.atV {W : World} {g o : Nat} {l : List Ev} (h : ∀ j u, (cz encV l)[j]? = some u → W.cell? ⟨g, o + j, none⟩ = some u) (i : Nat) (hi : i < l.length) :
    W.cell? ⟨g, o + i * 4, none⟩ = some (.int .i64 l[i].rev) ∧ W.cell? ⟨g, o + i * 4 + 1, none⟩ = some (.bool l[i].del) ∧ W.cell? ⟨g, o + i * 4 + 2, none⟩ = some (.string l[i].k) ∧ W.cell? ⟨g, o + i * 4 + 3, none⟩ = some (.string l[i].v) := by
  have z := cz_at (enc := encV) (z := 4) (fun _ => rfl) l i hi
  exact ⟨h _ _ (z 0 (by omega)), by have := h _ _ (z 1 (by omega)); rwa [← Nat.add_assoc] at this, by have := h _ _ (z 2 (by omega)); rwa [← Nat.add_assoc] at this, by have := h _ _ (z 3 (by omega)); rwa [← Nat.add_assoc] at this⟩
/-- A transaction. -/
structure Tx where
  cs : List Cn
  os : List Op'
def cnB (c : Cn) : Bool := keyB c.k.data.toList && (decide (0 ≤ c.mod) && decide (c.mod ≤ 1099511627776))
def opB (o : Op') : Bool := keyB o.k.data.toList && (if o.del then decide (o.v.size = 0) else decide (o.v.size ≤ 128))
def okO : List Op' → List Op' → Bool
  | _, [] => true
  | pre, o :: r => opB o && !(pre.any fun x => x.k.toList == o.k.toList) && okO (pre ++ [o]) r
def mayB (x : Tx) : Bool := decide (x.cs.length ≤ 8) && decide (x.os.length ≤ 8) && x.cs.all cnB && okO [] x.os
theorem same57 (o : Op') (B : Nat) (k : ByteArray) (w : World) (h : w.cell? ⟨B, 1, none⟩ = some (.string k)) :
    Calls Try.prog 57 #[.agg #[.bool o.del, .string o.k, .string o.v], .pointer (some ⟨B, 0, none⟩)] w fun e w' => e = .returned (.bool (o.k.toList == k.toList)) ∧ Below w.heap.size w w' := by
  have hb : Below w.heap.size w (w.alloc (.cells #[.bool o.del, .string o.k, .string o.v] 72)) := (Below.refl _ w).alloc (Nat.le_refl _) _
  have hc := (hb.cell (p := ⟨B, 1, none⟩) (cell_lt h)).trans h
  have HB := Lib.hid hb
  clear h hb
  go_enter Try.func57, Try.ntmps57
  go_wp2
  go_ret
  exact ⟨rfl, HB.out⟩
theorem mayOp_any (o : Op') (w : World) : Calls Try.prog 58 #[.agg #[.bool o.del, .string o.k, .string o.v]] w fun e w' => e = .returned (.bool (opB o)) ∧ Below w.heap.size w w' := by
  have hb : Below w.heap.size w (w.alloc (.cells #[.bool o.del, .string o.k, .string o.v] 72)) := (Below.refl _ w).alloc (Nat.le_refl _) _
  have HB := Lib.hid hb
  have HK := Lib.hid (key_any o.k)
  obtain ⟨q, hq⟩ : ∃ q, keyB o.k.data.toList = q := ⟨_, rfl⟩
  rw [hq] at HK
  have HQ := Lib.hid hq
  clear hb hq
  cases hd : o.del with
  | true =>
    by_cases hv : o.v.size = 0
    · have he := emp_t hv
      have ht : o.v.toList = [] := List.isEmpty_iff.1 he
      have hr : opB o = q := by unfold opB; rw [HQ.out, hd, if_pos rfl, decide_eq_true hv, Bool.and_true]
      have HR := Lib.hid hr
      rw [hd] at HB
      clear hd hv hr
      cases q
      all_goals
        go_enter Try.func58, Try.ntmps58
        go_wp2_with (go_at_call 56; refine (HK.out _).mono ?_; rintro e w' ⟨rfl, rfl⟩)
        go_ret
        exact ⟨by rw [HR.out]; rfl, HB.out⟩
    · have he := emp_f hv
      have ht : ¬ o.v.toList = [] := fun h => by rw [h] at he; cases he
      have hr : opB o = false := by unfold opB; rw [HQ.out, hd, if_pos rfl, decide_eq_false hv, Bool.and_false]
      have HR := Lib.hid hr
      rw [hd] at HB
      clear hd hv hr
      cases q
      all_goals
        go_enter Try.func58, Try.ntmps58
        go_wp2_with (go_at_call 56; refine (HK.out _).mono ?_; rintro e w' ⟨rfl, rfl⟩)
        go_ret
        exact ⟨by rw [HR.out]; rfl, HB.out⟩
  | false =>
    by_cases hv : o.v.size ≤ 128
    · have hr : opB o = q := by unfold opB; rw [HQ.out, hd, if_neg (by simp), decide_eq_true hv, Bool.and_true]
      have hv' : (o.v.size : Int) ≤ 128 := by omega
      have HR := Lib.hid hr
      rw [hd] at HB
      clear hd hv hr
      cases q
      all_goals
        go_enter Try.func58, Try.ntmps58
        go_wp2_with (go_at_call 56; refine (HK.out _).mono ?_; rintro e w' ⟨rfl, rfl⟩)
        go_ret
        exact ⟨by rw [HR.out]; rfl, HB.out⟩
    · have hr : opB o = false := by unfold opB; rw [HQ.out, hd, if_neg (by simp), decide_eq_false hv, Bool.and_false]
      have hv' : decide ((o.v.size : Int) ≤ 128) = false := decide_eq_false (by omega)
      have HR := Lib.hid hr
      rw [hd] at HB
      clear hd hv hr
      cases q
      all_goals
        go_enter Try.func58, Try.ntmps58
        go_wp2_with (go_at_call 56; refine (HK.out _).mono ?_; rintro e w' ⟨rfl, rfl⟩)
        go_ret
        exact ⟨by rw [HR.out]; rfl, HB.out⟩
def IdxR (b : Bool) (w : World) (e : Ending) (w' : World) : Prop := ∃ i : Int, e = .returned (.int .i64 i) ∧ decide (0 ≤ i) = b ∧ Below w.heap.size w w'
set_option maxHeartbeats 1000000 in
theorem index_any (l : List Op') (v : Value) (B : Nat) (k : ByteArray) (w : World) (h : RAt encO w v l) (hk : w.cell? ⟨B, 1, none⟩ = some (.string k)) (hl : l.length ≤ 1000) :
    Calls Try.prog 79 #[v, .func (.func 57) #[] #[.pointer (some ⟨B, 0, none⟩)]] w (IdxR (l.any fun x => x.k.toList == k.toList) w) := by
  have HA := Lib.hid h
  have HK := Lib.hid hk
  obtain ⟨ad, c, rfl⟩ := h.slice
  obtain ⟨r, hr⟩ : ∃ r, (l.any fun x => x.k.toList == k.toList) = r := ⟨_, rfl⟩
  have HR := Lib.hid hr
  rw [hr]
  obtain ⟨N, hN⟩ : ∃ n, l.length = n := ⟨_, rfl⟩
  have HN := Lib.hid hN
  rw [hN] at hl HA ⊢
  clear h hk hr hN
  go_enter Try.func79, Try.ntmps79
  go_wp2_with fail
  go_loopw [8, 5] (fun s _ wr => ∃ i : Nat, s = .int .i64 i ∧ i ≤ N ∧ Hid (Below w.heap.size w wr ∧ r = (l.drop i).any fun x => x.k.toList == k.toList)) (fun s _ _ => N - (intOf s).toNat)
  case atStart => exact ⟨0, rfl, Nat.zero_le _, Lib.hid ⟨Below.refl _ _, HR.out.symm⟩⟩
  case round =>
    obtain ⟨i, rfl, hi, HH⟩ := hrel
    by_cases hlt : i < N
    · have hli : i < l.length := by rw [HN.out]; exact hlt
      obtain ⟨x, hx⟩ : ∃ x, l[i] = x := ⟨_, rfl⟩
      have hA := HA.out.below HH.out.1
      obtain ⟨g, o, c', hv, hg, hc⟩ := hA.pos (by intro e; rw [e] at hli; exact absurd hli (by simp))
      injection hv with hv1 hv2 hv3
      subst hv1
      obtain ⟨q0, q1, q2⟩ := RAt.atO hc i hli
      rw [hx] at q0 q1 q2
      have HB := Lib.hid HH.out.1
      have hd : (l.drop i).any (fun x => x.k.toList == k.toList) = (x.k.toList == k.toList || (l.drop (i + 1)).any fun x => x.k.toList == k.toList) := by
        rw [List.drop_eq_getElem_cons hli, List.any_cons, hx]
      have HD := Lib.hid (HH.out.2.trans hd)
      have HC := Lib.hid (same57 x B k wr ((HB.out.cell (p := ⟨B, 1, none⟩) (cell_lt HK.out)).trans HK.out))
      clear hA hv2 hv3 hc hg hd HH hx hli
      cases hq : (x.k.toList == k.toList)
      all_goals
        rw [hq] at HC HD
        clear hq
        go_wp2_with fail
        refine HC.out.mono ?_
        rintro e w2 ⟨rfl, hb2⟩
        have HB2 := Lib.hid (HB.out.trans (hb2.mono HB.out.size))
        clear hb2
        go_wp2
        first
        | (go_ret; exact ⟨i, rfl, by rw [HD.out]; simp, HB2.out⟩)
        | (go_roundw
           case rel => exact ⟨i + 1, by simp, by omega, Lib.hid ⟨HB2.out, by rw [HD.out]; rfl⟩⟩
           case measure => (try simp [intOf]); (try omega))
    · obtain rfl : i = N := by omega
      go_wp2
      go_ret
      exact ⟨-1, rfl, by rw [HH.out.2, ← HN.out]; simp, HH.out.1⟩
theorem contains_any (l : List Op') (v : Value) (B : Nat) (k : ByteArray) (w : World) (h : RAt encO w v l) (hk : w.cell? ⟨B, 1, none⟩ = some (.string k)) (hl : l.length ≤ 1000) :
    Calls Try.prog 59 #[v, .func (.func 57) #[] #[.pointer (some ⟨B, 0, none⟩)]] w fun e w' => e = .returned (.bool (l.any fun x => x.k.toList == k.toList)) ∧ Below w.heap.size w w' := by
  have HC := Lib.hid (index_any l v B k w h hk hl)
  obtain ⟨ad, c, rfl⟩ := h.slice
  obtain ⟨r, hr⟩ : ∃ r, (l.any fun x => x.k.toList == k.toList) = r := ⟨_, rfl⟩
  rw [hr] at HC ⊢
  clear h hk hr
  go_enter Try.func59, Try.ntmps59
  go_wp2_with fail
  refine HC.out.mono ?_
  rintro e w2 ⟨i, rfl, hi, hb⟩
  have HI := Lib.hid hi
  have HB := Lib.hid hb
  clear hi hb
  go_wp2
  go_ret
  exact ⟨ret_b HI.out, HB.out⟩
end Go.Proofs.Ytbfkgbickjfcjaa
