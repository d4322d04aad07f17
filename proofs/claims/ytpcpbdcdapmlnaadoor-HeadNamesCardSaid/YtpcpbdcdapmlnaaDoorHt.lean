/- The examples' disks. -/
import Derived.Test.YtpcpbdcdapmlnaaDoorHq
namespace Go.Proofs.YtpcpbdcdapmlnaaDoor
open Go Go.RowKit
set_option maxRecDepth 100000
def hA (n : Int) : He := ⟨n, 0, 0, [2]⟩
theorem may_A (n : Int) (h1 : 1 ≤ n) (h2 : n ≤ 1000) : mayB (hA n) = true := by
  unfold mayB hA gtop
  dsimp only
  rw [if_neg (by omega), if_neg (by omega), if_neg (by decide), if_neg (by decide), if_neg (by simp), if_pos rfl, if_neg (by simp)]
  decide
theorem enc_A (n : Nat) (h : n < 128) : enc (hA n) = [UInt8.ofNat n, 0, 0, 1, 2] := by
  unfold enc hA
  dsimp only
  rw [Int.toNat_natCast, Bt.vint_small h]
  show _ ++ (Bt.vint 0 ++ (Bt.vint 0 ++ (Bt.vint 1 ++ (Bt.vint 2 ++ [])))) = _
  rw [Bt.vint_small (n := 0) (by decide), Bt.vint_small (n := 1) (by decide), Bt.vint_small (n := 2) (by decide)]
  rfl
theorem size_A (n : Nat) (h : n < 128) : (whl (hA n)).size = 14 := by rw [whl_size, enc_A n h]; rfl
theorem used_upd (d : Dk) {t : Nat} (ht : t < 32) (x : Tp) : ({ d with T := upd d.T t x } : Dk).used + (d.T t).s.size = d.used + x.s.size := sumT_upd d.T t x 32 ht
/-- A Put on a calm disk with room. -/
theorem put_calm {d : Dk} (hdn : d.dn = false) (hdm : d.dm = false) {h : He} (hm : mayB h = true) (hr : room d (ptT d) (whl h)) : putR d h = ({ d with T := upd d.T (ptT d) ⟨whl h, (whl h).size⟩ }, 0) := by
  have hz : (whl h).size ≤ 1048576 := by rw [whl_size]; have := enc_len (mayB_ok hm); omega
  have hs := stP_st hdn (show ptT d < 32 by have := ptT_le d; omega) hz
  unfold putR
  rw [hm, if_pos rfl, ld_up hdn, if_neg (by simp)]
  exact hs.calm hdm hr
theorem made0_T (c i : Nat) : (made0 c []).T i = t0 := rfl
theorem made0_used (c : Nat) : (made0 c []).used = 0 := by
  have : ∀ n, sumT (made0 c []).T n = 0 := fun n => by
    induction n with
    | zero => rfl
    | succ n ih => show sumT _ n + _ = 0; rw [ih]; rfl
  exact this 32
/-- The n-th disk of the example. -/
def aD (k : Nat) (n : Int) (d : Dk) : Dk := { d with T := upd d.T k ⟨whl (hA n), 14⟩ }
structure St (d : Dk) (n : Int) (t u : Nat) : Prop where
  dn : d.dn = false
  dm : d.dm = false
  cap : d.cap = 100
  us : d.used ≤ u
  ld : ldR d = (hA n, t, true, 0)
  T : d.T t = ⟨whl (hA n), 14⟩
theorem St.next {d : Dk} {n t u : Nat} (h : St d n t u) (hu : u ≤ 80) (ht : t ≤ 1) (h1 : 1 ≤ n) (h2 : n ≤ 100) : putR d (hA (n + 1 : Nat)) = (aD (1 - t) (n + 1 : Nat) d, 0) ∧ St (aD (1 - t) (n + 1 : Nat) d) (n + 1 : Nat) (1 - t) (u + 14) ∧ ∀ j, j ≠ 1 - t → (aD (1 - t) (n + 1 : Nat) d).T j = d.T j := by
  have hI : ldI d = true := by have := ld_up h.dn; rw [h.ld] at this; exact (congrArg (fun x => x.2.2.1) this).symm
  have hT : ldT d = t := by have := ld_up h.dn; rw [h.ld] at this; exact (congrArg (fun x => x.2.1) this).symm
  have hH : ldH d = hA n := by have := ld_up h.dn; rw [h.ld] at this; exact (congrArg (fun x => x.1) this).symm
  have hp : ptT d = 1 - t := by rw [pt_up h.dn, hI, if_pos rfl, hT]
  have hz := size_A (n + 1) (by omega)
  have hm := may_A (n + 1 : Nat) (by omega) (by omega)
  have h3 := put_calm h.dn h.dm hm (by unfold room; rw [hz, h.cap]; have := h.us; omega)
  rw [hz, hp] at h3
  refine ⟨h3, ⟨h.dn, h.dm, h.cap, ?_, ?_, upd_same _ _ _⟩, fun j hj => upd_other _ _ hj⟩
  · have := used_upd d (show 1 - t < 32 by omega) ⟨whl (hA (n + 1 : Nat)), 14⟩
    have := h.us
    dsimp only at *
    unfold aD
    omega
  · have := load_new (d' := aD (1 - t) (n + 1 : Nat) d) h.dn h.dn (hA (n + 1 : Nat)) hm (fun j _ hj => upd_other _ _ (by rw [← hp]; exact hj)) (by rw [hp]; show (upd _ _ _ _).s = _; rw [upd_same]) (fun _ => by rw [hH]; show (n : Int) < ((n + 1 : Nat) : Int); omega)
    rw [hp] at this
    exact this
def D0 : Dk := made0 100 []
theorem ld0 : ldR D0 = (he0, 0, false, 0) := rfl
theorem st_1 : putR D0 (hA 1) = (aD 0 1 D0, 0) ∧ St (aD 0 1 D0) 1 0 14 := by
  have hp : ptT D0 = 0 := rfl
  have hz : (whl (hA 1)).size = 14 := size_A 1 (by omega)
  have hm := may_A 1 (by omega) (by omega)
  have hu : D0.used = 0 := made0_used 100
  have h3 := put_calm (d := D0) rfl rfl hm (by unfold room; rw [hz, hu]; show 14 + 0 ≤ 100 + _; omega)
  rw [hz, hp] at h3
  refine ⟨h3, ⟨rfl, rfl, rfl, ?_, ?_, upd_same D0.T 0 ⟨whl (hA 1), 14⟩⟩⟩
  · have := used_upd D0 (show 0 < 32 by omega) ⟨whl (hA 1), 14⟩
    rw [hu] at this
    dsimp only at *
    unfold aD
    omega
  · have := load_new (d' := aD 0 1 D0) (d := D0) rfl rfl (hA 1) hm (fun j _ hj => upd_other _ _ (by rw [← hp]; exact hj)) (by rw [hp]; show (upd _ _ _ _).s = _; rw [upd_same]) (fun h => by cases h)
    rw [hp] at this
    exact this
def D1 : Dk := aD 0 1 D0
def D2 : Dk := aD 1 2 D1
def D3 : Dk := aD 0 3 D2
def D4 : Dk := (failD D3 2).1
def D5 : Dk := (putR D4 (hA 4)).1
def D6 : Dk := backD D5 [13]
theorem st_2 : putR D1 (hA 2) = (D2, 0) ∧ St D2 2 1 28 := by have := st_1.2.next (n := 1) (by omega) (by omega) (by omega) (by omega); exact ⟨this.1, this.2.1⟩
theorem st_3 : putR D2 (hA 3) = (D3, 0) ∧ St D3 3 0 42 := by have := st_2.2.next (n := 2) (by omega) (by omega) (by omega) (by omega); exact ⟨this.1, this.2.1⟩
theorem bkT_keep (T : Nat → Tp) (ks : List Int) (i : Nat) : ∀ k, i < k → (bkT T ks (k + 1)).1 i = (bkT T ks k).1 i := fun k h => by
  by_cases hz : (T k).s.size - (T k).f = 0
  · have e : bkT T ks (k + 1) = bkT T ks k := if_pos hz
    rw [e]
  · have e : (bkT T ks (k + 1)).1 = upd (bkT T ks k).1 k (bk ((bkT T ks k).2.headD 0) (T k)) := by
      show (if (T k).s.size - (T k).f = 0 then _ else _ : (Nat → Tp) × List Int).1 = _
      rw [if_neg hz]
    rw [e, upd_other _ _ (by omega)]
theorem bkT_keeps (T : Nat → Tp) (ks : List Int) (i : Nat) : ∀ n k, i < k → (bkT T ks (k + n)).1 i = (bkT T ks k).1 i
  | 0, k, _ => rfl
  | n + 1, k, h => by rw [← Nat.add_assoc, bkT_keep T ks i (k + n) (by omega), bkT_keeps T ks i n k h]
theorem st_4 : failD D3 2 = (D4, 0) ∧ D4.dn = false ∧ D4.dm = true ∧ D4.left = 2 ∧ D4.T = D3.T ∧ D4.cap = 100 := by
  have h := st_3.2.dn
  have hc := st_3.2.cap
  have e : failD D3 2 = ({ D3 with dm := true, left := 2 }, 0) := by unfold failD; rw [h, if_neg (by simp), if_neg (by decide)]; rfl
  have e2 : D4 = { D3 with dm := true, left := 2 } := by unfold D4; rw [e]
  refine ⟨by rw [e2]; exact e, by rw [e2]; exact h, by rw [e2], by rw [e2], by rw [e2], by rw [e2]; exact hc⟩
theorem ldR_T {d d' : Dk} (h : d.dn = false) (h' : d'.dn = false) (e : d'.T = d.T) : ldR d' = ldR d := by
  rw [ld_up h, ld_up h']; unfold ldH ldT ldI; rw [e]
theorem st_5 : (putR D4 (hA 4)).2 = 45 ∧ ldR D6 = (hA 3, 0, true, 0) := by
  obtain ⟨-, h2, h3, h4, h5, h6⟩ := st_4
  have s3 := st_3.2
  have hl : ldR D4 = (hA 3, 0, true, 0) := by rw [ldR_T s3.dn h2 h5, s3.ld]
  have hI : ldI D4 = true := by have := ld_up h2; rw [hl] at this; exact (congrArg (fun x => x.2.2.1) this).symm
  have hT : ldT D4 = 0 := by have := ld_up h2; rw [hl] at this; exact (congrArg (fun x => x.2.1) this).symm
  have hH : ldH D4 = hA 3 := by have := ld_up h2; rw [hl] at this; exact (congrArg (fun x => x.1) this).symm
  have hp : ptT D4 = 1 := by rw [pt_up h2, hI, if_pos rfl, hT]
  have hz : (whl (hA 4)).size = 14 := size_A 4 (by omega)
  have hm := may_A 4 (by omega) (by omega)
  have hP : putR D4 (hA 4) = stP D4 1 (whl (hA 4)) := by unfold putR; rw [hm, if_pos rfl, hl, if_neg (by simp), hp]
  have hs := stP_st h2 (show 1 < 32 by omega) (s := whl (hA 4)) (by omega)
  rw [← hP] at hs
  have hu : D4.used ≤ 42 := by have := s3.us; unfold Dk.used at *; rw [h5]; exact this
  have hr : room D4 1 (whl (hA 4)) := by unfold room; rw [hz, h6]; omega
  rcases hs.how with h | h | h
  · exact absurd h.1 (hs.fail h3 (by omega))
  · exact absurd hr h.2.2.2
  · obtain ⟨k1, k2, -, -, -, k3⟩ := h
    have hT1 := k3 h4 hr
    refine ⟨k1, ?_⟩
    have hT0 : D5.T 0 = ⟨whl (hA 3), 14⟩ := (hs.oth 0 (by decide)).trans (by rw [h5]; exact s3.T)
    have hz3 : (whl (hA 3)).size = 14 := size_A 3 (by omega)
    have hD5 : D5.T 1 = ⟨whl (hA 4), 0⟩ := hT1
    have b0 : bkT D5.T [13] 1 = (D5.T, [13]) := if_pos (by rw [hT0]; show (whl (hA 3)).size - 14 = 0; omega)
    have b1 : bkT D5.T [13] 2 = (upd D5.T 1 (bk 13 (D5.T 1)), []) := by
      show (if (D5.T 1).s.size - (D5.T 1).f = 0 then _ else _ : (Nat → Tp) × List Int) = _
      rw [if_neg (by rw [hD5]; show ¬ ((whl (hA 4)).size - 0 = 0); omega), b0]
      rfl
    have t1 : D6.T 1 = bk 13 (D5.T 1) := by
      show (bkT D5.T [13] 32).1 1 = _
      rw [bkT_keeps D5.T [13] 1 30 2 (by omega), b1]
      exact upd_same D5.T 1 _
    have t0' : D6.T 0 = D5.T 0 := by
      show (bkT D5.T [13] 32).1 0 = _
      rw [bkT_keeps D5.T [13] 0 30 2 (by omega), b1]
      exact upd_other D5.T (i := 1) (j := 0) (bk 13 (D5.T 1)) (by decide)
    have hb : (D6.T 1).s = (whl (hA 4)).extract 0 13 := by
      rw [t1, hD5]
      show (whl (hA 4)).extract 0 (0 + (IntKind.u64.wrap 13).toNat % ((whl (hA 4)).size - 0 + 1)) = _
      rw [hz]; rfl
    have := load_old (d := D4) (d' := D6) h2 rfl (fun j hj1 hj => ?_) (by rw [hp, hb]; exact of_torn hm (by omega))
    · rw [hI, if_pos rfl, hH, hT] at this
      exact this
    · obtain rfl : j = 0 := by omega
      rw [t0', hT0, h5, s3.T]
end Go.Proofs.YtpcpbdcdapmlnaaDoor
namespace Go.Proofs.YtpcpbdcdapmlnaaDoor
open Go Go.RowKit
set_option maxRecDepth 100000
theorem loadE_nil (c : Nat) : loadE (c : Int) [] = 0 := by
  unfold loadE
  rw [if_neg (by simp), if_neg (by simp), Int.toNat_natCast, if_neg (by rw [made0_used]; omega)]
theorem wf_nat {c : Nat} (hc : c ≤ 1000000000) : (Lit.int .i64 (c : Int)).wf = true := by
  have h1 : IntKind.i64.min = -9223372036854775808 := by decide
  have h2 : IntKind.i64.max = 9223372036854775807 := by decide
  show (decide (IntKind.i64.min ≤ (c : Int)) && decide ((c : Int) ≤ IntKind.i64.max)) = true
  rw [h1, h2, decide_eq_true (by omega), decide_eq_true (by omega)]
  rfl
set_option maxHeartbeats 400000 in
theorem dnew_any (c : Nat) (hc : c ≤ 1000000000) (w : World) : Calls Tryd.prog 12 #[.int .i64 (c : Int)] w fun e w' => ∃ B, w.heap.size ≤ B ∧ e = .returned (.tuple #[.pointer (some ⟨B, 0, none⟩), .int .i64 0]) ∧ DAt w' B (made0 c []) ∧ (made0 c []).ok ∧ Below w.heap.size w w' := by
  have H := Lib.hid (load_any (c : Int) [] (.slice none 0 0) w (At2.nil w) (wf_nat hc) (by simp) (fun q hq => by cases hq))
  go_enter Tryd.func12, Tryd.ntmps12
  go_wp2_with fail
  refine H.out.mono ?_
  rintro e w1 ⟨hb, ⟨h0, -⟩ | ⟨-, c', hc', hok, B, hB, rfl, hd⟩⟩
  · exact absurd (loadE_nil c) h0
  · obtain rfl : c = c' := by omega
    have HB := Lib.hid hb
    have HD := Lib.hid hd
    clear hb hd
    go_wp2
    go_ret2
    exact ⟨B, hB, rfl, HD.out, hok, HB.out⟩
set_option maxHeartbeats 1000000 in
theorem on_yes (p : Value) (h : He) (t : Nat) (w : World) (H : Calls Tryd.prog 17 #[p] w (LdRet w h (t : Int) true 0)) : Calls Tryd.prog 37 #[p, .int .i64 h.gen, .int .i64 (t : Int)] w (Ret w (.bool true)) := by
  have HH := Lib.hid H
  clear H
  have e1 : (h.gen == h.gen) = true := by simp
  have e2 : ((t : Int) == (t : Int)) = true := by simp
  go_enter Tryd.func37, Tryd.ntmps37
  go_wp2_with fail
  refine HH.out.mono ?_
  rintro e w1 ⟨v, rfl, ho, hb⟩
  obtain ⟨va, vc, hv⟩ := ho.shape
  rw [List.length_map] at hv
  subst hv
  have HB := Lib.hid hb
  have HV : Hid (hval h (.slice va h.log.length vc) = .agg #[.int .i64 h.gen, .int .i64 h.base, .int .i64 h.snap, .slice va h.log.length vc]) := Lib.hid rfl
  rw [HV.out]
  clear ho hb
  go_wp2
  go_ret
  exact ⟨rfl, HB.out.alloc HB.out.size _⟩
end Go.Proofs.YtpcpbdcdapmlnaaDoor
