/- SnappyNames: the law answers true. No condition. -/
import Derived.Test.YtnnogjojoeajnaaRows
import Derived.Test.YtnnogjojoeajnaaNm
import Derived.WalkKit
import Derived.ProofKit
import Derived.OpenShut
import Derived.ShutString
namespace Go.Proofs.Ytnnogjojoeajnaa.snappyNames
open Go.ChangeShapes Go.WideShapes Go.ChangeAt Go.RowKit
set_option linter.unusedVariables false
theorem one_at (w : World) (p : Pt) (t : TypeId) : PartsAt (w.alloc (.cells #[.bool p.c, .string p.t, .int .i64 p.o, .int .i64 p.l] t)) (.slice (some ⟨w.heap.size, 0, none⟩) 1 1) [p] := by
  refine .inr ⟨w.heap.size, 1, rfl, fun j hj => ?_⟩
  have hc : ∀ k, (w.alloc (.cells #[.bool p.c, .string p.t, .int .i64 p.o, .int .i64 p.l] t)).cell? ⟨w.heap.size, k, none⟩ = _ := fun k => World.cell?_alloc_mark w _ t (0, 0) k
  rw [hc, hc, hc, hc]
  have hj2 : j < 1 := hj
  match j, hj2, hj with
  | 0, _, _ => exact ⟨rfl, rfl, rfl, rfl⟩
theorem pair_at (w : World) (p q : Pt) (t : TypeId) : PartsAt (w.alloc (.cells #[.bool p.c, .string p.t, .int .i64 p.o, .int .i64 p.l, .bool q.c, .string q.t, .int .i64 q.o, .int .i64 q.l] t)) (.slice (some ⟨w.heap.size, 0, none⟩) 2 2) [p, q] := by
  refine .inr ⟨w.heap.size, 2, rfl, fun j hj => ?_⟩
  have hc : ∀ k, (w.alloc (.cells #[.bool p.c, .string p.t, .int .i64 p.o, .int .i64 p.l, .bool q.c, .string q.t, .int .i64 q.o, .int .i64 q.l] t)).cell? ⟨w.heap.size, k, none⟩ = _ := fun k => World.cell?_alloc_mark w _ t (0, 0) k
  rw [hc, hc, hc, hc]
  have hj2 : j < 2 := hj
  match j, hj2, hj with
  | 0, _, _ => exact ⟨rfl, rfl, rfl, rfl⟩
  | 1, _, _ => exact ⟨rfl, rfl, rfl, rfl⟩
def ltp (s : ByteArray) : Pt := ⟨false, s, 0, 0⟩
theorem ltp_ok (s : ByteArray) (h : s.size ≤ 100000) : (ltp s).ok := ⟨by show s.size ≤ _; omega, by show (-9223372036854775808 : Int) ≤ 0; omega, by show (0 : Int) ≤ _; omega, by show (-9223372036854775808 : Int) ≤ 0; omega, by show (0 : Int) ≤ _; omega⟩
theorem ok1 {p : Pt} (h : p.ok) : ∀ x ∈ [p], x.ok := fun x hx => by
  rw [List.mem_singleton] at hx
  rw [hx]
  exact h
theorem ok2 {p q : Pt} (h : p.ok) (k : q.ok) : ∀ x ∈ [p, q], x.ok := fun x hx => by
  rcases List.mem_cons.1 hx with hx | hx
  · rw [hx]; exact h
  · rw [List.mem_singleton] at hx; rw [hx]; exact k
theorem cnt_ltp (s : ByteArray) : cnt (ltp s) = s.size := rfl
theorem here_ltp (s : ByteArray) (n : Int) : here (ltp s) n = true := rfl
theorem may_ltp (s : ByteArray) (h1 : 1 ≤ s.size) (h2 : s.size ≤ 65536) : may (ltp s) = true := may_lit h1 h2
theorem wl1 (s : ByteArray) (h : 65536 < s.size) : write [ltp s] = ([], 4) := by
  have hm : may (ltp s) = false := by
    unfold may ltp
    simp only [Bool.false_eq_true, if_false, Bool.and_eq_false_iff, decide_eq_false_iff_not]
    exact .inl (by omega)
  have e : expand 65536 [ltp s] [] = ([], 4) := by rw [expand, hm]; rfl
  unfold write
  rw [e, if_pos (by simp)]
theorem ex1 (s : ByteArray) (h : s.size = 65536) (r : List Pt) : expand 65536 (ltp s :: r) [] = expand 65536 r s.data.toList := by
  rw [expand_step (may_ltp s (by omega) (by omega)) (here_ltp s _) (by rw [cnt_ltp]; simp; omega)]
  rfl
theorem wl2 (s : ByteArray) (h : s.size = 65536) : write [ltp s, ltp ⟨#[97]⟩] = ([], 40) := by
  have hl : s.data.toList.length = s.size := by simp
  have e : expand 65536 [ltp s, ltp ⟨#[97]⟩] [] = ([], 40) := by
    rw [ex1 s h, expand, may_ltp _ (by decide) (by decide), here_ltp, if_neg (by simp), if_pos]
    rw [cnt_ltp, hl, h]
    decide
  unfold write
  rw [e, if_pos (by simp)]
theorem wl3 (s : ByteArray) (h : s.size = 65536) : expand 65536 [ltp s] [] = (s.data.toList, 0) := by
  rw [ex1 s h, expand]
theorem wl4 (s : ByteArray) (h : s.size = 65536) : (blk [ltp s] s.data.toList).length = 65542 := by
  have hl : s.data.toList.length = s.size := by simp
  have e : wrt (ltp s) = lhead s.size ++ s.data.toList := rfl
  have e2 : (lhead 65536).length = 3 := by decide
  unfold blk
  rw [List.flatMap_cons, List.flatMap_nil, List.append_nil, e, List.length_append, List.length_append, Bt.vint_length, hl, h, e2, Bt.vlen_big (by omega), Bt.vlen_big (by omega), Bt.vlen_small (by omega)]
/-- A table of rows in memory. -/
def Tb (g : Nat) (W : World) : Prop := ∀ k, k < 25 → W.cell? ⟨g, k * 4, none⟩ = some (.string (row k).s) ∧ W.cell? ⟨g, k * 4 + 1, none⟩ = some (.int .i64 (row k).m) ∧ W.cell? ⟨g, k * 4 + 2, none⟩ = some (.string (row k).w) ∧ W.cell? ⟨g, k * 4 + 3, none⟩ = some (.int .i64 (row k).e)
theorem Tb.new (w : World) : Tb w.heap.size (w.alloc (.cells rcells 24)) := fun k hk => by
  have hc : ∀ j, (w.alloc (.cells rcells 24)).cell? ⟨w.heap.size, j, none⟩ = _ := fun j => World.cell?_alloc_mark w _ 24 (0, 0) j
  rw [hc, hc, hc, hc]
  exact rcells_at k hk
theorem Tb.below {g n : Nat} {W W' : World} (h : Tb g W) (hb : Below n W W') (hg : g < n) : Tb g W' := fun k hk => by
  have e : ∀ o, W'.cell? ⟨g, o, none⟩ = W.cell? ⟨g, o, none⟩ := fun o => World.cell?_of_block (a := ⟨g, o, none⟩) (hb.block g hg)
  rw [e, e, e, e]
  exact h k hk
def Tc (g : Nat) (W : World) : Prop := ∀ k, k < 10 → W.cell? ⟨g, k * 4, none⟩ = some (.bool (bad k).c) ∧ W.cell? ⟨g, k * 4 + 1, none⟩ = some (.string (bad k).t) ∧ W.cell? ⟨g, k * 4 + 2, none⟩ = some (.int .i64 (bad k).o) ∧ W.cell? ⟨g, k * 4 + 3, none⟩ = some (.int .i64 (bad k).l)
theorem Tc.new (w : World) : Tc w.heap.size (w.alloc (.cells bcells 35)) := fun k hk => by
  have hc : ∀ j, (w.alloc (.cells bcells 35)).cell? ⟨w.heap.size, j, none⟩ = _ := fun j => World.cell?_alloc_mark w _ 35 (0, 0) j
  rw [hc, hc, hc, hc]
  exact bcells_at k hk
theorem Tc.below {g n : Nat} {W W' : World} (h : Tc g W) (hb : Below n W W') (hg : g < n) : Tc g W' := fun k hk => by
  have e : ∀ o, W'.cell? ⟨g, o, none⟩ = W.cell? ⟨g, o, none⟩ := fun o => World.cell?_of_block (a := ⟨g, o, none⟩) (hb.block g hg)
  rw [e, e, e, e]
  exact h k hk
theorem below_alloc_trans {w a b : World} {o : Obj} (h : Below w.heap.size w a) (k : Below (a.alloc o).heap.size (a.alloc o) b) : Below w.heap.size w b :=
  (h.alloc h.size o).trans (k.mono (Nat.le_trans h.size (by simp)))
theorem below_trans' {w a b : World} (h : Below w.heap.size w a) (k : Below a.heap.size a b) : Below w.heap.size w b := h.trans (k.mono h.size)
set_option maxRecDepth 100000 in
set_option maxHeartbeats 8000000 in
theorem core (w : World) :
    Calls Try.prog 3 #[] w fun e w' => e = .returned (.bool true) ∧ Below w.heap.size w w' := by
  have HDE := Lib.hid (fun k (hk : k < 25) W => by
    have h := row_small k hk
    have := decode_any (row k).s (by omega) (row k).m h.2.1 h.2.2 W
    rw [row_ok k hk] at this
    exact this)
  obtain ⟨CZ, Z, hZ, hmk, hcv⟩ := made_long
  have HMK := Lib.hid hmk
  have HCV := Lib.hid hcv
  have HZ := Lib.hid hZ
  have hZ1 : (Z.extract 1 65537).size = 65536 := by simp [hZ]
  have HEN := Lib.hid (fun W => encode_any Z W)
  have hen : encode Z.data.toList = ([], 40) := by
    unfold encode
    rw [if_pos (by have : Z.data.toList.length = Z.size := by simp
                   omega)]
  rw [hen] at HEN
  have HPB := Lib.hid (fun W => pack_big Z (by omega) W)
  have HW1 := Lib.hid (fun W : World => write_any [ltp Z] (by simp) (ok1 (ltp_ok _ (by omega))) _ _ (one_at W (ltp Z) 35))
  rw [wl1 Z (by omega)] at HW1
  obtain ⟨Z1, hZZ⟩ : ∃ Z1, Z.extract 1 65537 = Z1 := ⟨_, rfl⟩
  rw [hZZ] at hZ1
  have HZZ := Lib.hid hZZ
  have HW2 := Lib.hid (fun W : World => write_any [ltp Z1, ltp ⟨#[97]⟩] (by simp) (ok2 (ltp_ok _ (by omega)) (ltp_ok _ (by decide))) _ _ (pair_at W (ltp Z1) (ltp ⟨#[97]⟩) 35))
  rw [wl2 Z1 hZ1] at HW2
  have HW3 := Lib.hid (fun W : World => write_any [ltp Z1] (by simp) (ok1 (ltp_ok _ (by omega))) _ _ (one_at W (ltp Z1) 35))
  have hx3 := wl3 Z1 hZ1
  have hw3 : write [ltp Z1] = (blk [ltp Z1] Z1.data.toList, 0) := by
    unfold write
    rw [hx3, if_neg (by simp)]
  have hb3 := wl4 Z1 hZ1
  have hl3 : Z1.data.toList.length = Z1.size := by simp
  have hd3 : decode (blk [ltp Z1] Z1.data.toList) 65536 = (Z1.data.toList, 0) := by rw [decode_blk hx3 (by omega), if_neg (by omega)]
  rw [hw3] at HW3
  clear hw3 hx3 hen
  generalize blk [ltp Z1] Z1.data.toList = B at *
  have hBs : (bs B).size = 65542 := hb3
  have HD3 := Lib.hid (fun W => decode_any (bs B) (by omega) 65536 (by omega) (by omega) W)
  rw [bs_data, hd3] at HD3
  have HX2 := Lib.hid (fun k (hk : k < 10) (W : World) => by
    have := expand_any [abcde, bad k] (by simp) (ok2 (ltp_ok ⟨#[97, 98, 99, 100, 101]⟩ (by decide)) (bad_ok k hk)) 99 (by omega) (by omega) _ _ (pair_at W abcde (bad k) 35)
    rw [bad_no k hk] at this
    exact this)
  have HX3 := Lib.hid (fun W : World => expand_any [abcde] (by simp) (ok1 (ltp_ok ⟨#[97, 98, 99, 100, 101]⟩ (by decide))) 4 (by omega) (by omega) _ _ (one_at W abcde 35))
  rw [show expand 4 [abcde] [] = ([], 40) from by decide +kernel] at HX3
  have HX4 := Lib.hid (fun W : World => expand_any [] (by simp) (by intro p hp; cases hp) (-1) (by omega) (by omega) (.slice none 0 0) W (.inl ⟨rfl, 0, rfl⟩))
  rw [show expand (-1) [] [] = ([], 0) from by decide +kernel] at HX4
  have HMO := Lib.hid (fun W => match_out ⟨#[97, 98, 99]⟩ 3 (.inr (by decide)) W)
  have HBS := Lib.hid hBs
  have HZ1 := Lib.hid hZ1
  clear hd3 hb3 hl3 hBs hZZ hZ1 hmk hcv hZ
  go_enter Try.func3, Try.ntmps3
  go_wp2_with fail
  refine (awake_any _).mono ?_
  rintro e w1 ⟨rfl, hb1⟩
  have HB1 := Lib.hid hb1
  have HT1 := Lib.hid (Tb.new w1)
  have HB1a : Hid (Below w.heap.size w (w1.alloc (.cells rcells 24))) := Lib.hid (hb1.alloc hb1.size _)
  have hsz1 : w1.heap.size < (w1.alloc (.cells rcells 24)).heap.size := by simp
  have HSZ := Lib.hid hsz1
  clear hb1 hsz1
  go_wp2
  go_loopw [57] (fun i wr => ∃ k : Nat, i = .int .i64 (k : Int) ∧ k ≤ 25 ∧ Hid (Tb w1.heap.size wr) ∧ Hid (w1.heap.size < wr.heap.size) ∧ Hid (Below w.heap.size w wr)) (fun i _ => 25 - (intOf i).toNat)
  case atStart => exact ⟨0, rfl, by omega, HT1, HSZ, HB1a⟩
  case round =>
    obtain ⟨k, rfl, hk, HT, HS, HB⟩ := hrel
    by_cases hlt : k < 25
    · obtain ⟨q0, q1, q2, q3⟩ := HT.out k hlt
      have HD := Lib.hid (fun W => HDE.out k hlt W)
      generalize row k = R at *
      obtain ⟨rs, rm, rw', re⟩ := R
      dsimp only at q0 q1 q2 q3 HD
      go_wp2_with fail
      refine (HD.out _).mono ?_
      rintro e w3 ⟨rfl, hb3⟩
      have p2 : w3.cell? ⟨wr.heap.size, 2, none⟩ = some (.string rw') := (hb3.cell (p := ⟨wr.heap.size, 2, none⟩) (by simp)).trans (World.cell?_alloc_mark wr #[.string rs, .int .i64 rm, .string rw', .int .i64 re] 24 (0, 0) 2)
      have p3 : w3.cell? ⟨wr.heap.size, 3, none⟩ = some (.int .i64 re) := (hb3.cell (p := ⟨wr.heap.size, 3, none⟩) (by simp)).trans (World.cell?_alloc_mark wr #[.string rs, .int .i64 rm, .string rw', .int .i64 re] 24 (0, 0) 3)
      have HBa : Hid (Below wr.heap.size wr w3) := Lib.hid (((Below.refl _ wr).alloc (Nat.le_refl _) _).trans (hb3.mono (by simp)))
      have hre : (re != re) = false := by simp
      have hrw : ((bs rw'.data.toList).toList != rw'.toList) = false := by rw [bs_of]; simp
      clear hb3
      go_wp2
      go_roundw
      case rel => exact ⟨k + 1, by go_num, by omega, Lib.hid (HT.out.below HBa.out HS.out), Lib.hid (Nat.lt_of_lt_of_le HS.out HBa.out.size), Lib.hid (HB.out.trans (HBa.out.mono HB.out.size))⟩
      case measure => simp [intOf]; omega
    · obtain rfl : k = 25 := by omega
      have HBX : Hid (Below w.heap.size w wr) := HB
      clear hk hlt
      have hmk := HMK.out
      have hcv := HCV.out
      have hZ := HZ.out
      have hZZ := HZZ.out
      have hBS := HBS.out
      have eqz := bs_of Z1
      dsimp only [ltp] at HW1 HW2 HW3
      go_wp2_with fail
      refine (HEN.out _).mono ?_
      rintro e w4 ⟨rfl, hb4⟩
      have HB4 := Lib.hid (below_alloc_trans HBX.out hb4)
      clear hb4
      go_wp2_with fail
      refine (HPB.out _).mono ?_
      rintro e w5 ⟨rfl, hb5⟩
      have HB5 := Lib.hid (below_trans' HB4.out hb5)
      clear hb5
      go_wp2_with fail
      refine (HW1.out _).mono ?_
      rintro e w6 ⟨rfl, hb6⟩
      have HB6 := Lib.hid (below_alloc_trans HB5.out hb6)
      clear hb6
      go_wp2_with fail
      refine (HW2.out _).mono ?_
      rintro e w7 ⟨rfl, hb7⟩
      have HB7 := Lib.hid (below_alloc_trans HB6.out hb7)
      clear hb7
      go_wp2_with fail
      refine (HW3.out _).mono ?_
      rintro e w8 ⟨rfl, hb8⟩
      have HB8 := Lib.hid (below_alloc_trans HB7.out hb8)
      clear hb8
      go_wp2_with fail
      refine (HD3.out _).mono ?_
      rintro e w9 ⟨rfl, hb9⟩
      have HB9 := Lib.hid (below_trans' HB8.out hb9)
      clear hb9
      have HT9 := Lib.hid (Tc.new w9)
      have HB9a : Hid (Below w.heap.size w (w9.alloc (.cells bcells 35))) := Lib.hid (HB9.out.alloc HB9.out.size _)
      have hsz9 : w9.heap.size < (w9.alloc (.cells bcells 35)).heap.size := by simp
      have HSZ9 := Lib.hid hsz9
      clear hsz9
      go_wp2
      go_loopw [166] (fun i wr => ∃ k : Nat, i = .int .i64 (k : Int) ∧ k ≤ 10 ∧ Hid (Tc w9.heap.size wr) ∧ Hid (w9.heap.size < wr.heap.size) ∧ Hid (Below w.heap.size w wr)) (fun i _ => 10 - (intOf i).toNat)
      case atStart => exact ⟨0, rfl, by omega, HT9, HSZ9, HB9a⟩
      case round =>
        obtain ⟨k, rfl, hk, HT2, HS2, HBr⟩ := hrel
        by_cases hlt : k < 10
        · obtain ⟨q0, q1, q2, q3⟩ := HT2.out k hlt
          have HX := Lib.hid (fun W => HX2.out k hlt W)
          generalize bad k = P at *
          obtain ⟨pc, pt, po, pl⟩ := P
          dsimp only at q0 q1 q2 q3 HX
          dsimp only [abcde] at HX
          have hx := HX.out (wr.alloc (.cells #[.bool pc, .string pt, .int .i64 po, .int .i64 pl] 35))
          rw [World.size_alloc] at hx
          have HXX := Lib.hid hx
          clear hx
          go_wp2_with fail
          refine HXX.out.mono ?_
          rintro e w10 ⟨rfl, hb10⟩
          have HB10 := Lib.hid (below_alloc_trans (HBr.out.alloc HBr.out.size _) hb10)
          have HB11 : Hid (Below wr.heap.size wr w10) := Lib.hid (below_alloc_trans ((Below.refl _ wr).alloc (Nat.le_refl _) _) hb10)
          clear hb10
          go_wp2
          go_roundw
          case rel => exact ⟨k + 1, by go_num, by omega, Lib.hid (HT2.out.below HB11.out HS2.out), Lib.hid (Nat.lt_of_lt_of_le HS2.out HB11.out.size), HB10⟩
          case measure => simp [intOf]; omega
        · obtain rfl : k = 10 := by omega
          dsimp only [abcde] at HX3
          go_wp2_with fail
          refine (HX3.out _).mono ?_
          rintro e w11 ⟨rfl, hb11⟩
          have HB11 := Lib.hid (below_alloc_trans HBr.out hb11)
          clear hb11
          go_wp2_with fail
          refine (HX4.out _).mono ?_
          rintro e w12 ⟨rfl, hb12⟩
          have HB12 := Lib.hid (below_trans' HB11.out hb12)
          clear hb12
          go_wp2_with fail
          refine (HMO.out _).mono ?_
          rintro e w13 ⟨rfl, hb13⟩
          have HB13 := Lib.hid (below_trans' HB12.out hb13)
          clear hb13
          go_wp2
          go_ret
          exact ⟨rfl, HB13.out⟩
theorem own : ownKnob Try.prog.godebug = none := by kernel_rfl
theorem laidOut : laidOutB Try.prog = true := by kernel_rfl
set_option maxRecDepth 100000 in
theorem lifted (os : Os) (started : os.Started) (H : Type) (enc : TypeId × Value → H) :
    ReturnsInHanded {} Try.checked os 3 .any (Rows.snappyNamesSpec.pre6 enc Try.prog Try.f3 Rows.snappyNamesRow.domain false) (Rows.snappyNamesSpec.post enc Try.prog Try.f3 false true false false) := by
  refine returnsInHanded_of_change (C := Try.checked) own started (by kernel_rfl) Try.func3
    (ChangeSpec.witness6 (enc := enc) (C := Try.checked) false ⟨#[], #[], []⟩ 8 (by kernel_rfl) (by kernel_rfl) (by kernel_rfl) (by kernel_rfl)) ?_
  intro W base args ds gs before hval0 hW hcnd _
  have hval : ∀ (j : Nat) t v, Try.f3.params[j]? = some t → args[j]? = some v → Value.okWide Try.prog W .any base t v := hval0
  have hW' := hW
  obtain ⟨p, q, hA0, hV, rfl, hfz, hnd⟩ := hW
  have hA : DataW.TrodAll enc Try.prog W 0 (fun _ => true) true Try.f3.params.toList args.toList ds p := hA0
  rw [Try.params3] at hA hval
  obtain ⟨hargs, rfl, rfl⟩ := trodAll_nil hA
  obtain rfl : args = #[] := by cases args; simp_all
  obtain ⟨rfl, rfl⟩ := trodVars_none hV
  clear hA0 hval0
  refine (core   W ).mono fun e W' ⟨he, bel⟩ => ?_
  subst he
  exact ⟨_, rfl, _, _, _, [], _, [], hW', trodAll_mk1 (shut_bool Try.underlying4 _), trodAll_mk0, rfl, bel.frame _, fun h => by cases h⟩
theorem over : Rows.snappyNamesRow.holds Try.pinned (OpenSpec.ofChange Rows.snappyNamesSpec) :=
  OpenClaim.holds_of_wide 3 Try.f3 rfl rfl rfl rfl rfl rfl rfl ⟨rfl, rfl, rfl, rfl, rfl⟩ rfl rfl rfl rfl rfl (by kernel_rfl) Try.func3 (by kernel_rfl)
    (of_decide_eq_true (by kernel_rfl)) (by unfold Func.isWrapper; first | (rw [if_pos (by decide +kernel)]; kernel_rfl) | (rw [if_neg (by decide +kernel)]; exact ⟨rfl, rfl⟩))
    (fun os started H enc _ => lifted os started H enc)
theorem proved : Rows.SnappyNamesSaid := over
end Go.Proofs.Ytnnogjojoeajnaa.snappyNames
