/- The contracts of the reader of shown labels: an escape, a value, a label. -/
import Derived.Test.YtjhgmlhoefakpaaDoorRd2
namespace Go.Proofs.YtjhgmlhoefakpaaDoor
open Go.RowKit
set_option maxRecDepth 100000
set_option maxHeartbeats 1000000
theorem pre_no {l m : List UInt8} (h : Lib.hasPrefix l m = false) : Lib.trimPrefix l m = l := by unfold Lib.trimPrefix; rw [h]; rfl
theorem pre_yes {l m : List UInt8} (h : Lib.hasPrefix l m = true) : Lib.trimPrefix l m = l.drop m.length := by unfold Lib.trimPrefix; rw [h]; rfl
theorem pre_one (c : UInt8) (l : List UInt8) : Lib.hasPrefix l [c] = (behind c l).isSome ∧ Lib.trimPrefix l [c] = (behind c l).getD l := by
  cases l with
  | nil =>
    have h : Lib.hasPrefix [] [c] = false := by unfold Lib.hasPrefix; simp only [List.isPrefixOf]
    exact ⟨h, pre_no h⟩
  | cons x t =>
    by_cases hx : x = c
    · subst hx
      have e : behind x (x :: t) = some t := behind_some.2 rfl
      have h : Lib.hasPrefix (x :: t) [x] = true := by unfold Lib.hasPrefix; simp only [List.isPrefixOf, beq_self_eq_true, Bool.true_and]
      rw [e, h, pre_yes h]
      exact ⟨rfl, rfl⟩
    · have e : behind c (x :: t) = none := if_neg hx
      have h2 : (c == x) = false := beq_eq_false_iff_ne.2 (fun e => hx e.symm)
      have h : Lib.hasPrefix (x :: t) [c] = false := by unfold Lib.hasPrefix; simp only [List.isPrefixOf, h2, Bool.false_and]
      rw [e, h, pre_no h]
      exact ⟨rfl, rfl⟩
theorem pre_two (c d : UInt8) (l : List UInt8) : Lib.hasPrefix l [c, d] = ((behind c l).bind (behind d)).isSome ∧ Lib.trimPrefix l [c, d] = ((behind c l).bind (behind d)).getD l := by
  cases l with
  | nil =>
    have h : Lib.hasPrefix [] [c, d] = false := by unfold Lib.hasPrefix; simp only [List.isPrefixOf]
    exact ⟨h, pre_no h⟩
  | cons x t =>
    by_cases hx : x = c
    · subst hx
      have e : behind x (x :: t) = some t := behind_some.2 rfl
      rw [e]
      cases t with
      | nil =>
        have h : Lib.hasPrefix [x] [x, d] = false := by unfold Lib.hasPrefix; simp only [List.isPrefixOf, Bool.and_false]
        exact ⟨h, pre_no h⟩
      | cons y u =>
        by_cases hy : y = d
        · subst hy
          have e : behind y (y :: u) = some u := behind_some.2 rfl
          have h : Lib.hasPrefix (x :: y :: u) [x, y] = true := by unfold Lib.hasPrefix; simp only [List.isPrefixOf, beq_self_eq_true, Bool.true_and]
          rw [Option.bind_some, e, h, pre_yes h]
          exact ⟨rfl, rfl⟩
        · have e : behind d (y :: u) = none := if_neg hy
          have h3 : (d == y) = false := beq_eq_false_iff_ne.2 (fun e => hy e.symm)
          have h : Lib.hasPrefix (x :: y :: u) [x, d] = false := by unfold Lib.hasPrefix; simp only [List.isPrefixOf, h3, Bool.false_and, Bool.and_false]
          rw [Option.bind_some, e, h, pre_no h]
          exact ⟨rfl, rfl⟩
    · have e : behind c (x :: t) = none := if_neg hx
      have h2 : (c == x) = false := beq_eq_false_iff_ne.2 (fun e => hx e.symm)
      have h : Lib.hasPrefix (x :: t) [c, d] = false := by unfold Lib.hasPrefix; simp only [List.isPrefixOf, h2, Bool.false_and]
      rw [e, h, pre_no h]
      exact ⟨rfl, rfl⟩
theorem next1 (R : Nat) (c : UInt8) (l : List UInt8) (w : World) (h : RA w R l) : Calls Tryd.prog 60 #[.pointer (some ⟨R, 0, none⟩), .string { data := #[c] }] w (Rp w R (some (.bool (behind c l).isSome, (behind c l).getD l))) := by
  have := next_any R l { data := #[c] } w h
  have e := pre_one c l
  rw [show ({ data := #[c] } : ByteArray).data.toList = [c] from rfl, e.1, e.2] at this
  exact this
theorem take1 (R : Nat) (c : UInt8) (l : List UInt8) (w : World) (h : RA w R l) : Calls Tryd.prog 58 #[.pointer (some ⟨R, 0, none⟩), .string { data := #[c] }] w (Rp w R ((behind c l).map fun t => (.tuple #[], t))) := by
  have := take_any R l { data := #[c] } w h
  have e := pre_one c l
  unfold takeL at this
  rw [show ({ data := #[c] } : ByteArray).data.toList = [c] from rfl, e.1, e.2] at this
  cases hb : behind c l with
  | none => rw [hb] at this; exact this
  | some t => rw [hb] at this; exact this
theorem take2 (R : Nat) (c d : UInt8) (l : List UInt8) (w : World) (h : RA w R l) : Calls Tryd.prog 58 #[.pointer (some ⟨R, 0, none⟩), .string { data := #[c, d] }] w (Rp w R (((behind c l).bind (behind d)).map fun t => (.tuple #[], t))) := by
  have := take_any R l { data := #[c, d] } w h
  have e := pre_two c d l
  unfold takeL at this
  rw [show ({ data := #[c, d] } : ByteArray).data.toList = [c, d] from rfl, e.1, e.2] at this
  cases hb : (behind c l).bind (behind d) with
  | none => rw [hb] at this; exact this
  | some t => rw [hb] at this; exact this
theorem until125 (R : Nat) (l : List UInt8) (hl : l.length ≤ 1000000000) (w : World) (h : RA w R l) : Calls Tryd.prog 76 #[.pointer (some ⟨R, 0, none⟩), .string { data := #[125] }] w (Rp w R (untilL is125 l)) :=
  until_any R l hl _ is125 w h (fun W => ione_any (bs l) 125 (by decide) W)
def p61 (c : UInt8) : Bool := [(61 : UInt8)].contains c
theorem until61 (R : Nat) (l : List UInt8) (hl : l.length ≤ 1000000000) (w : World) (h : RA w R l) : Calls Tryd.prog 76 #[.pointer (some ⟨R, 0, none⟩), .string { data := #[61] }] w (Rp w R (untilL p61 l)) :=
  until_any R l hl _ p61 w h (fun W => ione_any (bs l) 61 (by decide) W)
theorem untilqb (R : Nat) (l : List UInt8) (hl : l.length ≤ 1000000000) (w : World) (h : RA w R l) : Calls Tryd.prog 76 #[.pointer (some ⟨R, 0, none⟩), .string { data := #[34, 92] }] w (Rp w R (untilL qbp l)) :=
  until_any R l hl _ qbp w h (fun W => iqb_any (bs l) (by rw [bs_size]; exact hl) W)
theorem valid_ok (n : Nat) : Lib.validRune (n : Int) = decide (OkR n) := by
  unfold Lib.validRune
  by_cases h : OkR n
  · rw [decide_eq_true h]
    unfold OkR at h
    exact decide_eq_true (by omega)
  · rw [decide_eq_false h]
    unfold OkR at h
    exact decide_eq_false (by omega)
theorem behind_len {c : UInt8} {l t : List UInt8} (h : behind c l = some t) : t.length + 1 = l.length := by rw [behind_some] at h; rw [h]; rfl
theorem escaped_any (R : Nat) (l : List UInt8) (hl : l.length ≤ 1000000000) (w : World) (h : RA w R l) :
    Calls Tryd.prog 87 #[.pointer (some ⟨R, 0, none⟩)] w (Rp w R ((escP l).map fun x => (.int .i32 x.1, x.2))) := by
  have HR0 := Lib.hid h
  have HG0 : Hid (w.grownBy w (some R)) := Lib.hid (World.grownBy.refl w _)
  have HC1 := Lib.hid (next1 R 92 l w h)
  clear h
  obtain ⟨X, hX⟩ : ∃ X, escP l = X := ⟨_, rfl⟩
  rw [hX]
  unfold escP at hX
  cases h1 : behind 92 l with
  | some t =>
    rw [h1] at hX HC1
    dsimp only at hX HC1
    subst hX
    go_enter Tryd.func87, Tryd.ntmps87
    go_wp2_with fail
    refine (HC1.out).mono ?_
    rintro e w1 ⟨rfl, hR1, hG1⟩
    have HR1 := Lib.hid hR1
    have HG1 : Hid (w.grownBy w1 (some R)) := Lib.hid (grown_trans HG0.out hG1)
    clear hR1 hG1
    go_wp2
    go_ret
    exact ⟨rfl, HR1.out, HG1.out⟩
  | none =>
    rw [h1] at hX HC1
    dsimp only [Option.isSome, Option.getD] at hX HC1
    have HC2 := Lib.hid (fun W (h : RA W R l) => next1 R 34 l W h)
    cases h2 : behind 34 l with
    | some t =>
      rw [h2] at hX HC2
      dsimp only [Option.isSome, Option.getD] at hX HC2
      subst hX
      go_enter Tryd.func87, Tryd.ntmps87
      go_wp2_with fail
      refine (HC1.out).mono ?_
      rintro e w1 ⟨rfl, hR1, hG1⟩
      have HR1 := Lib.hid hR1
      have HG1 : Hid (w.grownBy w1 (some R)) := Lib.hid (grown_trans HG0.out hG1)
      clear hR1 hG1
      go_wp2_with fail
      refine (HC2.out _ HR1.out).mono ?_
      rintro e w2 ⟨rfl, hR2, hG2⟩
      have HR2 := Lib.hid hR2
      have HG2 : Hid (w.grownBy w2 (some R)) := Lib.hid (grown_trans HG1.out hG2)
      clear hR2 hG2
      go_wp2
      go_ret
      exact ⟨rfl, HR2.out, HG2.out⟩
    | none =>
      rw [h2] at hX HC2
      dsimp only [Option.isSome, Option.getD] at hX HC2
      have HC3 := Lib.hid (fun W (h : RA W R l) => take2 R 117 123 l W h)
      cases h3 : (behind 117 l).bind (behind 123) with
      | none =>
        rw [h3] at hX HC3
        dsimp only [Option.map] at hX HC3
        subst hX
        go_enter Tryd.func87, Tryd.ntmps87
        go_wp2_with fail
        refine (HC1.out).mono ?_
        rintro e w1 ⟨rfl, hR1, hG1⟩
        have HR1 := Lib.hid hR1
        have HG1 : Hid (w.grownBy w1 (some R)) := Lib.hid (grown_trans HG0.out hG1)
        clear hR1 hG1
        go_wp2_with fail
        refine (HC2.out _ HR1.out).mono ?_
        rintro e w2 ⟨rfl, hR2, hG2⟩
        have HR2 := Lib.hid hR2
        have HG2 : Hid (w.grownBy w2 (some R)) := Lib.hid (grown_trans HG1.out hG2)
        clear hR2 hG2
        go_wp2_with fail
        refine (HC3.out _ HR2.out).mono ?_
        rintro e w3 ⟨rfl, hG3⟩
        exact ⟨rfl, rfl, grown_trans HG2.out hG3⟩
      | some u =>
        rw [h3] at hX HC3
        dsimp only [Option.map] at hX HC3
        have hul : u.length ≤ 1000000000 := by
          obtain ⟨t, e1, e2⟩ := Option.bind_eq_some_iff.1 h3
          have := behind_len e1
          have := behind_len e2
          omega
        have HC4 := Lib.hid (fun W (h : RA W R u) => until125 R u hul W h)
        unfold hexP at hX
        unfold untilL at HC4
        clear h1 h2 h3
        cases h4 : fst u is125 with
        | none =>
          rw [h4] at hX HC4
          dsimp only at hX HC4
          subst hX
          go_enter Tryd.func87, Tryd.ntmps87
          go_wp2_with fail
          refine (HC1.out).mono ?_
          rintro e w1 ⟨rfl, hR1, hG1⟩
          have HR1 := Lib.hid hR1
          have HG1 : Hid (w.grownBy w1 (some R)) := Lib.hid (grown_trans HG0.out hG1)
          clear hR1 hG1
          go_wp2_with fail
          refine (HC2.out _ HR1.out).mono ?_
          rintro e w2 ⟨rfl, hR2, hG2⟩
          have HR2 := Lib.hid hR2
          have HG2 : Hid (w.grownBy w2 (some R)) := Lib.hid (grown_trans HG1.out hG2)
          clear hR2 hG2
          go_wp2_with fail
          refine (HC3.out _ HR2.out).mono ?_
          rintro e w3 ⟨rfl, hR3, hG3⟩
          have HR3 := Lib.hid hR3
          have HG3 : Hid (w.grownBy w3 (some R)) := Lib.hid (grown_trans HG2.out hG3)
          clear hR3 hG3
          go_wp2_with fail
          refine (HC4.out _ HR3.out).mono ?_
          rintro e w4 ⟨rfl, hG4⟩
          exact ⟨rfl, rfl, grown_trans HG3.out hG4⟩
        | some k =>
          rw [h4] at hX HC4
          dsimp only at hX HC4
          have HC5 := Lib.hid (fun W => number_any (bs (u.take k)) W)
          rw [bs_data] at HC5
          have hk5 : behind 125 (u.drop k) = some (u.drop (k + 1)) := by
            obtain ⟨hk, e1, _⟩ := fst_some h4
            rw [is125_iff] at e1
            rw [List.drop_eq_getElem_cons hk, e1]
            exact behind_some.2 rfl
          have HC6 := Lib.hid (fun W (h : RA W R (u.drop k)) => take1 R 125 (u.drop k) W h)
          rw [hk5] at HC6
          dsimp only [Option.map] at HC6
          clear hk5 h4
          generalize u.drop k = t at *
          generalize u.drop (k + 1) = t' at *
          generalize bs (u.take k) = S at *
          cases h5 : numL (u.take k) with
          | none =>
            rw [h5] at hX HC5
            dsimp only at hX
            subst hX
            go_enter Tryd.func87, Tryd.ntmps87
            go_wp2_with fail
            refine (HC1.out).mono ?_
            rintro e w1 ⟨rfl, hR1, hG1⟩
            have HR1 := Lib.hid hR1
            have HG1 : Hid (w.grownBy w1 (some R)) := Lib.hid (grown_trans HG0.out hG1)
            clear hR1 hG1
            go_wp2_with fail
            refine (HC2.out _ HR1.out).mono ?_
            rintro e w2 ⟨rfl, hR2, hG2⟩
            have HR2 := Lib.hid hR2
            have HG2 : Hid (w.grownBy w2 (some R)) := Lib.hid (grown_trans HG1.out hG2)
            clear hR2 hG2
            go_wp2_with fail
            refine (HC3.out _ HR2.out).mono ?_
            rintro e w3 ⟨rfl, hR3, hG3⟩
            have HR3 := Lib.hid hR3
            have HG3 : Hid (w.grownBy w3 (some R)) := Lib.hid (grown_trans HG2.out hG3)
            clear hR3 hG3
            go_wp2_with fail
            refine (HC4.out _ HR3.out).mono ?_
            rintro e w4 ⟨rfl, hR4, hG4⟩
            have HR4 := Lib.hid hR4
            have HG4 : Hid (w.grownBy w4 (some R)) := Lib.hid (grown_trans HG3.out hG4)
            clear hR4 hG4
            go_wp2_with fail
            refine (HC5.out _).mono ?_
            rintro e w5 ⟨rfl, rfl⟩
            exact ⟨rfl, rfl, HG4.out⟩
          | some n =>
            rw [h5] at hX HC5
            dsimp only at hX
            have HC7 := Lib.hid (fun W => Tryd.utf8_ValidRune (n : Int) W)
            have hv := valid_ok n
            rw [hv] at HC7
            clear h5 hv
            by_cases h6 : OkR n
            · rw [if_pos h6] at hX
              rw [decide_eq_true h6] at HC7
              subst hX
              have HY := Lib.hid (fun W => must_yes W)
              go_enter Tryd.func87, Tryd.ntmps87
              go_wp2_with fail
              refine (HC1.out).mono ?_
              rintro e w1 ⟨rfl, hR1, hG1⟩
              have HR1 := Lib.hid hR1
              have HG1 : Hid (w.grownBy w1 (some R)) := Lib.hid (grown_trans HG0.out hG1)
              clear hR1 hG1
              go_wp2_with fail
              refine (HC2.out _ HR1.out).mono ?_
              rintro e w2 ⟨rfl, hR2, hG2⟩
              have HR2 := Lib.hid hR2
              have HG2 : Hid (w.grownBy w2 (some R)) := Lib.hid (grown_trans HG1.out hG2)
              clear hR2 hG2
              go_wp2_with fail
              refine (HC3.out _ HR2.out).mono ?_
              rintro e w3 ⟨rfl, hR3, hG3⟩
              have HR3 := Lib.hid hR3
              have HG3 : Hid (w.grownBy w3 (some R)) := Lib.hid (grown_trans HG2.out hG3)
              clear hR3 hG3
              go_wp2_with fail
              refine (HC4.out _ HR3.out).mono ?_
              rintro e w4 ⟨rfl, hR4, hG4⟩
              have HR4 := Lib.hid hR4
              have HG4 : Hid (w.grownBy w4 (some R)) := Lib.hid (grown_trans HG3.out hG4)
              clear hR4 hG4
              go_wp2_with fail
              refine (HC5.out _).mono ?_
              rintro e w4 ⟨rfl, rfl⟩
              go_wp2_with fail
              refine (HC6.out _ HR4.out).mono ?_
              rintro e w5 ⟨rfl, hR5, hG5⟩
              have HR5 := Lib.hid hR5
              have HG5 : Hid (w.grownBy w5 (some R)) := Lib.hid (grown_trans HG4.out hG5)
              clear hR5 hG5
              go_wp2_with (first | (go_at_call 103; refine (HC7.out _).mono ?_; rintro e w6 ⟨rfl, rfl⟩) | (go_at_call 61; refine (HY.out _).mono ?_; rintro e w6 ⟨rfl, rfl⟩))
              go_ret
              exact ⟨rfl, HR5.out, HG5.out⟩
            · rw [if_neg h6] at hX
              rw [decide_eq_false h6] at HC7
              subst hX
              have HY := Lib.hid (fun W => must_no W)
              go_enter Tryd.func87, Tryd.ntmps87
              go_wp2_with fail
              refine (HC1.out).mono ?_
              rintro e w1 ⟨rfl, hR1, hG1⟩
              have HR1 := Lib.hid hR1
              have HG1 : Hid (w.grownBy w1 (some R)) := Lib.hid (grown_trans HG0.out hG1)
              clear hR1 hG1
              go_wp2_with fail
              refine (HC2.out _ HR1.out).mono ?_
              rintro e w2 ⟨rfl, hR2, hG2⟩
              have HR2 := Lib.hid hR2
              have HG2 : Hid (w.grownBy w2 (some R)) := Lib.hid (grown_trans HG1.out hG2)
              clear hR2 hG2
              go_wp2_with fail
              refine (HC3.out _ HR2.out).mono ?_
              rintro e w3 ⟨rfl, hR3, hG3⟩
              have HR3 := Lib.hid hR3
              have HG3 : Hid (w.grownBy w3 (some R)) := Lib.hid (grown_trans HG2.out hG3)
              clear hR3 hG3
              go_wp2_with fail
              refine (HC4.out _ HR3.out).mono ?_
              rintro e w4 ⟨rfl, hR4, hG4⟩
              have HR4 := Lib.hid hR4
              have HG4 : Hid (w.grownBy w4 (some R)) := Lib.hid (grown_trans HG3.out hG4)
              clear hR4 hG4
              go_wp2_with fail
              refine (HC5.out _).mono ?_
              rintro e w4 ⟨rfl, rfl⟩
              go_wp2_with fail
              refine (HC6.out _ HR4.out).mono ?_
              rintro e w5 ⟨rfl, hR5, hG5⟩
              have HR5 := Lib.hid hR5
              have HG5 : Hid (w.grownBy w5 (some R)) := Lib.hid (grown_trans HG4.out hG5)
              clear hR5 hG5
              go_wp2_with (first | (go_at_call 103; refine (HC7.out _).mono ?_; rintro e w6 ⟨rfl, rfl⟩) | (go_at_call 61; refine (HY.out _).mono ?_; rintro e w6 ⟨rfl, rfl⟩))
              exact ⟨rfl, rfl, HG5.out⟩
end Go.Proofs.YtjhgmlhoefakpaaDoor
