/- The contract of the reader's value. -/
import Derived.Test.YtjhgmlhoefakpaaDoorEs
namespace Go.Proofs.YtjhgmlhoefakpaaDoor
open Go.RowKit
set_option maxRecDepth 100000
set_option maxHeartbeats 2000000
theorem V_eq {n : Nat} {l : List UInt8} (h : l.length ≤ n) : V n l = Vl l := by
  apply Option.ext
  intro o
  exact ⟨fun h1 => V_fuel _ _ _ h1, fun h1 => V_le h h1⟩
theorem Vl_plain {p : List UInt8} (h : ∀ c ∈ p, c ≠ 34 ∧ c ≠ 92) (t : List UInt8) : Vl (p ++ t) = (Vl t).map fun q => (p ++ q.1, q.2) := by
  apply Option.ext
  intro o
  have := V_plain p t t.length o h
  unfold Vl
  rw [List.length_append, this, Option.map_eq_some_iff]
  constructor
  · rintro ⟨q, h1, rfl⟩; exact ⟨q, h1, rfl⟩
  · rintro ⟨q, h1, rfl⟩; exact ⟨q, h1, rfl⟩
theorem Vl_quote (t : List UInt8) : Vl (34 :: t) = some ([], t) := rfl
theorem Vl_esc (t : List UInt8) : Vl (92 :: t) = (esc t).bind fun x => (Vl x.2).map fun o => (enc x.1 ++ o.1, o.2) := by
  show V (t.length + 1) (92 :: t) = _
  rw [V_cons, if_neg (by decide), if_pos rfl]
  cases e : esc t with
  | none => rfl
  | some x =>
    have h1 := (esc_le (x := x.1) (t := x.2) e).1
    simp only [Option.bind_some]
    rw [V_eq (by omega)]
theorem Vl_end {p : List UInt8} (h : ∀ c ∈ p, c ≠ 34 ∧ c ≠ 92) : Vl p = none := by
  have := Vl_plain h []
  rw [List.append_nil] at this
  rw [this]
  rfl
theorem qbp_iff {c : UInt8} : qbp c = true ↔ c = 34 ∨ c = 92 := by unfold qbp; simp
theorem qbp_no {c : UInt8} (h : qbp c = false) : c ≠ 34 ∧ c ≠ 92 := by
  constructor
  · rintro rfl; exact absurd h (by decide)
  · rintro rfl; exact absurd h (by decide)
/-- A builder stays while another block turns that lies below. -/
theorem bu_grown {B b R : Nat} {l : List UInt8} {w w' : World} (h : Bu B b l w) (hg : w.grownBy w' (some R)) (hR : R < B) : Bu B b l w' := by
  have key : ∀ p, Lib.BuilderAtF 54 5 B b p (Lib.byteCells l) w → Lib.BuilderAtF 54 5 B b p (Lib.byteCells l) w' := by
    rintro p ⟨hB, v, hv, hown, hne⟩
    have hlt : b < w.heap.size := (Array.getElem?_eq_some_iff.1 hv).1
    refine ⟨hB, v, (hg.block b hlt (fun e => by have := Option.some.inj e; omega)).trans hv, ⟨hown.1, ?_⟩, hne⟩
    rcases hown.2 with hn | ⟨g, cap, cur, fz, hv2, hbg, hgg, rest⟩
    · exact .inl hn
    · exact .inr ⟨g, cap, cur, fz, hv2, hbg, (hg.block g (Array.getElem?_eq_some_iff.1 hgg).1 (fun e => by have := Option.some.inj e; omega)).trans hgg, rest⟩
  exact h.elim (fun x => .inl (key _ x)) (fun x => .inr (key _ x))
theorem RA.kept {w w' : World} {R b : Nat} {l : List UInt8} (h : RA w R l) (hk : Lib.OthersKept 5 (some b) w w') (hb : R ≠ b) : RA w' R l :=
  hk R _ h (fun e => hb (Option.some.inj e)) (fun c fz e => by cases e)
/-- How much a reader has left. -/
def rlen (R : Nat) (w : World) : Nat := match w.cell? ⟨R, 0, none⟩ with
  | some (.string s) => s.size
  | _ => 0
theorem rlen_eq {w : World} {R : Nat} {l : List UInt8} (h : RA w R l) : rlen R w = l.length := by
  unfold rlen
  rw [h.cell]
  rfl
def valP (l : List UInt8) : Option (List UInt8 × List UInt8) := (behind 34 l).bind Vl
theorem value_any (R : Nat) (l : List UInt8) (hl : l.length ≤ 1000000000) (w : World) (h : RA w R l) :
    Calls Tryd.prog 77 #[.pointer (some ⟨R, 0, none⟩)] w (Rp w R ((valP l).map fun o => (.string (bs o.1), o.2))) := by
  have hRw := h.lt
  have HR0 := Lib.hid (h.alloc (.cells #[.pointer none, .slice none 0 0] 54))
  have HG0 : Hid (w.grownBy (w.alloc (.cells #[.pointer none, .slice none 0 0] 54)) (some R)) := Lib.hid (World.grownBy_alloc w _ _)
  have HB0 : Hid (Bu w.heap.size w.heap.size [] (w.alloc (.cells #[.pointer none, .slice none 0 0] 54))) := Lib.hid (Lib.IsBuilderF.of (Lib.fresh_isBuilder 54 5 w))
  have HC1 := Lib.hid (take1 R 34 l _ HR0.out)
  obtain ⟨X, hX⟩ : ∃ X, valP l = X := ⟨_, rfl⟩
  rw [hX]
  unfold valP at hX
  cases h1 : behind 34 l with
  | none =>
    rw [h1] at hX HC1
    dsimp only [Option.bind, Option.map] at hX HC1
    subst hX
    clear h h1
    go_enter Tryd.func77, Tryd.ntmps77
    go_wp2_with fail
    refine (HC1.out).mono ?_
    rintro e w1 ⟨rfl, hG1⟩
    exact ⟨rfl, rfl, grown_trans HG0.out hG1⟩
  | some t =>
    rw [h1] at hX HC1
    dsimp only [Option.bind, Option.map] at hX HC1
    have htl : t.length + 1 = l.length := behind_len h1
    have HX := Lib.hid hX
    clear h h1 hX
    go_enter Tryd.func77, Tryd.ntmps77
    go_wp2_with fail
    refine (HC1.out).mono ?_
    rintro e w1 ⟨rfl, hR1, hG1⟩
    have HR1 := Lib.hid hR1
    have HG1 : Hid (w.grownBy w1 (some R)) := Lib.hid (grown_trans HG0.out hG1)
    have HB1 : Hid (Bu w.heap.size w.heap.size [] w1 ∧ w.heap.size < w1.heap.size) := Lib.hid ⟨bu_grown HB0.out hG1 hRw, by have := hG1.size; simp at this; omega⟩
    clear hR1 hG1
    go_wp2
    go_loopw [] (fun wr => ∃ (l' acc : List UInt8), Hid (RA wr R l') ∧ Hid (Bu w.heap.size w.heap.size acc wr ∧ w.heap.size < wr.heap.size) ∧ Hid (w.grownBy wr (some R)) ∧ l'.length ≤ 1000000000 ∧ acc.length + 4 * l'.length ≤ 4000000000 ∧ Hid ((Vl l').map (fun o => (acc ++ o.1, o.2)) = X)) (fun wr => rlen R wr)
    case atStart => exact ⟨t, [], HR1, HB1, HG1, by omega, by simp; omega, Lib.hid (by rw [← HX.out]; cases Vl t <;> rfl)⟩
    case round =>
      obtain ⟨l', acc, HR, HB, HG, hl', hacc, HE⟩ := hrel
      have HM : Hid (rlen R wr = l'.length) := Lib.hid (rlen_eq HR.out)
      have HU := Lib.hid (untilqb R l' hl' wr HR.out)
      unfold untilL at HU
      obtain ⟨w0, hw0⟩ : ∃ w0, w0 = wr := ⟨_, rfl⟩
      subst hw0
      have HG0 := HG
      cases hk : fst l' qbp with
      | none =>
        rw [hk] at HU
        dsimp only at HU
        have HN : Hid (X = none) := Lib.hid (by
          have e := HE.out
          rw [Vl_end (fun c hc => qbp_no (fst_none hk c hc))] at e
          exact e.symm)
        clear hk
        go_wp2_with fail
        refine (HU.out).mono ?_
        rintro e w2 ⟨rfl, hG2⟩
        refine ⟨rfl, ?_⟩
        unfold Rp
        rw [HN.out]
        exact ⟨rfl, grown_trans HG.out hG2⟩
      | some k =>
        rw [hk] at HU
        dsimp only at HU
        obtain ⟨hkl, hq, hpn⟩ := fst_some hk
        have hpl : ∀ c ∈ l'.take k, c ≠ 34 ∧ c ≠ 92 := by
          intro c hc
          obtain ⟨j, hj, rfl⟩ := List.getElem_of_mem hc
          rw [List.length_take] at hj
          rw [List.getElem_take]
          exact qbp_no (hpn j (by omega))
        have hsp : l' = l'.take k ++ l'[k] :: l'.drop (k + 1) := by rw [← List.drop_eq_getElem_cons hkl, List.take_append_drop]
        have hv := HE.out
        rw [hsp, Vl_plain hpl] at hv
        have htk : (l'.take k).length = k := by rw [List.length_take]; omega
        have hdl : (l'.drop (k + 1)).length + k + 1 = l'.length := by rw [List.length_drop]; omega
        have hdk : l'.drop k = l'[k] :: l'.drop (k + 1) := List.drop_eq_getElem_cons hkl
        rw [hdk] at HU
        rw [qbp_iff] at hq
        clear hk hpn hpl hsp hdk
        generalize l'[k] = q at *
        clear hkl
        generalize hP : l'.take k = P at *
        generalize hU : l'.drop (k + 1) = u at *
        clear hP hU
        have HS := Lib.hid (show (bs P).size = k from by rw [bs_size]; exact htk)
        go_wp2_with fail
        refine (HU.out).mono ?_
        rintro e w2 ⟨rfl, hR2, hG2⟩
        have HR2 := Lib.hid hR2
        have HG2 : Hid (w.grownBy w2 (some R)) := Lib.hid (grown_trans HG0.out hG2)
        have HB2 : Hid (Bu w.heap.size w.heap.size acc w2 ∧ w.heap.size < w2.heap.size) := Lib.hid ⟨bu_grown HB.out.1 hG2 hRw, Nat.lt_of_lt_of_le HB.out.2 hG2.size⟩
        clear hR2 hG2
        have HW := Lib.hid (wstr_any w.heap.size w.heap.size acc (bs P) w2 HB2.out.1 (by have := HS.out; omega) (Nat.le_of_lt HB2.out.2))
        rw [bs_data] at HW
        go_wp2_with fail
        refine HW.out.mono ?_
        rintro e w3 ⟨rfl, hb3, hB3, hk3⟩
        have HR3 := Lib.hid (HR2.out.kept hk3 (by omega))
        have HB3 : Hid (Bu w.heap.size w.heap.size (acc ++ P) w3 ∧ w.heap.size < w3.heap.size) := Lib.hid ⟨hb3, Nat.lt_of_lt_of_le HB2.out.2 hB3.size⟩
        have HG3 : Hid (w.grownBy w3 (some R)) := Lib.hid (grown_then HG2.out hB3)
        clear hb3 hB3 hk3
        have HN := Lib.hid (next1 R 34 (q :: u) w3 HR3.out)
        rcases hq with rfl | rfl
        · have e34 : behind 34 (34 :: u) = some u := behind_some.2 rfl
          rw [e34] at HN
          dsimp only [Option.isSome, Option.getD] at HN
          have HV : Hid (X = some (acc ++ P, u)) := Lib.hid (by rw [← hv, Vl_quote]; simp)
          clear hv e34
          go_wp2_with fail
          refine (HN.out).mono ?_
          rintro e w4 ⟨rfl, hR4, hG4⟩
          have HR4 := Lib.hid hR4
          have HG4 : Hid (w.grownBy w4 (some R)) := Lib.hid (grown_trans HG3.out hG4)
          have HB4 : Hid (Bu w.heap.size w.heap.size (acc ++ P) w4 ∧ w.heap.size < w4.heap.size) := Lib.hid ⟨bu_grown HB3.out.1 hG4 hRw, Nat.lt_of_lt_of_le HB3.out.2 hG4.size⟩
          clear hR4 hG4
          have HT := Lib.hid (str_any w.heap.size w.heap.size (acc ++ P) w4 HB4.out.1 (Nat.le_of_lt HB4.out.2))
          go_wp2_with fail
          refine HT.out.mono ?_
          rintro e w5 ⟨rfl, hb5, hB5, hk5⟩
          have HR5 := Lib.hid (HR4.out.kept hk5 (by omega))
          have HG5 : Hid (w.grownBy w5 (some R)) := Lib.hid (grown_then HG4.out hB5)
          clear hb5 hB5 hk5
          go_wp2
          go_ret
          unfold Rp
          rw [HV.out]
          exact ⟨rfl, HR5.out, HG5.out⟩
        · have e34 : behind 34 (92 :: u) = none := by show (if (92 : UInt8) = 34 then some u else none) = none; rw [if_neg (by decide)]
          rw [e34] at HN
          dsimp only [Option.isSome, Option.getD] at HN
          have HT := Lib.hid (fun W (h : RA W R (92 :: u)) => take1 R 92 (92 :: u) W h)
          rw [show behind 92 (92 :: u) = some u from behind_some.2 rfl] at HT
          dsimp only [Option.map] at HT
          have HEs := Lib.hid (fun W (h : RA W R u) => escaped_any R u (by omega) W h)
          rw [escP_esc] at HEs
          rw [Vl_esc] at hv
          cases he : esc u with
          | none =>
            rw [he] at hv HEs
            dsimp only [Option.map, Option.bind] at hv HEs
            have HV := Lib.hid hv.symm
            clear hv e34 he
            go_wp2_with fail
            refine (HN.out).mono ?_
            rintro e w4 ⟨rfl, hR4, hG4⟩
            have HR4 := Lib.hid hR4
            have HG4 : Hid (w.grownBy w4 (some R)) := Lib.hid (grown_trans HG3.out hG4)
            clear hR4 hG4
            go_wp2_with fail
            refine (HT.out _ HR4.out).mono ?_
            rintro e w5 ⟨rfl, hR5, hG5⟩
            have HR5 := Lib.hid hR5
            have HG5 : Hid (w.grownBy w5 (some R)) := Lib.hid (grown_trans HG4.out hG5)
            clear hR5 hG5
            go_wp2_with fail
            refine (HEs.out _ HR5.out).mono ?_
            rintro e w6 ⟨rfl, hG6⟩
            refine ⟨rfl, ?_⟩
            unfold Rp
            rw [HV.out]
            exact ⟨rfl, grown_trans HG5.out hG6⟩
          | some x =>
            obtain ⟨r, u2⟩ := x
            rw [he] at hv HEs
            dsimp only [Option.map, Option.bind] at hv HEs
            have hle := esc_le he
            have hrb : r ≤ 1114111 := by have := hle.2; unfold OkR at this; omega
            have hel := enc_length r
            have HV : Hid ((Vl u2).map (fun o => (acc ++ P ++ enc r ++ o.1, o.2)) = X) := Lib.hid (by rw [← hv]; cases Vl u2 <;> simp)
            have HOk := Lib.hid hle.2
            have hu2 : u2.length + 1 ≤ u.length := hle.1
            clear hv e34 he hle
            go_wp2_with fail
            refine (HN.out).mono ?_
            rintro e w4 ⟨rfl, hR4, hG4⟩
            have HR4 := Lib.hid hR4
            have HG4 : Hid (w.grownBy w4 (some R)) := Lib.hid (grown_trans HG3.out hG4)
            have HB4 : Hid (Bu w.heap.size w.heap.size (acc ++ P) w4 ∧ w.heap.size < w4.heap.size) := Lib.hid ⟨bu_grown HB3.out.1 hG4 hRw, Nat.lt_of_lt_of_le HB3.out.2 hG4.size⟩
            clear hR4 hG4
            go_wp2_with fail
            refine (HT.out _ HR4.out).mono ?_
            rintro e w5 ⟨rfl, hR5, hG5⟩
            have HR5 := Lib.hid hR5
            have HG5 : Hid (w.grownBy w5 (some R)) := Lib.hid (grown_trans HG4.out hG5)
            have HB5 : Hid (Bu w.heap.size w.heap.size (acc ++ P) w5 ∧ w.heap.size < w5.heap.size) := Lib.hid ⟨bu_grown HB4.out.1 hG5 hRw, Nat.lt_of_lt_of_le HB4.out.2 hG5.size⟩
            clear hR5 hG5
            go_wp2_with fail
            refine (HEs.out _ HR5.out).mono ?_
            rintro e w6 ⟨rfl, hR6, hG6⟩
            have HR6 := Lib.hid hR6
            have HG6 : Hid (w.grownBy w6 (some R)) := Lib.hid (grown_trans HG5.out hG6)
            have HB6 : Hid (Bu w.heap.size w.heap.size (acc ++ P) w6 ∧ w.heap.size < w6.heap.size) := Lib.hid ⟨bu_grown HB5.out.1 hG6 hRw, Nat.lt_of_lt_of_le HB5.out.2 hG6.size⟩
            clear hR6 hG6
            have HWr := Lib.hid (wrune_any w.heap.size w.heap.size (acc ++ P) r HOk.out w6 HB6.out.1 (by rw [List.length_append, htk]; omega) (Nat.le_of_lt HB6.out.2))
            go_wp2_with fail
            refine HWr.out.mono ?_
            rintro e w7 ⟨rfl, hb7, hB7, hk7⟩
            have HR7 := Lib.hid (HR6.out.kept hk7 (by omega))
            have HB7 : Hid (Bu w.heap.size w.heap.size (acc ++ P ++ enc r) w7 ∧ w.heap.size < w7.heap.size) := Lib.hid ⟨hb7, Nat.lt_of_lt_of_le HB6.out.2 hB7.size⟩
            have HG7 : Hid (w.grownBy w7 (some R)) := Lib.hid (grown_then HG6.out hB7)
            clear hb7 hB7 hk7
            have HAc : Hid ((acc ++ P ++ enc r).length + 4 * u2.length ≤ 4000000000) := Lib.hid (by rw [List.length_append, List.length_append, htk]; omega)
            go_wp2
            go_roundw
            case rel => exact ⟨u2, acc ++ P ++ enc r, HR7, HB7, HG7, by omega, HAc.out, HV⟩
            case measure => rw [HM.out, rlen_eq HR7.out]; omega
end Go.Proofs.YtjhgmlhoefakpaaDoor
