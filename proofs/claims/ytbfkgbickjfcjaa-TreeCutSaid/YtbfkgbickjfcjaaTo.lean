/- MayTxn, whole. -/
import Derived.Test.YtbfkgbickjfcjaaTn
namespace Go.Proofs.Ytbfkgbickjfcjaa
set_option linter.unusedVariables false
set_option linter.unusedSimpArgs false
open Go.RowKit
set_option maxRecDepth 100000
def TxV (w : World) (vc vo : Value) (x : Tx) : Prop := RAt encC w vc x.cs ∧ RAt encO w vo x.os ∧ ∀ a n c, vo = .slice a n c → n ≤ c
theorem TxV.below {w w' : World} {vc vo : Value} {x : Tx} (h : TxV w vc vo x) (hb : Below w.heap.size w w') : TxV w' vc vo x := ⟨h.1.below hb, h.2.1.below hb, h.2.2⟩
theorem RAt.take {α : Type} {enc : α → List Value} {W : World} {g o n c i : Nat} {l : List α} (h : RAt enc W (.slice (some ⟨g, o, none⟩) n c) l) (hi : i ≤ l.length) : RAt enc W (.slice (some ⟨g, o, none⟩) i c) (l.take i) := by
  rcases h with ⟨rfl, a', c', hv⟩ | ⟨g', o', c', hv, hg, h⟩
  · obtain rfl : i = 0 := by simpa using hi
    exact .inl ⟨rfl, _, _, rfl⟩
  · injection hv with h1 h2 h3
    injection h1 with h1
    injection h1 with h4 h5
    subst h4 h5
    refine .inr ⟨g, o, c, by rw [List.length_take, Nat.min_eq_left hi], hg, fun j u hj => h j u ?_⟩
    have e : cz enc l = cz enc (l.take i) ++ cz enc (l.drop i) := by rw [← cz_app, List.take_append_drop]
    rw [e, List.getElem?_append_left (List.getElem?_eq_some_iff.1 hj).1]
    exact hj
set_option maxHeartbeats 4000000 in
theorem mayTxn_any (x : Tx) (vc vo : Value) (w : World) (h : TxV w vc vo x) (hlc : x.cs.length ≤ 9223372036854775807) (hlo : x.os.length ≤ 9223372036854775807) :
    Calls Try.prog 18 #[.agg #[vc, vo]] w fun e w' => e = .returned (.bool (mayB x)) ∧ Below w.heap.size w w' := by
  obtain ⟨ca, cc, rfl⟩ := h.1.slice
  obtain ⟨oa, oc, rfl⟩ := h.2.1.slice
  have hcap := h.2.2 _ _ _ rfl
  obtain ⟨R, hR⟩ : ∃ R, mayB x = R := ⟨_, rfl⟩
  have HR := Lib.hid hR
  rw [hR]
  clear hR
  have hbl : Below w.heap.size w (w.alloc (.cells #[.slice ca x.cs.length cc, .slice oa x.os.length oc] 35)) := (Below.refl _ w).alloc (Nat.le_refl _) _
  have HX := Lib.hid (h.below hbl)
  have HBL := Lib.hid hbl
  have hbk : (w.alloc (.cells #[.slice ca x.cs.length cc, .slice oa x.os.length oc] 35)).heap[w.heap.size]? = some (.cells #[.slice ca x.cs.length cc, .slice oa x.os.length oc] 35 (0, 0)) := World.alloc_heap_new _ _
  clear h hbl
  obtain ⟨NC, hNC⟩ : ∃ n, x.cs.length = n := ⟨_, rfl⟩
  obtain ⟨NO, hNO⟩ : ∃ n, x.os.length = n := ⟨_, rfl⟩
  have HNC := Lib.hid hNC
  have HNO := Lib.hid hNO
  rw [hNC, hNO] at HX HBL hbk
  rw [hNC] at hlc ⊢
  rw [hNO] at hlo hcap ⊢
  clear hNC hNO
  by_cases g1 : 8 < NC
  · have hr : R = false := by rw [← HR.out]; unfold mayB; rw [HNC.out, decide_eq_false (by omega)]; rfl
    subst hr
    have g1' : (8 : Int) < (NC : Int) := by omega
    clear g1 hbk
    go_enter Try.func18, Try.ntmps18
    go_wp2
    go_ret
    exact ⟨rfl, HBL.out⟩
  by_cases g2 : 8 < NO
  · have hr : R = false := by rw [← HR.out]; unfold mayB; rw [HNO.out, decide_eq_false (p := NO ≤ 8) (by omega), Bool.and_false]; rfl
    subst hr
    have g1' : decide ((8 : Int) < (NC : Int)) = false := decide_eq_false (by omega)
    have g2' : (8 : Int) < (NO : Int) := by omega
    clear g1 g2 hbk
    go_enter Try.func18, Try.ntmps18
    go_wp2
    go_ret
    exact ⟨rfl, HBL.out⟩
  have hr : R = (x.cs.all cnB && okO [] x.os) := by rw [← HR.out]; unfold mayB; rw [HNC.out, HNO.out, decide_eq_true (by omega), decide_eq_true (by omega)]; rfl
  have g1' : decide ((8 : Int) < (NC : Int)) = false := decide_eq_false (by omega)
  have g2' : decide ((8 : Int) < (NO : Int)) = false := decide_eq_false (by omega)
  have HR2 := Lib.hid hr
  have h8 : NO ≤ 8 := by omega
  clear hr HR g1 g2
  obtain ⟨w1, hw1⟩ : ∃ w1, w.alloc (.cells #[.slice ca NC cc, .slice oa NO oc] 35) = w1 := ⟨_, rfl⟩
  obtain ⟨B, hB⟩ : ∃ n, w.heap.size = n := ⟨_, rfl⟩
  rw [hw1] at HX HBL hbk
  rw [hB] at hbk HBL
  have HSZ : Hid (B ≤ w1.heap.size) := Lib.hid (by rw [← hB]; exact HBL.out.size)
  have HBK := Lib.hid hbk
  have k0 : w1.cell? ⟨B, 0, none⟩ = some (.slice ca NC cc) := by simp [World.cell?, hbk]
  have k1 : w1.cell? ⟨B, 1, none⟩ = some (.slice oa NO oc) := by simp [World.cell?, hbk]
  clear hbk
  go_enter Try.func18, Try.ntmps18
  go_wp2_with fail
  clear hw1 k0 k1
  go_loopw [21] (fun s wr => ∃ i : Nat, s = .int .i64 i ∧ i ≤ NC ∧ Hid (Below w1.heap.size w1 wr ∧ R = ((x.cs.drop i).all cnB && okO [] x.os))) (fun s _ => NC - (intOf s).toNat)
  case atStart => exact ⟨0, rfl, Nat.zero_le _, Lib.hid ⟨Below.refl _ _, HR2.out⟩⟩
  case round =>
    obtain ⟨i, rfl, hi, HH⟩ := hrel
    by_cases hlt : i < NC
    · have hli : i < x.cs.length := by rw [HNC.out]; exact hlt
      obtain ⟨y, hy⟩ : ∃ y, x.cs[i] = y := ⟨_, rfl⟩
      have hA := (HX.out.below HH.out.1).1
      rw [← HNC.out] at hA
      obtain ⟨g, o, c', hv, hg, hc⟩ := hA.pos (by intro e; rw [e] at hli; exact absurd hli (by simp))
      injection hv with hv1 hv2 hv3
      subst hv1
      obtain ⟨q0, q1⟩ := RAt.atC hc i hli
      rw [hy] at q0 q1
      have HBr := Lib.hid HH.out.1
      have hd : R = (cnB y && ((x.cs.drop (i + 1)).all cnB && okO [] x.os)) := by
        rw [HH.out.2, List.drop_eq_getElem_cons hli, List.all_cons, hy, Bool.and_assoc]
      have HD := Lib.hid hd
      have HK := Lib.hid (key_any y.k)
      obtain ⟨q, hq⟩ : ∃ q, keyB y.k.data.toList = q := ⟨_, rfl⟩
      rw [hq] at HK
      have hcn : cnB y = (q && (decide (0 ≤ y.mod) && decide (y.mod ≤ 1099511627776))) := by unfold cnB; rw [hq]
      have HCN := Lib.hid hcn
      clear hA hv2 hv3 hc hg hd HH hy hli hq hcn
      cases q with
      | false =>
        have hr : R = false := by rw [HD.out, HCN.out]; rfl
        subst hr
        go_wp2_with (go_at_call 56; refine (HK.out _).mono ?_; rintro e w' ⟨rfl, rfl⟩)
        go_ret
        exact ⟨rfl, by rw [hB]; exact HBL.out.trans ((HBr.out.alloc HBr.out.size _).mono HSZ.out)⟩
      | true =>
        by_cases m0 : y.mod < 0
        · have hr : R = false := by rw [HD.out, HCN.out, decide_eq_false (p := 0 ≤ y.mod) (by omega)]; rfl
          subst hr
          go_wp2_with (go_at_call 56; refine (HK.out _).mono ?_; rintro e w' ⟨rfl, rfl⟩)
          go_ret
          exact ⟨rfl, by rw [hB]; exact HBL.out.trans ((HBr.out.alloc HBr.out.size _).mono HSZ.out)⟩
        have m0' : decide (y.mod < 0) = false := decide_eq_false m0
        by_cases m1 : 1099511627776 < y.mod
        · have hr : R = false := by rw [HD.out, HCN.out, decide_eq_false (p := y.mod ≤ 1099511627776) (by omega), Bool.and_false]; rfl
          subst hr
          clear m0
          go_wp2_with (go_at_call 56; refine (HK.out _).mono ?_; rintro e w' ⟨rfl, rfl⟩)
          go_ret
          exact ⟨rfl, by rw [hB]; exact HBL.out.trans ((HBr.out.alloc HBr.out.size _).mono HSZ.out)⟩
        have m1' : decide ((1099511627776 : Int) < y.mod) = false := decide_eq_false m1
        have hr : R = ((x.cs.drop (i + 1)).all cnB && okO [] x.os) := by rw [HD.out, HCN.out, decide_eq_true (p := 0 ≤ y.mod) (by omega), decide_eq_true (p := y.mod ≤ 1099511627776) (by omega)]; rfl
        have HR3 := Lib.hid hr
        clear hr m0 m1
        go_wp2_with (go_at_call 56; refine (HK.out _).mono ?_; rintro e w' ⟨rfl, rfl⟩)
        go_roundw
        case rel => exact ⟨i + 1, by simp, by omega, Lib.hid ⟨HBr.out.alloc HBr.out.size _, HR3.out⟩⟩
        case measure => (try simp [intOf]); (try omega)
    · obtain rfl : i = NC := by omega
      have HR3 := Lib.hid (HH.out.2.trans (show _ = okO (x.os.take 0) (x.os.drop 0) by rw [← HNC.out]; simp))
      have HB0 := Lib.hid HH.out.1
      clear HH hlt hi
      have hk := (HB0.out.block B (Array.getElem?_eq_some_iff.1 HBK.out).1).trans HBK.out
      have k1 : wr.cell? ⟨B, 1, none⟩ = some (.slice oa NO oc) := by simp [World.cell?, hk]
      clear hk
      go_wp2_with fail
      clear k1
      obtain ⟨w2, hw2⟩ : ∃ w2, w2 = wr := ⟨_, rfl⟩
      rw [← hw2] at HB0 ⊢
      clear hw2
      go_loopw [43] (fun s wr => ∃ i : Nat, s = .int .i64 i ∧ i ≤ NO ∧ Hid (Below w1.heap.size w1 wr ∧ R = okO (x.os.take i) (x.os.drop i))) (fun s _ => NO - (intOf s).toNat)
      case atStart => exact ⟨0, rfl, Nat.zero_le _, Lib.hid ⟨HB0.out, HR3.out⟩⟩
      case round =>
        obtain ⟨i, rfl, hi, HH⟩ := hrel
        by_cases hlt : i < NO
        · have hli : i < x.os.length := by rw [HNO.out]; exact hlt
          obtain ⟨y, hy⟩ : ∃ y, x.os[i] = y := ⟨_, rfl⟩
          have hA := (HX.out.below HH.out.1).2.1
          rw [← HNO.out] at hA
          obtain ⟨g, o, c', hv, hg, hc⟩ := hA.pos (by intro e; rw [e] at hli; exact absurd hli (by simp))
          injection hv with hv1 hv2 hv3
          subst hv1
          obtain ⟨q0, q1, q2⟩ := RAt.atO hc i hli
          rw [hy] at q0 q1 q2
          have HT := Lib.hid (hA.take (Nat.le_of_lt hli))
          have HBr := Lib.hid HH.out.1
          have hd : R = (opB y && !((x.os.take i).any fun z => z.k.toList == y.k.toList) && okO (x.os.take (i + 1)) (x.os.drop (i + 1))) := by
            rw [HH.out.2, List.drop_eq_getElem_cons hli, hy, okO, List.take_succ_eq_append_getElem hli, hy]
          have HD := Lib.hid hd
          have hbx : Below w1.heap.size w1 (wr.alloc (.cells #[.bool y.del, .string y.k, .string y.v] 72)) := HBr.out.alloc HBr.out.size _
          have HBX := Lib.hid hbx
          have hbb : Below wr.heap.size wr (wr.alloc (.cells #[.bool y.del, .string y.k, .string y.v] 72)) := (Below.refl _ wr).alloc (Nat.le_refl _) _
          have hbk2 : (wr.alloc (.cells #[.bool y.del, .string y.k, .string y.v] 72)).heap[wr.heap.size]? = some (.cells #[.bool y.del, .string y.k, .string y.v] 72 (0, 0)) := World.alloc_heap_new _ _
          have HBK2 := Lib.hid hbk2
          have HO := Lib.hid (mayOp_any y (wr.alloc (.cells #[.bool y.del, .string y.k, .string y.v] 72)))
          have HCO := Lib.hid (fun W (hW : Below (wr.alloc (.cells #[.bool y.del, .string y.k, .string y.v] 72)).heap.size (wr.alloc (.cells #[.bool y.del, .string y.k, .string y.v] 72)) W) =>
            contains_any (x.os.take i) _ wr.heap.size y.k W (HT.out.below (hbb.trans (hW.mono hbb.size))) (by
              have hq := (hW.block wr.heap.size (by simp)).trans HBK2.out
              simp [World.cell?, hq]) (by rw [List.length_take]; omega))
          obtain ⟨p, hp⟩ : ∃ p, opB y = p := ⟨_, rfl⟩
          obtain ⟨a, ha⟩ : ∃ a, (x.os.take i).any (fun z => z.k.toList == y.k.toList) = a := ⟨_, rfl⟩
          rw [hp] at HO HD
          rw [ha] at HCO HD
          have HBKr := Lib.hid ((hbx.block B (Array.getElem?_eq_some_iff.1 HBK.out).1).trans HBK.out)
          clear hA hv2 hv3 hc hg hd HH hy hp ha hbx hbb hbk2
          cases p with
          | false =>
            have hr : R = false := by rw [HD.out]; rfl
            subst hr
            go_wp2_with fail
            refine HO.out.mono ?_
            rintro e w5 ⟨rfl, hb5⟩
            have HB5 := Lib.hid (HBX.out.trans (hb5.mono HBX.out.size))
            clear hb5
            go_wp2
            go_ret
            exact ⟨rfl, by rw [hB]; exact HBL.out.trans (HB5.out.mono HSZ.out)⟩
          | true =>
            go_wp2_with fail
            refine HO.out.mono ?_
            rintro e w5 ⟨rfl, hb5⟩
            have HB5 := Lib.hid (HBX.out.trans (hb5.mono HBX.out.size))
            have hk5 := (hb5.block B (Array.getElem?_eq_some_iff.1 HBKr.out).1).trans HBKr.out
            have k1 : w5.cell? ⟨B, 1, none⟩ = some (.slice (some ⟨g, o, none⟩) NO oc) := by simp [World.cell?, hk5]
            have HCO5 := Lib.hid (HCO.out w5 hb5)
            have hin : i ≤ NO := by omega
            clear hb5 hk5 HCO
            cases a with
            | true =>
              have hr : R = false := by rw [HD.out]; rfl
              subst hr
              go_wp2_with fail
              refine HCO5.out.mono ?_
              rintro e w6 ⟨rfl, hb6⟩
              have HB6 := Lib.hid (HB5.out.trans (hb6.mono HB5.out.size))
              clear hb6
              go_wp2
              go_ret
              exact ⟨rfl, by rw [hB]; exact HBL.out.trans (HB6.out.mono HSZ.out)⟩
            | false =>
              go_wp2_with fail
              refine HCO5.out.mono ?_
              rintro e w6 ⟨rfl, hb6⟩
              have HB6 := Lib.hid (HB5.out.trans (hb6.mono HB5.out.size))
              clear hb6
              go_wp2
              go_roundw
              case rel => exact ⟨i + 1, by simp, by omega, Lib.hid ⟨HB6.out, by rw [HD.out]; rfl⟩⟩
              case measure => (try simp [intOf]); (try omega)
        · obtain rfl : i = NO := by omega
          have hr : R = true := by rw [HH.out.2, ← HNO.out, List.drop_length]; rfl
          subst hr
          go_wp2
          go_ret
          exact ⟨rfl, by rw [hB]; exact HBL.out.trans (HH.out.1.mono HSZ.out)⟩
end Go.Proofs.Ytbfkgbickjfcjaa
