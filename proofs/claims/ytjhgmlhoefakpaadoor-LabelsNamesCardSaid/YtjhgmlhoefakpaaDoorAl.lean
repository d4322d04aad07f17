/- The contracts of all labels that are shown, and of Parse. -/
import Derived.Test.YtjhgmlhoefakpaaDoorLa
import Derived.Recover
import Derived.Defers
import Derived.Laws.Pointers
namespace Go.Proofs.YtjhgmlhoefakpaaDoor
open Go.RowKit
set_option maxRecDepth 100000
set_option maxHeartbeats 2000000
/-- What all labels leave. -/
def AlRet (w : World) (R : Nat) (o : Option (List Lb)) (e : Ending) (w' : World) : Prop := (match o with
  | some m => ∃ u, e = .returned u ∧ Ol w' w.heap.size u m
  | none => e = .panicked pn) ∧ w.grownBy w' (some R)
/-- How labels go on behind one. -/
def more (n : Nat) (r : List UInt8) : Option (List Lb × List UInt8) := match behind 44 r with
  | some t => labs Vl n t
  | none => some ([], r)
theorem labs_more (n : Nat) (l : List UInt8) : labs Vl (n + 1) l = (lab Vl l).bind fun o => (more n o.2).map fun p => (o.1 :: p.1, p.2) := by
  unfold more
  show (lab Vl l).bind _ = _
  cases lab Vl l with
  | none => rfl
  | some o =>
    simp only [Option.bind_some]
    cases behind 44 o.2 with
    | none => rfl
    | some t => rfl
theorem fin_pre {pre : List Lb} {t : List UInt8} : fin (some (pre, 125 :: t)) = if t = [] ∧ mayL pre = true then some pre else none := by
  unfold fin
  simp only [Option.bind_some]
  by_cases h : t = [] ∧ mayL pre = true
  · rw [if_pos h, if_pos ⟨by rw [h.1], h.2⟩]
  · rw [if_neg h, if_neg]
    rintro ⟨h1, h2⟩
    exact h ⟨by simpa using h1, h2⟩
theorem fin_no {o : Option (List Lb × List UInt8)} (h : ∀ p, o = some p → behind 125 p.2 = none) : fin o = none := by
  cases e : fin o with
  | none => rfl
  | some l =>
    obtain ⟨h1, _⟩ := fin_some.1 e
    have := h _ h1
    rw [show behind 125 (l, [125]).2 = some [] from behind_some.2 rfl] at this
    cases this
theorem all_any (R : Nat) (l : List UInt8) (hl : l.length ≤ 100000000) (w : World) (h : RA w R l) (hT : Tab w) (hR5 : 5 < R) :
    Calls Tryd.prog 44 #[.pointer (some ⟨R, 0, none⟩)] w (AlRet w R (pars Vl 17 l)) := by
  have hRw := h.lt
  have HT := Lib.hid hT
  have HR0 := Lib.hid h
  have HG0 : Hid (w.grownBy w (some R)) := Lib.hid (World.grownBy.refl w _)
  have HC1 := Lib.hid (take1 R 123 l w h)
  obtain ⟨X, hX⟩ : ∃ X, pars Vl 17 l = X := ⟨_, rfl⟩
  rw [hX]
  unfold pars at hX
  clear h hT
  cases h1 : behind 123 l with
  | none =>
    rw [h1] at hX HC1
    dsimp only [Option.bind, Option.map] at hX HC1
    subst hX
    clear h1
    go_enter Tryd.func44, Tryd.ntmps44
    go_wp2_with fail
    refine (HC1.out).mono ?_
    rintro e w1 ⟨rfl, hG1⟩
    exact ⟨rfl, rfl, hG1⟩
  | some t =>
    rw [h1] at hX HC1
    dsimp only [Option.bind, Option.map] at hX HC1
    have htl : t.length ≤ 100000000 := by have := behind_len h1; omega
    rw [labs_more] at hX
    have HC2 := Lib.hid (fun W (h : RA W R t) => label_any R t htl W h)
    cases h2 : lab Vl t with
    | none =>
      rw [h2] at hX HC2
      dsimp only [Option.bind, Option.map] at hX HC2
      have HX : Hid (X = none) := Lib.hid (by rw [← hX]; rfl)
      clear h1 h2 hX
      go_enter Tryd.func44, Tryd.ntmps44
      go_wp2_with fail
      refine (HC1.out).mono ?_
      rintro e w1 ⟨rfl, hR1, hG1⟩
      have HR1 := Lib.hid hR1
      have HG1 : Hid (w.grownBy w1 (some R)) := Lib.hid (grown_trans HG0.out hG1)
      clear hR1 hG1
      go_wp2_with fail
      refine (HC2.out _ HR1.out).mono ?_
      rintro e w2 ⟨rfl, hG2⟩
      refine ⟨rfl, ?_⟩
      rw [HX.out]
      exact ⟨rfl, grown_trans HG1.out hG2⟩
    | some x0 =>
      obtain ⟨x, r⟩ := x0
      rw [h2] at hX HC2
      dsimp only [Option.bind, Option.map] at hX HC2
      have hrl : r.length ≤ 100000000 := by have := lab_short h2; omega
      have hxw : x.n.size ≤ 100000000 ∧ x.v.size ≤ 400000000 := by
        obtain ⟨t', o, e1, e2, rfl⟩ := lab_some.1 h2
        have e3 := V_long _ _ _ _ e2
        have e4 := dropWhile_le (· != 61) t
        rw [e1] at e4
        simp at e4
        have e5 := (List.takeWhile_prefix (l := t) (· != 61)).length_le
        have e6 := mkL_size (t.takeWhile (· != 61)) o
        rw [e6.1, e6.2]
        omega
      have HX := Lib.hid hX
      clear h1 h2 hX
      unfold lv at HC2
      go_enter Tryd.func44, Tryd.ntmps44
      go_wp2_with fail
      refine (HC1.out).mono ?_
      rintro e w1 ⟨rfl, hR1, hG1⟩
      have HR1 := Lib.hid hR1
      have HG1 : Hid (w.grownBy w1 (some R)) := Lib.hid (grown_trans HG0.out hG1)
      clear hR1 hG1
      go_wp2_with fail
      refine (HC2.out _ HR1.out).mono ?_
      rintro e w2 ⟨rfl, hR2, hG2⟩
      have HR2 := Lib.hid hR2
      have HG2 : Hid (w.grownBy w2 (some R)) := Lib.hid (grown_trans HG1.out hG2)
      clear hR2 hG2
      have HO2 : Hid (Ol (w2.alloc (.cells #[.string x.n, .string x.v] 28)) w.heap.size (.slice (some ⟨w2.heap.size, 0, none⟩) 1 1) [x]) := Lib.hid (ol_one w2 w.heap.size HG2.out.size x)
      have HR3 := Lib.hid (HR2.out.alloc (.cells #[.string x.n, .string x.v] 28))
      have HG3 : Hid (w.grownBy (w2.alloc (.cells #[.string x.n, .string x.v] 28)) (some R)) := Lib.hid (grown_then HG2.out ((Below.refl w.heap.size w2).alloc HG2.out.size _))
      go_wp2
      go_loopw [3] (fun u wr => ∃ (pre : List Lb) (l' : List UInt8), Hid (RA wr R l') ∧ Hid (Ol wr w.heap.size u pre) ∧ Hid (w.grownBy wr (some R)) ∧ 1 ≤ pre.length ∧ pre.length ≤ 17 ∧ l'.length ≤ 100000000 ∧ Hid (∀ y ∈ pre, y.n.size ≤ 100000000 ∧ y.v.size ≤ 400000000) ∧ Hid (fin ((more (17 - pre.length) l').map fun p => (pre ++ p.1, p.2)) = X)) (fun _ wr => rlen R wr)
      case atStart =>
        refine ⟨[x], r, HR3, HO2, HG3, by simp, by simp, hrl, Lib.hid fun y hy => ?_, Lib.hid ?_⟩
        · simp only [List.mem_singleton] at hy; subst hy; exact hxw
        · rw [← HX.out]
          show fin ((more 16 r).map _) = _
          cases more 16 r <;> rfl
      case round =>
        obtain ⟨pre, l', HR, HO, HG, hp1, hp17, hl', HWd, HE⟩ := hrel
        have HM : Hid (rlen R wr = l'.length) := Lib.hid (rlen_eq HR.out)
        obtain ⟨ao, ac, hu⟩ := HO.out.shape
        subst hu
        obtain ⟨w0, hw0⟩ : ∃ w0, w0 = wr := ⟨_, rfl⟩
        subst hw0
        by_cases hgo : pre.length ≤ 16 ∧ (behind 44 l').isSome = true
        · obtain ⟨h16, hsm⟩ := hgo
          obtain ⟨t2, ht2⟩ := Option.isSome_iff_exists.1 hsm
          have h16z : decide ((pre.length : Int) ≤ 16) = true := decide_eq_true (by omega)
          have HN := Lib.hid (next1 R 44 l' w0 HR.out)
          rw [ht2] at HN
          dsimp only [Option.isSome, Option.getD] at HN
          have ht2l := behind_len ht2
          have HL := Lib.hid (fun W (h : RA W R t2) => label_any R t2 (by omega) W h)
          have hE := HE.out
          unfold more at hE
          rw [ht2] at hE
          obtain ⟨m, hm⟩ : ∃ m, 17 - pre.length = m + 1 := ⟨16 - pre.length, by omega⟩
          rw [hm] at hE
          dsimp only at hE
          rw [labs_more] at hE
          have HG0 := HG
          cases hlab : lab Vl t2 with
          | none =>
            rw [hlab] at hE HL
            dsimp only [Option.bind, Option.map] at hE HL
            have HV : Hid (X = none) := Lib.hid (by rw [← hE]; rfl)
            clear hE hlab ht2 hsm
            go_wp2_with fail
            refine (HN.out).mono ?_
            rintro e w4 ⟨rfl, hR4, hG4⟩
            have HR4 := Lib.hid hR4
            have HG4 : Hid (w.grownBy w4 (some R)) := Lib.hid (grown_trans HG0.out hG4)
            clear hR4 hG4
            go_wp2_with fail
            refine (HL.out _ HR4.out).mono ?_
            rintro e w5 ⟨rfl, hG5⟩
            refine ⟨rfl, ?_⟩
            rw [HV.out]
            exact ⟨rfl, grown_trans HG4.out hG5⟩
          | some y0 =>
            obtain ⟨y, r2⟩ := y0
            rw [hlab] at hE HL
            dsimp only [Option.bind, Option.map] at hE HL
            have hrl2 : r2.length + 3 ≤ t2.length := lab_short hlab
            have hyw : y.n.size ≤ 100000000 ∧ y.v.size ≤ 400000000 := by
              obtain ⟨t', o, e1, e2, rfl⟩ := lab_some.1 hlab
              have e3 := V_long _ _ _ _ e2
              have e4 := dropWhile_le (· != 61) t2
              rw [e1] at e4
              simp at e4
              have e5 := (List.takeWhile_prefix (l := t2) (· != 61)).length_le
              have e6 := mkL_size (t2.takeWhile (· != 61)) o
              rw [e6.1, e6.2]
              omega
            have HE2 : Hid (fin ((more (17 - (pre ++ [y]).length) r2).map fun p => (pre ++ [y] ++ p.1, p.2)) = X) := Lib.hid (by
              rw [List.length_append, List.length_singleton, show 17 - (pre.length + 1) = m by omega, ← hE]
              cases more m r2 with
              | none => rfl
              | some p => simp)
            have HYw := Lib.hid hyw
            clear hE hlab ht2 hsm hyw
            unfold lv at HL
            go_wp2_with fail
            refine (HN.out).mono ?_
            rintro e w4 ⟨rfl, hR4, hG4⟩
            have HR4 := Lib.hid hR4
            have HG4 : Hid (w.grownBy w4 (some R)) := Lib.hid (grown_trans HG0.out hG4)
            have HO4 : Hid (Ol w4 w.heap.size (.slice ao pre.length ac) pre) := Lib.hid (HO.out.same fun g hg ho => hG4.block g hg (fun e => by have h1 := (own_lt HO.out g ho).1; have h2 := Option.some.inj e; omega))
            clear hR4 hG4
            go_wp2_with fail
            refine (HL.out _ HR4.out).mono ?_
            rintro e w5 ⟨rfl, hR5, hG5⟩
            have HR5 := Lib.hid hR5
            have HG5 : Hid (w.grownBy w5 (some R)) := Lib.hid (grown_trans HG4.out hG5)
            have HO5 : Hid (Ol w5 w.heap.size (.slice ao pre.length ac) pre) := Lib.hid (HO4.out.same fun g hg ho => hG5.block g hg (fun e => by have h1 := (own_lt HO4.out g ho).1; have h2 := Option.some.inj e; omega))
            clear hR5 hG5
            go_wp2_with (at_builtin; refine wpList_append_l _ _ rfl rfl w.heap.size _ pre rfl (HO5.out.below ((Below.refl w5.heap.size w5).alloc (Nat.le_refl _) _) (Nat.le_refl _)) _ [y] rfl (.inr ⟨_, 0, 1, rfl, fun j hj => ?cz⟩) (by simp; omega) (by have := HG5.out.size; simp; omega) ?_)
            case cz =>
              obtain rfl : j = 0 := by simp at hj; omega
              exact ⟨by simp, by simp⟩
            intro v' w6 hown hgr hblk
            have HO6 := Lib.hid hown
            have HBB : Hid (Below w.heap.size (w5.alloc (.cells #[.string y.n, .string y.v] 28)) w6) := Lib.hid (below_grown hgr (by have := HG5.out.size; simp; omega) (fun g hg => (own_lt HO5.out g hg).1))
            have HB6 : Hid (Below w.heap.size w5 w6) := Lib.hid (((Below.refl w.heap.size w5).alloc HG5.out.size _).trans HBB.out)
            have HR6 : Hid (RA w6 R r2) := Lib.hid ((HB6.out.block R hRw).trans HR5.out)
            have HG6 : Hid (w.grownBy w6 (some R)) := Lib.hid (grown_then HG5.out HB6.out)
            have HP6 : Hid ((pre ++ [y]).length ≤ 17) := Lib.hid (by simp; omega)
            clear hown hgr hblk
            go_wp2
            go_roundw
            case rel =>
              refine ⟨pre ++ [y], r2, HR6, HO6, HG6, by simp, HP6.out, by omega, Lib.hid fun z hz => ?_, HE2⟩
              rcases List.mem_append.1 hz with hz | hz
              · exact HWd.out z hz
              · simp only [List.mem_singleton] at hz; subst hz; exact HYw.out
            case measure => rw [HM.out, rlen_eq HR6.out]; omega
        · have HST : Hid (fin ((more (17 - pre.length) l').map fun p => (pre ++ p.1, p.2)) = X) := HE
          have HFa : Hid ((behind 125 l' = none → X = none) ∧ ∀ t3, behind 125 l' = some t3 → X = if t3 = [] ∧ mayL pre = true then some pre else none) := Lib.hid (by
            rw [← HE.out]
            unfold more
            cases h44 : behind 44 l' with
            | some t2 =>
              have h17 : pre.length = 17 := by
                rw [h44] at hgo
                simp at hgo
                omega
              rw [h17]
              refine ⟨fun _ => rfl, fun t3 h3 => ?_⟩
              rw [behind_some] at h44 h3
              rw [h3] at h44
              cases h44
            | none =>
              refine ⟨fun h3 => ?_, fun t3 h3 => ?_⟩
              · refine fin_no ?_
                intro p hp
                simp at hp
                rw [← hp]
                exact h3
              · rw [behind_some] at h3
                rw [h3]
                show fin (some (pre ++ [], 125 :: t3)) = _
                rw [List.append_nil]
                exact fin_pre)
          have HTk := Lib.hid (fun W (h : RA W R l') => take1 R 125 l' W h)
          have HNx : Hid (pre.length ≤ 16 → Calls Tryd.prog 60 #[.pointer (some ⟨R, 0, none⟩), .string { data := #[44] }] w0 (Rp w0 R (some (.bool false, l')))) := Lib.hid (fun h16 => by
            have := next1 R 44 l' w0 HR.out
            cases h44 : behind 44 l' with
            | some t2 => rw [h44] at hgo; exact absurd ⟨h16, rfl⟩ hgo
            | none => rw [h44] at this; exact this)
          have hbe : ∀ W t3, RA W R t3 → True := fun _ _ _ => trivial
          clear hgo hbe
          have HG0 := HG
          by_cases h16 : pre.length ≤ 16
          · have h16z : decide ((pre.length : Int) ≤ 16) = true := decide_eq_true (by omega)
            cases h125 : behind 125 l' with
            | none =>
              rw [h125] at HTk
              dsimp only [Option.map] at HTk
              have HV := Lib.hid (HFa.out.1 h125)
              clear h125
              go_wp2_with fail
              refine (HNx.out h16).mono ?_
              rintro e w4 ⟨rfl, hR4, hG4⟩
              have HR4 := Lib.hid hR4
              have HG4 : Hid (w.grownBy w4 (some R)) := Lib.hid (grown_trans HG0.out hG4)
              have HO4 : Hid (Ol w4 w.heap.size (.slice ao pre.length ac) pre) := Lib.hid (HO.out.same fun g hg ho => hG4.block g hg (fun e => by have h1 := (own_lt HO.out g ho).1; have h2 := Option.some.inj e; omega))
              clear hR4 hG4
              go_wp2_with fail
              refine (HTk.out _ HR4.out).mono ?_
              rintro e w5 ⟨rfl, hG5⟩
              refine ⟨rfl, ?_⟩
              rw [HV.out]
              exact ⟨rfl, grown_trans HG4.out hG5⟩
            | some t3 =>
              rw [h125] at HTk
              dsimp only [Option.map] at HTk
              have HV := Lib.hid (HFa.out.2 t3 h125)
              clear h125
              go_wp2_with fail
              refine (HNx.out h16).mono ?_
              rintro e w4 ⟨rfl, hR4, hG4⟩
              have HR4 := Lib.hid hR4
              have HG4 : Hid (w.grownBy w4 (some R)) := Lib.hid (grown_trans HG0.out hG4)
              have HO4 : Hid (Ol w4 w.heap.size (.slice ao pre.length ac) pre) := Lib.hid (HO.out.same fun g hg ho => hG4.block g hg (fun e => by have h1 := (own_lt HO.out g ho).1; have h2 := Option.some.inj e; omega))
              clear hR4 hG4
              go_wp2_with fail
              refine (HTk.out _ HR4.out).mono ?_
              rintro e w5 ⟨rfl, hR5, hG5⟩
              have HR5 := Lib.hid hR5
              have HG5 : Hid (w.grownBy w5 (some R)) := Lib.hid (grown_trans HG4.out hG5)
              have HO5 : Hid (Ol w5 w.heap.size (.slice ao pre.length ac) pre) := Lib.hid (HO4.out.same fun g hg ho => hG5.block g hg (fun e => by have h1 := (own_lt HO4.out g ho).1; have h2 := Option.some.inj e; omega))
              clear hR5 hG5
              have hc5 := HR5.out.cell
              have HMy := Lib.hid (mayL_any pre (by omega) (fun p hp => by have := HWd.out p hp; omega) _ w5 HO5.out.at (HT.out.grown HG5.out (fun g e => by cases e; exact hR5)))
              by_cases h3 : t3 = []
              · have he := emp_t (s := bs t3) (by rw [h3]; rfl)
                cases hm : mayL pre with
                | true =>
                  rw [hm] at HMy
                  have HV2 : Hid (X = some pre) := Lib.hid (by rw [HV.out, if_pos ⟨h3, hm⟩])
                  have HY := Lib.hid (fun W => must_yes W)
                  clear hm h3
                  go_wp2_with (first | (go_at_call 16; refine HMy.out.mono ?_; rintro e w6 ⟨rfl, hb6⟩) | (go_at_call 61; refine (HY.out _).mono ?_; rintro e w7 ⟨rfl, rfl⟩))
                  go_ret
                  refine ⟨?_, grown_then HG5.out (hb6.mono HG5.out.size)⟩
                  rw [HV2.out]
                  exact ⟨_, rfl, HO5.out.below hb6 (Nat.le_refl _)⟩
                | false =>
                  rw [hm] at HMy
                  have HV2 : Hid (X = none) := Lib.hid (by rw [HV.out, if_neg (fun h => by rw [hm] at h; cases h.2)])
                  have HY := Lib.hid (fun W => must_no W)
                  clear hm h3
                  go_wp2_with (first | (go_at_call 16; refine HMy.out.mono ?_; rintro e w6 ⟨rfl, hb6⟩) | (go_at_call 61; refine (HY.out _).mono ?_; rintro e w7 ⟨rfl, rfl⟩))
                  refine ⟨rfl, ?_⟩
                  rw [HV2.out]
                  exact ⟨rfl, grown_then HG5.out (hb6.mono HG5.out.size)⟩
              · have he := emp_f (s := bs t3) (by rw [bs_size]; intro h; exact h3 (List.length_eq_zero_iff.1 h))
                have HV2 : Hid (X = none) := Lib.hid (by rw [HV.out, if_neg (fun h => h3 h.1)])
                have HY := Lib.hid (fun W => must_no W)
                clear h3
                go_wp2_with (first | (go_at_call 61; refine (HY.out _).mono ?_; rintro e w7 ⟨rfl, rfl⟩))
                refine ⟨rfl, ?_⟩
                rw [HV2.out]
                exact ⟨rfl, HG5.out⟩
          · have h16z : decide ((pre.length : Int) ≤ 16) = false := decide_eq_false (by omega)
            cases h125 : behind 125 l' with
            | none =>
              rw [h125] at HTk
              dsimp only [Option.map] at HTk
              have HV := Lib.hid (HFa.out.1 h125)
              clear h125
              have HR4 := HR
              have HG4 := HG
              have HO4 := HO
              go_wp2_with fail
              refine (HTk.out _ HR4.out).mono ?_
              rintro e w5 ⟨rfl, hG5⟩
              refine ⟨rfl, ?_⟩
              rw [HV.out]
              exact ⟨rfl, grown_trans HG4.out hG5⟩
            | some t3 =>
              rw [h125] at HTk
              dsimp only [Option.map] at HTk
              have HV := Lib.hid (HFa.out.2 t3 h125)
              clear h125
              have HR4 := HR
              have HG4 := HG
              have HO4 := HO
              go_wp2_with fail
              refine (HTk.out _ HR4.out).mono ?_
              rintro e w5 ⟨rfl, hR5, hG5⟩
              have HR5 := Lib.hid hR5
              have HG5 : Hid (w.grownBy w5 (some R)) := Lib.hid (grown_trans HG4.out hG5)
              have HO5 : Hid (Ol w5 w.heap.size (.slice ao pre.length ac) pre) := Lib.hid (HO4.out.same fun g hg ho => hG5.block g hg (fun e => by have h1 := (own_lt HO4.out g ho).1; have h2 := Option.some.inj e; omega))
              clear hR5 hG5
              have hc5 := HR5.out.cell
              have HMy := Lib.hid (mayL_any pre (by omega) (fun p hp => by have := HWd.out p hp; omega) _ w5 HO5.out.at (HT.out.grown HG5.out (fun g e => by cases e; exact hR5)))
              by_cases h3 : t3 = []
              · have he := emp_t (s := bs t3) (by rw [h3]; rfl)
                cases hm : mayL pre with
                | true =>
                  rw [hm] at HMy
                  have HV2 : Hid (X = some pre) := Lib.hid (by rw [HV.out, if_pos ⟨h3, hm⟩])
                  have HY := Lib.hid (fun W => must_yes W)
                  clear hm h3
                  go_wp2_with (first | (go_at_call 16; refine HMy.out.mono ?_; rintro e w6 ⟨rfl, hb6⟩) | (go_at_call 61; refine (HY.out _).mono ?_; rintro e w7 ⟨rfl, rfl⟩))
                  go_ret
                  refine ⟨?_, grown_then HG5.out (hb6.mono HG5.out.size)⟩
                  rw [HV2.out]
                  exact ⟨_, rfl, HO5.out.below hb6 (Nat.le_refl _)⟩
                | false =>
                  rw [hm] at HMy
                  have HV2 : Hid (X = none) := Lib.hid (by rw [HV.out, if_neg (fun h => by rw [hm] at h; cases h.2)])
                  have HY := Lib.hid (fun W => must_no W)
                  clear hm h3
                  go_wp2_with (first | (go_at_call 16; refine HMy.out.mono ?_; rintro e w6 ⟨rfl, hb6⟩) | (go_at_call 61; refine (HY.out _).mono ?_; rintro e w7 ⟨rfl, rfl⟩))
                  refine ⟨rfl, ?_⟩
                  rw [HV2.out]
                  exact ⟨rfl, grown_then HG5.out (hb6.mono HG5.out.size)⟩
              · have he := emp_f (s := bs t3) (by rw [bs_size]; intro h; exact h3 (List.length_eq_zero_iff.1 h))
                have HV2 : Hid (X = none) := Lib.hid (by rw [HV.out, if_neg (fun h => h3 h.1)])
                have HY := Lib.hid (fun W => must_no W)
                clear h3
                go_wp2_with (first | (go_at_call 61; refine (HY.out _).mono ?_; rintro e w7 ⟨rfl, rfl⟩))
                refine ⟨rfl, ?_⟩
                rw [HV2.out]
                exact ⟨rfl, HG5.out⟩
end Go.Proofs.YtjhgmlhoefakpaaDoor
