/- Do, where it is done. -/
import Derived.Test.YtbfkgbickjfcjaaTq
namespace Go.Proofs.Ytbfkgbickjfcjaa
set_option linter.unusedVariables false
set_option linter.unusedSimpArgs false
open Go.RowKit
set_option maxRecDepth 100000
theorem grown_new {w a c : World} {b g : Nat} (h : w.grownBy a (some b)) (k : a.grownBy c (some g)) (hg : w.heap.size ≤ g) : w.grownBy c (some b) :=
  ⟨k.os.trans h.os, k.tape.trans h.tape, k.output.trans h.output, Nat.le_trans h.size k.size, fun i hi hr => (k.block i (Nat.lt_of_lt_of_le hi h.size) (fun e => by have := Option.some.inj e; omega)).trans (h.block i hi hr)⟩
theorem grown_none {w a c : World} {b : Nat} {r : Option Nat} (h : w.grownBy a (some b)) (k : a.grownBy c r) (hg : ∀ g, r = some g → w.heap.size ≤ g) : w.grownBy c (some b) :=
  ⟨k.os.trans h.os, k.tape.trans h.tape, k.output.trans h.output, Nat.le_trans h.size k.size, fun i hi hr => (k.block i (Nat.lt_of_lt_of_le hi h.size) (fun e => by have := hg i e.symm; omega)).trans (h.block i hi hr)⟩
theorem grown_then {w a c : World} {b : Nat} (h : w.grownBy a (some b)) (k : Below a.heap.size a c) : w.grownBy c (some b) := grown_trans h (grown_below k _)
/-- Behind i ops. -/
structure DoI (w : World) (b : Nat) (rev : Int) (os : List Op') (tot : St × List Ev) (L0 i : Nat) (v : Value) (wr : World) (si : St) (es : List Ev) : Prop where
  own : Ow 44 4 encV wr w.heap.size v es
  tr : TrP (fun g => g < w.heap.size) wr b si
  rv : si.rev = rev
  s : (runO si (os.drop i)).1 = tot.1
  e : es ++ (runO si (os.drop i)).2 = tot.2
  ln : si.L.length ≤ L0 + i
  le : es.length ≤ i
  gr : w.grownBy wr (some b)
theorem iwith_V (t : T Int Sl) (p : Option Addr) (k : Int) (x : Sl) (w : World) (h : IAt w p t) (hs : Srt ltI t.flat) (hz : t.sz ≤ 200000) :
    Calls Try.prog 50 #[.pointer p, .int .i64 k, .slice x.a x.n x.c] w fun e w' => ∃ p' t', e = .returned (.pointer p') ∧ IAt w' p' t' ∧ t'.flat = ins ltI k x t.flat ∧ Below w.heap.size w w' := iwith_any t p k x w h hs hz
theorem mem_ins {k : Int} {x : Sl} {xs : List (Int × Sl)} {z : Int × Sl} (h : z ∈ ins ltI k x xs) : z = (k, x) ∨ z ∈ xs := by
  unfold Ytbfkgbickjfcjaa.ins at h
  rw [List.mem_append, List.mem_cons] at h
  rcases h with h | h | h
  · exact .inr (List.mem_filter.1 h).1
  · exact .inl h
  · exact .inr (List.mem_filter.1 h).1
set_option maxHeartbeats 4000000 in
theorem do_yes (b : Nat) (s : St) (x : Tx) (vc vo : Value) (w : World) (h : TrAt w b s) (hx : TxV w vc vo x) (hlc : x.cs.length ≤ 9223372036854775807) (hlo : x.os.length ≤ 9223372036854775807)
    (hm : mayB x = true) (hh : holdsB s x.cs = true) (hos : x.os ≠ []) (hr0 : 0 ≤ s.rev) (hr1 : s.rev < 1099511627776) (hL : s.L.length ≤ 100000) (hH : s.H.length ≤ 100000) :
    Calls Try.prog 15 #[.pointer (some ⟨b, 0, none⟩), .agg #[vc, vo]] w (DoR w b (doS s x)) := by
  have hno8 : x.os.length ≤ 8 := by
    unfold mayB at hm
    simp only [Bool.and_eq_true, decide_eq_true_eq] at hm
    exact hm.1.1.2
  have hdo : doS s x = (((runO { s with rev := s.rev + 1 } x.os).2, true, 0), fin (runO { s with rev := s.rev + 1 } x.os).1 (runO { s with rev := s.rev + 1 } x.os).2) := by
    unfold doS
    rw [if_neg (by rw [hm]; simp), if_neg (by rw [hh]; simp), if_neg hos, if_neg (by omega)]
  have HDO := Lib.hid hdo
  obtain ⟨tot, htot⟩ : ∃ t, runO { s with rev := s.rev + 1 } x.os = t := ⟨_, rfl⟩
  have HTOT := Lib.hid htot
  have hxx := hx
  obtain ⟨ca, cc, rfl⟩ := hx.1.slice
  obtain ⟨oa, oc, rfl⟩ := hx.2.1.slice
  have hbl : Below w.heap.size w (w.alloc (.cells #[.slice ca x.cs.length cc, .slice oa x.os.length oc] 35)) := (Below.refl _ w).alloc (Nat.le_refl _) _
  have hbk : (w.alloc (.cells #[.slice ca x.cs.length cc, .slice oa x.os.length oc] 35)).heap[w.heap.size]? = some (.cells #[.slice ca x.cs.length cc, .slice oa x.os.length oc] 35 (0, 0)) := World.alloc_heap_new _ _
  obtain ⟨w1, hw1⟩ : ∃ w1, w.alloc (.cells #[.slice ca x.cs.length cc, .slice oa x.os.length oc] 35) = w1 := ⟨_, rfl⟩
  obtain ⟨B, hB⟩ : ∃ n, w.heap.size = n := ⟨_, rfl⟩
  rw [hw1] at hbl hbk
  rw [hB] at hbk
  have HM := Lib.hid (mayTxn_any x _ _ w1 (hx.below hbl) hlc hlo)
  have HH := Lib.hid (fun W (hW : Below w1.heap.size w1 W) => holds_any (some ⟨b, 0, none⟩) s x.cs _ W (.inl ⟨b, rfl, (h.below hbl).below hW⟩) ((hx.below hbl).below hW).1 hlc)
  rw [hm] at HM
  rw [hh] at HH
  have HT := Lib.hid (h.trp.below hbl)
  have HT0 := Lib.hid h
  have HX0 := Lib.hid hx.2.1
  have HBL := Lib.hid hbl
  have HBK := Lib.hid hbk
  have HBn := Lib.hid hB
  have k0 : w1.cell? ⟨B, 0, none⟩ = some (.slice ca x.cs.length cc) := by simp [World.cell?, hbk]
  have k1 : w1.cell? ⟨B, 1, none⟩ = some (.slice oa x.os.length oc) := by simp [World.cell?, hbk]
  obtain ⟨NC, hNC⟩ : ∃ n, x.cs.length = n := ⟨_, rfl⟩
  obtain ⟨NO, hNO⟩ : ∃ n, x.os.length = n := ⟨_, rfl⟩
  have HNO := Lib.hid hNO
  have hno0 : NO ≠ 0 := fun e => hos (List.eq_nil_of_length_eq_zero (hNO.trans e))
  have n1 : ((NO : Int) == 0) = false := by simp; omega
  have n2 : ¬ (NO : Int) = 0 := by omega
  have r1 : (s.rev == 1099511627776) = false := by simp; omega
  have r2 : ¬ s.rev = 1099511627776 := by omega
  have HLL := Lib.hid hL
  have HHH := Lib.hid hH
  rw [hNC, hNO] at HM HBK hw1 ⊢
  rw [hNC] at HH k0
  rw [hNO] at k1 HX0 hno8
  clear hxx hx hbl hbk h hNC hNO hno0 hos hm hh hdo htot hL hH hlc hlo
  go_enter Try.func15, Try.ntmps15
  go_wp2_with fail
  refine HM.out.mono ?_
  rintro e w2 ⟨rfl, hb2⟩
  have hk2 := (hb2.block B (Array.getElem?_eq_some_iff.1 HBK.out).1).trans HBK.out
  have HB2 := Lib.hid hb2
  have HH2 := Lib.hid (HH.out w2 hb2)
  have HK2 := Lib.hid hk2
  clear hw1 hB k0 k1
  have k0 : w2.cell? ⟨B, 0, none⟩ = some (.slice ca NC cc) := by simp [World.cell?, hk2]
  clear hb2 hk2 HH HM
  go_wp2_with fail
  refine HH2.out.mono ?_
  rintro e w3 ⟨rfl, hb3⟩
  have hb13 : Below w1.heap.size w1 w3 := HB2.out.trans (hb3.mono HB2.out.size)
  have HB3 := Lib.hid (HBL.out.trans (hb13.mono HBL.out.size))
  have hk3 := (hb3.block B (Array.getElem?_eq_some_iff.1 HK2.out).1).trans HK2.out
  obtain ⟨pe, pv, te, tv, hT, hP⟩ := HT.out.below hb13
  have hbne : b ≠ B := by have := HT0.out.lt; have := HBn.out; omega
  obtain ⟨⟨-, -, t2, -⟩, hfr⟩ := hT.cells
  have tf2 := hfr 2
  have k2 : w3.cell? ⟨B, 1, none⟩ = some (.slice oa NO oc) := by simp [World.cell?, hk3]
  have hT4 := hT.setR (s.rev + 1)
  have hg4 := grown_setC w3 b 2 (.int .i64 (s.rev + 1))
  have hk4 : (w3.setCell ⟨b, 2, none⟩ (.int .i64 (s.rev + 1))).cell? ⟨B, 1, none⟩ = some (.slice oa NO oc) := by
    rw [World.cell?_of_block (a := ⟨B, 1, none⟩) (hg4.block B (Array.getElem?_eq_some_iff.1 hk3).1 (fun e => hbne (Option.some.inj e).symm))]
    exact k2
  obtain ⟨w4, hw4⟩ : ∃ w4, w3.setCell ⟨b, 2, none⟩ (.int .i64 (s.rev + 1)) = w4 := ⟨_, rfl⟩
  rw [hw4] at hT4 hg4 hk4
  have HI4 : Hid (DoI w b (s.rev + 1) x.os tot s.L.length 0 (.slice none 0 0) w4 { s with rev := s.rev + 1 } []) := Lib.hid ⟨Ow.nil _ _, ⟨pe, pv, te, tv, hT4, hP⟩, rfl, by rw [List.drop_zero, HTOT.out], by rw [List.drop_zero, HTOT.out]; rfl, Nat.le_refl _, Nat.le_refl _, grown_trans (grown_below HB3.out _) hg4⟩
  have HK4 := Lib.hid hk4
  clear hb3 k0 hk3 hb13 hT hP hfr hT4 hg4 hbne HT HH2 HB2 HK2
  go_wp2_with fail
  clear hw4 t2 tf2 k2
  obtain ⟨RV, hRV⟩ : ∃ r, s.rev + 1 = r := ⟨_, rfl⟩
  have HRV := Lib.hid hRV
  rw [hRV] at HI4
  clear hRV
  go_loopw [43, 4] (fun t v wr => ∃ i : Nat, ∃ si es, t = .int .i64 i ∧ i ≤ NO ∧ Hid (DoI w b RV x.os tot s.L.length i v wr si es)) (fun t _ _ => NO - (intOf t).toNat)
  case atStart => exact ⟨0, _, _, rfl, Nat.zero_le _, HI4⟩
  case round =>
    obtain ⟨i, si, es, rfl, hi, HI⟩ := hrel
    by_cases hlt : i < NO
    · have hli : i < x.os.length := by rw [HNO.out]; exact hlt
      obtain ⟨y, hy⟩ : ∃ y, x.os[i] = y := ⟨_, rfl⟩
      have hA := HX0.out.grownB HT0.out HI.out.gr
      rw [← HNO.out] at hA
      obtain ⟨g, o, c', hv, hg, hc⟩ := hA.pos (by intro e; rw [e] at hli; exact absurd hli (by simp))
      injection hv with hv1 hv2 hv3
      subst hv1
      obtain ⟨q0, q1, q2⟩ := RAt.atO hc i hli
      rw [hy] at q0 q1 q2
      obtain ⟨va, vcp, hvv⟩ := HI.out.own.shape
      subst hvv
      have hdr : x.os.drop i = y :: x.os.drop (i + 1) := by rw [List.drop_eq_getElem_cons hli, hy]
      have hS := HI.out.s
      have hE := HI.out.e
      rw [hdr] at hS hE
      have HS := Lib.hid hS
      have HE := Lib.hid hE
      have hbx : Below wr.heap.size wr (wr.alloc (.cells #[.bool y.del, .string y.k, .string y.v] 72)) := (Below.refl _ wr).alloc (Nat.le_refl _) _
      have HBX := Lib.hid hbx
      have hbk : (wr.alloc (.cells #[.bool y.del, .string y.k, .string y.v] 72)).heap[wr.heap.size]? = some (.cells #[.bool y.del, .string y.k, .string y.v] 72 (0, 0)) := World.alloc_heap_new _ _
      have HBK2 := Lib.hid hbk
      have HAP := Lib.hid (apply_any _ b si y _ (HI.out.tr.below hbx) (by have := HI.out.ln; have := HLL.out; omega))
      clear hA hv2 hv3 hc hg hy hli hdr hS hE hbx hbk
      go_wp2_with fail
      refine HAP.out.mono ?_
      rintro e w5 ⟨rfl, ht5, hg5⟩
      have hne : wr.heap.size ≠ b := by have := HI.out.tr.lt; omega
      have hk5 := (hg5.block wr.heap.size (by simp) (fun e => hne (Option.some.inj e))).trans HBK2.out
      have b0 : w5.cell? ⟨wr.heap.size, 0, none⟩ = some (.bool y.del) := by simp [World.cell?, hk5]
      have b1 : w5.cell? ⟨wr.heap.size, 1, none⟩ = some (.string y.k) := by simp [World.cell?, hk5]
      have b2 : w5.cell? ⟨wr.heap.size, 2, none⟩ = some (.string y.v) := by simp [World.cell?, hk5]
      have HG5 := Lib.hid (grown_trans (grown_then HI.out.gr HBX.out) hg5)
      have HO5 : Hid (Ow 44 4 encV w5 w.heap.size (.slice va es.length vcp) es) := Lib.hid ((HI.out.own.below HBX.out).kept fun g hg hv => hg5.block g hg (fun e => by have := (HI.out.own.lt g hv).1; have := HT0.out.lt; have := Option.some.inj e; omega))
      have HT5 := Lib.hid ht5
      have hrv5 : (apS si y).1.rev = RV := (apS_rev si y).1.trans HI.out.rv
      obtain ⟨q, hq⟩ : ∃ q, (apS si y).2 = q := ⟨_, rfl⟩
      have HQ := Lib.hid hq
      rw [hq]
      clear ht5 hg5 hne hk5 hq HAP
      cases q with
      | false =>
        clear b0 b1 b2
        have hev : evO si y = [] := by unfold evO; rw [HQ.out]; rfl
        have HI5 : Hid (DoI w b RV x.os tot s.L.length (i + 1) (.slice va es.length vcp) w5 (apS si y).1 es) := Lib.hid ⟨HO5.out, HT5.out, hrv5, HS.out, by have := HE.out; rw [runO, hev] at this; exact this, by have := apS_len si y; have := HI.out.ln; omega, by have := HI.out.le; omega, HG5.out⟩
        clear hrv5 hev
        go_wp2
        go_roundw
        case rel => exact ⟨i + 1, _, _, by simp, by omega, HI5⟩
        case measure => (try simp [intOf]); (try omega)
      | true =>
        have hev : evO si y = [⟨RV, y.del, y.k, y.v⟩] := by unfold evO; rw [HQ.out, HI.out.rv]; rfl
        have HEV := Lib.hid hev
        have hes : es.length ≤ 8 := by have := HI.out.le; omega
        obtain ⟨pe5, pv5, te5, tv5, hT5, -⟩ := HT5.out
        obtain ⟨⟨-, -, t2, -⟩, -⟩ := hT5.cells
        rw [hrv5] at t2
        have HRV5 := Lib.hid hrv5
        clear hT5 hev hrv5
        go_wp2_with fail
        refine wp_region_tail1 (.slice va es.length vcp) 12 (by kernel_rfl) (by kernel_rfl) (fun _ _ _ h => h) (Or.inl ⟨by kernel_rfl, fun _ => rfl⟩) ?_
        simp only [Nat.reduceSub, List.take_succ_cons, List.take_zero, List.drop_succ_cons, List.drop_zero, Act.put, List.setIfInBounds_toArray, List.set_cons_zero, List.set_cons_succ]
        repeat still_step
        try refine wpStill_nil ?_
        change wpList _ _ _ _ _ w5.drew
        have HO6 : Hid (Ow 44 4 encV (w5.drew.alloc (.cells #[.int .i64 RV, .bool y.del, .string y.k, .string y.v] 44)) w.heap.size (.slice va es.length vcp) es) := Lib.hid (HO5.out.below (((Below.refl _ w5).drew).alloc (Nat.le_refl _) _))
        have HB6 : Hid (Below w5.heap.size w5 (w5.drew.alloc (.cells #[.int .i64 RV, .bool y.del, .string y.k, .string y.v] 44))) := Lib.hid (((Below.refl _ w5).drew).alloc (Nat.le_refl _) _)
        have hk6 : (w5.drew.alloc (.cells #[.int .i64 RV, .bool y.del, .string y.k, .string y.v] 44)).heap[w5.heap.size]? = some (.cells #[.int .i64 RV, .bool y.del, .string y.k, .string y.v] 44 (0, 0)) := World.alloc_heap_new w5.drew _
        have HK6 := Lib.hid hk6
        clear hk6 t2 b0 b1 b2
        obtain ⟨i0, hi0, hz0, hz1, hz2⟩ := info_parts info44
        have hsz5 : w.heap.size ≤ (w5.drew.alloc (.cells #[.int .i64 RV, .bool y.del, .string y.k, .string y.v] 44)).heap.size := by have := HG5.out.size; have := HB6.out.size; omega
        have HSZ5 := Lib.hid hsz5
        clear hsz5
        have hsrc : ∀ (j : Nat) (u : Value), [Value.int .i64 RV, .bool y.del, .string y.k, .string y.v][j]? = some u → (w5.drew.alloc (.cells #[.int .i64 RV, .bool y.del, .string y.k, .string y.v] 44)).cell? ((⟨w5.heap.size, 0, none⟩ : Addr).add j) = some u := fun j u hj => by
          rw [Go.WideShapes.add_plain]
          simp only [World.cell?, HK6.out, Nat.zero_add]
          simpa using hj
        have hone : ∀ u ∈ [Value.int .i64 RV, .bool y.del, .string y.k, .string y.v], u.oneCell' = true := by
          intro u hu
          simp only [List.mem_cons, List.not_mem_nil, or_false] at hu
          rcases hu with rfl | rfl | rfl | rfl <;> rfl
        have HSRC := Lib.hid hsrc
        have HONE := Lib.hid hone
        have HES := Lib.hid (show es.length + 1 ≤ maxLen by unfold maxLen; omega)
        have HES2 := Lib.hid (show (es.length + 1) * 48 ≤ 140737488355328 by omega)
        clear hsrc hone
        go_wp2_with (at_builtin; (refine wpList_append_own_at _ rfl _ _ 29 rfl w.heap.size 44 i0 _ 4 48 Try.underlying29 hi0 hz0 hz1 hz2 (by rfl) (by decide) (.slice va es.length vcp) es.length (cz encV es) rfl HO6.out ⟨w5.heap.size, 0, none⟩ 1 1 [.int .i64 RV, .bool y.del, .string y.k, .string y.v] rfl rfl HSRC.out HONE.out HES.out HES2.out HSZ5.out ?_; intro v' w7 h1 h2 _ h4; have H1 := Lib.hid h1; have H2 := Lib.hid h2; clear h1 h2 h4))
        have how : Ow 44 4 encV w7 w.heap.size v' (es ++ [⟨RV, y.del, y.k, y.v⟩]) := by
          have := H1.out
          unfold Ow
          rw [List.length_append, cz_app, cz_one]
          exact this
        have hg7 : w5.grownBy w7 (Value.slice va es.length vcp).ownBlock := grown_trans (grown_below HB6.out _) H2.out
        have ht7 : TrP (fun g => g < w.heap.size) w7 b (apS si y).1 := HT5.out.write hg7 fun q hq => by
          have h1 := HO5.out.lt q hq
          refine ⟨fun e => by have := HT0.out.lt; omega, fun e => by omega, fun cs t m hc => ?_⟩
          obtain ⟨cur, hcur⟩ := HO5.out.obj q hq
          rw [hcur] at hc
          cases hc
          exact ⟨by decide, by decide⟩
        have HI7 : Hid (DoI w b RV x.os tot s.L.length (i + 1) v' w7 (apS si y).1 (es ++ [⟨RV, y.del, y.k, y.v⟩])) := Lib.hid ⟨how, ht7, HRV5.out, HS.out, by have := HE.out; rw [runO, HEV.out] at this; rw [List.append_assoc]; exact this, by have := apS_len si y; have := HI.out.ln; omega, by rw [List.length_append]; have := HI.out.le; simp; omega, grown_none HG5.out hg7 fun g hg => (HO5.out.lt g hg).1⟩
        clear how hg7 ht7
        go_wp2
        go_roundw
        case rel => exact ⟨i + 1, _, _, by simp, by omega, HI7⟩
        case measure => (try simp [intOf]); (try omega)
    · obtain rfl : i = NO := by omega
      have hd0 : x.os.drop i = [] := by rw [← HNO.out]; exact List.drop_length
      have hS := HI.out.s
      have hE := HI.out.e
      rw [hd0] at hS hE
      have hS : si = tot.1 := hS
      have hE : es = tot.2 := by have : es ++ [] = tot.2 := hE; rwa [List.append_nil] at this
      have HS := Lib.hid hS
      have HE := Lib.hid hE
      obtain ⟨va, vcp, hvv⟩ := HI.out.own.shape
      subst hvv
      clear hd0 hS hE hi hlt
      by_cases he : es.length = 0
      · have hes : es = [] := List.eq_nil_of_length_eq_zero he
        have hfin : doS s x = (([], true, 0), si) := by rw [HDO.out, HTOT.out, ← HS.out, ← HE.out, hes]; rfl
        have HF := Lib.hid hfin
        subst hes
        clear hfin he
        go_wp2
        go_ret3
        show DoR w b (doS s x) _ _
        rw [HF.out]
        exact ⟨_, rfl, HI.out.own, HI.out.tr.mono (fun g hg _ e => by have := (HI.out.own.lt g e).1; omega), HI.out.gr⟩
      · have hne : es ≠ [] := fun e => he (by rw [e]; rfl)
        have hfin : doS s x = ((es, true, 0), { si with H := ins ltI RV es si.H }) := by
          rw [HDO.out, HTOT.out, ← HS.out, ← HE.out]
          unfold fin
          rw [if_neg hne, HI.out.rv]
        have HF := Lib.hid hfin
        have hles : es.length ≤ 8 := by have := HI.out.le; omega
        obtain ⟨pe5, pv5, te5, tv5, hT5, hP5⟩ := HI.out.tr
        obtain ⟨⟨-, t1, t2, -⟩, -⟩ := hT5.cells
        rw [HI.out.rv] at t2
        have HT5 := Lib.hid hT5
        have HP5 := Lib.hid hP5
        have hz : tv5.sz ≤ 200000 := by
          have h1 := congrArg List.length hT5.vf.keys
          have h2 : si.H = s.H := by
            rw [HS.out, ← HTOT.out]
            exact (runO_rev x.os _).2.1
          rw [List.length_map, List.length_map, h2, T.flat_len] at h1
          have := HHH.out
          omega
        have HZ := Lib.hid hz
        have HNE := Lib.hid hne
        have n3 : (0 : Int) < (es.length : Int) := by omega
        clear hfin hne hT5 hP5 hz
        go_wp2_with fail
        have HBd : Hid (Below wr.heap.size wr wr.drew) := Lib.hid (Below.refl _ wr).drew
        have HCL := Lib.hid (clone_any es (.slice va es.length vcp) wr.drew (HI.out.own.at.below HBd.out) HNE.out (by omega))
        have HK6 : Hid (∀ w6, Below wr.drew.heap.size wr.drew w6 → w6.cell? ⟨b, 1, none⟩ = some (.pointer pv5) ∧ w6.cell? ⟨b, 2, none⟩ = some (.int .i64 RV) ∧ Below wr.heap.size wr w6) := Lib.hid fun w6 hb6 => by
          have hb : Below wr.heap.size wr w6 := HBd.out.trans (hb6.mono HBd.out.size)
          obtain ⟨⟨-, a1, a2, -⟩, -⟩ := (HT5.out.stay (Stay.below hb) (hb.block _ (Array.getElem?_eq_some_iff.1 HT5.out.blk).1)).cells
          rw [HI.out.rv] at a2
          exact ⟨a1, a2, hb⟩
        have HEND : Hid (∀ (w6 w7 : World) (xs : Sl) (g6 : Nat) (p7 : Option Addr) (t7 : T Int Sl), EvAt w6 xs es → xs.a = some ⟨g6, 0, none⟩ → wr.heap.size ≤ g6 → Below wr.heap.size wr w6 → Below w6.heap.size w6 w7 → IAt w7 p7 t7 → t7.flat = ins ltI RV xs tv5.flat →
            DoR w b (doS s x) (.returned (.tuple #[.slice va es.length vcp, .bool true, .int .i64 0])) (w7.setCell ⟨b, 1, none⟩ (.pointer p7))) := Lib.hid fun w6 w7 xs g6 p7 t7 hev hxa hg6 hb6 hb7 h7 f7 => by
          have hb57 : Below wr.heap.size wr w7 := hb6.trans (hb7.mono hb6.size)
          have hT7 := HT5.out.stay (Stay.below hb57) (hb57.block _ (Array.getElem?_eq_some_iff.1 HT5.out.blk).1)
          rw [HF.out]
          have hgf := grown_setC w7 b 1 (.pointer p7)
          have hlt : b < w.heap.size := HT0.out.lt
          refine ⟨_, rfl, (HI.out.own.below hb57).kept (fun g hg hv => hgf.block g hg (fun e => by have := (HI.out.own.lt g hv).1; have := Option.some.inj e; omega)), ⟨pe5, p7, te5, t7, hT7.setV h7 (by rw [f7]; exact hT7.vf.ins (hev.stay (Stay.below hb7))) (Srt.ins linI hT7.sv), ?_⟩, grown_trans (grown_then HI.out.gr hb57) hgf⟩
          intro z hz a ha e
          rw [f7] at hz
          rcases mem_ins hz with rfl | hz
          · rw [hxa] at ha
            cases ha
            have h1 := (HI.out.own.lt _ e).2
            have h2 : (⟨g6, 0, none⟩ : Addr).block = g6 := rfl
            omega
          · have h1 := HP5.out z hz a ha
            have h2 := (HI.out.own.lt _ e).1
            omega
        have d1 : wr.drew.cell? ⟨b, 1, none⟩ = some (.pointer pv5) := t1
        have d2 : wr.drew.cell? ⟨b, 2, none⟩ = some (.int .i64 RV) := t2
        clear n3 he
        go_region_with (first
          | (go_at_call 51; ((with_reducible refine HCL.out.mono ?_); rintro e w6 ⟨⟨xs, rfl, hev6, g6, hxa, hg6⟩, hb6⟩; obtain ⟨a1, a2, hb56⟩ := HK6.out w6 hb6; have HW := Lib.hid (iwith_V tv5 pv5 RV xs w6 (HT5.out.v.below hb56) HT5.out.svt HZ.out); have HEV6 := Lib.hid hev6; have HXA := Lib.hid hxa; have HG6 : Hid (wr.heap.size ≤ g6) := Lib.hid hg6; have HB56 := Lib.hid hb56; clear hev6 hxa hg6 hb6 hb56))
          | (go_at_call 50; ((with_reducible refine HW.out.mono ?_); rintro e w7 ⟨p7, t7, rfl, h7, f7, hb7⟩; have H7 := Lib.hid h7; have F7 := Lib.hid f7; have HB7 := Lib.hid hb7; have hb57 : Below wr.heap.size wr w7 := HB56.out.trans (hb7.mono HB56.out.size); have hT7 := HT5.out.stay (Stay.below hb57) (hb57.block _ (Array.getElem?_eq_some_iff.1 HT5.out.blk).1); have HT7 := Lib.hid hT7; have HB57 := Lib.hid hb57; obtain ⟨⟨u0, u1, u2, u3⟩, hfr⟩ := hT7.cells; have g1 := hfr 1; clear hfr h7 f7 hb7 hT7 hb57))
          | fail)
        all_goals (go_wp2; go_ret3)
        all_goals exact HEND.out _ _ _ _ _ _ HEV6.out HXA.out HG6.out HB56.out HB7.out H7.out F7.out
theorem do_any (b : Nat) (s : St) (x : Tx) (vc vo : Value) (w : World) (h : TrAt w b s) (hx : TxV w vc vo x) (hlc : x.cs.length ≤ 9223372036854775807) (hlo : x.os.length ≤ 9223372036854775807) (hr0 : 0 ≤ s.rev) (hr1 : s.rev ≤ 1099511627776) (hL : s.L.length ≤ 100000) (hH : s.H.length ≤ 100000) :
    Calls Try.prog 15 #[.pointer (some ⟨b, 0, none⟩), .agg #[vc, vo]] w (DoR w b (doS s x)) := by
  cases hm : mayB x
  · exact do_no b s x vc vo w h hx hlc hlo (.inl hm)
  cases hh : holdsB s x.cs
  · exact do_no b s x vc vo w h hx hlc hlo (.inr (.inl hh))
  by_cases ho : x.os = []
  · exact do_no b s x vc vo w h hx hlc hlo (.inr (.inr (.inl ho)))
  by_cases hr : s.rev = 1099511627776
  · exact do_no b s x vc vo w h hx hlc hlo (.inr (.inr (.inr hr)))
  · exact do_yes b s x vc vo w h hx hlc hlo hm hh ho hr0 (by omega) hL hH
end Go.Proofs.Ytbfkgbickjfcjaa
