/- Do: a transaction, done on a tree. -/
import Derived.Test.YtbfkgbickjfcjaaTp
namespace Go.Proofs.Ytbfkgbickjfcjaa
set_option linter.unusedVariables false
set_option linter.unusedSimpArgs false
open Go.RowKit
set_option maxRecDepth 100000
def evO (s : St) (o : Op') : List Ev := if (apS s o).2 then [⟨s.rev, o.del, o.k, o.v⟩] else []
def runO : St → List Op' → St × List Ev
  | s, [] => (s, [])
  | s, o :: r => ((runO (apS s o).1 r).1, evO s o ++ (runO (apS s o).1 r).2)
def fin (s : St) (es : List Ev) : St := if es = [] then s else { s with H := ins ltI s.rev es s.H }
def doS (s : St) (x : Tx) : (List Ev × Bool × Int) × St :=
  if mayB x = false then (([], false, 4), s)
  else if holdsB s x.cs = false then (([], false, 0), s)
  else if x.os = [] then (([], true, 0), s)
  else if s.rev = 1099511627776 then (([], false, 40), s)
  else (((runO { s with rev := s.rev + 1 } x.os).2, true, 0), fin (runO { s with rev := s.rev + 1 } x.os).1 (runO { s with rev := s.rev + 1 } x.os).2)
theorem apS_rev (s : St) (o : Op') : (apS s o).1.rev = s.rev ∧ (apS s o).1.H = s.H ∧ (apS s o).1.low = s.low := by
  unfold apS
  split
  · split <;> exact ⟨rfl, rfl, rfl⟩
  · exact ⟨rfl, rfl, rfl⟩
theorem apS_len (s : St) (o : Op') : (apS s o).1.L.length ≤ s.L.length + 1 := by
  unfold apS
  split
  · split
    · have := delE_len o.k s.L; show (delE o.k s.L).length ≤ _; omega
    · exact Nat.le_succ _
  · exact insE_len _ _
theorem runO_rev : ∀ (os : List Op') (s : St), (runO s os).1.rev = s.rev ∧ (runO s os).1.H = s.H ∧ (runO s os).1.low = s.low
  | [], _ => ⟨rfl, rfl, rfl⟩
  | o :: r, s => by
    obtain ⟨h1, h2, h3⟩ := runO_rev r (apS s o).1
    obtain ⟨k1, k2, k3⟩ := apS_rev s o
    exact ⟨h1.trans k1, h2.trans k2, h3.trans k3⟩
theorem runO_len : ∀ (os : List Op') (s : St), (runO s os).1.L.length ≤ s.L.length + os.length ∧ (runO s os).2.length ≤ os.length
  | [], _ => ⟨Nat.le_refl _, Nat.le_refl _⟩
  | o :: r, s => by
    obtain ⟨h1, h2⟩ := runO_len r (apS s o).1
    have k := apS_len s o
    have k2 : (evO s o).length ≤ 1 := by unfold evO; split <;> simp
    refine ⟨?_, ?_⟩
    · show (runO (apS s o).1 r).1.L.length ≤ _; simp only [List.length_cons]; omega
    · show (evO s o ++ (runO (apS s o).1 r).2).length ≤ _; rw [List.length_append, List.length_cons]; omega
theorem RAt.neO {w : World} {v : Value} {l : List Op'} {b : Nat} {s : St} (h : RAt encO w v l) (ht : TrAt w b s) (hl : l ≠ []) : ∀ g, v.ownBlock = some g → g ≠ b := by
  obtain ⟨g', o, c, rfl, hg, hc⟩ := h.pos hl
  rintro g hg' rfl
  have : g' = g := by simpa [Value.ownBlock] using hg'
  subst this
  obtain ⟨pe, pv, te, tv, ht⟩ := ht
  have hli : 0 < l.length := List.length_pos_iff.2 hl
  obtain ⟨q0, -, -⟩ := RAt.atO hc 0 hli
  simp only [World.cell?, ht.blk] at q0
  have hq : o + 0 * 3 = 0 ∨ o + 0 * 3 = 1 ∨ o + 0 * 3 = 2 ∨ o + 0 * 3 = 3 ∨ 4 ≤ o + 0 * 3 := by omega
  rcases hq with e | e | e | e | e
  · rw [e] at q0; simp at q0
  · rw [e] at q0; simp at q0
  · rw [e] at q0; simp at q0
  · rw [e] at q0; simp at q0
  · rw [Array.getElem?_eq_none (by simpa using e)] at q0; simp at q0
theorem RAt.grownB {w w' : World} {v : Value} {l : List Op'} {b : Nat} {s : St} (h : RAt encO w v l) (ht : TrAt w b s) (hg : w.grownBy w' (some b)) : RAt encO w' v l := by
  by_cases hl : l = []
  · subst hl
    obtain ⟨a, c, rfl⟩ := h.slice
    exact .inl ⟨rfl, _, _, rfl⟩
  · exact h.same hg.size fun g hlt hv => hg.block g hlt (fun e => h.neO ht hl g hv (Option.some.inj e))
/-- The number is set. -/
theorem TrIn.setR {w : World} {b : Nat} {s : St} {pe pv : Option Addr} {te : T ByteArray En} {tv : T Int Sl} (h : TrIn w b s pe pv te tv) (r : Int) :
    TrIn (w.setCell ⟨b, 2, none⟩ (.int .i64 r)) b { s with rev := r } pe pv te tv := by
  have hst : Stay w (w.setCell ⟨b, 2, none⟩ (.int .i64 r)) := Stay.grown (grown_setC w b 2 _) fun q e o ho hi => by
    cases e
    rw [h.blk] at ho
    cases ho
    rcases hi with hi | hi | hi <;> cases hi
  refine ⟨?_, h.e.stay hst, h.ef, h.v.stay hst, h.vf.stay hst, h.so, h.sv⟩
  have := heap_setCell_same w b 2 _ _ (.int .i64 r) h.blk
  simpa using this
theorem TrIn.setV {w : World} {b : Nat} {s : St} {pe pv pv' : Option Addr} {te : T ByteArray En} {tv tv' : T Int Sl} {H' : List (Int × List Ev)} (h : TrIn w b s pe pv te tv) (he : IAt w pv' tv') (hf : HAt w tv'.flat H') (hs : Srt ltI H') :
    TrIn (w.setCell ⟨b, 1, none⟩ (.pointer pv')) b { s with H := H' } pe pv' te tv' := by
  have hst : Stay w (w.setCell ⟨b, 1, none⟩ (.pointer pv')) := Stay.grown (grown_setC w b 1 _) fun q e o ho hi => by
    cases e
    rw [h.blk] at ho
    cases ho
    rcases hi with hi | hi | hi <;> cases hi
  refine ⟨?_, h.e.stay hst, h.ef, he.stay hst, hf.stay hst, h.so, hs⟩
  have := heap_setCell_same w b 1 _ _ (.pointer pv') h.blk
  simpa using this
def DoR (w : World) (b : Nat) (r : (List Ev × Bool × Int) × St) (e : Ending) (w' : World) : Prop :=
  ∃ v, e = .returned (.tuple #[v, .bool r.1.2.1, .int .i64 r.1.2.2]) ∧ Ow 44 4 encV w' w.heap.size v r.1.1 ∧ TrP (fun g => v.ownBlock ≠ some g) w' b r.2 ∧ w.grownBy w' (some b)
theorem HAt.ins {w : World} {xs : List (Int × Sl)} {ys : List (Int × List Ev)} (h : HAt w xs ys) {k : Int} {x : Sl} {l : List Ev} (hx : EvAt w x l) : HAt w (ins ltI k x xs) (ins ltI k l ys) := by
  unfold Ytbfkgbickjfcjaa.ins
  exact (h.filter fun a => ltI a k).app ⟨rfl, hx, h.filter fun a => ltI k a⟩
set_option maxHeartbeats 4000000 in
theorem do_no (b : Nat) (s : St) (x : Tx) (vc vo : Value) (w : World) (h : TrAt w b s) (hx : TxV w vc vo x) (hlc : x.cs.length ≤ 9223372036854775807) (hlo : x.os.length ≤ 9223372036854775807)
    (hno : mayB x = false ∨ holdsB s x.cs = false ∨ x.os = [] ∨ s.rev = 1099511627776) :
    Calls Try.prog 15 #[.pointer (some ⟨b, 0, none⟩), .agg #[vc, vo]] w (DoR w b (doS s x)) := by
  have hxx := hx
  obtain ⟨ca, cc, rfl⟩ := hx.1.slice
  obtain ⟨oa, oc, rfl⟩ := hx.2.1.slice
  have hbl : Below w.heap.size w (w.alloc (.cells #[.slice ca x.cs.length cc, .slice oa x.os.length oc] 35)) := (Below.refl _ w).alloc (Nat.le_refl _) _
  have hbk : (w.alloc (.cells #[.slice ca x.cs.length cc, .slice oa x.os.length oc] 35)).heap[w.heap.size]? = some (.cells #[.slice ca x.cs.length cc, .slice oa x.os.length oc] 35 (0, 0)) := World.alloc_heap_new _ _
  obtain ⟨w1, hw1⟩ : ∃ w1, w.alloc (.cells #[.slice ca x.cs.length cc, .slice oa x.os.length oc] 35) = w1 := ⟨_, rfl⟩
  obtain ⟨B, hB⟩ : ∃ n, w.heap.size = n := ⟨_, rfl⟩
  rw [hw1] at hbl hbk
  rw [hB] at hbk
  have HM := Lib.hid (mayTxn_any x _ _ w1 (hx.below hbl) hlc hlo)
  have HH := Lib.hid (fun W (hW : Below w1.heap.size w1 W) => holds_any (some ⟨b, 0, none⟩) s x.cs _ W (.inl ⟨b, rfl, (h.below hbl).below hW⟩) ((hx.below hbl).below hW).1 hlc)
  have HT := Lib.hid (h.below hbl)
  have HBL := Lib.hid hbl
  have HBK := Lib.hid hbk
  have k0 : w1.cell? ⟨B, 0, none⟩ = some (.slice ca x.cs.length cc) := by simp [World.cell?, hbk]
  have k1 : w1.cell? ⟨B, 1, none⟩ = some (.slice oa x.os.length oc) := by simp [World.cell?, hbk]
  clear hxx hx hbl hbk h
  obtain ⟨m, hm⟩ : ∃ m, mayB x = m := ⟨_, rfl⟩
  have HMB := Lib.hid hm
  rw [hm] at HM hno
  have HNOT := Lib.hid hno
  obtain ⟨NC, hNC⟩ : ∃ n, x.cs.length = n := ⟨_, rfl⟩
  obtain ⟨NO, hNO⟩ : ∃ n, x.os.length = n := ⟨_, rfl⟩
  have HNO := Lib.hid hNO
  rw [hNC, hNO] at HM HBK hw1 ⊢
  rw [hNC] at HH k0 hlc
  rw [hNO] at k1 hlo
  clear hm hNC hNO hno
  have HBn := Lib.hid hB
  cases m with
  | false =>
    have hr : doS s x = (([], false, 4), s) := by unfold doS; rw [if_pos HMB.out]
    have HR := Lib.hid hr
    clear hr
    go_enter Try.func15, Try.ntmps15
    go_wp2_with fail
    refine HM.out.mono ?_
    rintro e w2 ⟨rfl, hb2⟩
    have HB2 := Lib.hid hb2
    clear hb2 hw1 hB k0 k1
    go_wp2
    go_ret3
    show DoR w b (doS s x) _ _
    rw [HR.out]
    exact ⟨_, rfl, Ow.nil _ _, (HT.out.below HB2.out).trp.mono (fun _ _ _ => by simp [Value.ownBlock]), grown_below (HBL.out.trans (HB2.out.mono HBL.out.size)) _⟩
  | true =>
  go_enter Try.func15, Try.ntmps15
  go_wp2_with fail
  refine HM.out.mono ?_
  rintro e w2 ⟨rfl, hb2⟩
  have hk2 := (hb2.block B (Array.getElem?_eq_some_iff.1 HBK.out).1).trans HBK.out
  have HT2 := Lib.hid (HT.out.below hb2)
  have HB2 := Lib.hid (HBL.out.trans (hb2.mono HBL.out.size))
  have HH2 := Lib.hid (HH.out w2 hb2)
  have HK2 := Lib.hid hk2
  clear hw1 hB k0 k1
  have k0 : w2.cell? ⟨B, 0, none⟩ = some (.slice ca NC cc) := by simp [World.cell?, hk2]
  have k1 : w2.cell? ⟨B, 1, none⟩ = some (.slice oa NO oc) := by simp [World.cell?, hk2]
  clear hb2 hk2 HH HM
  obtain ⟨m, hm⟩ : ∃ m, holdsB s x.cs = m := ⟨_, rfl⟩
  have HMB2 := Lib.hid hm
  rw [hm] at HH2
  clear hm
  go_wp2_with fail
  refine HH2.out.mono ?_
  rintro e w3 ⟨rfl, hb3⟩
  have HT3 := Lib.hid (HT2.out.below hb3)
  have HB3 := Lib.hid (HB2.out.trans (hb3.mono HB2.out.size))
  have hk3 := (hb3.block B (Array.getElem?_eq_some_iff.1 HK2.out).1).trans HK2.out
  have k2 : w3.cell? ⟨B, 1, none⟩ = some (.slice oa NO oc) := by simp [World.cell?, hk3]
  clear hb3 k0 k1 hk3
  cases m with
  | false =>
    have hr : doS s x = (([], false, 0), s) := by unfold doS; rw [if_neg (by rw [HMB.out]; simp), if_pos HMB2.out]
    have HR := Lib.hid hr
    clear hr
    go_wp2
    go_ret3
    show DoR w b (doS s x) _ _
    rw [HR.out]
    exact ⟨_, rfl, Ow.nil _ _, HT3.out.trp.mono (fun _ _ _ => by simp [Value.ownBlock]), grown_below HB3.out _⟩
  | true =>
    by_cases ho : NO = 0
    · have hos : x.os = [] := List.eq_nil_of_length_eq_zero (HNO.out.trans ho)
      have hr : doS s x = (([], true, 0), s) := by unfold doS; rw [if_neg (by rw [HMB.out]; simp), if_neg (by rw [HMB2.out]; simp), if_pos hos]
      have HR := Lib.hid hr
      subst ho
      clear hr hos
      go_wp2
      go_ret3
      show DoR w b (doS s x) _ _
      rw [HR.out]
      exact ⟨_, rfl, Ow.nil _ _, HT3.out.trp.mono (fun _ _ _ => by simp [Value.ownBlock]), grown_below HB3.out _⟩
    · have hos : x.os ≠ [] := fun e => ho (by rw [← HNO.out, e]; rfl)
      have hrv : s.rev = 1099511627776 := by
        rcases HNOT.out with e | e | e | e
        · cases e
        · rw [HMB2.out] at e; cases e
        · exact absurd e hos
        · exact e
      have hr : doS s x = (([], false, 40), s) := by unfold doS; rw [if_neg (by rw [HMB.out]; simp), if_neg (by rw [HMB2.out]; simp), if_neg hos, if_pos hrv]
      have HR := Lib.hid hr
      obtain ⟨pe, pv, te, tv, hT⟩ := HT3.out
      obtain ⟨⟨-, -, t2, -⟩, -⟩ := hT.cells
      rw [hrv] at t2
      have n1 : ((NO : Int) == 0) = false := by simp; omega
      have n2 : ¬ (NO : Int) = 0 := by omega
      clear hr hos hrv hT
      go_wp2
      go_ret3
      show DoR w b (doS s x) _ _
      rw [HR.out]
      exact ⟨_, rfl, Ow.nil _ _, HT3.out.trp.mono (fun _ _ _ => by simp [Value.ownBlock]), grown_below HB3.out _⟩
end Go.Proofs.Ytbfkgbickjfcjaa
