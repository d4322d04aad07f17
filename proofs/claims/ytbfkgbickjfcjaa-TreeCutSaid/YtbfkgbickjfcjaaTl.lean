/- find, Get, Len, Rev, Low, New, Copy. -/
import Derived.Test.YtbfkgbickjfcjaaTk
namespace Go.Proofs.Ytbfkgbickjfcjaa
set_option linter.unusedVariables false
set_option linter.unusedSimpArgs false
open Go.RowKit
set_option maxRecDepth 100000
theorem fld0 (a b c d : Value) (w : World) : (Instr.field 94 (.agg #[a, b, c, d]) 0).run Try.prog w = .ok a w := by kernel_rfl
theorem fld2 (a b c d : Value) (w : World) : (Instr.field 94 (.agg #[a, b, c, d]) 2).run Try.prog w = .ok c w := by kernel_rfl
theorem fld3 (a b c d : Value) (w : World) : (Instr.field 94 (.agg #[a, b, c, d]) 3).run Try.prog w = .ok d w := by kernel_rfl
def agE (x : En) : Value := .agg #[.string x.k, .string x.v, .int .i64 x.made, .int .i64 x.mod]
def zE : En := ⟨⟨#[]⟩, ⟨#[]⟩, 0, 0⟩
def oE (o : Option En) : En := o.getD zE
def FindR (o : Option En) (w : World) (e : Ending) (w' : World) : Prop := e = .returned (.tuple #[agE (oE o), .bool o.isSome]) ∧ Below w.heap.size w w'
set_option maxHeartbeats 2000000 in
theorem find_any (t : T ByteArray En) (p : Option Addr) (k : ByteArray) (w : World) (h : SAt w p t) (hs : Srt ltS t.flat) :
    Calls Try.prog 72 #[.pointer p, .string k] w (FindR (get ltS k t.flat) w) := by
  obtain ⟨r, hr⟩ : ∃ r, get ltS k t.flat = r := ⟨_, rfl⟩
  rw [hr]
  have hbl : Below w.heap.size w (w.alloc (.cells #[.string ⟨#[]⟩, .string ⟨#[]⟩, .int .i64 0, .int .i64 0] 57)) := (Below.refl _ w).alloc (Nat.le_refl _) _
  obtain ⟨w1, hw1⟩ : ∃ w1, w.alloc (.cells #[.string ⟨#[]⟩, .string ⟨#[]⟩, .int .i64 0, .int .i64 0] 57) = w1 := ⟨_, rfl⟩
  have hk1 : w1.heap[w.heap.size]? = some (.cells #[.string ⟨#[]⟩, .string ⟨#[]⟩, .int .i64 0, .int .i64 0] 57 (0, 0)) := by rw [← hw1]; exact World.alloc_heap_new _ _
  have h0 : Hid (∃ t', t'.sz ≤ t.sz ∧ SAt w1 p t' ∧ Srt ltS t'.flat ∧ get ltS k t'.flat = r) := Lib.hid ⟨t, Nat.le_refl _, by rw [← hw1]; exact h.below hbl, hs, hr⟩
  rw [hw1] at hbl
  have HBL := Lib.hid hbl
  have HK1 := Lib.hid hk1
  clear h hs hr hbl
  obtain ⟨g0, hg0⟩ : ∃ g, t.sz = g := ⟨_, rfl⟩
  rw [hg0] at h0
  clear hg0
  have q0 : w1.cell? ⟨w.heap.size, 0, none⟩ = some (.string ⟨#[]⟩) := by simp [World.cell?, hk1]
  have q1 : w1.cell? ⟨w.heap.size, 1, none⟩ = some (.string ⟨#[]⟩) := by simp [World.cell?, hk1]
  have q2 : w1.cell? ⟨w.heap.size, 2, none⟩ = some (.int .i64 0) := by simp [World.cell?, hk1]
  have q3 : w1.cell? ⟨w.heap.size, 3, none⟩ = some (.int .i64 0) := by simp [World.cell?, hk1]
  have z0 : w1.frozen? ⟨w.heap.size, 0, none⟩ = false := by simp [World.frozen?, hk1]
  have z1 : w1.frozen? ⟨w.heap.size, 1, none⟩ = false := by simp [World.frozen?, hk1]
  have z2 : w1.frozen? ⟨w.heap.size, 2, none⟩ = false := by simp [World.frozen?, hk1]
  have z3 : w1.frozen? ⟨w.heap.size, 3, none⟩ = false := by simp [World.frozen?, hk1]
  clear hk1
  have HW1 := Lib.hid hw1
  go_enter Try.func72, Try.ntmps72
  go_wp2_with fail
  clear hw1
  go_loopg [0] g0 (fun g s0 wr => ∃ p', s0 = .pointer p' ∧ wr = w1 ∧ Hid (∃ t', t'.sz ≤ g ∧ SAt w1 p' t' ∧ Srt ltS t'.flat ∧ get ltS k t'.flat = r))
  case atStart => exact ⟨p, rfl, rfl, h0⟩
  case round =>
    obtain ⟨p', rfl, rfl, HH⟩ := hrel
    obtain ⟨t', hz, ht', hs', hr'⟩ := HH.out
    clear HH h0
    cases t' with
    | nil =>
      obtain rfl := ht'
      obtain rfl : none = r := hr'
      clear hz hs'
      go_wp2
      refine bodyPost_ret (v := .tuple #[.agg #[.string ⟨#[]⟩, .string ⟨#[]⟩, .int .i64 0, .int .i64 0], .bool false]) (by simp [results, Try.results72, go_sem, q0, q1, q2, q3]) rfl ?_
      exact ⟨rfl, ((((HBL.out.setCell (Nat.le_refl _) _).setCell (Nat.le_refl _) _).setCell (Nat.le_refl _) _).setCell (Nat.le_refl _) _)⟩
    | node a x l rr =>
      obtain ⟨b, pl, pr, rfl, hn, hl, hr2⟩ := ht'
      obtain ⟨c0, c1, c2, c3, c4, -, c6, c7⟩ := hn.cells
      have HS := Lib.hid hs'
      have HR := Lib.hid hr'
      have HL := Lib.hid hl
      have HRR := Lib.hid hr2
      have hz' : l.sz + 1 ≤ gk := by simp only [T.sz] at hz; omega
      have hz2 : rr.sz + 1 ≤ gk := by simp only [T.sz] at hz; omega
      clear hn hl hr2 hz hs' hr'
      cases hk : ltS k a with
      | true =>
        have HK := Lib.hid hk
        have f1 : Op.bytesLess k.toList a.toList = true := hk
        clear hk
        go_wp2
        go_roundg l.sz
        case measure => omega
        case rel => exact ⟨_, rfl, rfl, Lib.hid ⟨l, Nat.le_refl _, HL.out, HS.out.node.1, by rw [← HR.out, T.flat, get_lt linS HS.out HK.out]⟩⟩
      | false =>
      have hka := hk
      clear hk
      cases hk : ltS a k with
      | true =>
        have HK := Lib.hid hk
        have f1 : Op.bytesLess k.toList a.toList = false := hka
        have f2 : (k.toList == a.toList) = false := ltS_ne hk
        clear hk hka
        go_wp2
        go_roundg rr.sz
        case measure => omega
        case rel => exact ⟨_, rfl, rfl, Lib.hid ⟨rr, Nat.le_refl _, HRR.out, HS.out.node.2.1, by rw [← HR.out, T.flat, get_gt linS HS.out HK.out]⟩⟩
      | false =>
        obtain rfl := linS.tri _ _ hka hk
        have f1 : Op.bytesLess k.toList k.toList = false := hka
        clear hka hk
        have hrx : some x = r := by rw [← HR.out, T.flat, get_eq linS HS.out]
        subst hrx
        clear HR
        go_wp2
        refine bodyPost_ret (v := .tuple #[.agg #[.string x.k, .string x.v, .int .i64 x.made, .int .i64 x.mod], .bool true]) (by simp [results, Try.results72, go_sem, q0, q1, q2, q3]) rfl ?_
        exact ⟨rfl, ((((HBL.out.setCell (Nat.le_refl _) _).setCell (Nat.le_refl _) _).setCell (Nat.le_refl _) _).setCell (Nat.le_refl _) _)⟩
def getE (k : ByteArray) (s : St) : Option En := get ltS k (pairs s.L)
set_option maxHeartbeats 1000000 in
theorem get_any (p : Option Addr) (k : ByteArray) (s : St) (w : World) (h : Asks w p s) : Calls Try.prog 33 #[.pointer p, .string k] w (FindR (getE k s) w) := by
  obtain ⟨o, ho⟩ : ∃ o, getE k s = o := ⟨_, rfl⟩
  rw [ho]
  have hb0 : Below w.heap.size w (w.alloc (.cells #[.string ⟨#[]⟩, .string ⟨#[]⟩, .int .i64 0, .int .i64 0] 57)) := (Below.refl _ w).alloc (Nat.le_refl _) _
  have HA := Lib.hid (asked_any p s _ (h.below hb0))
  have HSO := Lib.hid h.so
  have HB0 := Lib.hid hb0
  have HO := Lib.hid ho
  obtain ⟨w0, hw0⟩ : ∃ w0, w.alloc (.cells #[.string ⟨#[]⟩, .string ⟨#[]⟩, .int .i64 0, .int .i64 0] 57) = w0 := ⟨_, rfl⟩
  have hk1 : w0.heap[w.heap.size]? = some (.cells #[.string ⟨#[]⟩, .string ⟨#[]⟩, .int .i64 0, .int .i64 0] 57 (0, 0)) := by rw [← hw0]; exact World.alloc_heap_new _ _
  rw [hw0] at HA HB0
  have HK1 := Lib.hid hk1
  have HW0 := Lib.hid hw0
  clear h hb0 ho hk1 hw0
  have fl := fld0
  go_enter Try.func33, Try.ntmps33
  go_wp2_with fail
  rw [HW0.out]
  refine HA.out.mono ?_
  rintro e w1 ⟨⟨pe, pv, te, rfl, h1, hf1⟩, hb1⟩
  have HF := Lib.hid (find_any te pe k w1 h1 (by rw [hf1]; exact HSO.out))
  rw [hf1, show get ltS k (pairs s.L) = o from HO.out] at HF
  have HB1 := Lib.hid hb1
  clear h1 hf1 hb1
  go_wp2_with fail
  refine HF.out.mono ?_
  rintro e w2 ⟨rfl, hb2⟩
  have HB2 := Lib.hid (below_trans' HB1.out hb2)
  have hk2 := (HB2.out.block _ (Array.getElem?_eq_some_iff.1 HK1.out).1).trans HK1.out
  have z0 : w2.frozen? ⟨w.heap.size, 0, none⟩ = false := by simp [World.frozen?, hk2]
  have z1 : w2.frozen? ⟨w.heap.size, 1, none⟩ = false := by simp [World.frozen?, hk2]
  have z2 : w2.frozen? ⟨w.heap.size, 2, none⟩ = false := by simp [World.frozen?, hk2]
  have z3 : w2.frozen? ⟨w.heap.size, 3, none⟩ = false := by simp [World.frozen?, hk2]
  have q0 : w2.cell? ⟨w.heap.size, 0, none⟩ = some (.string ⟨#[]⟩) := by simp [World.cell?, hk2]
  have q1 : w2.cell? ⟨w.heap.size, 1, none⟩ = some (.string ⟨#[]⟩) := by simp [World.cell?, hk2]
  have q2 : w2.cell? ⟨w.heap.size, 2, none⟩ = some (.int .i64 0) := by simp [World.cell?, hk2]
  have q3 : w2.cell? ⟨w.heap.size, 3, none⟩ = some (.int .i64 0) := by simp [World.cell?, hk2]
  clear hk2 hb2
  obtain ⟨x, hx⟩ : ∃ x, oE o = x := ⟨_, rfl⟩
  have HX := Lib.hid hx
  obtain ⟨is, his⟩ : ∃ b, o.isSome = b := ⟨_, rfl⟩
  have HI := Lib.hid his
  rw [hx, his]
  unfold agE
  clear hx his
  go_wp2
  refine bodyPost_ret (v := .tuple #[.agg #[.string x.k, .string x.v, .int .i64 x.made, .int .i64 x.mod], .bool is]) (by simp [results, Try.results33, go_sem, q0, q1, q2, q3]) rfl ?_
  refine ⟨by rw [HX.out, HI.out]; rfl, ?_⟩
  exact (((((HB0.out.trans (HB2.out.mono HB0.out.size)).setCell (Nat.le_refl _) _).setCell (Nat.le_refl _) _).setCell (Nat.le_refl _) _).setCell (Nat.le_refl _) _)
theorem len_any (p : Option Addr) (s : St) (w : World) (h : Asks w p s) : Calls Try.prog 35 #[.pointer p] w fun e w' => e = .returned (.int .i64 ((s.L.length : Nat) : Int)) ∧ Below w.heap.size w w' := by
  have HA := Lib.hid (asked_any p s w h)
  clear h
  have fl := fld0
  go_enter Try.func35, Try.ntmps35
  go_wp2_with fail
  refine HA.out.mono ?_
  rintro e w1 ⟨⟨pe, pv, te, rfl, h1, hf1⟩, hb1⟩
  have HC := Lib.hid (scount_any te pe w1 h1)
  have hz : te.sz = s.L.length := by rw [← T.flat_len, hf1]; simp [pairs]
  rw [hz] at HC
  have HB1 := Lib.hid hb1
  clear h1 hf1 hz hb1
  go_wp2_with fail
  refine HC.out.mono ?_
  rintro e w' ⟨rfl, rfl⟩
  go_wp2
  go_ret
  exact ⟨rfl, HB1.out⟩
theorem rev_any (p : Option Addr) (s : St) (w : World) (h : Asks w p s) : Calls Try.prog 36 #[.pointer p] w fun e w' => e = .returned (.int .i64 s.rev) ∧ Below w.heap.size w w' := by
  have HA := Lib.hid (asked_any p s w h)
  clear h
  have fl := fld2
  go_enter Try.func36, Try.ntmps36
  go_wp2_with fail
  refine HA.out.mono ?_
  rintro e w1 ⟨⟨pe, pv, te, rfl, h1, hf1⟩, hb1⟩
  have HB1 := Lib.hid hb1
  clear h1 hf1 hb1
  go_wp2
  go_ret
  exact ⟨rfl, HB1.out⟩
theorem low_any (p : Option Addr) (s : St) (w : World) (h : Asks w p s) : Calls Try.prog 37 #[.pointer p] w fun e w' => e = .returned (.int .i64 s.low) ∧ Below w.heap.size w w' := by
  have HA := Lib.hid (asked_any p s w h)
  clear h
  have fl := fld3
  go_enter Try.func37, Try.ntmps37
  go_wp2_with fail
  refine HA.out.mono ?_
  rintro e w1 ⟨⟨pe, pv, te, rfl, h1, hf1⟩, hb1⟩
  have HB1 := Lib.hid hb1
  clear h1 hf1 hb1
  go_wp2
  go_ret
  exact ⟨rfl, HB1.out⟩
theorem new_any (w : World) : Calls Try.prog 14 #[] w fun e w' => (∃ b, e = .returned (.pointer (some ⟨b, 0, none⟩)) ∧ w.heap.size ≤ b ∧ TrAt w' b emp) ∧ Below w.heap.size w w' := by
  go_enter Try.func14, Try.ntmps14
  go_wp2
  go_ret
  refine ⟨⟨_, rfl, Nat.le_refl _, none, none, .nil, .nil, World.alloc_heap_new _ _, rfl, rfl, rfl, trivial, List.Pairwise.nil, List.Pairwise.nil⟩, (Below.refl _ w).alloc (Nat.le_refl _) _⟩
set_option maxHeartbeats 1000000 in
theorem copy_any (b : Nat) (s : St) (w : World) (h : TrAt w b s) : Calls Try.prog 22 #[.pointer (some ⟨b, 0, none⟩)] w fun e w' => (∃ c, e = .returned (.pointer (some ⟨c, 0, none⟩)) ∧ w.heap.size ≤ c ∧ TrAt w' c s) ∧ Below w.heap.size w w' := by
  obtain ⟨pe, pv, te, tv, h⟩ := h
  obtain ⟨⟨c0, c1, c2, c3⟩, -⟩ := h.cells
  have hlt := (Array.getElem?_eq_some_iff.1 h.blk).1
  have HB : Hid (Below w.heap.size w (w.alloc (.cells #[.pointer pe, .pointer pv, .int .i64 s.rev, .int .i64 s.low] 94))) := Lib.hid ((Below.refl _ w).alloc (Nat.le_refl _) _)
  have H := Lib.hid h
  clear h hlt
  go_enter Try.func22, Try.ntmps22
  go_wp2
  go_ret
  exact ⟨⟨_, rfl, Nat.le_refl _, pe, pv, te, tv, World.alloc_heap_new _ _, H.out.e.below HB.out, H.out.ef, H.out.v.below HB.out, H.out.vf.stay (Stay.below HB.out), H.out.so, H.out.sv⟩, HB.out⟩
theorem copy_nil (w : World) : Calls Try.prog 22 #[.pointer none] w fun e w' => e = .returned (.pointer none) ∧ w = w' := by
  go_enter Try.func22, Try.ntmps22
  go_wp2
  go_ret
  exact ⟨rfl, rfl⟩
end Go.Proofs.Ytbfkgbickjfcjaa
