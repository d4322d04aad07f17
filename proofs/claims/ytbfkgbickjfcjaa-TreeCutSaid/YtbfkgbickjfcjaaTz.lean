/- Cut: what happened up to a revision is forgotten. -/
import Derived.Test.YtbfkgbickjfcjaaTy
import Derived.Test.YtbfkgbickjfcjaaRh
import Derived.Test.YtbfkgbickjfcjaaSv
namespace Go.Proofs.Ytbfkgbickjfcjaa
set_option linter.unusedVariables false
set_option linter.unusedSimpArgs false
open Go Go.RowKit Go.Shelf
attribute [local go_sem] Oper.semAt_some
set_option maxRecDepth 100000
/-- Events are taken away, key by key. -/
def finK (rev : Int) : List Int → List (Int × List Ev) → List (Int × List Ev)
  | [], H => H
  | k :: ks, H => if rev < k then H else finK rev ks (del ltI k H)
def cutH (s : St) (rev : Int) : List (Int × List Ev) := finK rev ((frm ltI s.low s.H).map (·.1)) s.H
def cutS (s : St) (rev : Int) : Int × St := if rev < 0 ∨ s.rev < rev then (1, s) else (0, { s with H := cutH s rev, low := max s.low rev })
theorem below_drewN {n : Nat} {w w' : World} (h : Below n w w') (m : Nat) : Below n w (w'.drewN m) := ⟨h.os, h.tape, h.output, h.size, h.block⟩
theorem cut_no (b : Nat) (s : St) (rev : Int) (w : World) (h : TrAt w b s) (hno : rev < 0 ∨ s.rev < rev) :
    Calls Try.prog 20 #[.pointer (some ⟨b, 0, none⟩), .int .i64 rev] w fun e w' => e = .returned (.int .i64 1) ∧ Below w.heap.size w w' := by
  have hbA : Below w.heap.size w ((w.alloc (.cells #[.pointer (some ⟨b, 0, none⟩)] 25)).alloc (.cells #[.int .i64 rev] 2)) := ((Below.refl _ w).alloc (Nat.le_refl _) _).alloc (by simp) _
  have hx0 : Boxed ((w.alloc (.cells #[.pointer (some ⟨b, 0, none⟩)] 25)).alloc (.cells #[.int .i64 rev] 2)) w.heap.size 25 (.pointer (some ⟨b, 0, none⟩)) := (Boxed.new w 25 _).alloc _
  have hx1 : Boxed ((w.alloc (.cells #[.pointer (some ⟨b, 0, none⟩)] 25)).alloc (.cells #[.int .i64 rev] 2)) (w.heap.size + 1) 2 (.int .i64 rev) := by
    have := Boxed.new (w.alloc (.cells #[.pointer (some ⟨b, 0, none⟩)] 25)) 2 (.int .i64 rev)
    rwa [World.size_alloc] at this
  obtain ⟨wA, hwA⟩ : ∃ wA, (w.alloc (.cells #[.pointer (some ⟨b, 0, none⟩)] 25)).alloc (.cells #[.int .i64 rev] 2) = wA := ⟨_, rfl⟩
  rw [hwA] at hbA hx0 hx1
  obtain ⟨pe, pv, te, tv, hT⟩ := h.below hbA
  obtain ⟨⟨-, -, t2, -⟩, -⟩ := hT.cells
  have z0 := hx0.cell
  have z1 := hx1.cell
  have HBA := Lib.hid hbA
  clear hT hbA hx0 hx1 h
  by_cases h0 : rev < 0
  · clear hno
    go_enter Try.func20, Try.ntmps20
    go_wp2_with fail
    clear hwA
    go_quiet (fail)
    go_wp2
    go_ret
    exact ⟨rfl, below_drewN HBA.out _⟩
  · have h1 : s.rev < rev := hno.resolve_left h0
    have h0' : decide (rev < 0) = false := decide_eq_false h0
    clear hno h0
    go_enter Try.func20, Try.ntmps20
    go_wp2_with fail
    clear hwA
    go_quiet (fail)
    go_wp2
    go_ret
    exact ⟨rfl, below_drewN HBA.out _⟩
/-- A tree all of whose blocks are among some. -/
def TrQ (q : Nat → Prop) (W : World) (b : Nat) (s : St) (pe pv : Option Addr) (te : T ByteArray En) (tv : T Int Sl) : Prop :=
  TrIn W b s pe pv te tv ∧ SIn q W pe te ∧ IIn q W pv tv ∧ ∀ x ∈ tv.flat, ∀ a, x.2.a = some a → q a.block
theorem SIn.at' {q : Nat → Prop} {W : World} : ∀ {t : T ByteArray En} {p : Option Addr}, SIn q W p t → SAt W p t
  | .nil, _, h => h
  | .node _ _ _ _, _, ⟨b, pl, pr, hp, _, hn, hl, hr⟩ => ⟨b, pl, pr, hp, hn, hl.at', hr.at'⟩
theorem IIn.at' {q : Nat → Prop} {W : World} : ∀ {t : T Int Sl} {p : Option Addr}, IIn q W p t → IAt W p t
  | .nil, _, h => h
  | .node _ _ _ _, _, ⟨b, pl, pr, hp, _, hn, hl, hr⟩ => ⟨b, pl, pr, hp, hn, hl.at', hr.at'⟩
theorem TrQ.kept {q : Nat → Prop} {A B : World} {b : Nat} {s : St} {pe pv : Option Addr} {te : T ByteArray En} {tv : T Int Sl} (h : TrQ q A b s pe pv te tv) (k : Kept q A B) (hb : q b) : TrQ q B b s pe pv te tv := by
  obtain ⟨h, h1, h2, h3⟩ := h
  have k1 := SIn.kept k h1
  have k2 := IIn.kept k h2
  exact ⟨⟨(k.same b hb (Array.getElem?_eq_some_iff.1 h.blk).1).trans h.blk, k1.at', h.ef, k2.at', h.vf.keepP fun x hx a ha hl => k.same _ (h3 x hx a ha) hl, h.so, h.sv⟩, k1, k2, h3⟩
theorem hat_mem {W : World} : ∀ {xs : List (Int × Sl)} {ys : List (Int × List Ev)}, HAt W xs ys → ∀ x ∈ xs, ∀ a, x.2.a = some a → ∃ o, W.heap[a.block]? = some o ∧ Imm o
  | [], _, _, x, hx, _, _ => by cases hx
  | z :: zs, y :: ys, ⟨_, ⟨g, cur, m, e1, _, e3, _⟩, h3⟩, x, hx, a, ha => by
    rcases List.mem_cons.1 hx with rfl | hx
    · rw [e1] at ha; cases ha; exact ⟨_, e3, .inr (.inr rfl)⟩
    · exact hat_mem h3 x hx a ha
  | _ :: _, [], h, _, _, _, _ => h.elim
theorem TrIn.toQ {q : Nat → Prop} {W : World} {b : Nat} {s : St} {pe pv : Option Addr} {te : T ByteArray En} {tv : T Int Sl} (h : TrIn W b s pe pv te tv) (hq : ∀ j o, W.heap[j]? = some o → Imm o → q j) : TrQ q W b s pe pv te tv :=
  ⟨h, h.e.inq fun j k x n pl pr hn => hq j _ hn.blk (.inl rfl), h.v.inq fun j k x n pl pr hn => hq j _ hn.blk (.inr (.inl rfl)), fun x hx a ha => by
    obtain ⟨o, h1, h2⟩ := hat_mem h.vf x hx a ha
    exact hq _ o h1 h2⟩
/-- Between two rounds. -/
structure CJ' (w : World) (b : Nat) (s : St) (rev : Int) (M : Nat) (rest : List (Int × Sl)) (W : World) (Hc : List (Int × List Ev)) (pe pv : Option Addr) (te : T ByteArray En) (tv : T Int Sl) : Prop where
  tr : TrQ (fun j => j ≠ M ∧ j ≠ M + 1) W b { s with H := Hc } pe pv te tv
  b0 : Boxed W w.heap.size 25 (.pointer (some ⟨b, 0, none⟩))
  b1 : Boxed W (w.heap.size + 1) 2 (.int .i64 rev)
  gr : w.grownBy W (some b)
  run : finK rev (rest.map (·.1)) Hc = cutH s rev
  len : Hc.length ≤ 150000
def CJ (w : World) (b : Nat) (s : St) (rev : Int) (M : Nat) (rest : List (Int × Sl)) (W : World) : Prop := ∃ Hc pe pv te tv, CJ' w b s rev M rest W Hc pe pv te tv
theorem CJ.ab {w : World} {b : Nat} (s : St) (rev : Int) {M : Nat} (hb : b < w.heap.size) (hM : w.heap.size + 4 ≤ M) : Ab M (2 + 0) (CJ w b s rev M) := by
  rintro rest A A' row ⟨Hc, pe, pv, te, tv, h⟩ hg hr
  refine ⟨Hc, pe, pv, te, tv, h.tr.kept (Kept.grown hg fun r e hq => by have := hr r e; omega) ⟨by omega, by omega⟩, h.b0.kept hg (fun e => by have := hr _ e.symm; omega), h.b1.kept hg (fun e => by have := hr _ e.symm; omega), grown_none h.gr hg (fun g e => by have := hr g e; omega), h.run, h.len⟩
def CX (w : World) (b : Nat) (s : St) (rev : Int) (M : Nat) (c : Code) (W : World) : Prop := c = .exit 1 ∧ CJ w b s rev M [] W
theorem CX.ab {w : World} {b : Nat} (s : St) (rev : Int) {M : Nat} (hb : b < w.heap.size) (hM : w.heap.size + 4 ≤ M) : Ab M (2 + 0) (CX w b s rev M) := by
  rintro c A A' row ⟨rfl, h⟩ hg hr
  exact ⟨rfl, CJ.ab s rev hb hM _ _ _ _ h hg hr⟩
theorem TrIn.setL {w : World} {b : Nat} {s : St} {pe pv : Option Addr} {te : T ByteArray En} {tv : T Int Sl} (h : TrIn w b s pe pv te tv) (r : Int) :
    TrIn (w.setCell ⟨b, 3, none⟩ (.int .i64 r)) b { s with low := r } pe pv te tv := by
  have hst : Stay w (w.setCell ⟨b, 3, none⟩ (.int .i64 r)) := Stay.grown (grown_setC w b 3 _) fun q e o ho hi => by
    cases e
    rw [h.blk] at ho
    cases ho
    rcases hi with hi | hi | hi <;> cases hi
  refine ⟨?_, h.e.stay hst, h.ef, h.v.stay hst, h.vf.stay hst, h.so, h.sv⟩
  have := heap_setCell_same w b 3 _ _ (.int .i64 r) h.blk
  simpa using this
theorem CJ'.fin {w : World} {b : Nat} {s : St} {rev : Int} {M : Nat} {W : World} {Hc : List (Int × List Ev)} {pe pv : Option Addr} {te : T ByteArray En} {tv : T Int Sl} (h : CJ' w b s rev M [] W Hc pe pv te tv)
    (hM : w.heap.size + 4 ≤ M) (hb : b < w.heap.size) (hd : W.heap[M]? = some (.deferred (some []))) (r : Int) :
    (W.setCell ⟨b, 3, none⟩ (.int .i64 r)).drew.heap[M]? = some (.deferred (some [])) ∧
    TrAt ((W.setCell ⟨b, 3, none⟩ (.int .i64 r)).drew.putObj M (.deferred none)) b { s with H := cutH s rev, low := r } ∧
    w.grownBy ((W.setCell ⟨b, 3, none⟩ (.int .i64 r)).drew.putObj M (.deferred none)) (some b) := by
  have hT : TrIn (W.setCell ⟨b, 3, none⟩ (.int .i64 r)).drew b { s with H := Hc, low := r } pe pv te tv := (h.tr.1.setL r).stay (Stay.below (Below.refl _ _).drew) rfl
  have hgs : W.grownBy (W.setCell ⟨b, 3, none⟩ (.int .i64 r)) (some b) := grown_setC W b 3 _
  have hX : (W.setCell ⟨b, 3, none⟩ (.int .i64 r)).drew.heap[M]? = some (.deferred (some [])) :=
    (hgs.block M (Array.getElem?_eq_some_iff.1 hd).1 (fun e => by have := Option.some.inj e; omega)).trans hd
  have hg := grownBy_putObj' (W.setCell ⟨b, 3, none⟩ (.int .i64 r)).drew M (.deferred none)
  have hQ := hT.toQ (q := fun j => j ≠ M) fun j o hj hi e => by
    subst e
    rw [hX] at hj
    cases hj
    rcases hi with hi | hi | hi <;> cases hi
  have hQ' := hQ.kept (Kept.grown hg (fun q e => by cases e; simp)) (by omega)
  refine ⟨hX, ?_, ?_⟩
  · have e : Hc = cutH s rev := h.run
    rw [← e]
    exact ⟨pe, pv, te, tv, hQ'.1⟩
  · refine grown_none (grown_trans h.gr (grown_trans hgs ?_)) hg (fun g e => by cases e; omega)
    exact grown_below (Below.refl _ _).drew _
set_option maxHeartbeats 2000000 in
theorem cut_yes (b : Nat) (s : St) (rev : Int) (w : World) (h : TrAt w b s) (h0 : 0 ≤ rev) (h1 : rev ≤ s.rev) (hH : s.H.length ≤ 150000) :
    Calls Try.prog 20 #[.pointer (some ⟨b, 0, none⟩), .int .i64 rev] w fun e w' => (e = .returned (.int .i64 0) ∧ TrAt w' b { s with H := cutH s rev, low := max s.low rev }) ∧ w.grownBy w' (some b) := by
  have hbw := h.lt
  have hbA : Below w.heap.size w ((w.alloc (.cells #[.pointer (some ⟨b, 0, none⟩)] 25)).alloc (.cells #[.int .i64 rev] 2)) := ((Below.refl _ w).alloc (Nat.le_refl _) _).alloc (by simp) _
  have hx0 : Boxed ((w.alloc (.cells #[.pointer (some ⟨b, 0, none⟩)] 25)).alloc (.cells #[.int .i64 rev] 2)) w.heap.size 25 (.pointer (some ⟨b, 0, none⟩)) := (Boxed.new w 25 _).alloc _
  have hx1 : Boxed ((w.alloc (.cells #[.pointer (some ⟨b, 0, none⟩)] 25)).alloc (.cells #[.int .i64 rev] 2)) (w.heap.size + 1) 2 (.int .i64 rev) := by
    have := Boxed.new (w.alloc (.cells #[.pointer (some ⟨b, 0, none⟩)] 25)) 2 (.int .i64 rev)
    rwa [World.size_alloc] at this
  have hszA : ((w.alloc (.cells #[.pointer (some ⟨b, 0, none⟩)] 25)).alloc (.cells #[.int .i64 rev] 2)).heap.size = w.heap.size + 2 := by simp
  obtain ⟨wA, hwA⟩ : ∃ wA, (w.alloc (.cells #[.pointer (some ⟨b, 0, none⟩)] 25)).alloc (.cells #[.int .i64 rev] 2) = wA := ⟨_, rfl⟩
  rw [hwA] at hbA hx0 hx1 hszA
  obtain ⟨pe, pv, te, tv, hT⟩ := h.below hbA
  obtain ⟨⟨-, t1, t2, t3⟩, -⟩ := hT.cells
  have z0 := hx0.cell
  have z1 := hx1.cell
  have HBA := Lib.hid hbA
  have HT := Lib.hid hT
  have HX0 := Lib.hid hx0
  have HX1 := Lib.hid hx1
  have HSA := Lib.hid hszA
  have HBW := Lib.hid hbw
  have HHH := Lib.hid hH
  have HFR := Lib.hid (fun p W => ifrom_any p s.low W)
  have h0' : decide (rev < 0) = false := decide_eq_false (by omega)
  have h1' : decide (s.rev < rev) = false := decide_eq_false (by omega)
  clear hT hbA hx0 hx1 h hszA hbw hH h0 h1
  refine (callsIn_wide (n := 5)).1 ?_
  refine callsIn_of_wp_marks Try.func20 rfl trivial ?_ rfl
  simp only [Try.ntmps20, List.size_toArray, List.length_cons, List.length_nil, Nat.reduceAdd, Nat.reduceSub, Array.replicate_succ, Array.replicate_zero, List.push_toArray, List.append_toArray, List.nil_append, List.cons_append]
  gi_wp2_with fail
  clear hwA
  refine wpIn_wide.2 ?_
  refine wp_region_noPanic ?_
  go_quiet (fail)
  refine NoPanic.normal ?_
  have HBB : Hid (Below wA.heap.size wA (wA.drewN nq)) := Lib.hid (below_drewN (Below.refl _ wA) nq)
  clear t1 t2 t3 z0 z1
  generalize wA.drewN nq = wB at *
  have HTB := Lib.hid (HT.out.stay (Stay.below HBB.out) (HBB.out.block b (Array.getElem?_eq_some_iff.1 HT.out.blk).1))
  have HX0B := Lib.hid (boxed_below HX0.out HBB.out)
  have HX1B := Lib.hid (boxed_below HX1.out HBB.out)
  have HSZB := Lib.hid HBB.out.size
  have HBWB := Lib.hid (HBA.out.trans (HBB.out.mono HBA.out.size))
  have HSS : Hid (∀ W [Bl wB W], W.cell? ⟨w.heap.size, 0, none⟩ = some (.pointer (some ⟨b, 0, none⟩)) ∧ W.cell? ⟨b, 1, none⟩ = some (.pointer pv) ∧ W.cell? ⟨b, 3, none⟩ = some (.int .i64 s.low)) := Lib.hid fun W i => by
    obtain ⟨⟨-, a1, -, a3⟩, -⟩ := (HTB.out.stay (Stay.below i.h) (i.h.block b (Array.getElem?_eq_some_iff.1 HTB.out.blk).1)).cells
    exact ⟨(boxed_below HX0B.out i.h).cell, a1, a3⟩
  clear HT HX0 HX1 HBB
  gi_wp2_with fail
  refine wpIn_wide.2 ?_
  go_region_held3 (fun w' => w'.cell? ⟨w.heap.size, 0, none⟩ = some (.pointer (some ⟨b, 0, none⟩)) ∧ w'.cell? ⟨b, 1, none⟩ = some (.pointer pv) ∧ w'.cell? ⟨b, 3, none⟩ = some (.int .i64 s.low)) (first | exact HSS.out _ | fail) (first
    | (go_at_call 61; ((with_reducible refine (HFR.out _ _).mono ?_); rintro e wc ⟨rfl, hwc⟩; have i1 : Bl wB wc := (by rw [hwc]; infer_instance); have HWC := Lib.hid hwc; clear hwc))
    | fail)
  have hbc : Below wB.heap.size wB wc := i1.h
  have hc0 : Boxed wc wB.heap.size 92 (.pointer pv) := by rw [HWC.out]; exact (Boxed.new wB.drew 92 _).alloc _
  have hc1 : Boxed wc (wB.heap.size + 1) 2 (.int .i64 s.low) := by
    rw [HWC.out]
    have := Boxed.new (wB.drew.alloc (.cells #[.pointer pv] 92)) 2 (.int .i64 s.low)
    rwa [World.size_alloc] at this
  have hMw : w.heap.size + 4 ≤ wc.heap.size := by rw [HWC.out, World.size_alloc, World.size_alloc]; have h1 := HSZB.out; have h2 := HSA.out; have h3 : wB.drew.heap.size = wB.heap.size := rfl; omega
  have HMW := Lib.hid hMw
  have HTC := Lib.hid (HTB.out.stay (Stay.below hbc) (hbc.block b (Array.getElem?_eq_some_iff.1 HTB.out.blk).1))
  have hI0 : CJ w b s rev wc.heap.size (frm ltI s.low tv.flat) wc := by
    refine ⟨s.H, pe, pv, te, tv, HTC.out.toQ fun j o hj _ => ?_, boxed_below HX0B.out hbc, boxed_below HX1B.out hbc, grown_below (HBWB.out.trans (hbc.mono HBWB.out.size)) _, ?_, HHH.out⟩
    · have := (Array.getElem?_eq_some_iff.1 hj).1
      omega
    · have hk := (HTC.out.vf.filter (fun a => !ltI a s.low)).keys
      show finK rev ((frm ltI s.low tv.flat).map (·.1)) s.H = cutH s rev
      unfold cutH frm
      rw [hk]
  have HI0 := Lib.hid hI0
  have HC0 := Lib.hid hc0
  have HC1 := Lib.hid hc1
  clear hbc hc0 hc1 hMw hI0 HFR
  gi_wp2_with fail
  apply wp_range2D (gf := 81) (lb := #[.pointer (some ⟨wB.heap.size, 0, none⟩), .pointer (some ⟨wB.heap.size + 1, 0, none⟩)]) rfl (enters_of Try.func81 (by kernel_rfl) rfl) encI (fun _ => rfl) (frm ltI s.low tv.flat) 0 (fun j => j < wc.heap.size ∧ j ≠ b) (by omega) ?seq
      (CJ w b s rev wc.heap.size) (CX w b s rev wc.heap.size) (CJ.ab _ _ HBW.out HMW.out) (CX.ab _ _ HBW.out HMW.out) HI0.out
      NoB (fun _ _ _ _ _ _ _ _ => trivial) _ ?assign ?body ?done ?stop
  case seq =>
    intro W hW hb
    have hin : IIn (fun j => j < wc.heap.size ∧ j ≠ b) wc pv tv := HTC.out.v.inq fun j k x n pl pr hn => ⟨hn.lt, fun e => by
        have h1 := hn.blk
        rw [e, HTC.out.blk] at h1
        cases h1⟩
    exact ifrom_gives _ tv pv s.low _ W (hin.kept (Kept.below hb fun j hj => hj.1)) HTC.out.svt wB.heap.size (wB.heap.size + 1) (boxed_below HC0.out hb).cell (boxed_below HC1.out hb).cell
  case assign =>
    intro l x rest W K hI hB hK
    simp only [encI]
    gi_wp2
    obtain ⟨Bx, -⟩ : ∃ n : Nat, n = W.heap.size := ⟨_, rfl⟩
    exact hK Bx _ (Kept.refl _ _) hI trivial
  case body =>
    rintro l ⟨rv, sl⟩ rest Bx W ⟨Hc, pe', pv', te', tv', hJ⟩ - hB hD ⟨r, hL⟩
    have HJ := Lib.hid hJ
    have HD := Lib.hid hD
    have HL := Lib.hid hL
    have z0 := hJ.b0.cell
    have z1 := hJ.b1.cell
    obtain ⟨⟨-, t1, -, -⟩, -⟩ := hJ.tr.1.cells
    have hrun := hJ.run
    rw [List.map_cons] at hrun
    dsimp only at hrun
    rw [finK] at hrun
    have HRN := Lib.hid hrun
    clear hJ hD hL hrun
    by_cases hgt : rev < rv
    · gi_wp2
      refine ⟨Kept.refl _ _, rfl, Hc, pe', pv', te', tv', HJ.out.tr, HJ.out.b0, HJ.out.b1, HJ.out.gr, ?_, HJ.out.len⟩
      have := HRN.out
      rw [if_pos hgt] at this
      exact this
    · have hgt' : decide (rev < rv) = false := decide_eq_false hgt
      have hrun := HRN.out
      rw [if_neg hgt] at hrun
      have HR2 := Lib.hid hrun
      have hz : tv'.sz ≤ 200000 := by
        have h1 := congrArg List.length HJ.out.tr.1.vf.keys
        rw [List.length_map, List.length_map, T.flat_len] at h1
        have : Hc.length ≤ 150000 := HJ.out.len
        have h2 : ({ s with H := Hc } : St).H.length = Hc.length := rfl
        omega
      have HWO := Lib.hid (iwithout_any tv' pv' rv W.drew (HJ.out.tr.1.v.drew) HJ.out.tr.1.svt hz)
      have HS0 : Hid (W.drew.cell? ⟨w.heap.size, 0, none⟩ = some (.pointer (some ⟨b, 0, none⟩))) := Lib.hid z0
      have d1 : W.drew.cell? ⟨b, 1, none⟩ = some (.pointer pv') := t1
      clear hrun hz hgt
      gi_wp2_with fail
      · refine wpIn_region_round (by kernel_rfl) (by kernel_rfl) (by rintro ⟨a, w0, h⟩; exact h) ?_
        refine wpAny_of_held (S := fun w' => w'.cell? ⟨w.heap.size, 0, none⟩ = some (.pointer (some ⟨b, 0, none⟩))) _ _ _ _ ?_
        change wpAnyH _ _ _ _ _ _ _ _ W.drew
        refine wpAnyH_take (i := 0) (v := .pointer (some ⟨b, 0, none⟩)) rfl (by kernel_rfl) (by kernel_rfl) (by kernel_rfl) (fun _ _ _ h => h) (Or.inl ⟨by rfl, fun w' hS => by go_simp⟩) HS0.out ?_
        simp only [Act.put, List.setIfInBounds_toArray, List.set_cons_zero, List.set_cons_succ]
        refine wpAnyH_take (i := 1) (v := .pointer (some ⟨b, 0, none⟩)) rfl (by kernel_rfl) (by kernel_rfl) (by kernel_rfl) (fun _ _ _ h => h) (Or.inl ⟨by rfl, fun w' hS => by go_simp⟩) HS0.out ?_
        simp only [Act.put, List.setIfInBounds_toArray, List.set_cons_zero, List.set_cons_succ]
        refine wpAnyH_take (i := 2) (v := .pointer (some ⟨b, 0, none⟩)) rfl (by kernel_rfl) (by kernel_rfl) (by kernel_rfl) (fun _ _ _ h => h) (Or.inl ⟨by rfl, fun _ _ => rfl⟩) HS0.out ?_
        simp only [Act.put, List.setIfInBounds_toArray, List.set_cons_zero, List.set_cons_succ]
        refine wpAnyH_take (i := 3) (v := .pointer (some ⟨b, 1, none⟩)) rfl (by kernel_rfl) (by kernel_rfl) (by kernel_rfl) (fun _ _ _ h => h) (Or.inl ⟨by rfl, fun _ _ => rfl⟩) HS0.out ?_
        simp only [Act.put, List.setIfInBounds_toArray, List.set_cons_zero, List.set_cons_succ]
        refine wpAnyH_take (i := 5) (v := .int .i64 rv) rfl (by kernel_rfl) (by kernel_rfl) (by kernel_rfl) (fun _ _ _ h => h) (Or.inl ⟨by rfl, fun _ _ => rfl⟩) HS0.out ?_
        simp only [Act.put, List.setIfInBounds_toArray, List.set_cons_zero, List.set_cons_succ]
        refine wpAnyH_ready (rs := [4]) (by kernel_rfl) (by simp) (AllReadyH.cons rfl (fun K hK => ?_) AllReadyH.nil)
        go_simp
        refine hK.out _ _ HS0.out (fun hHeld => ?_)
        clear hK K hHeld
        try simp only [Act.put, List.setIfInBounds_toArray, List.set_cons_zero, List.set_cons_succ]
        refine wpAnyH_ready (rs := [6]) (by kernel_rfl) (by simp) (AllReadyH.cons rfl (fun K hK => ?_) AllReadyH.nil)
        go_simp
        refine HWO.out.mono ?_
        rintro e w6 ⟨p6, t6, rfl, h6, f6, hb6⟩
        have HS6 := Lib.hid ((boxed_below HJ.out.b0 ((Below.refl _ W).drew.trans hb6)).cell)
        have H6 := Lib.hid h6
        have F6 := Lib.hid f6
        have HB6 := Lib.hid hb6
        clear h6 f6 hb6
        refine hK.out _ _ HS6.out (fun hHeld => ?_)
        clear hK K hHeld
        try simp only [Act.put, List.setIfInBounds_toArray, List.set_cons_zero, List.set_cons_succ]
        refine wpAnyH_take (i := 7) (v := .pointer (some ⟨b, 0, none⟩)) rfl (by kernel_rfl) (by kernel_rfl) (by kernel_rfl) (fun _ _ _ h => h) (Or.inl ⟨by rfl, fun _ _ => rfl⟩) HS6.out ?_
        simp only [Act.put, List.setIfInBounds_toArray, List.set_cons_zero, List.set_cons_succ]
        refine wpAnyH_take (i := 8) (v := .pointer (some ⟨b, 1, none⟩)) rfl (by kernel_rfl) (by kernel_rfl) (by kernel_rfl) (fun _ _ _ h => h) (Or.inl ⟨by rfl, fun _ _ => rfl⟩) HS6.out ?_
        simp only [Act.put, List.setIfInBounds_toArray, List.set_cons_zero, List.set_cons_succ]
        have HLT := Lib.hid ((Array.getElem?_eq_some_iff.1 HJ.out.tr.1.blk).1)
        have hbW6 : Below W.heap.size W w6 := (Below.refl _ W).drew.trans HB6.out
        have hT6 := HJ.out.tr.1.stay (Stay.below hbW6) (hbW6.block b HLT.out)
        obtain ⟨⟨-, u1, -, -⟩, hfr6⟩ := hT6.cells
        have g1 := hfr6 1
        have HT6 := Lib.hid hT6
        have HBW6 := Lib.hid hbW6
        clear hT6 hbW6 hfr6
        have hgs := grown_setC w6 b 1 (.pointer p6)
        have hne0 : w.heap.size ≠ b := by have := HBW.out; omega
        have hneM : wc.heap.size ≠ b ∧ wc.heap.size + 1 ≠ b := by have := HBW.out; have := HMW.out; omega
        have HS7 : Hid ((w6.setCell ⟨b, 1, none⟩ (.pointer p6)).cell? ⟨w.heap.size, 0, none⟩ = some (.pointer (some ⟨b, 0, none⟩))) := Lib.hid (by
          rw [World.cell?_of_block (a := ⟨w.heap.size, 0, none⟩) (hgs.block _ (cell_lt HS6.out) (fun e => hne0 (Option.some.inj e)))]
          exact HS6.out)
        have hd7 : (w6.setCell ⟨b, 1, none⟩ (.pointer p6)).heap[wc.heap.size]? = some (.deferred (some [])) := by
          have e1 := (HBW6.out.block _ (Array.getElem?_eq_some_iff.1 HD.out).1).trans HD.out
          exact (hgs.block _ (Array.getElem?_eq_some_iff.1 e1).1 (fun e => hneM.1 (Option.some.inj e))).trans e1
        have hl7 : (w6.setCell ⟨b, 1, none⟩ (.pointer p6)).heap[wc.heap.size + 1]? = some (.loop r) := by
          have e1 := (HBW6.out.block _ (Array.getElem?_eq_some_iff.1 HL.out).1).trans HL.out
          exact (hgs.block _ (Array.getElem?_eq_some_iff.1 e1).1 (fun e => hneM.2 (Option.some.inj e))).trans e1
        have hx6 : HAt w6 (del ltI rv tv'.flat) (del ltI rv Hc) := by
          unfold del
          exact (HT6.out.vf.filter fun a => ltI a rv).app (HT6.out.vf.filter fun a => ltI rv a)
        have hT7 := HT6.out.setV (pv' := p6) (tv' := t6) (H' := del ltI rv Hc) H6.out (by rw [F6.out]; exact hx6) (Srt.del linI HT6.out.sv)
        have hg7 : W.grownBy (w6.setCell ⟨b, 1, none⟩ (.pointer p6)) (some b) := grown_trans (grown_below HBW6.out _) hgs
        have HFIN : Hid (Kept (fun j => (j < wc.heap.size ∧ j ≠ b) ∨ j = wc.heap.size ∨ j = wc.heap.size + 1) W (w6.setCell ⟨b, 1, none⟩ (.pointer p6)) ∧ CJ w b s rev wc.heap.size rest (w6.setCell ⟨b, 1, none⟩ (.pointer p6))) := Lib.hid (by
          refine ⟨Kept.grown hg7 (fun q e => by cases e; omega), del ltI rv Hc, pe', p6, te', t6, hT7.toQ fun j o hj hi => ?_, HJ.out.b0.kept hg7 (fun e => hne0 (Option.some.inj e)), HJ.out.b1.kept hg7 (fun e => by have := Option.some.inj e; have := HBW.out; omega), grown_trans HJ.out.gr hg7, HR2.out, ?_⟩
          · refine ⟨fun e => ?_, fun e => ?_⟩
            · rw [e, hd7] at hj
              cases hj
              exact hi
            · rw [e, hl7] at hj
              cases hj
              exact hi
          · have := del_len linI (L := Hc) (k := rv)
            have := HJ.out.len
            omega)
        clear hgs hne0 hneM hd7 hl7 hx6 hT7 hg7
        refine wpAnyH_ready (rs := [9]) (by kernel_rfl) (by simp) (AllReadyH.cons rfl (fun K hK => ?_) AllReadyH.nil)
        go_simp
        refine hK.out _ _ HS7.out (fun hHeld => ?_)
        clear hK K hHeld
        try simp only [Act.put, List.setIfInBounds_toArray, List.set_cons_zero, List.set_cons_succ]
        refine wpAnyH_done (by kernel_rfl) ?_ _
        gi_wp2
        exact HFIN.out
  case done =>
    rintro W ⟨Hc, pe', pv', te', tv', hJ⟩ hD
    have HJ := Lib.hid hJ
    have HD := Lib.hid hD
    have z0 := hJ.b0.cell
    have z1 := hJ.b1.cell
    obtain ⟨⟨-, -, -, t3⟩, hfr⟩ := hJ.tr.1.cells
    have g3 := hfr 3
    clear hJ hD hfr
    gi_wp2_with fail
    refine wpIn_region_still_tail 7 (by kernel_rfl) (by kernel_rfl) ?_
    simp only [List.take_succ_cons, List.take_zero, List.drop_succ_cons, List.drop_zero]
    repeat still_step
    try refine wpStill_nil ?_
    change wpListIn _ _ _ _ _ _ _ W.drew
    gi_wp2
    obtain ⟨f1, f2, f3⟩ := HJ.out.fin HMW.out HBW.out HD.out (max s.low rev)
    refine ⟨by simp, .inl ⟨_, _, rfl, run_takeDeferred f1, ?_⟩⟩
    exact ⟨.int .i64 0, by simp [results, Try.results20, go_sem], ⟨rfl, f2⟩, f3⟩
  case stop =>
    rintro c W ⟨rfl, Hc, pe', pv', te', tv', hJ⟩ hD
    have HJ := Lib.hid hJ
    have HD := Lib.hid hD
    have z0 := hJ.b0.cell
    have z1 := hJ.b1.cell
    obtain ⟨⟨-, -, -, t3⟩, hfr⟩ := hJ.tr.1.cells
    have g3 := hfr 3
    clear hJ hD hfr
    gi_wp2_with fail
    refine wpIn_region_still_tail 7 (by kernel_rfl) (by kernel_rfl) ?_
    simp only [List.take_succ_cons, List.take_zero, List.drop_succ_cons, List.drop_zero]
    repeat still_step
    try refine wpStill_nil ?_
    change wpListIn _ _ _ _ _ _ _ W.drew
    gi_wp2
    obtain ⟨f1, f2, f3⟩ := HJ.out.fin HMW.out HBW.out HD.out (max s.low rev)
    refine ⟨by simp, .inl ⟨_, _, rfl, run_takeDeferred f1, ?_⟩⟩
    exact ⟨.int .i64 0, by simp [results, Try.results20, go_sem], ⟨rfl, f2⟩, f3⟩
theorem cut_any (b : Nat) (s : St) (rev : Int) (w : World) (h : TrAt w b s) (hH : s.H.length ≤ 150000) :
    Calls Try.prog 20 #[.pointer (some ⟨b, 0, none⟩), .int .i64 rev] w fun e w' => (e = .returned (.int .i64 (cutS s rev).1) ∧ TrAt w' b (cutS s rev).2) ∧ w.grownBy w' (some b) := by
  by_cases hno : rev < 0 ∨ s.rev < rev
  · refine (cut_no b s rev w h hno).mono ?_
    rintro e w' ⟨rfl, hb⟩
    unfold cutS
    rw [if_pos hno]
    exact ⟨⟨rfl, h.below hb⟩, grown_below hb _⟩
  · have h0 : 0 ≤ rev := by omega
    have h1 : rev ≤ s.rev := by omega
    refine (cut_yes b s rev w h h0 h1 hH).mono ?_
    rintro e w' ⟨⟨rfl, hT⟩, hg⟩
    unfold cutS
    rw [if_neg hno]
    exact ⟨⟨rfl, hT⟩, hg⟩
end Go.Proofs.Ytbfkgbickjfcjaa
