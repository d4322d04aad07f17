/- List: the entries of a prefix. -/
import Derived.Test.YtbfkgbickjfcjaaTv
import Derived.Test.YtbfkgbickjfcjaaTp
import Derived.Test.YtbfkgbickjfcjaaPm
import Derived.Maps.OwnIn
import Derived.Sort.CutIn
namespace Go.Proofs.Ytbfkgbickjfcjaa
set_option linter.unusedVariables false
set_option linter.unusedSimpArgs false
open Go Go.RowKit Go.Shelf
attribute [local go_sem] Oper.semAt_some
set_option maxRecDepth 100000
theorem info57 : (Try.prog.info? 57).map (fun i => (i.zero, i.size, i.bytes)) = some (some (.agg #[.string ⟨#[]⟩, .string ⟨#[]⟩, .int .i64 0, .int .i64 0]), 4, 48) := by kernel_rfl
def preB (pf : ByteArray) (x : En) : Bool := Lib.hasPrefix x.k.data.toList pf.data.toList
def listE (pf : ByteArray) (s : St) : List En := s.L.filter (preB pf)
/-- Between two rounds. -/
structure LJ' (w : World) (pf : ByteArray) (tot : List En) (M : Nat) (rest : List (ByteArray × En)) (W : World) (v : Value) (acc : List En) : Prop where
  b0 : Boxed W w.heap.size 9 (.string pf)
  b1 : Boxed W (w.heap.size + 1) 28 v
  own : Ow 57 4 encE W (M + 2) v acc
  run : acc ++ ((rest.map (·.2)).filter (preB pf)) = tot
  srt : Srt ltS rest
  ge : ∀ x ∈ rest, ltS x.1 pf = false
  key : ∀ x ∈ rest, x.2.k = x.1
  bel : Below w.heap.size w W
  len : acc.length + rest.length ≤ 150000
def LJ (w : World) (pf : ByteArray) (tot : List En) (M : Nat) (rest : List (ByteArray × En)) (W : World) : Prop := ∃ v acc, LJ' w pf tot M rest W v acc
theorem LJ.ab {w : World} (pf : ByteArray) (tot : List En) {M : Nat} (hM : w.heap.size + 4 ≤ M) : Ab M (2 + 0) (LJ w pf tot M) := by
  rintro rest A A' row ⟨v, acc, h⟩ hg hr
  refine ⟨v, acc, h.b0.kept hg (fun e => by have := hr _ e.symm; omega), h.b1.kept hg (fun e => by have := hr _ e.symm; omega), h.own.kept (fun g hg' hv => hg.block g hg' (fun e => by have := hr _ e.symm; have := (h.own.lt g hv).1; omega)), h.run, h.srt, h.ge, h.key, h.bel.grown hg h.bel.size (fun k e => by have := hr _ e; omega), h.len⟩
theorem LJ'.goes {w : World} {pf : ByteArray} {tot : List En} {M : Nat} {y : En} {rest : List (ByteArray × En)} {W W4 : World} {v v' : Value} {acc : List En} (h : LJ' w pf tot M ((y.k, y) :: rest) W v acc) (hM : w.heap.size + 4 ≤ M)
    (g : W.grownBy W4 v.ownBlock) (ho : Ow 57 4 encE W4 (M + 2) v' (acc ++ [y])) (hrun : acc ++ y :: ((rest.map (·.2)).filter (preB pf)) = tot) :
    Kept (fun j => (j < M ∧ j ≠ w.heap.size + 1) ∨ j = M ∨ j = M + 1) W (W4.setCell ⟨w.heap.size + 1, 0, none⟩ v') ∧ LJ w pf tot M rest (W4.setCell ⟨w.heap.size + 1, 0, none⟩ v') := by
  have g3 := grownBy_setCell' W4 (w.heap.size + 1) v'
  have lt := h.own.lt
  have n2 : ∀ k, k < M + 2 → some k ≠ v.ownBlock := fun k hk e => by have := (lt k e.symm).1; omega
  have hb4 : Below w.heap.size w W4 := h.bel.grown g h.bel.size (fun k e => by have := (lt k e).1; omega)
  refine ⟨⟨Nat.le_trans g.size g3.size, fun j hj hl => ?_⟩, v', acc ++ [y], (h.b0.kept g (n2 _ (by omega))).kept g3 (fun e => by have := Option.some.inj e; omega), (h.b1.kept g (n2 _ (by omega))).set v', ho.kept (fun k hk hv => g3.block k hk (fun e => by have := (ho.lt k hv).1; have := Option.some.inj e; omega)), ?_, (List.pairwise_cons.1 h.srt).2, fun x hx => h.ge x (List.mem_cons_of_mem _ hx), fun x hx => h.key x (List.mem_cons_of_mem _ hx), hb4.grown g3 hb4.size (fun k e => by cases e; omega), ?_⟩
  · have hj1 : j < M + 2 ∧ j ≠ w.heap.size + 1 := by omega
    rw [g3.block j (Nat.lt_of_lt_of_le hl g.size) (fun e => hj1.2 (Option.some.inj e)), g.block j hl (n2 j hj1.1)]
  · rw [List.append_assoc]; exact hrun
  · have := h.len
    rw [List.length_append, List.length_singleton]
    rw [List.length_cons] at this
    omega
theorem LJ'.ends {w : World} {pf : ByteArray} {tot : List En} {M : Nat} {y : En} {rest : List (ByteArray × En)} {W : World} {v : Value} {acc : List En} (h : LJ' w pf tot M ((y.k, y) :: rest) W v acc) (hq : preB pf y = false) : LJ w pf tot M [] W := by
  have hnone : ∀ x ∈ rest.map (·.2), preB pf x = false := by
    intro x hx
    obtain ⟨z, hz, rfl⟩ := List.mem_map.1 hx
    have h1 := (List.pairwise_cons.1 h.srt).1 z hz
    have h2 := h.ge (y.k, y) (by simp)
    have h3 := h.key z (List.mem_cons_of_mem _ hz)
    unfold ltS at h1 h2
    rw [Lib.toList_data, Lib.toList_data] at h1 h2
    unfold preB
    rw [h3]
    exact pre_none _ _ _ h2 hq h1
  refine ⟨v, acc, h.b0, h.b1, h.own, ?_, List.Pairwise.nil, (fun x hx => (by cases hx)), (fun x hx => (by cases hx)), h.bel, by have := h.len; simp only [List.length_cons, List.length_nil] at *; omega⟩
  have := h.run
  rw [List.map_cons, List.filter_cons, if_neg (by show ¬ preB pf y = true; rw [hq]; simp), List.filter_eq_nil_iff.2 (fun x hx => by rw [hnone x hx]; simp)] at this
  simpa using this
/-- Where a round has left. -/
def LX (w : World) (pf : ByteArray) (tot : List En) (M : Nat) (c : Code) (W : World) : Prop := c = .exit 0 ∧ LJ w pf tot M [] W
theorem LX.ab {w : World} (pf : ByteArray) (tot : List En) {M : Nat} (hM : w.heap.size + 4 ≤ M) : Ab M (2 + 0) (LX w pf tot M) := by
  rintro c A A' row ⟨rfl, h⟩ hg hr
  exact ⟨rfl, LJ.ab pf tot hM _ _ _ _ h hg hr⟩
/-- The round's box. -/
def LB (M : Nat) (x : ByteArray × En) (Bx : Nat) (W : World) : Prop := W.heap[Bx]? = some (.cells #[.string x.2.k, .string x.2.v, .int .i64 x.2.made, .int .i64 x.2.mod] 57 (0, 0)) ∧ M + 2 ≤ Bx
theorem LB.ab {M : Nat} (x : ByteArray × En) : Ab M (2 + 0) (LB M x) := by
  rintro Bx A A' row ⟨h1, h2⟩ hg hr
  exact ⟨(hg.block _ (Array.getElem?_eq_some_iff.1 h1).1 (fun e => by have := hr _ e.symm; omega)).trans h1, h2⟩
/-- Where the loop begins. -/
structure LS (w : World) (pf : ByteArray) (s : St) (C : Nat) (W : World) : Prop where
  bel : Below w.heap.size w W
  b0 : Boxed W w.heap.size 9 (.string pf)
  b1 : Boxed W (w.heap.size + 1) 28 (.slice none 0 0)
  t : ∃ pe te, Boxed W C 91 (.pointer pe) ∧ SAt W pe te ∧ te.flat = pairs s.L
  c1 : Boxed W (C + 1) 9 (.string pf)
  sz : w.heap.size + 2 ≤ C ∧ C + 2 ≤ W.heap.size
theorem boxed_lt {W : World} {B : Nat} {t : TypeId} {v : Value} (h : Boxed W B t v) : B < W.heap.size := (Array.getElem?_eq_some_iff.1 h).1
theorem boxed_below {W W' : World} {B : Nat} {t : TypeId} {v : Value} (h : Boxed W B t v) (hb : Below W.heap.size W W') : Boxed W' B t v := (hb.block B (boxed_lt h)).trans h
set_option maxHeartbeats 2000000 in
theorem list_any (p : Option Addr) (s : St) (pf : ByteArray) (w : World) (h : Asks w p s) (hl : s.L.length ≤ 150000) :
    Calls Try.prog 34 #[.pointer p, .string pf] w fun e w' => (∃ v, e = .returned v ∧ Ow 57 4 encE w' w.heap.size v (listE pf s)) ∧ Below w.heap.size w w' := by
  have hbA : Below w.heap.size w ((w.alloc (.cells #[.string pf] 9)).alloc (.cells #[.slice none 0 0] 28)) := ((Below.refl _ w).alloc (Nat.le_refl _) _).alloc (by simp) _
  have hx0 : Boxed ((w.alloc (.cells #[.string pf] 9)).alloc (.cells #[.slice none 0 0] 28)) w.heap.size 9 (.string pf) := (Boxed.new w 9 _).alloc _
  have hx1 : Boxed ((w.alloc (.cells #[.string pf] 9)).alloc (.cells #[.slice none 0 0] 28)) (w.heap.size + 1) 28 (.slice none 0 0) := by
    have := Boxed.new (w.alloc (.cells #[.string pf] 9)) 28 (.slice none 0 0)
    rwa [World.size_alloc] at this
  have hszA : ((w.alloc (.cells #[.string pf] 9)).alloc (.cells #[.slice none 0 0] 28)).heap.size = w.heap.size + 2 := by simp
  obtain ⟨wA, hwA⟩ : ∃ wA, (w.alloc (.cells #[.string pf] 9)).alloc (.cells #[.slice none 0 0] 28) = wA := ⟨_, rfl⟩
  rw [hwA] at hbA hx0 hx1 hszA
  have HASK := Lib.hid (asked_any p s wA.drew (h.below (hbA.drew)))
  have HSO := Lib.hid h.so
  have HBA := Lib.hid hbA
  have HX0 := Lib.hid hx0
  have HX1 := Lib.hid hx1
  have HSA := Lib.hid hszA
  have HL := Lib.hid hl
  have HFR := Lib.hid (fun p W => sfrom_any p pf W)
  obtain ⟨i0, hi, hz0, hz1, hz2⟩ := info_parts info57
  clear h hbA hx0 hx1 hszA hl
  refine (callsIn_wide (n := 5)).1 ?_
  refine callsIn_of_wp_marks Try.func34 rfl trivial ?_ rfl
  simp only [Try.ntmps34, List.size_toArray, List.length_cons, List.length_nil, Nat.reduceAdd, Nat.reduceSub, Array.replicate_succ, Array.replicate_zero, List.push_toArray, List.append_toArray, List.nil_append, List.cons_append]
  gi_wp2_with fail
  clear hwA
  gi_cut [12] from 8 (fun y wx => ∃ C, y = .func (.func 86) #[] #[.pointer (some ⟨C, 0, none⟩), .pointer (some ⟨C + 1, 0, none⟩)] ∧ Hid (LS w pf s C wx))
  case first =>
    refine wpIn_wide.2 ?_
    have fl := fld0
    have d0 : wA.drew.cell? ⟨w.heap.size, 0, none⟩ = some (.string pf) := HX0.out.cell
    have HMK : Hid (∀ (w3 : World) (pe : Option Addr) (te : T ByteArray En), Below wA.drew.heap.size wA.drew w3 → SAt w3 pe te → te.flat = pairs s.L → w3.cell? ⟨w.heap.size, 0, none⟩ = some (.string pf) ∧ LS w pf s w3.heap.size ((w3.alloc (.cells #[.pointer pe] 91)).alloc (.cells #[.string pf] 9))) := Lib.hid fun w3 pe te hb h1 h2 => by
      have hbw : Below wA.heap.size wA w3 := (Below.refl _ wA).drew.trans hb
      have hb2 : Below w3.heap.size w3 ((w3.alloc (.cells #[.pointer pe] 91)).alloc (.cells #[.string pf] 9)) := ((Below.refl _ w3).alloc (Nat.le_refl _) _).alloc (by simp) _
      have x0 := boxed_below HX0.out hbw
      have x1 := boxed_below HX1.out hbw
      refine ⟨x0.cell, (HBA.out.trans (hbw.mono HBA.out.size)).trans (hb2.mono (by have := HBA.out.size; have := hbw.size; omega)), boxed_below x0 hb2, boxed_below x1 hb2, ⟨pe, te, (Boxed.new w3 91 _).alloc _, h1.below hb2, h2⟩, ?_, by have := HSA.out; have := hbw.size; omega, by simp⟩
      have := Boxed.new (w3.alloc (.cells #[.pointer pe] 91)) 9 (.string pf)
      rwa [World.size_alloc] at this
    refine wp_region_noPanic ?_
    go_region_with (first
      | (go_at_call 71; ((with_reducible refine HASK.out.mono ?_); rintro e w3 ⟨⟨pe, pv, te, rfl, h1, hf1⟩, hb1⟩; obtain ⟨d3, hls⟩ := HMK.out w3 pe te hb1 h1 hf1; have HLS := Lib.hid hls; clear h1 hf1 hb1 hls))
      | (go_at_call 73; ((with_reducible refine (HFR.out _ _).mono ?_); rintro e w4 ⟨rfl, hw4⟩; have HW4 := Lib.hid hw4; clear hw4))
      | fail)
    all_goals (refine NoPanic.normal ?_; rw [HW4.out]; gi_wp2_with fail; go_meet)
    all_goals exact ⟨_, rfl, HLS⟩
  case rest =>
    obtain ⟨C, rfl, HLS⟩ := hcut
    obtain ⟨pe, te, hce, hte, htf⟩ := HLS.out.t
    obtain ⟨M, hM⟩ : ∃ M, wc.heap.size = M := ⟨_, rfl⟩
    have HM := Lib.hid hM
    have hMw : w.heap.size + 4 ≤ M := by have := HLS.out.sz; omega
    have HMW := Lib.hid hMw
    have hI0 : LJ w pf (listE pf s) M (frm ltS pf (pairs s.L)) wc := by
      refine ⟨.slice none 0 0, [], HLS.out.b0, HLS.out.b1, Ow.nil _ _, ?_, ?_, ?_, ?_, HLS.out.bel, ?_⟩
      · rw [List.nil_append]
        unfold listE frm pairs
        rw [List.filter_map, List.filter_map, List.filter_map, List.map_map, List.filter_filter]
        have e1 : ((fun x : ByteArray × En => x.2) ∘ fun x : En => (x.k, x)) = id := rfl
        rw [e1, List.map_id]
        refine List.filter_congr fun x _ => ?_
        show (preB pf x && !(ltS x.k pf)) = preB pf x
        cases hp : preB pf x
        · rfl
        · have hq := pre_ge pf.data.toList x.k.data.toList hp
          have : ltS x.k pf = false := by unfold ltS; rw [Lib.toList_data, Lib.toList_data]; exact hq
          rw [this]; rfl
      · exact HSO.out.filter _
      · intro x hx
        have := (List.mem_filter.1 hx).2
        simpa using this
      · intro x hx
        have := (List.mem_filter.1 hx).1
        unfold pairs at this
        obtain ⟨y, -, rfl⟩ := List.mem_map.1 this
        rfl
      · have h1 : (frm ltS pf (pairs s.L)).length ≤ (pairs s.L).length := List.length_filter_le _ _
        have h2 : (pairs s.L).length = s.L.length := by simp [pairs]
        have := HL.out
        simp only [List.length_nil]
        omega
    have HI0 := Lib.hid hI0
    have HCE := Lib.hid hce
    have HTE := Lib.hid hte
    have HTF := Lib.hid htf
    clear hI0 hce hte htf hM hMw HL HASK HX0 HX1 HSA HBA HFR
    gi_wp2_with fail
    rw [← HM.out] at HMW HI0
    apply wp_range2 (gf := 86) (lb := #[.pointer (some ⟨C, 0, none⟩), .pointer (some ⟨C + 1, 0, none⟩)]) rfl (enters_of Try.func86 (by kernel_rfl) rfl) encS (fun _ => rfl) (frm ltS pf (pairs s.L)) 0 (fun j => j < wc.heap.size ∧ j ≠ w.heap.size + 1) (by omega) ?seq
      (LJ w pf (listE pf s) wc.heap.size) (LX w pf (listE pf s) wc.heap.size) (LJ.ab _ _ HMW.out) (LX.ab _ _ HMW.out) HI0.out
      (LB wc.heap.size) (fun x => LB.ab x) _ ?assign ?body ?done ?stop
    case seq =>
      intro W hW hb
      rw [← HTF.out]
      have hin : SIn (fun j => j < wc.heap.size ∧ j ≠ w.heap.size + 1) wc pe te := HTE.out.inq fun b k x n pl pr hn => ⟨hn.lt, fun e => by
        have h1 := hn.blk
        rw [e, HLS.out.b1] at h1
        cases h1⟩
      exact sfrom_gives _ te pe pf _ W (hin.kept (Kept.below hb fun j hj => hj.1)) (by rw [HTF.out]; exact HSO.out) C (C + 1) (boxed_below HCE.out hb).cell (boxed_below HLS.out.c1 hb).cell
    case assign =>
      intro l x rest W K hI hB hK
      simp only [encS]
      gi_wp2
      have hbp : LB wc.heap.size x W.heap.size (W.alloc (.cells #[.string x.2.k, .string x.2.v, .int .i64 x.2.made, .int .i64 x.2.mod] 57)) := ⟨World.alloc_heap_new _ _, by omega⟩
      have HBP := Lib.hid hbp
      clear hbp
      obtain ⟨Bx, hBx⟩ : ∃ Bx, W.heap.size = Bx := ⟨_, rfl⟩
      rw [hBx] at HBP ⊢
      refine hK Bx _ (Kept.grown (World.grownBy_alloc W _ none) (fun r e => by cases e)) ?_ HBP.out
      exact LJ.ab _ _ HMW.out _ _ _ none hI (World.grownBy_alloc W _ none) (fun r e => by cases e)
    case body =>
      rintro l x rest Bx W ⟨v, acc, hI⟩ ⟨hbx, hBx⟩ hB
      have HI := Lib.hid hI
      have HBX := Lib.hid hbx
      clear hI hbx
      have p0 : W.cell? ⟨w.heap.size, 0, none⟩ = some (.string pf) := HI.out.b0.cell
      obtain ⟨key, y⟩ := x
      have hky : y.k = key := HI.out.key (key, y) (by simp)
      subst hky
      have HC := Lib.hid (fun W => begins_any y.k pf W)
      obtain ⟨va, vc, hv⟩ := HI.out.own.shape
      subst hv
      have z0 := HI.out.b1.cell
      have z1 := HI.out.b1.frozen
      have q0 : W.cell? ⟨Bx, 0, none⟩ = some (.string y.k) := by simp only [World.cell?, HBX.out]; rfl
      have q1 : W.cell? ⟨Bx, 1, none⟩ = some (.string y.v) := by simp only [World.cell?, HBX.out]; rfl
      have q2 : W.cell? ⟨Bx, 2, none⟩ = some (.int .i64 y.made) := by simp only [World.cell?, HBX.out]; rfl
      have q3 : W.cell? ⟨Bx, 3, none⟩ = some (.int .i64 y.mod) := by simp only [World.cell?, HBX.out]; rfl
      have hrun := HI.out.run
      rw [List.map_cons, List.filter_cons] at hrun
      obtain ⟨q, hq⟩ : ∃ q, preB pf y = q := ⟨_, rfl⟩
      rw [show Lib.hasPrefix y.k.data.toList pf.data.toList = q from hq] at HC
      dsimp only at hrun
      rw [hq] at hrun
      have HRN := Lib.hid hrun
      have HQ := Lib.hid hq
      have hlen : acc.length ≤ 150000 := by have := HI.out.len; simp only [List.length_cons] at this; omega
      clear hrun hq
      cases q with
      | true =>
        have HOA : Hid (Ow 57 4 encE (W.alloc (.cells #[.string y.k, .string y.v, .int .i64 y.made, .int .i64 y.mod] 57)) (wc.heap.size + 2) (.slice va acc.length vc) acc) := Lib.hid (HI.out.own.below ((Below.refl _ W).alloc (Nat.le_refl _) _))
        have HGA := Lib.hid (World.grownBy_alloc W (.cells #[.string y.k, .string y.v, .int .i64 y.made, .int .i64 y.mod] 57) none)
        have HSRC : Hid (∀ (j : Nat) (u : Value), [Value.string y.k, .string y.v, .int .i64 y.made, .int .i64 y.mod][j]? = some u → (W.alloc (.cells #[.string y.k, .string y.v, .int .i64 y.made, .int .i64 y.mod] 57)).cell? ((⟨W.heap.size, 0, none⟩ : Addr).add j) = some u) := Lib.hid fun j u hj => by
          rw [Go.WideShapes.add_plain]
          simp only [World.cell?, World.alloc_heap_new, Nat.zero_add]
          simpa using hj
        have HONE : Hid (∀ u ∈ [Value.string y.k, .string y.v, .int .i64 y.made, .int .i64 y.mod], u.oneCell' = true) := Lib.hid (by
          intro u hu
          simp only [List.mem_cons, List.not_mem_nil, or_false] at hu
          rcases hu with rfl | rfl | rfl | rfl <;> rfl)
        have HE1 := Lib.hid (show acc.length + 1 ≤ maxLen by unfold maxLen; omega)
        have HE2 := Lib.hid (show (acc.length + 1) * 48 ≤ 140737488355328 by omega)
        have HSZ : Hid (wc.heap.size + 2 ≤ (W.alloc (.cells #[.string y.k, .string y.v, .int .i64 y.made, .int .i64 y.mod] 57)).heap.size) := Lib.hid (by rw [World.size_alloc]; omega)
        gi_wp2_with fail
        refine ⟨trivial, (CallsIn.inRound l (callsIn_wide.2 (HC.out W))).mono ?_⟩
        rintro e w' ⟨rfl, rfl⟩
        gi_wp2_with (gi_at_builtin; (refine wpListIn_append_own_at _ rfl (.tmp 19) (.tmp 21) 28 rfl (wc.heap.size + 2) 57 i0 _ 4 48 Try.underlying28 hi hz0 hz1 hz2 (by rfl) (by decide) (.slice va acc.length vc) acc.length (cz encE acc) rfl HOA.out ⟨W.heap.size, 0, none⟩ 1 1 [.string y.k, .string y.v, .int .i64 y.made, .int .i64 y.mod] rfl rfl HSRC.out HONE.out HE1.out HE2.out HSZ.out ?_; intro v' w4 h1 h2 _ h4; have H1 := Lib.hid h1; have H2 := Lib.hid h2; have x2 := (HI.out.b1.kept HGA.out (by simp)).kept H2.out (fun e => by have := (HI.out.own.lt _ e.symm).1; have := HMW.out; omega); have x3 := x2.cell; have x4 := x2.frozen; obtain ⟨a2, c2, hv2⟩ := Ow.shape (enc := encE) (e := 57) (z := 4) (l := acc ++ [y]) (base := wc.heap.size + 2) (w := w4) (v := v') (by unfold Ow; rw [List.length_append, cz_app, cz_one]; exact H1.out); clear h1 h2 h4 x2))
        refine HI.out.goes HMW.out (grown_trans (grown_below ((Below.refl _ W).alloc (Nat.le_refl _) _) _) H2.out) ?_ HRN.out
        have h9 := H1.out
        rw [hv2] at h9
        unfold Ow
        rw [List.length_append] at h9 ⊢
        rw [cz_app, cz_one]
        exact h9
      | false =>
        gi_wp2_with fail
        refine ⟨trivial, (CallsIn.inRound l (callsIn_wide.2 (HC.out W))).mono ?_⟩
        rintro e w' ⟨rfl, rfl⟩
        gi_wp2
        exact ⟨Kept.refl _ _, rfl, HI.out.ends HQ.out⟩
    case done =>
      rintro W ⟨v, acc, hI⟩ hD
      have HI := Lib.hid hI
      have HD := Lib.hid hD
      clear hI hD
      obtain ⟨va, vc, hv⟩ := HI.out.own.shape
      subst hv
      have z0 := HI.out.b1.cell
      gi_wp2
      refine ⟨by simp, .inl ⟨_, _, rfl, run_takeDeferred HD.out, ?_⟩⟩
      have hg := grownBy_putObj' W wc.heap.size (.deferred none)
      refine ⟨.slice va acc.length vc, by simp [results, Try.results34, go_sem], ⟨_, rfl, ?_⟩, HI.out.bel.grown hg HI.out.bel.size (fun k e => by have := Option.some.inj e; have := HMW.out; omega)⟩
      have hr := HI.out.run
      rw [List.map_nil, List.filter_nil, List.append_nil] at hr
      rw [← hr]
      exact (HI.out.own.kept fun k hk hv => hg.block k hk (fun e => by have := (HI.out.own.lt k hv).1; have := Option.some.inj e; omega)).mono (by have := HMW.out; omega)
    case stop =>
      rintro c W ⟨rfl, v, acc, hI⟩ hD
      have HI := Lib.hid hI
      have HD := Lib.hid hD
      clear hI hD
      obtain ⟨va, vc, hv⟩ := HI.out.own.shape
      subst hv
      have z0 := HI.out.b1.cell
      gi_wp2
      refine ⟨by simp, .inl ⟨_, _, rfl, run_takeDeferred HD.out, ?_⟩⟩
      have hg := grownBy_putObj' W wc.heap.size (.deferred none)
      refine ⟨.slice va acc.length vc, by simp [results, Try.results34, go_sem], ⟨_, rfl, ?_⟩, HI.out.bel.grown hg HI.out.bel.size (fun k e => by have := Option.some.inj e; have := HMW.out; omega)⟩
      have hr := HI.out.run
      rw [List.map_nil, List.filter_nil, List.append_nil] at hr
      rw [← hr]
      exact (HI.out.own.kept fun k hk hv => hg.block k hk (fun e => by have := (HI.out.own.lt k hv).1; have := Option.some.inj e; omega)).mono (by have := HMW.out; omega)
end Go.Proofs.Ytbfkgbickjfcjaa
