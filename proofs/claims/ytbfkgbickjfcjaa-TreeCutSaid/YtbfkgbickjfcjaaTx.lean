/- since: what happened from a revision on, to the keys of a prefix. -/
import Derived.Test.YtbfkgbickjfcjaaTw
namespace Go.Proofs.Ytbfkgbickjfcjaa
set_option linter.unusedVariables false
set_option linter.unusedSimpArgs false
open Go Go.RowKit Go.Shelf
attribute [local go_sem] Oper.semAt_some
set_option maxRecDepth 100000
def preV (pf : ByteArray) (x : Ev) : Bool := Lib.hasPrefix x.k.data.toList pf.data.toList
def selV (pf : ByteArray) (ys : List (Int × List Ev)) : List Ev := ys.flatMap fun y => y.2.filter (preV pf)
def sinceL (pf : ByteArray) (fr : Int) (s : St) : List Ev := selV pf (frm ltI fr s.H)
structure VJ' (w : World) (pf : ByteArray) (M : Nat) (W : World) (v : Value) (acc : List Ev) : Prop where
  b0 : Boxed W w.heap.size 9 (.string pf)
  b1 : Boxed W (w.heap.size + 1) 29 v
  own : Ow 44 4 encV W (M + 2) v acc
  bel : Below w.heap.size w W
theorem VJ'.ab {w : World} {pf : ByteArray} {M : Nat} (hM : w.heap.size + 4 ≤ M) {A A' : World} {v : Value} {acc : List Ev} {row : Option Nat} (h : VJ' w pf M A v acc) (hg : A.grownBy A' row) (hr : ∀ r, row = some r → M ≤ r ∧ r < M + 2) : VJ' w pf M A' v acc :=
  ⟨h.b0.kept hg (fun e => by have := hr _ e.symm; omega), h.b1.kept hg (fun e => by have := hr _ e.symm; omega), h.own.kept (fun g hg' hv => hg.block g hg' (fun e => by have := hr _ e.symm; have := (h.own.lt g hv).1; omega)), h.bel.grown hg h.bel.size (fun k e => by have := hr _ e; omega)⟩
theorem VJ'.goes {w : World} {pf : ByteArray} {M : Nat} {W W4 : World} {v v' : Value} {acc acc' : List Ev} (h : VJ' w pf M W v acc) (hM : w.heap.size + 4 ≤ M) (g : W.grownBy W4 v.ownBlock) (ho : Ow 44 4 encV W4 (M + 2) v' acc') :
    Kept (fun j => (j < M ∧ j ≠ w.heap.size + 1) ∨ j = M ∨ j = M + 1) W (W4.setCell ⟨w.heap.size + 1, 0, none⟩ v') ∧ VJ' w pf M (W4.setCell ⟨w.heap.size + 1, 0, none⟩ v') v' acc' := by
  have g3 := grownBy_setCell' W4 (w.heap.size + 1) v'
  have lt := h.own.lt
  have n2 : ∀ k, k < M + 2 → some k ≠ v.ownBlock := fun k hk e => by have := (lt k e.symm).1; omega
  have hb4 : Below w.heap.size w W4 := h.bel.grown g h.bel.size (fun k e => by have := (lt k e).1; omega)
  refine ⟨⟨Nat.le_trans g.size g3.size, fun j hj hl => ?_⟩, (h.b0.kept g (n2 _ (by omega))).kept g3 (fun e => by have := Option.some.inj e; omega), (h.b1.kept g (n2 _ (by omega))).set v', ho.kept (fun k hk hv => g3.block k hk (fun e => by have := (ho.lt k hv).1; have := Option.some.inj e; omega)), hb4.grown g3 hb4.size (fun k e => by cases e; omega)⟩
  have hj1 : j < M + 2 ∧ j ≠ w.heap.size + 1 := by omega
  rw [g3.block j (Nat.lt_of_lt_of_le hl g.size) (fun e => hj1.2 (Option.some.inj e)), g.block j hl (n2 j hj1.1)]
/-- The slices' blocks lie apart. -/
def Apt (w : World) (M : Nat) (rest : List (Int × Sl)) : Prop := ∀ x ∈ rest, ∀ a, x.2.a = some a → a.block < M ∧ a.block ≠ w.heap.size + 1
theorem HAt.keptM {w : World} {M : Nat} {A A' : World} {xs : List (Int × Sl)} {ys : List (Int × List Ev)} (h : HAt A xs ys) (hp : Apt w M xs) (hk : ∀ j, j < M → j ≠ w.heap.size + 1 → j < A.heap.size → A'.heap[j]? = A.heap[j]?) : HAt A' xs ys :=
  h.keepP fun x hx a ha hl => hk _ (hp x hx a ha).1 (hp x hx a ha).2 hl
def VJ (w : World) (pf : ByteArray) (tot : List Ev) (M : Nat) (rest : List (Int × Sl)) (W : World) : Prop := ∃ v acc ys, VJ' w pf M W v acc ∧ HAt W rest ys ∧ Apt w M rest ∧ acc ++ selV pf ys = tot ∧ ∀ y ∈ ys, y.2.length ≤ 1000000
theorem VJ.ab {w : World} (pf : ByteArray) (tot : List Ev) {M : Nat} (hM : w.heap.size + 4 ≤ M) : Ab M (2 + 0) (VJ w pf tot M) := by
  rintro rest A A' row ⟨v, acc, ys, h, hh, hp, hr⟩ hg hrow
  exact ⟨v, acc, ys, h.ab hM hg hrow, hh.keptM hp fun j hj _ hl => hg.block j hl (fun e => by have := hrow _ e.symm; omega), hp, hr⟩
def NoB (x : Int × Sl) (Bx : Nat) (W : World) : Prop := True
set_option maxHeartbeats 2000000 in
theorem since_any (b : Nat) (s : St) (pf : ByteArray) (fr : Int) (w : World) (h : TrAt w b s) (hl : (sinceL pf fr s).length ≤ 1000000) (hH : ∀ y ∈ s.H, y.2.length ≤ 1000000) :
    Calls Try.prog 65 #[.pointer (some ⟨b, 0, none⟩), .string pf, .int .i64 fr] w fun e w' => (∃ v, e = .returned v ∧ Ow 44 4 encV w' w.heap.size v (sinceL pf fr s)) ∧ Below w.heap.size w w' := by
  obtain ⟨pe, pv, te, tv, hT⟩ := h
  have hbA : Below w.heap.size w ((w.alloc (.cells #[.string pf] 9)).alloc (.cells #[.slice none 0 0] 29)) := ((Below.refl _ w).alloc (Nat.le_refl _) _).alloc (by simp) _
  have hx0 : Boxed ((w.alloc (.cells #[.string pf] 9)).alloc (.cells #[.slice none 0 0] 29)) w.heap.size 9 (.string pf) := (Boxed.new w 9 _).alloc _
  have hx1 : Boxed ((w.alloc (.cells #[.string pf] 9)).alloc (.cells #[.slice none 0 0] 29)) (w.heap.size + 1) 29 (.slice none 0 0) := by
    have := Boxed.new (w.alloc (.cells #[.string pf] 9)) 29 (.slice none 0 0)
    rwa [World.size_alloc] at this
  have hszA : ((w.alloc (.cells #[.string pf] 9)).alloc (.cells #[.slice none 0 0] 29)).heap.size = w.heap.size + 2 := by simp
  obtain ⟨wA, hwA⟩ : ∃ wA, (w.alloc (.cells #[.string pf] 9)).alloc (.cells #[.slice none 0 0] 29) = wA := ⟨_, rfl⟩
  rw [hwA] at hbA hx0 hx1 hszA
  have hTA := hT.stay (Stay.below hbA) (hbA.block b (Array.getElem?_eq_some_iff.1 hT.blk).1)
  obtain ⟨⟨-, t1, -, -⟩, -⟩ := hTA.cells
  have HT := Lib.hid hTA
  have HBA := Lib.hid hbA
  have HX0 := Lib.hid hx0
  have HX1 := Lib.hid hx1
  have HSA := Lib.hid hszA
  have HL := Lib.hid hl
  have HHH := Lib.hid hH
  have HFR := Lib.hid (fun p W => ifrom_any p fr W)
  obtain ⟨i0, hi, hz0, hz1, hz2⟩ := info_parts info44
  clear hT hTA hbA hx0 hx1 hszA hl hH
  refine (callsIn_wide (n := 5)).1 ?_
  refine callsIn_of_wp_marks Try.func65 rfl trivial ?_ rfl
  simp only [Try.ntmps65, List.size_toArray, List.length_cons, List.length_nil, Nat.reduceAdd, Nat.reduceSub, Array.replicate_succ, Array.replicate_zero, List.push_toArray, List.append_toArray, List.nil_append, List.cons_append]
  gi_wp2_with fail
  refine ⟨trivial, (callsIn_wide.2 (HFR.out _ _)).mono ?_⟩
  clear hwA
  rintro e wc ⟨rfl, hwc⟩
  have hbc : Below wA.heap.size wA wc := by rw [hwc]; exact ((Below.refl _ wA).alloc (Nat.le_refl _) _).alloc (by simp) _
  have hc0 : Boxed wc wA.heap.size 92 (.pointer pv) := by rw [hwc]; exact (Boxed.new wA 92 _).alloc _
  have hc1 : Boxed wc (wA.heap.size + 1) 2 (.int .i64 fr) := by
    rw [hwc]
    have := Boxed.new (wA.alloc (.cells #[.pointer pv] 92)) 2 (.int .i64 fr)
    rwa [World.size_alloc] at this
  have hMw : w.heap.size + 4 ≤ wc.heap.size := by rw [hwc]; simp; have := HSA.out; omega
  have HMW := Lib.hid hMw
  have HTC := Lib.hid (HT.out.stay (Stay.below hbc) (hbc.block b (Array.getElem?_eq_some_iff.1 HT.out.blk).1))
  have HX0c := Lib.hid (boxed_below HX0.out hbc)
  have HX1c := Lib.hid (boxed_below HX1.out hbc)
  have HBC := Lib.hid (HBA.out.trans (hbc.mono HBA.out.size))
  have HC0 := Lib.hid hc0
  have HC1 := Lib.hid hc1
  clear hwc hbc hc0 hc1 hMw t1 HT HBA HX0 HX1 HFR
  have hI0 : VJ w pf (sinceL pf fr s) wc.heap.size (frm ltI fr tv.flat) wc := by
    refine ⟨.slice none 0 0, [], frm ltI fr s.H, ⟨HX0c.out, HX1c.out, Ow.nil _ _, HBC.out⟩, HTC.out.vf.filter (fun a => !ltI a fr), ?_, by rw [List.nil_append]; rfl, fun y hy => HHH.out y (List.mem_filter.1 hy).1⟩
    intro x hx a ha
    have hx' := (List.mem_filter.1 hx).1
    have hf : ∀ {xs : List (Int × Sl)} {ys : List (Int × List Ev)}, HAt wc xs ys → ∀ x ∈ xs, ∀ a, x.2.a = some a → a.block < wc.heap.size ∧ a.block ≠ w.heap.size + 1 := by
      intro xs
      induction xs with
      | nil => intro ys _ x hx; cases hx
      | cons z zs ih =>
        intro ys hz x hx a ha
        cases ys with
        | nil => exact hz.elim
        | cons y ys =>
          obtain ⟨-, ⟨g, cur, m, e1, -, e3, -⟩, h3⟩ := hz
          rcases List.mem_cons.1 hx with rfl | hx
          · rw [e1] at ha
            cases ha
            refine ⟨(Array.getElem?_eq_some_iff.1 e3).1, fun e => ?_⟩
            dsimp only at e
            rw [e, HX1c.out] at e3
            cases e3
          · exact ih h3 x hx a ha
    exact hf HTC.out.vf x hx' a ha
  have HI0 := Lib.hid hI0
  clear hI0
  gi_wp2_with fail
  apply wp_range2 (gf := 81) (lb := #[.pointer (some ⟨wA.heap.size, 0, none⟩), .pointer (some ⟨wA.heap.size + 1, 0, none⟩)]) rfl (enters_of Try.func81 (by kernel_rfl) rfl) encI (fun _ => rfl) (frm ltI fr tv.flat) 0 (fun j => j < wc.heap.size ∧ j ≠ w.heap.size + 1) (by omega) ?seq
      (VJ w pf (sinceL pf fr s) wc.heap.size) (fun _ _ => False) (VJ.ab _ _ HMW.out) (fun _ _ _ _ h _ _ => h.elim) HI0.out
      NoB (fun _ _ _ _ _ _ _ _ => trivial) _ ?assign ?body ?done ?stop
  case seq =>
    intro W hW hb
    have hin : IIn (fun j => j < wc.heap.size ∧ j ≠ w.heap.size + 1) wc pv tv := HTC.out.v.inq fun b k x n pl pr hn => ⟨hn.lt, fun e => by
        have h1 := hn.blk
        rw [e, HX1c.out] at h1
        cases h1⟩
    exact ifrom_gives _ tv pv fr _ W (hin.kept (Kept.below hb fun j hj => hj.1)) HTC.out.svt wA.heap.size (wA.heap.size + 1) (boxed_below HC0.out hb).cell (boxed_below HC1.out hb).cell
  case assign =>
    intro l x rest W K hI hB hK
    simp only [encI]
    gi_wp2
    obtain ⟨Bx, -⟩ : ∃ n : Nat, n = W.heap.size := ⟨_, rfl⟩
    exact hK Bx _ (Kept.refl _ _) hI trivial
  case body =>
    rintro l x rest Bx W ⟨v, acc, ys, hI, hH, hP, hR, hY⟩ - hB
    cases ys with
    | nil => exact hH.elim
    | cons y ys =>
    obtain ⟨hxy, hev, hH⟩ := hH
    have HI := Lib.hid hI
    have HH := Lib.hid hH
    have HP := Lib.hid hP
    have HR := Lib.hid hR
    have HYS := Lib.hid hY
    have HEV := Lib.hid hev
    obtain ⟨rv, sl⟩ := x
    obtain ⟨sa, sn, sc⟩ := sl
    clear hI hH hP hR hev hxy hY
    obtain ⟨g, cur, mk, ea, en, eh, ec⟩ := HEV.out
    dsimp only at ea en
    subst ea en
    have HP0 := HP.out _ (List.mem_cons_self ..) _ rfl
    dsimp only at HP0
    have HCUR : Hid (∀ W', Kept (fun j => (j < wc.heap.size ∧ j ≠ w.heap.size + 1) ∨ j = wc.heap.size ∨ j = wc.heap.size + 1) W W' → ∀ (i : Nat) (hi : i < y.2.length), W'.cell? ⟨g, i * 4, none⟩ = some (.int .i64 y.2[i].rev) ∧ W'.cell? ⟨g, i * 4 + 1, none⟩ = some (.bool y.2[i].del) ∧ W'.cell? ⟨g, i * 4 + 2, none⟩ = some (.string y.2[i].k) ∧ W'.cell? ⟨g, i * 4 + 3, none⟩ = some (.string y.2[i].v)) := Lib.hid fun W' hk i hi => by
      have hb := (hk.same g (.inl HP0) (Array.getElem?_eq_some_iff.1 eh).1).trans eh
      have := RAt.atV (W := W') (g := g) (o := 0) (l := y.2) (fun j u hj => by simp only [World.cell?, hb, Nat.zero_add]; simpa using ec j u hj) i hi
      simpa only [Nat.zero_add] using this
    have HP0' := Lib.hid HP0
    obtain ⟨N, hN⟩ : ∃ n, y.2.length = n := ⟨_, rfl⟩
    have HN := Lib.hid hN
    have hNle : N ≤ 1000000 := by rw [← hN]; exact HYS.out y (by simp)
    rw [hN]
    clear eh ec HP0 hN
    gi_wp2_with fail
    gi_loopw [22] (fun t wr => ∃ (i : Nat) (v' : Value) (acc' : List Ev), t = .int .i64 i ∧ i ≤ N ∧ Hid (VJ' w pf wc.heap.size wr v' acc' ∧ Kept (fun j => (j < wc.heap.size ∧ j ≠ w.heap.size + 1) ∨ j = wc.heap.size ∨ j = wc.heap.size + 1) W wr ∧ acc' ++ ((y.2.drop i).filter (preV pf) ++ selV pf ys) = sinceL pf fr s)) (fun t _ => N - (intOf t).toNat)
    case atStart => exact ⟨0, v, acc, rfl, Nat.zero_le _, Lib.hid ⟨HI.out, Kept.refl _ _, HR.out⟩⟩
    case round =>
      obtain ⟨i, v', acc', rfl, hi', HH2⟩ := hrel
      by_cases hlt : i < N
      · have hli : i < y.2.length := by rw [HN.out]; exact hlt
        obtain ⟨z, hz⟩ : ∃ z, y.2[i] = z := ⟨_, rfl⟩
        obtain ⟨q0, q1, q2, q3⟩ := HCUR.out wr HH2.out.2.1 i hli
        rw [hz] at q0 q1 q2 q3
        have hdr : y.2.drop i = z :: y.2.drop (i + 1) := by rw [List.drop_eq_getElem_cons hli, hz]
        have hrun := HH2.out.2.2
        rw [hdr, List.filter_cons] at hrun
        have hJ := HH2.out.1
        obtain ⟨va, vc, hv⟩ := hJ.own.shape
        subst hv
        have hla : acc'.length ≤ 1000000 := by
          have h1 := congrArg List.length HH2.out.2.2
          rw [List.length_append] at h1
          have := HL.out
          omega
        have hbx : Below wr.heap.size wr (wr.alloc (.cells #[.int .i64 z.rev, .bool z.del, .string z.k, .string z.v] 44)) := (Below.refl _ wr).alloc (Nat.le_refl _) _
        have hszr : wc.heap.size + 2 ≤ wr.heap.size := by have := HH2.out.2.1.size; omega
        have hga := World.grownBy_alloc wr (.cells #[.int .i64 z.rev, .bool z.del, .string z.k, .string z.v] 44) none
        have HK1 : Hid (Kept (fun j => (j < wc.heap.size ∧ j ≠ w.heap.size + 1) ∨ j = wc.heap.size ∨ j = wc.heap.size + 1) W (wr.alloc (.cells #[.int .i64 z.rev, .bool z.del, .string z.k, .string z.v] 44))) := Lib.hid (HH2.out.2.1.trans (Kept.grown hga (fun r e => by cases e)))
        have HJ1 : Hid (VJ' w pf wc.heap.size (wr.alloc (.cells #[.int .i64 z.rev, .bool z.del, .string z.k, .string z.v] 44)) (.slice va acc'.length vc) acc') := Lib.hid (hJ.ab HMW.out hga (fun r e => by cases e))
        have hk1 : (wr.alloc (.cells #[.int .i64 z.rev, .bool z.del, .string z.k, .string z.v] 44)).heap[wr.heap.size]? = some (.cells #[.int .i64 z.rev, .bool z.del, .string z.k, .string z.v] 44 (0, 0)) := World.alloc_heap_new _ _
        obtain ⟨w1, hw1⟩ : ∃ w1, wr.alloc (.cells #[.int .i64 z.rev, .bool z.del, .string z.k, .string z.v] 44) = w1 := ⟨_, rfl⟩
        rw [hw1] at HK1 HJ1 hk1
        have hsz1 : w1.heap.size = wr.heap.size + 1 := by rw [← hw1]; simp
        have HK := Lib.hid hk1
        have x0 : w1.cell? ⟨wr.heap.size, 0, none⟩ = some (.int .i64 z.rev) := by simp [World.cell?, hk1]
        have x1 : w1.cell? ⟨wr.heap.size, 1, none⟩ = some (.bool z.del) := by simp [World.cell?, hk1]
        have x2 : w1.cell? ⟨wr.heap.size, 2, none⟩ = some (.string z.k) := by simp [World.cell?, hk1]
        have x3 : w1.cell? ⟨wr.heap.size, 3, none⟩ = some (.string z.v) := by simp [World.cell?, hk1]
        have c0 : w1.cell? ⟨w.heap.size, 0, none⟩ = some (.string pf) := HJ1.out.b0.cell
        have c1 : w1.cell? ⟨w.heap.size + 1, 0, none⟩ = some (.slice va acc'.length vc) := HJ1.out.b1.cell
        have c2 := HJ1.out.b1.frozen
        have HC := Lib.hid (begins_any z.k pf w1)
        obtain ⟨q, hq⟩ : ∃ q, preV pf z = q := ⟨_, rfl⟩
        rw [show Lib.hasPrefix z.k.data.toList pf.data.toList = q from hq] at HC
        rw [hq] at hrun
        have HRN := Lib.hid hrun
        have HSZR := Lib.hid hszr
        have HSZ1 := Lib.hid hsz1
        clear hz hdr hrun hJ hbx hga hk1 hq hli hszr hsz1
        cases q with
        | false =>
          clear x0 x1 x3 c1 c2
          gi_wp2_with fail
          refine ⟨trivial, (CallsIn.inRound l (callsIn_wide.2 HC.out)).mono ?_⟩
          clear hw1
          rintro e w' ⟨rfl, rfl⟩
          gi_wp2
          go_roundw
          case rel => exact ⟨i + 1, _, _, by simp, by omega, Lib.hid ⟨HJ1.out, HK1.out, by have := HRN.out; simpa using this⟩⟩
          case measure => (try simp [intOf]); (try omega)
        | true =>
          have HOA : Hid (Ow 44 4 encV (w1.alloc (.cells #[.int .i64 z.rev, .bool z.del, .string z.k, .string z.v] 44)) (wc.heap.size + 2) (.slice va acc'.length vc) acc') := Lib.hid (HJ1.out.own.below ((Below.refl _ w1).alloc (Nat.le_refl _) _))
          have HGA := Lib.hid (World.grownBy_alloc w1 (.cells #[.int .i64 z.rev, .bool z.del, .string z.k, .string z.v] 44) none)
          have HSRC : Hid (∀ (j : Nat) (u : Value), [Value.int .i64 z.rev, .bool z.del, .string z.k, .string z.v][j]? = some u → (w1.alloc (.cells #[.int .i64 z.rev, .bool z.del, .string z.k, .string z.v] 44)).cell? ((⟨w1.heap.size, 0, none⟩ : Addr).add j) = some u) := Lib.hid fun j u hj => by
            rw [Go.WideShapes.add_plain]
            simp only [World.cell?, World.alloc_heap_new, Nat.zero_add]
            simpa using hj
          have HONE : Hid (∀ u ∈ [Value.int .i64 z.rev, .bool z.del, .string z.k, .string z.v], u.oneCell' = true) := Lib.hid (by
            intro u hu
            simp only [List.mem_cons, List.not_mem_nil, or_false] at hu
            rcases hu with rfl | rfl | rfl | rfl <;> rfl)
          have HE1 := Lib.hid (show acc'.length + 1 ≤ maxLen by unfold maxLen; omega)
          have HE2 := Lib.hid (show (acc'.length + 1) * 48 ≤ 140737488355328 by omega)
          have HSZ : Hid (wc.heap.size + 2 ≤ (w1.alloc (.cells #[.int .i64 z.rev, .bool z.del, .string z.k, .string z.v] 44)).heap.size) := Lib.hid (by rw [World.size_alloc]; have := HSZR.out; have := HSZ1.out; omega)
          gi_wp2_with fail
          refine ⟨trivial, (CallsIn.inRound l (callsIn_wide.2 HC.out)).mono ?_⟩
          clear hw1
          rintro e w' ⟨rfl, rfl⟩
          gi_wp2_with (gi_at_builtin; (refine wpListIn_append_own_at _ rfl (.tmp 30) (.tmp 32) 29 rfl (wc.heap.size + 2) 44 i0 _ 4 48 Try.underlying29 hi hz0 hz1 hz2 (by rfl) (by decide) (.slice va acc'.length vc) acc'.length (cz encV acc') rfl HOA.out ⟨w1.heap.size, 0, none⟩ 1 1 [.int .i64 z.rev, .bool z.del, .string z.k, .string z.v] rfl rfl HSRC.out HONE.out HE1.out HE2.out HSZ.out ?_; intro v' w4 h1 h2 _ h4; have H1 := Lib.hid h1; have H2 := Lib.hid h2; have x2 := (HJ1.out.b1.kept HGA.out (by simp)).kept H2.out (fun e => by have := (HJ1.out.own.lt _ e.symm).1; have := HMW.out; omega); have x3 := x2.cell; have x4 := x2.frozen; obtain ⟨a2, c2', hv2⟩ := Ow.shape (enc := encV) (e := 44) (z := 4) (l := acc' ++ [z]) (base := wc.heap.size + 2) (w := w4) (v := v') (by unfold Ow; rw [List.length_append, cz_app, cz_one]; exact H1.out); clear h1 h2 h4 x2))
          have hfin := HJ1.out.goes HMW.out (acc' := acc' ++ [z]) (v' := .slice a2 (acc' ++ [z]).length c2') (grown_trans (grown_below ((Below.refl _ w1).alloc (Nat.le_refl _) _) _) H2.out) (by
            have h9 := H1.out
            rw [hv2] at h9
            unfold Ow
            rw [List.length_append] at h9 ⊢
            rw [cz_app, cz_one]
            exact h9)
          simp only [List.length_append, List.length_singleton] at hfin
          have HF := Lib.hid hfin
          clear hfin
          go_roundw
          case rel => exact ⟨i + 1, _, _, by simp, by omega, Lib.hid ⟨HF.out.2, HK1.out.trans HF.out.1, by have := HRN.out; rw [List.append_assoc]; simpa using this⟩⟩
          case measure => (try simp [intOf]); (try omega)
      · obtain rfl : i = N := by omega
        gi_wp2
        have hH2 := HH2.out
        refine ⟨hH2.2.1, v', acc', ys, hH2.1, HH.out.keptM (fun x hx => HP.out x (List.mem_cons_of_mem _ hx)) (fun j hj hne hl => hH2.2.1.same j (.inl ⟨hj, hne⟩) hl), fun x hx => HP.out x (List.mem_cons_of_mem _ hx), ?_⟩
        have := hH2.2.2
        rw [← HN.out, List.drop_length] at this
        exact ⟨this, fun z hz => HYS.out z (List.mem_cons_of_mem _ hz)⟩
  case done =>
    rintro W ⟨v, acc, ys, hI, hH, hP, hR, -⟩ hD
    have HI := Lib.hid hI
    have HD := Lib.hid hD
    cases ys with
    | cons y ys => exact hH.elim
    | nil =>
    have HR := Lib.hid hR
    clear hI hD hH hP hR
    obtain ⟨va, vc, hv⟩ := HI.out.own.shape
    subst hv
    have z0 := HI.out.b1.cell
    gi_wp2
    refine ⟨by simp, .inl ⟨_, _, rfl, run_takeDeferred HD.out, ?_⟩⟩
    have hg := grownBy_putObj' W wc.heap.size (.deferred none)
    refine ⟨.slice va acc.length vc, by simp [results, Try.results65, go_sem], ⟨_, rfl, ?_⟩, HI.out.bel.grown hg HI.out.bel.size (fun k e => by have := Option.some.inj e; have := HMW.out; omega)⟩
    have hr : acc ++ [] = sinceL pf fr s := HR.out
    rw [List.append_nil] at hr
    rw [← hr]
    exact (HI.out.own.kept fun k hk hv => hg.block k hk (fun e => by have := (HI.out.own.lt k hv).1; have := Option.some.inj e; omega)).mono (by have := HMW.out; omega)
  case stop => exact fun c W h _ => h.elim
end Go.Proofs.Ytbfkgbickjfcjaa
