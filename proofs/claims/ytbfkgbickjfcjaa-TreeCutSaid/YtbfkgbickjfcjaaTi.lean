/- tell: a tree, gone over from a key on. -/
import Derived.Test.YtbfkgbickjfcjaaTg
import Derived.Test.YtbfkgbickjfcjaaRg
import Derived.Test.YtbfkgbickjfcjaaSt
import Derived.RangeFuncNested
import Derived.RangeFuncBound
import Derived.RangeFuncCalls
import Derived.RangeFuncLeaves
import Derived.Shelf.Abstract
import Derived.Shelf.RegionOpen
import Derived.OwnWalkIn
import Derived.TacticsInMore
import Derived.LoopNIn
import Derived.LoopIn
namespace Go.Proofs.Ytbfkgbickjfcjaa
set_option linter.unusedVariables false
set_option linter.unusedSimpArgs false
open Go Go.RowKit Go.Shelf
attribute [local go_sem] Oper.semAt_some
set_option maxRecDepth 100000
/-- The tree's nodes lie in these blocks. -/
def SIn (q : Nat → Prop) (w : World) : Option Addr → T ByteArray En → Prop
  | p, .nil => p = none
  | p, .node k x l r => ∃ b pl pr, p = some ⟨b, 0, none⟩ ∧ q b ∧ NS w b k x ((l.sz + 1 + r.sz : Nat) : Int) pl pr ∧ SIn q w pl l ∧ SIn q w pr r
theorem SIn.kept {q : Nat → Prop} {A B : World} (h : Kept q A B) : ∀ {t : T ByteArray En} {p : Option Addr}, SIn q A p t → SIn q B p t
  | .nil, _, ht => ht
  | .node _ _ _ _, _, ⟨b, pl, pr, hp, hq, hn, hl, hr⟩ => ⟨b, pl, pr, hp, hq, hn.kept (h.same b hq hn.lt), hl.kept h, hr.kept h⟩
theorem SAt.inq {q : Nat → Prop} {w : World} (h : ∀ b k x n pl pr, NS w b k x n pl pr → q b) : ∀ {t : T ByteArray En} {p : Option Addr}, SAt w p t → SIn q w p t
  | .nil, _, ht => ht
  | .node _ _ _ _, _, ⟨b, pl, pr, hp, hn, hl, hr⟩ => ⟨b, pl, pr, hp, h _ _ _ _ _ _ hn, hn, hl.inq h, hr.inq h⟩
def encS (x : ByteArray × En) : Array Value := #[.string x.1, .agg #[.string x.2.k, .string x.2.v, .int .i64 x.2.made, .int .i64 x.2.mod]]
def TellRS (q : Nat → Prop) (J : List (ByteArray × En) → World → Prop) (Jx : Unit → World → Prop) (rest : List (ByteArray × En)) (W : World) (e : Ending) (A : World) : Prop :=
  (e = .returned (.bool true) ∧ J rest A ∧ Kept q W A) ∨ (e = .returned (.bool false) ∧ Jx () A)
def YsS (l : Nat) (q : Nat → Prop) (J : List (ByteArray × En) → World → Prop) (Jx : Unit → World → Prop) (b0 : Nat) : Prop :=
  ∀ x rest A m, J (x :: rest) A → b0 ≤ A.heap.size → YieldAt Fence.wide m Try.prog l (encS x) A (TellRS q J Jx rest A)
set_option maxHeartbeats 4000000 in
theorem stell_in (l : Nat) (q : Nat → Prop) (J : List (ByteArray × En) → World → Prop) (Jx : Unit → World → Prop) (b0 : Nat) (hD : ∀ s A, J s A → J s A.drew) (hY : YsS l q J Jx b0) (t : T ByteArray En) :
    ∀ (n : Nat) (p : Option Addr) (k : ByteArray) (rest : List (ByteArray × En)) (W : World), SIn q W p t → Srt ltS t.flat → J (frm ltS k t.flat ++ rest) W → b0 ≤ W.heap.size →
      CallsIn Fence.wide n Try.prog 87 #[.pointer p, .string k, .func (.yield l) #[] #[]] W (TellRS q J Jx rest W) := by
  have HY := Lib.hid hY
  have HD := Lib.hid hD
  clear hY hD
  induction t with
  | nil =>
    intro n p k rest W h _ hJ _
    obtain rfl := h
    have HJ := Lib.hid hJ
    clear hJ
    refine callsIn_of_wp Try.func87 rfl trivial ?_ rfl
    simp only [Try.ntmps87, List.size_toArray, List.length_cons, List.length_nil, Nat.reduceAdd, Nat.reduceSub, Array.replicate_succ, Array.replicate_zero, List.push_toArray, List.append_toArray, List.nil_append, List.cons_append]
    gi_wp2
    go_ret
    exact .inl ⟨rfl, HJ.out, Kept.refl _ _⟩
  | node a y tl tr ihl ihr =>
  intro n p k rest W h hs hJ hb0
  obtain ⟨b, pl, pr, rfl, hqb, hn, hl, hr⟩ := h
  have HQB := Lib.hid hqb
  have HSN := Lib.hid hs
  have HS := Lib.hid hs.node
  have HN := Lib.hid hn
  have HL := Lib.hid hl
  have HR := Lib.hid hr
  have HJ := Lib.hid hJ
  have HB0 := Lib.hid hb0
  have HIL := Lib.hid ihl
  have HIR := Lib.hid ihr
  clear hqb hs hn hl hr hJ hb0 ihl ihr
  obtain ⟨k0, v1, v2, v3, v4, -, d0, d1⟩ := HN.out.cells
  cases hk : ltS k a with
  | true =>
    have HK := Lib.hid hk
    have f1 : Op.bytesLess k.toList a.toList = true := hk
    clear hk
    have HF := Lib.hid (frm_lt linS HSN.out HK.out)
    have HJ1 : Hid (J (frm ltS k tl.flat ++ ((a, y) :: (frm ltS k tr.flat ++ rest))) W) := Lib.hid (by have hj := HJ.out; rw [T.flat, HF.out] at hj; simpa [List.append_assoc] using hj)
    have HC1 := Lib.hid (HIL.out (n - 1) pl k ((a, y) :: (frm ltS k tr.flat ++ rest)) W HL.out HS.out.1 HJ1.out HB0.out)
    refine callsIn_of_wp Try.func87 rfl trivial ?_ rfl
    simp only [Try.ntmps87, List.size_toArray, List.length_cons, List.length_nil, Nat.reduceAdd, Nat.reduceSub, Array.replicate_succ, Array.replicate_zero, List.push_toArray, List.append_toArray, List.nil_append, List.cons_append]
    gi_wp2_with fail
    refine ⟨trivial, (fun h => (by cases h)), HC1.out.mono ?_⟩
    clear HJ1
    rintro e W1 (⟨rfl, hj1, hk1⟩ | ⟨rfl, hx1⟩)
    · have HK1 := Lib.hid hk1
      have HN1 := Lib.hid (HN.out.kept (hk1.same b HQB.out HN.out.lt))
      have HR1 := Lib.hid (HR.out.kept hk1)
      have HJ1 := Lib.hid hj1
      have HB1 := Lib.hid (Nat.le_trans HB0.out hk1.size)
      obtain ⟨z0, z1, z2, z3, z4, -, -, z7⟩ := HN1.out.cells
      clear hj1 hk1
      gi_wp2_with fail
      have HYY := Lib.hid (HY.out (a, y) _ W1.drew (n - 1) (HD.out _ _ HJ1.out) HB1.out)
      refine wpIn_region_still_tail 16 (by kernel_rfl) (by kernel_rfl) ?_
      simp only [List.take_succ_cons, List.take_zero, List.drop_succ_cons, List.drop_zero]
      repeat still_step
      try refine wpStill_nil ?_
      change wpListIn _ _ _ _ _ _ _ W1.drew
      have HN1d := Lib.hid (HN1.out.kept (w' := W1.drew) rfl)
      have HR1d := Lib.hid (SIn.kept (q := q) (A := W1) (B := W1.drew) ⟨Nat.le_refl _, fun _ _ _ => rfl⟩ HR1.out)
      have HK1d : Hid (Kept q W W1.drew) := Lib.hid (HK1.out.trans ⟨Nat.le_refl _, fun _ _ _ => rfl⟩)
      clear HN1 HR1 HK1 HJ1 HB1
      generalize W1.drew = W2 at *
      obtain ⟨fn, tmps, assign, body, hy, hR⟩ := HYY.out
      have HYR := Lib.hid hR
      clear hR HYY
      simp only [encS] at hy
      gi_wp2_with fail
      refine ⟨(fun h => (by cases h)), HYR.out.mono ?_⟩
      clear HYR hy
      rintro e W3 (⟨rfl, hj3, hk3⟩ | ⟨rfl, hx3⟩)
      · have HK3 := Lib.hid (HK1d.out.trans hk3)
        have HN3 := Lib.hid (HN1d.out.kept (hk3.same b HQB.out HN1d.out.lt))
        have HR3 := Lib.hid (HR1d.out.kept hk3)
        have HJ3 := Lib.hid hj3
        clear hj3 hk3
        obtain ⟨-, -, -, -, -, -, -, g7⟩ := HN3.out.cells
        have HC3 := Lib.hid (HIR.out (n - 1) pr k rest W3 HR3.out HS.out.2.1 (HJ3.out) (Nat.le_trans HB0.out HK3.out.size))
        gi_wp2_with fail
        refine ⟨trivial, (fun h => (by cases h)), HC3.out.mono ?_⟩
        rintro e W4 (⟨rfl, hj4, hk4⟩ | ⟨rfl, hx4⟩)
        · have HJ4 := Lib.hid hj4
          have HK4 := Lib.hid (HK3.out.trans hk4)
          clear hj4 hk4
          gi_wp2
          go_ret
          exact .inl ⟨rfl, HJ4.out, HK4.out⟩
        · have HX := Lib.hid hx4
          clear hx4
          gi_wp2
          go_ret
          exact .inr ⟨rfl, HX.out⟩
      · have HX := Lib.hid hx3
        clear hx3
        gi_wp2
        go_ret
        exact .inr ⟨rfl, HX.out⟩
    · have HX := Lib.hid hx1
      clear hx1
      gi_wp2
      go_ret
      exact .inr ⟨rfl, HX.out⟩
  | false =>
  have hka := hk
  clear hk
  cases hk : ltS a k with
  | true =>
    have HK := Lib.hid hk
    have f1 : Op.bytesLess k.toList a.toList = false := linS.asym hk
    have f2 : (k.toList == a.toList) = false := ltS_ne hk
    clear hk hka
    have HF := Lib.hid (frm_gt linS HSN.out HK.out)
    have HJ1 : Hid (J (frm ltS k tr.flat ++ rest) W) := Lib.hid (by have hj := HJ.out; rw [T.flat, HF.out] at hj; exact hj)
    have HC3 := Lib.hid (fun W1 (h1 : W1.heap = W.heap) (hj : J (frm ltS k tr.flat ++ rest) W1) => HIR.out (n - 1) pr k rest W1 (HR.out.kept (B := W1) ⟨by rw [h1]; exact Nat.le_refl _, fun _ _ _ => by rw [h1]⟩) HS.out.2.1 hj (by rw [h1]; exact HB0.out))
    refine callsIn_of_wp Try.func87 rfl trivial ?_ rfl
    simp only [Try.ntmps87, List.size_toArray, List.length_cons, List.length_nil, Nat.reduceAdd, Nat.reduceSub, Array.replicate_succ, Array.replicate_zero, List.push_toArray, List.append_toArray, List.nil_append, List.cons_append]
    gi_wp2_with fail
    refine ⟨trivial, ?_⟩
    gi_wp2_with fail
    refine wpIn_region_still_tail 16 (by kernel_rfl) (by kernel_rfl) ?_
    simp only [List.take_succ_cons, List.take_zero, List.drop_succ_cons, List.drop_zero]
    refine Sq.out ?_
    iterate 16 (refine Sq.step (fun K hK => ?_); go_simp; refine hK _ ?_; clear hK K)
    refine Sq.nil ?_
    refine Lq.out ?_
    iterate 2 refine Lq.skip (by kernel_rfl) ?_
    refine ⟨?_⟩
    change wpListIn _ _ _ _ _ _ _ W.drew
    gi_wp2_with fail
    refine ⟨trivial, (fun h => (by cases h)), (HC3.out W.drew rfl (HD.out _ _ HJ1.out)).mono ?_⟩
    rintro e W4 (⟨rfl, hj4, hk4⟩ | ⟨rfl, hx4⟩)
    · have HJ4 := Lib.hid hj4
      have HK4 : Hid (Kept q W W4) := Lib.hid (Kept.trans (A := W) (B := W.drew) ⟨Nat.le_refl _, fun _ _ _ => rfl⟩ hk4)
      clear hj4 hk4
      gi_wp2
      go_ret
      exact .inl ⟨rfl, HJ4.out, HK4.out⟩
    · have HX := Lib.hid hx4
      clear hx4
      gi_wp2
      go_ret
      exact .inr ⟨rfl, HX.out⟩
  | false =>
    obtain rfl := linS.tri _ _ hka hk
    clear hka hk
    have f1 : Op.bytesLess k.toList k.toList = false := linS.irr _
    have HF := Lib.hid (frm_all linS HSN.out)
    have HFR := Lib.hid (frm_r linS HS.out.2.2.2)
    have HJ1 : Hid (J ((k, y) :: (tr.flat ++ rest)) W) := Lib.hid (by have hj := HJ.out; rw [T.flat, HF.out] at hj; exact hj)
    have HN1 := HN
    have HR1 := HR
    have HK1 := Lib.hid (Kept.refl q W)
    have HB1 := HB0
    refine callsIn_of_wp Try.func87 rfl trivial ?_ rfl
    simp only [Try.ntmps87, List.size_toArray, List.length_cons, List.length_nil, Nat.reduceAdd, Nat.reduceSub, Array.replicate_succ, Array.replicate_zero, List.push_toArray, List.append_toArray, List.nil_append, List.cons_append]
    gi_wp2_with fail
    refine ⟨trivial, ?_⟩
    gi_wp2_with fail
    have HYY := Lib.hid (HY.out (k, y) _ W.drew (n - 1) (HD.out _ _ HJ1.out) HB1.out)
    refine wpIn_region_still_tail 16 (by kernel_rfl) (by kernel_rfl) ?_
    simp only [List.take_succ_cons, List.take_zero, List.drop_succ_cons, List.drop_zero]
    repeat still_step
    try refine wpStill_nil ?_
    change wpListIn _ _ _ _ _ _ _ W.drew
    have HN1d := Lib.hid (HN1.out.kept (w' := W.drew) rfl)
    have HR1d := Lib.hid (SIn.kept (q := q) (A := W) (B := W.drew) ⟨Nat.le_refl _, fun _ _ _ => rfl⟩ HR1.out)
    have HK1d : Hid (Kept q W W.drew) := Lib.hid (HK1.out.trans ⟨Nat.le_refl _, fun _ _ _ => rfl⟩)
    clear HN1 HR1 HK1 HJ1 HB1
    generalize W.drew = W2 at *
    obtain ⟨fn, tmps, assign, body, hy, hR⟩ := HYY.out
    have HYR := Lib.hid hR
    clear hR HYY
    simp only [encS] at hy
    gi_wp2_with fail
    refine ⟨(fun h => (by cases h)), HYR.out.mono ?_⟩
    clear HYR hy
    rintro e W3 (⟨rfl, hj3, hk3⟩ | ⟨rfl, hx3⟩)
    · have HK3 := Lib.hid (HK1d.out.trans hk3)
      have HN3 := Lib.hid (HN1d.out.kept (hk3.same b HQB.out HN1d.out.lt))
      have HR3 := Lib.hid (HR1d.out.kept hk3)
      have HJ3 := Lib.hid hj3
      clear hj3 hk3
      obtain ⟨-, -, -, -, -, -, -, g7⟩ := HN3.out.cells
      have HC3 := Lib.hid (HIR.out (n - 1) pr k rest W3 HR3.out HS.out.2.1 (by rw [HFR.out]; exact HJ3.out) (Nat.le_trans HB0.out HK3.out.size))
      gi_wp2_with fail
      refine ⟨trivial, (fun h => (by cases h)), HC3.out.mono ?_⟩
      rintro e W4 (⟨rfl, hj4, hk4⟩ | ⟨rfl, hx4⟩)
      · have HJ4 := Lib.hid hj4
        have HK4 := Lib.hid (HK3.out.trans hk4)
        clear hj4 hk4
        gi_wp2
        go_ret
        exact .inl ⟨rfl, HJ4.out, HK4.out⟩
      · have HX := Lib.hid hx4
        clear hx4
        gi_wp2
        go_ret
        exact .inr ⟨rfl, HX.out⟩
    · have HX := Lib.hid hx3
      clear hx3
      gi_wp2
      go_ret
      exact .inr ⟨rfl, HX.out⟩
end Go.Proofs.Ytbfkgbickjfcjaa
