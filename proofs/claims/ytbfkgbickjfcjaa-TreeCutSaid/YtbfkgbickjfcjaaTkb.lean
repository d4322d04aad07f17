/- A tree whose events lie in blocks of which something holds. -/
import Derived.Test.YtbfkgbickjfcjaaTk
namespace Go.Proofs.Ytbfkgbickjfcjaa
set_option linter.unusedVariables false
set_option linter.unusedSimpArgs false
open Go.RowKit
set_option maxRecDepth 100000
def TrP (P : Nat → Prop) (w : World) (b : Nat) (s : St) : Prop := ∃ pe pv te tv, TrIn w b s pe pv te tv ∧ ∀ x ∈ tv.flat, ∀ a, x.2.a = some a → P a.block
theorem TrP.at {P : Nat → Prop} {w : World} {b : Nat} {s : St} (h : TrP P w b s) : TrAt w b s := by
  obtain ⟨pe, pv, te, tv, h, -⟩ := h
  exact ⟨pe, pv, te, tv, h⟩
theorem TrP.lt {P : Nat → Prop} {w : World} {b : Nat} {s : St} (h : TrP P w b s) : b < w.heap.size := h.at.lt
theorem TrP.mono {P Q : Nat → Prop} {w : World} {b : Nat} {s : St} (h : TrP P w b s) (k : ∀ g, P g → g < w.heap.size → Q g) : TrP Q w b s := by
  obtain ⟨pe, pv, te, tv, h, hp⟩ := h
  refine ⟨pe, pv, te, tv, h, fun x hx a ha => k _ (hp x hx a ha) ?_⟩
  have hf : ∀ {xs : List (Int × Sl)} {ys : List (Int × List Ev)}, HAt w xs ys → ∀ x ∈ xs, ∀ a, x.2.a = some a → a.block < w.heap.size := by
    intro xs
    induction xs with
    | nil => intro ys _ x hx; cases hx
    | cons z zs ih =>
      intro ys hz x hx a ha
      cases ys with
      | nil => exact hz.elim
      | cons y ys =>
        obtain ⟨-, ⟨g, cur, m, e1, -, e3, -⟩, h3⟩ := hz
        rcases List.mem_cons.1 hx with rfl | hx
        · rw [e1] at ha; cases ha; exact (Array.getElem?_eq_some_iff.1 e3).1
        · exact ih h3 x hx a ha
  exact hf h.vf x hx a ha
theorem TrAt.trp {w : World} {b : Nat} {s : St} (h : TrAt w b s) : TrP (fun g => g < w.heap.size) w b s := by
  obtain ⟨pe, pv, te, tv, h⟩ := h
  exact (show TrP (fun _ => True) w b s from ⟨pe, pv, te, tv, h, fun _ _ _ _ => trivial⟩).mono fun g _ hg => hg
theorem TrP.stay {P : Nat → Prop} {w w' : World} {b : Nat} {s : St} (h : TrP P w b s) (hs : Stay w w') (hb : w'.heap[b]? = w.heap[b]?) : TrP P w' b s := by
  obtain ⟨pe, pv, te, tv, h, hp⟩ := h
  exact ⟨pe, pv, te, tv, h.stay hs hb, hp⟩
theorem TrP.below {P : Nat → Prop} {w w' : World} {b : Nat} {s : St} (h : TrP P w b s) (hb : Below w.heap.size w w') : TrP P w' b s := h.stay (Stay.below hb) (hb.block b h.lt)
theorem SAt.keepN {w w' : World} (h : ∀ (j : Nat) (cs : Array Value) (m : Nat × Nat), w.heap[j]? = some (.cells cs 125 m) → w'.heap[j]? = w.heap[j]?) : ∀ {t : T ByteArray En} {p : Option Addr}, SAt w p t → SAt w' p t
  | .nil, _, ht => ht
  | .node _ _ _ _, _, ⟨b, pl, pr, hp, hn, hl, hr⟩ => ⟨b, pl, pr, hp, hn.kept (h b _ _ hn.blk), hl.keepN h, hr.keepN h⟩
theorem IAt.keepN {w w' : World} (h : ∀ (j : Nat) (cs : Array Value) (m : Nat × Nat), w.heap[j]? = some (.cells cs 115 m) → w'.heap[j]? = w.heap[j]?) : ∀ {t : T Int Sl} {p : Option Addr}, IAt w p t → IAt w' p t
  | .nil, _, ht => ht
  | .node _ _ _ _, _, ⟨b, pl, pr, hp, hn, hl, hr⟩ => ⟨b, pl, pr, hp, hn.kept (h b _ _ hn.blk), hl.keepN h, hr.keepN h⟩
theorem HAt.keepP {w w' : World} : ∀ {xs : List (Int × Sl)} {ys : List (Int × List Ev)}, HAt w xs ys → (∀ x ∈ xs, ∀ a, x.2.a = some a → a.block < w.heap.size → w'.heap[a.block]? = w.heap[a.block]?) → HAt w' xs ys
  | [], [], _, _ => trivial
  | x :: xs, y :: ys, ⟨h1, ⟨g, cur, m, e1, e2, e3, e4⟩, h3⟩, hk => ⟨h1, ⟨g, cur, m, e1, e2, (hk x (by simp) _ e1 (Array.getElem?_eq_some_iff.1 e3).1).trans e3, e4⟩, h3.keepP fun z hz => hk z (by simp [hz])⟩
  | [], _ :: _, k, _ => k.elim
  | _ :: _, [], k, _ => k.elim
/-- A block is written that is neither the tree's, nor a node's, nor one of its events'. -/
theorem TrP.write {P : Nat → Prop} {w w' : World} {b : Nat} {s : St} {r : Option Nat} (h : TrP P w b s) (hg : w.grownBy w' r) (hr : ∀ q, r = some q → q ≠ b ∧ ¬ P q ∧ ∀ cs t m, w.heap[q]? = some (.cells cs t m) → t ≠ 125 ∧ t ≠ 115) : TrP P w' b s := by
  obtain ⟨pe, pv, te, tv, h, hp⟩ := h
  have hlt := (Array.getElem?_eq_some_iff.1 h.blk).1
  refine ⟨pe, pv, te, tv, ⟨?_, h.e.keepN ?_, h.ef, h.v.keepN ?_, h.vf.keepP ?_, h.so, h.sv⟩, hp⟩
  · exact (hg.block b hlt (fun e => (hr b e.symm).1 rfl)).trans h.blk
  · intro j cs m hj
    exact hg.block j (Array.getElem?_eq_some_iff.1 hj).1 (fun e => ((hr j e.symm).2.2 _ _ _ hj).1 rfl)
  · intro j cs m hj
    exact hg.block j (Array.getElem?_eq_some_iff.1 hj).1 (fun e => ((hr j e.symm).2.2 _ _ _ hj).2 rfl)
  · intro x hx a ha hlt
    exact hg.block _ hlt (fun e => (hr _ e.symm).2.1 (hp x hx a ha))
end Go.Proofs.Ytbfkgbickjfcjaa
