/- A tree as it lies in memory: its entries, its events, its numbers. -/
import Derived.Test.YtbfkgbickjfcjaaRw
import Derived.Test.YtbfkgbickjfcjaaTg
import Derived.Test.YtbfkgbickjfcjaaTh
namespace Go.Proofs.Ytbfkgbickjfcjaa
set_option linter.unusedVariables false
set_option linter.unusedSimpArgs false
open Go.RowKit
set_option maxRecDepth 100000
structure St where
  L : List En
  H : List (Int × List Ev)
  rev : Int
  low : Int
def pairs (L : List En) : List (ByteArray × En) := L.map fun x => (x.k, x)
def emp : St := ⟨[], [], 0, 0⟩
/-- What is never written over. -/
def Imm : Obj → Prop
  | .cells _ t _ => t = 125 ∨ t = 115 ∨ t = 44
  | _ => False
structure Stay (w w' : World) : Prop where
  size : w.heap.size ≤ w'.heap.size
  imm : ∀ (j : Nat) (o : Obj), w.heap[j]? = some o → Imm o → w'.heap[j]? = some o
theorem Stay.refl (w : World) : Stay w w := ⟨Nat.le_refl _, fun _ _ h _ => h⟩
theorem Stay.trans {a b c : World} (h : Stay a b) (k : Stay b c) : Stay a c := ⟨Nat.le_trans h.size k.size, fun j o hj hi => k.imm j o (h.imm j o hj hi) hi⟩
theorem Stay.grown {w w' : World} {r : Option Nat} (h : w.grownBy w' r) (hr : ∀ q, r = some q → ∀ o : Obj, w.heap[q]? = some o → ¬ Imm o) : Stay w w' :=
  ⟨h.size, fun j o hj hi => (h.block j (Array.getElem?_eq_some_iff.1 hj).1 (fun e => hr j e.symm o hj hi)).trans hj⟩
theorem Stay.below {w w' : World} (h : Below w.heap.size w w') : Stay w w' := ⟨h.size, fun j o hj _ => (h.block j (Array.getElem?_eq_some_iff.1 hj).1).trans hj⟩
theorem SAt.stay {w w' : World} (h : Stay w w') : ∀ {t : T ByteArray En} {p : Option Addr}, SAt w p t → SAt w' p t
  | .nil, _, ht => ht
  | .node _ _ _ _, _, ⟨b, pl, pr, hp, hn, hl, hr⟩ => ⟨b, pl, pr, hp, ⟨h.imm _ _ hn.blk (.inl rfl)⟩, hl.stay h, hr.stay h⟩
theorem IAt.stay {w w' : World} (h : Stay w w') : ∀ {t : T Int Sl} {p : Option Addr}, IAt w p t → IAt w' p t
  | .nil, _, ht => ht
  | .node _ _ _ _, _, ⟨b, pl, pr, hp, hn, hl, hr⟩ => ⟨b, pl, pr, hp, ⟨h.imm _ _ hn.blk (.inr (.inl rfl))⟩, hl.stay h, hr.stay h⟩
/-- The events of a revision. -/
def EvAt (w : World) (x : Sl) (l : List Ev) : Prop :=
  ∃ (g : Nat) (cur : Array Value) (m : Nat × Nat), x.a = some ⟨g, 0, none⟩ ∧ x.n = l.length ∧ w.heap[g]? = some (.cells cur 44 m) ∧ ∀ (j : Nat) (u : Value), (cz encV l)[j]? = some u → cur[j]? = some u
theorem EvAt.stay {w w' : World} (h : Stay w w') {x : Sl} {l : List Ev} (k : EvAt w x l) : EvAt w' x l := by
  obtain ⟨g, cur, m, h1, h2, h3, h4⟩ := k
  exact ⟨g, cur, m, h1, h2, h.imm _ _ h3 (.inr (.inr rfl)), h4⟩
def HAt (w : World) : List (Int × Sl) → List (Int × List Ev) → Prop
  | [], [] => True
  | x :: xs, y :: ys => x.1 = y.1 ∧ EvAt w x.2 y.2 ∧ HAt w xs ys
  | _, _ => False
theorem HAt.stay {w w' : World} (h : Stay w w') : ∀ {xs : List (Int × Sl)} {ys : List (Int × List Ev)}, HAt w xs ys → HAt w' xs ys
  | [], [], _ => trivial
  | _ :: _, _ :: _, ⟨h1, h2, h3⟩ => ⟨h1, h2.stay h, h3.stay h⟩
  | [], _ :: _, k => k.elim
  | _ :: _, [], k => k.elim
theorem HAt.filter {w : World} (p : Int → Bool) : ∀ {xs : List (Int × Sl)} {ys : List (Int × List Ev)}, HAt w xs ys → HAt w (xs.filter fun x => p x.1) (ys.filter fun y => p y.1)
  | [], [], _ => trivial
  | x :: xs, y :: ys, ⟨h1, h2, h3⟩ => by
    rw [List.filter_cons, List.filter_cons, h1]
    split
    · exact ⟨h1, h2, h3.filter p⟩
    · exact h3.filter p
  | [], _ :: _, k => k.elim
  | _ :: _, [], k => k.elim
theorem HAt.app {w : World} : ∀ {xs xs' : List (Int × Sl)} {ys ys' : List (Int × List Ev)}, HAt w xs ys → HAt w xs' ys' → HAt w (xs ++ xs') (ys ++ ys')
  | [], _, [], _, _, h => h
  | _ :: _, _, _ :: _, _, ⟨h1, h2, h3⟩, h => ⟨h1, h2, h3.app h⟩
  | [], _, _ :: _, _, k, _ => k.elim
  | _ :: _, _, [], _, k, _ => k.elim
theorem HAt.keys {w : World} : ∀ {xs : List (Int × Sl)} {ys : List (Int × List Ev)}, HAt w xs ys → xs.map (·.1) = ys.map (·.1)
  | [], [], _ => rfl
  | _ :: _, _ :: _, ⟨h1, _, h3⟩ => by rw [List.map_cons, List.map_cons, h1, h3.keys]
  | [], _ :: _, k => k.elim
  | _ :: _, [], k => k.elim
theorem srt_keys {V W : Type} {xs : List (Int × V)} {ys : List (Int × W)} (h : xs.map (·.1) = ys.map (·.1)) (hs : Srt ltI ys) : Srt ltI xs := by
  unfold Srt at *
  have e1 : xs.Pairwise (fun x y => ltI x.1 y.1 = true) ↔ (xs.map (·.1)).Pairwise (fun a b => ltI a b = true) := by rw [List.pairwise_map]
  have e2 : ys.Pairwise (fun x y => ltI x.1 y.1 = true) ↔ (ys.map (·.1)).Pairwise (fun a b => ltI a b = true) := by rw [List.pairwise_map]
  rw [e1, h, ← e2]
  exact hs
structure TrIn (w : World) (b : Nat) (s : St) (pe pv : Option Addr) (te : T ByteArray En) (tv : T Int Sl) : Prop where
  blk : w.heap[b]? = some (.cells #[.pointer pe, .pointer pv, .int .i64 s.rev, .int .i64 s.low] 94 (0, 0))
  e : SAt w pe te
  ef : te.flat = pairs s.L
  v : IAt w pv tv
  vf : HAt w tv.flat s.H
  so : Srt ltS (pairs s.L)
  sv : Srt ltI s.H
def TrAt (w : World) (b : Nat) (s : St) : Prop := ∃ pe pv te tv, TrIn w b s pe pv te tv
theorem TrIn.stay {w w' : World} {b : Nat} {s : St} {pe pv : Option Addr} {te : T ByteArray En} {tv : T Int Sl} (h : TrIn w b s pe pv te tv) (hs : Stay w w') (hb : w'.heap[b]? = w.heap[b]?) : TrIn w' b s pe pv te tv :=
  ⟨hb.trans h.blk, h.e.stay hs, h.ef, h.v.stay hs, h.vf.stay hs, h.so, h.sv⟩
theorem TrAt.stay {w w' : World} {b : Nat} {s : St} (h : TrAt w b s) (hs : Stay w w') (hb : w'.heap[b]? = w.heap[b]?) : TrAt w' b s := by
  obtain ⟨pe, pv, te, tv, h⟩ := h
  exact ⟨pe, pv, te, tv, h.stay hs hb⟩
theorem TrAt.lt {w : World} {b : Nat} {s : St} (h : TrAt w b s) : b < w.heap.size := by
  obtain ⟨pe, pv, te, tv, h⟩ := h
  exact (Array.getElem?_eq_some_iff.1 h.blk).1
theorem TrAt.below {w w' : World} {b : Nat} {s : St} (h : TrAt w b s) (hb : Below w.heap.size w w') : TrAt w' b s := h.stay (Stay.below hb) (hb.block b h.lt)
theorem TrAt.not_imm {w : World} {b : Nat} {s : St} (h : TrAt w b s) : ∀ o : Obj, w.heap[b]? = some o → ¬ Imm o := by
  obtain ⟨pe, pv, te, tv, h⟩ := h
  intro o ho hi
  rw [h.blk] at ho
  cases ho
  rcases hi with hi | hi | hi <;> cases hi
/-- Another tree is written. -/
theorem TrAt.other {w w' : World} {b c : Nat} {s s' : St} (h : TrAt w b s) (hc : TrAt w c s') (hg : w.grownBy w' (some c)) (hne : b ≠ c) : TrAt w' b s :=
  h.stay (Stay.grown hg fun q e o ho => by cases e; exact hc.not_imm o ho) (hg.block b h.lt (fun e => hne (Option.some.inj e)))
theorem TrIn.svt {w : World} {b : Nat} {s : St} {pe pv : Option Addr} {te : T ByteArray En} {tv : T Int Sl} (h : TrIn w b s pe pv te tv) : Srt ltI tv.flat := srt_keys h.vf.keys h.sv
theorem TrIn.cells {w : World} {b : Nat} {s : St} {pe pv : Option Addr} {te : T ByteArray En} {tv : T Int Sl} (h : TrIn w b s pe pv te tv) :
    (w.cell? ⟨b, 0, none⟩ = some (.pointer pe) ∧ w.cell? ⟨b, 1, none⟩ = some (.pointer pv) ∧ w.cell? ⟨b, 2, none⟩ = some (.int .i64 s.rev) ∧ w.cell? ⟨b, 3, none⟩ = some (.int .i64 s.low)) ∧ ∀ i, w.frozen? ⟨b, i, none⟩ = false := by
  refine ⟨⟨?_, ?_, ?_, ?_⟩, fun i => ?_⟩ <;> simp [World.cell?, World.frozen?, h.blk]
/-- Whom one asks: a tree, or nobody. -/
def Asks (w : World) (p : Option Addr) (s : St) : Prop := (∃ b, p = some ⟨b, 0, none⟩ ∧ TrAt w b s) ∨ (p = none ∧ s = emp)
theorem Asks.below {w w' : World} {p : Option Addr} {s : St} (h : Asks w p s) (hb : Below w.heap.size w w') : Asks w' p s :=
  h.imp (fun ⟨b, e, k⟩ => ⟨b, e, k.below hb⟩) id
theorem Asks.so {w : World} {p : Option Addr} {s : St} (h : Asks w p s) : Srt ltS (pairs s.L) := by
  rcases h with ⟨b, -, pe, pv, te, tv, h⟩ | ⟨-, rfl⟩
  · exact h.so
  · exact List.Pairwise.nil
set_option maxHeartbeats 1000000 in
theorem asked_any (p : Option Addr) (s : St) (w : World) (h : Asks w p s) :
    Calls Try.prog 71 #[.pointer p] w fun e w' => (∃ pe pv te, e = .returned (.agg #[.pointer pe, .pointer pv, .int .i64 s.rev, .int .i64 s.low]) ∧ SAt w' pe te ∧ te.flat = pairs s.L) ∧ Below w.heap.size w w' := by
  rcases h with ⟨b, rfl, pe, pv, te, tv, h⟩ | ⟨rfl, rfl⟩
  · have hlt := (Array.getElem?_eq_some_iff.1 h.blk).1
    obtain ⟨⟨c0, c1, c2, c3⟩, -⟩ := (h.stay (Stay.below ((Below.refl _ w).alloc (Nat.le_refl _) (.cells #[.pointer none, .pointer none, .int .i64 0, .int .i64 0] 94))) (((Below.refl _ w).alloc (Nat.le_refl _) _).block b hlt)).cells
    have H := Lib.hid h
    have HB : Hid (Below w.heap.size w (w.alloc (.cells #[.pointer pe, .pointer pv, .int .i64 s.rev, .int .i64 s.low] 94))) := Lib.hid ((Below.refl _ w).alloc (Nat.le_refl _) _)
    clear h hlt
    go_enter Try.func71, Try.ntmps71
    go_wp2
    refine bodyPost_ret (v := .agg #[.pointer pe, .pointer pv, .int .i64 s.rev, .int .i64 s.low]) (by simp [results, Try.results71, go_sem]) rfl ?_
    exact ⟨⟨pe, pv, te, rfl, H.out.e.below HB.out, H.out.ef⟩, HB.out⟩
  · have HB : Hid (Below w.heap.size w (w.alloc (.cells #[.pointer none, .pointer none, .int .i64 0, .int .i64 0] 94))) := Lib.hid ((Below.refl _ w).alloc (Nat.le_refl _) _)
    go_enter Try.func71, Try.ntmps71
    go_wp2
    refine bodyPost_ret (v := .agg #[.pointer none, .pointer none, .int .i64 0, .int .i64 0]) (by simp [results, Try.results71, go_sem]) rfl ?_
    exact ⟨⟨none, none, .nil, rfl, rfl, rfl⟩, HB.out⟩
end Go.Proofs.Ytbfkgbickjfcjaa
