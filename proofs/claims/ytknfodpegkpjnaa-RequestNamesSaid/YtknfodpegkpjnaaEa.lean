/- The contract of the law's 'each'. -/
import Derived.Test.YtknfodpegkpjnaaSd
import Derived.Maps.OwnIn
import Derived.Deep.RegionHeld3
import Derived.ControlIn
namespace Go.Proofs.Ytknfodpegkpjnaa
open Go Go.RowKit Go.Shelf
attribute [local go_sem] Oper.semAt_some
set_option maxRecDepth 100000
/-- What is kept of what is told. -/
def eat (M : Nat) : List (Sr × Nat) → List Sr → List Sr × Nat
  | [], acc => (acc, 0)
  | x :: r, acc => if x.2 ≠ 0 then (acc, x.2) else if M ≤ acc.length + 1 then (acc ++ [x.1], 0) else eat M r (acc ++ [x.1])
/-- Only the last one errs, and has nothing. -/
def okL : List (Sr × Nat) → Prop
  | [] => True
  | x :: r => (x.2 ≠ 0 → r = [] ∧ x.1 = ⟨[], []⟩) ∧ okL r
theorem rSr_zero (s : List UInt8) (h : (rSr s).2 ≠ 0) : (rSr s).1 = ⟨[], []⟩ := by
  unfold rSr gSr at *
  repeat' split at h
  all_goals first
    | (simp only [*] at h; simp at h; done)
    | (simp only [*]; simp; done)
    | skip
  all_goals
    repeat' split
    all_goals first | rfl | (exfalso; simp_all; done) | skip
theorem tel_ok : ∀ ts : List (List UInt8), okL (tel rSr ts)
  | [] => trivial
  | t :: r => by
    rw [tel]
    split
    · rename_i h; exact ⟨fun _ => ⟨rfl, rSr_zero t h⟩, trivial⟩
    · rename_i h; exact ⟨fun e => absurd e h, tel_ok r⟩
theorem tS_ok (s : List UInt8) : okL (tS s) := by
  unfold tS
  split
  · exact ⟨fun _ => ⟨rfl, rfl⟩, trivial⟩
  · exact tel_ok _
structure EJ' (M : Nat) (w : World) (R : List Sr × Nat) (N : Nat) (rest : List (Sr × Nat)) (F : Bks) (W : World) (v : Value) (acc : List Sr) (ps : List Pv) (la : Nat) : Prop where
  bm : Boxed W w.heap.size 3 (.int .i64 (M : Int))
  b0 : Boxed W (w.heap.size + 1) 23 (.slice none 0 0)
  b1 : Boxed W (w.heap.size + 2) 24 (.int .i64 0)
  b2 : Boxed W (w.heap.size + 3) 23 v
  b3 : Boxed W (w.heap.size + 4) 24 (.int .i64 (la : Int))
  own : O2 40 W (w.heap.size + 8) v ps
  qs : All2 (fun x p => QS (w.heap.size + 8) x p W) acc ps
  run : (la = 0 ∧ eat M rest acc = R) ∨ (rest = [] ∧ (acc, la) = R)
  ok : okL rest
  len : acc.length + rest.length ≤ N
  bel : Below w.heap.size w W
  sz : w.heap.size + 6 ≤ W.heap.size
  fb : ∀ j, F j → j < W.heap.size ∧ w.heap.size + 6 ≤ j ∧ v.ownBlock ≠ some j
def EJ (M : Nat) (w : World) (R : List Sr × Nat) (N : Nat) (rest : List (Sr × Nat)) (F : Bks) (W : World) : Prop := ∃ v acc ps la, EJ' M w R N rest F W v acc ps la
theorem EJ'.turn {M : Nat} {w : World} {R : List Sr × Nat} {N : Nat} {rest : List (Sr × Nat)} {F F' : Bks} {A A' : World} {v : Value} {acc : List Sr} {ps : List Pv} {la : Nat} {row : Option Nat} (h : EJ' M w R N rest F A v acc ps la) (hg : A.grownBy A' row) (hr : ∀ r, row = some r → r = w.heap.size + 6 ∨ r = w.heap.size + 7) (hF : ∀ j, F' j → F j ∨ (A.heap.size ≤ j ∧ j < A'.heap.size)) :
    EJ' M w R N rest F' A' v acc ps la := by
  have ne : ∀ j, j < w.heap.size + 6 → some j ≠ row := fun j hj e => by have := hr j e.symm; omega
  refine ⟨h.bm.kept hg (ne _ (by omega)), h.b0.kept hg (ne _ (by omega)), h.b1.kept hg (ne _ (by omega)), h.b2.kept hg (ne _ (by omega)), h.b3.kept hg (ne _ (by omega)), h.own.kept hg ?_, h.qs.mono fun x p hq => QS.ok _ x p A A' row hq hg (fun r e => .inl (by have := hr r e; omega)), h.run, h.ok, h.len, h.bel.grown hg h.bel.size (fun k e => by have := hr k e; omega), Nat.le_trans h.sz hg.size, fun j hj => ?_⟩
  · cases hv : v.ownBlock with
    | none => exact .inl rfl
    | some g =>
      refine .inr fun e => ?_
      have h1 := (h.own.lt g hv).1
      have h2 := hr g e.symm
      omega
  · rcases hF j hj with hj | ⟨hj, hj2⟩
    · obtain ⟨k1, k2, k3⟩ := h.fb j hj
      exact ⟨Nat.lt_of_lt_of_le k1 hg.size, k2, k3⟩
    · have := h.sz
      exact ⟨hj2, by omega, fun e => by have := (h.own.lt j e).2; omega⟩
theorem EJ.ab {M : Nat} {w : World} {R : List Sr × Nat} {N : Nat} : AbI (w.heap.size + 6) (EJ M w R N) := by
  rintro s F F' A A' row ⟨v, acc, ps, la, h⟩ hg hr hF
  exact ⟨v, acc, ps, la, h.turn hg (fun r e => by have := hr r e; omega) hF⟩
/-- Left by a break. -/
def EX (M : Nat) (w : World) (R : List Sr × Nat) (N : Nat) (id : Nat) (c : Code) (W : World) : Prop := c = .exit id ∧ EJ M w R N [] (fun _ => False) W
theorem EX.ab {M : Nat} {w : World} {R : List Sr × Nat} {N : Nat} {id : Nat} (c : Code) : AbW (w.heap.size + 6) (EX M w R N id c) := by
  rintro A A' row ⟨h1, h⟩ hg hr
  exact ⟨h1, EJ.ab _ _ _ _ _ row h hg hr (fun j h => h.elim)⟩
structure BPe (w : World) (x : Sr × Nat) (Bx : Nat) (p : Pv) (W : World) : Prop where
  box : Box2 W Bx 40 p.1 p.2
  ge : w.heap.size + 8 ≤ Bx
  q : QS (w.heap.size + 8) x.1 p W
  ne : ∀ v, W.cell? ⟨w.heap.size + 3, 0, none⟩ = some v → v.ownBlock ≠ some Bx
theorem BPe.ab {w : World} (x : Sr × Nat) (Bx : Nat) (p : Pv) : AbW (w.heap.size + 6) (BPe w x Bx p) := by
  rintro A A' row ⟨h1, h2, h3, h4⟩ hg hr
  refine ⟨h1.kept hg (fun e => by have := hr _ e.symm; omega), h2, QS.ok _ _ _ _ _ _ h3 hg (fun r e => .inl (by have := hr r e; omega)), fun v hv => h4 v ?_⟩
  rw [← hv]
  exact (World.cell?_of_block (hg.block _ (by have := h1.lt; show w.heap.size + 3 < _; omega) (fun e => by have h := hr _ e.symm; have : (⟨w.heap.size + 3, 0, none⟩ : Addr).block = w.heap.size + 3 := rfl; omega))).symm
theorem BPe.new {M : Nat} {w : World} {R : List Sr × Nat} {N : Nat} {x : Sr × Nat} {rest : List (Sr × Nat)} {F : Bks} {W : World} {p : Pv} (h : EJ M w R N (x :: rest) F W) (hq : QS (w.heap.size + 8) x.1 p W) (hB : w.heap.size + 8 ≤ W.heap.size) : BPe w x W.heap.size p (W.alloc (.cells #[p.1, p.2] 40)) := by
  obtain ⟨v, acc, ps, la, h⟩ := h
  refine ⟨Box2.new _ _ _ _, hB, QS.ok _ _ _ _ _ _ hq (World.grownBy_alloc W _ none) (fun r e => by cases e), fun u hu => ?_⟩
  have e := ((h.b2.kept (World.grownBy_alloc W (.cells #[p.1, p.2] 40) none) (by simp)).cell).symm.trans hu
  cases e
  intro e
  have := (h.own.lt _ e).2
  omega
/-- The last error is set. -/
theorem EJ'.last {M : Nat} {w : World} {R : List Sr × Nat} {N : Nat} {rest rest' : List (Sr × Nat)} {F : Bks} {W : World} {v : Value} {acc : List Sr} {ps : List Pv} {la : Nat} (h : EJ' M w R N rest F W v acc ps la) (k : Nat) (hr : (k = 0 ∧ eat M rest' acc = R) ∨ (rest' = [] ∧ (acc, k) = R)) (ho : okL rest') (hl : rest'.length ≤ rest.length) :
    EJ' M w R N rest' F (W.setCell ⟨w.heap.size + 4, 0, none⟩ (.int .i64 (k : Int))) v acc ps k ∧ Kept (fun j => F j ∨ j = w.heap.size + 6 ∨ j = w.heap.size + 6 + 1) W (W.setCell ⟨w.heap.size + 4, 0, none⟩ (.int .i64 (k : Int))) := by
  have g := grownBy_setCell' W (w.heap.size + 4) (.int .i64 (k : Int))
  have ne : ∀ j, j ≠ w.heap.size + 4 → some j ≠ some (w.heap.size + 4) := fun j hj e => hj (Option.some.inj e)
  refine ⟨⟨h.bm.kept g (ne _ (by omega)), h.b0.kept g (ne _ (by omega)), h.b1.kept g (ne _ (by omega)), h.b2.kept g (ne _ (by omega)), h.b3.set _, h.own.kept g ?_, h.qs.mono fun x p hq => QS.ok _ x p _ _ _ hq g (fun r e => by cases e; exact .inl (by omega)), hr, ho, by have := h.len; omega, h.bel.grown g h.bel.size (fun k e => by cases e; omega), Nat.le_trans h.sz g.size, fun j hj => ?_⟩, Kept.grown g (fun r e => by cases e; rintro (hj | hj); · { have := (h.fb _ hj).2.1; omega }; · omega)⟩
  · cases hv : v.ownBlock with
    | none => exact .inl rfl
    | some q =>
      refine .inr fun e => ?_
      have h1 := (h.own.lt q hv).1
      have := Option.some.inj e
      omega
  · obtain ⟨k1, k2, k3⟩ := h.fb j hj
    exact ⟨Nat.lt_of_lt_of_le k1 g.size, k2, k3⟩
theorem EJ'.goes {M : Nat} {w : World} {R : List Sr × Nat} {N : Nat} {rest rest' : List (Sr × Nat)} {F : Bks} {W W1 W4 : World} {v v' : Value} {acc : List Sr} {ps : List Pv} {x : Sr} {p : Pv} (h : EJ' M w R N rest F W v acc ps 0) (hq : QS (w.heap.size + 8) x p W)
    (hB : w.heap.size + 8 ≤ W.heap.size) (g1 : W.grownBy W1 none) (g2 : W1.grownBy W4 v.ownBlock) (ho : O2 40 W4 (w.heap.size + 8) v' (ps ++ [p])) (hn : v'.ownBlock = v.ownBlock ∨ v'.ownBlock = some W1.heap.size)
    (hr : eat M rest' (acc ++ [x]) = R ∨ (rest' = [] ∧ (acc ++ [x], 0) = R)) (hok : okL rest') (hl : rest'.length + 1 ≤ rest.length) :
    EJ' M w R N rest' F (W4.setCell ⟨w.heap.size + 3, 0, none⟩ v') v' (acc ++ [x]) (ps ++ [p]) 0 ∧ Kept (fun j => F j ∨ j = w.heap.size + 6 ∨ j = w.heap.size + 6 + 1) W (W4.setCell ⟨w.heap.size + 3, 0, none⟩ v') := by
  have g3 := grownBy_setCell' W4 (w.heap.size + 3) v'
  have lt := h.own.lt
  have s1 := g1.size
  have s2 := g2.size
  have s3 := g3.size
  have o1 := h.own.kept g1 (by cases v.ownBlock <;> simp)
  have r2 : ∀ k, k < w.heap.size + 8 → some k ≠ v.ownBlock := fun k hk e => by have := (lt k e.symm).1; omega
  have hb2 : Below w.heap.size w W4 := ((h.bel.grown g1 h.bel.size (fun k e => by cases e)).grown g2 (by have := h.bel.size; omega) (fun k e => by have := (lt k e).1; omega))
  have bx : ∀ {B : Nat} {t : TypeId} {u : Value}, B < w.heap.size + 8 → B ≠ w.heap.size + 3 → Boxed W B t u → Boxed (W4.setCell ⟨w.heap.size + 3, 0, none⟩ v') B t u := fun hB hB3 hb => ((hb.kept g1 (by simp)).kept g2 (r2 _ hB)).kept g3 (fun e => hB3 (Option.some.inj e))
  refine ⟨⟨bx (by omega) (by omega) h.bm, bx (by omega) (by omega) h.b0, bx (by omega) (by omega) h.b1, ((h.b2.kept g1 (by simp)).kept g2 (r2 _ (by omega))).set _, bx (by omega) (by omega) h.b3, ho.kept g3 (.inr (fun e => by have := (ho.lt _ e).1; omega)), ?_, hr.imp (fun e => ⟨rfl, e⟩) id, hok, ?_, hb2.grown g3 hb2.size (fun k e => by cases e; omega), by have := h.sz; omega, fun j hj => ?_⟩, ⟨by omega, fun j hj hl => ?_⟩⟩
  · have keep : ∀ y q, QS (w.heap.size + 8) y q W → QS (w.heap.size + 8) y q (W4.setCell ⟨w.heap.size + 3, 0, none⟩ v') := fun y q hy =>
      QS.ok _ y q _ _ _ (QS.ok _ y q _ _ _ (QS.ok _ y q _ _ _ hy g1 (fun r e => by cases e)) g2 (fun r e => .inr (own_mark o1 r e))) g3 (fun r e => by cases e; exact .inl (by omega))
    exact All2.snoc (R := fun x p => QS (w.heap.size + 8) x p (W4.setCell ⟨w.heap.size + 3, 0, none⟩ v')) (keep _ _ hq) (h.qs.mono keep)
  · have := h.len
    rw [List.length_append, List.length_singleton]
    omega
  · obtain ⟨k1, k2, k3⟩ := h.fb j hj
    refine ⟨by omega, k2, ?_⟩
    rcases hn with e | e
    · rw [e]; exact k3
    · rw [e]; exact fun e => by have := Option.some.inj e; omega
  · have n1 : some j ≠ v.ownBlock ∧ j ≠ w.heap.size + 3 := by
      rcases hj with hj | hj
      · obtain ⟨k1, k2, k3⟩ := h.fb j hj
        exact ⟨fun e => k3 e.symm, by omega⟩
      · exact ⟨r2 j (by omega), by omega⟩
    rw [g3.block j (by omega) (fun e => n1.2 (Option.some.inj e)), g2.block j (by omega) n1.1, g1.block j hl (by simp)]
theorem cmp_nil (b : Nat) (w : World) : (binOp BinOp.eql 59 (.func (.func 37) #[] #[.pointer (some ⟨b, 0, none⟩)]) .nilFunc).run Try.prog w = .ok (.bool false) w := by
  first | rfl | kernel_rfl | simp [go_sem, Try.underlying59]
theorem agg23e (w : World) : (isAgg 23).run Try.prog w = .ok false w := by first | exact Try.isAgg23 w | kernel_rfl
theorem fin_each {M n : Nat} {w : World} {R : List Sr × Nat} {N : Nat} {F : Bks} {W : World} {D : Nat} {a : Act} {v : Value} {acc : List Sr} {ps : List Pv} {la : Nat} (h : EJ' M w R N [] F W v acc ps la) (hD : W.heap[D]? = some (.deferred (some []))) (hDw : D = w.heap.size + 6)
    (ha4 : a.tmps.getD 4 undef = .pointer (some ⟨w.heap.size + 1, 0, none⟩)) (ha5 : a.tmps.getD 5 undef = .pointer (some ⟨w.heap.size + 1 + 1, 0, none⟩)) (hd : a.defers = [{ target := .collected D, args := #[] }]) :
    bodyPostM Fence.wide n Try.prog Try.f13 (TellsD w R) .ret a ((W.setCell ⟨w.heap.size + 1, 0, none⟩ v).setCell ⟨w.heap.size + 1 + 1, 0, none⟩ (.int .i64 (la : Int))).drew := by
  have g1 := grownBy_setCell' W (w.heap.size + 1) v
  have g2 := grownBy_setCell' (W.setCell ⟨w.heap.size + 1, 0, none⟩ v) (w.heap.size + 2) (.int .i64 (la : Int))
  have hlt := (Array.getElem?_eq_some_iff.1 hD).1
  have hD1 := (g1.block D hlt (fun e => by have := Option.some.inj e; omega)).trans hD
  have hD2 := (g2.block D (Array.getElem?_eq_some_iff.1 hD1).1 (fun e => by have := Option.some.inj e; omega)).trans hD1
  have b0 := (h.b0.set v).kept g2 (fun e => by have := Option.some.inj e; omega)
  have b1 := (h.b1.kept g1 (fun e => by have := Option.some.inj e; omega)).set (.int .i64 (la : Int))
  have hb2 := (h.bel.grown g1 h.bel.size (fun k e => by cases e; omega)).grown g2 (by have := h.bel.size; simp [World.setCell]; omega) (fun k e => by cases e; omega)
  have nv : ∀ j, j < w.heap.size + 8 → v.ownBlock = none ∨ v.ownBlock ≠ some j := fun j hj => .inr (fun e => by have := (h.own.lt _ e).1; omega)
  have qs := h.qs.mono fun y q hy => QS.ok _ y q _ _ _ (QS.ok _ y q _ _ _ hy g1 (fun r e => by cases e; exact .inl (by omega))) g2 (fun r e => by cases e; exact .inl (by omega))
  have ho : O2 40 _ (w.heap.size + 8) v ps := (h.own.kept g1 (nv _ (by omega))).kept g2 (nv _ (by omega))
  have hR : (acc, la) = R := by
    rcases h.run with ⟨h8, h9⟩ | ⟨-, h9⟩
    · rw [h8]; exact h9
    · exact h9
  subst hR
  obtain ⟨W2, hW2⟩ : ∃ W2, ((W.setCell ⟨w.heap.size + 1, 0, none⟩ v).setCell ⟨w.heap.size + 2, 0, none⟩ (.int .i64 (la : Int))) = W2 := ⟨_, rfl⟩
  rw [hW2] at hD2 b0 b1 hb2 qs ho
  show bodyPostM Fence.wide n Try.prog Try.f13 (TellsD w (acc, la)) .ret a ((W.setCell ⟨w.heap.size + 1, 0, none⟩ v).setCell ⟨w.heap.size + 2, 0, none⟩ (.int .i64 (la : Int))).drew
  rw [hW2]
  have gd : W2.grownBy W2.drew none := ⟨rfl, rfl, rfl, Nat.le_refl _, fun _ _ _ => rfl⟩
  have hg := grownBy_putObj' W2.drew D (.deferred none)
  obtain ⟨tm, df⟩ := a
  dsimp only at ha4 ha5 hd
  subst hd
  have hD3 : W2.drew.heap[D]? = some (.deferred (some [])) := hD2
  have q := qs.mono fun y q hy => QS.ok _ y q _ _ _ (QS.ok _ y q _ _ _ hy gd (fun r e => by cases e)) hg (fun r e => by cases e; exact .inl (by omega))
  have ho2 : O2 40 _ (w.heap.size + 8) v ps := (ho.kept gd (by cases v.ownBlock <;> simp)).kept hg (nv _ (by omega))
  obtain ⟨zs, h1, rfl, h3, h4⟩ := all2_zs q
  refine ⟨by simp, .inl ⟨_, _, rfl, run_takeDeferred hD3, ?_⟩⟩
  refine ⟨_, results_cc Try.results13 agg23e (w.heap.size + 1) (w.heap.size + 2) _ _ ((b0.kept gd (by simp)).kept hg (fun e => by have := Option.some.inj e; omega)).cell ((b1.kept gd (by simp)).kept hg (fun e => by have := Option.some.inj e; omega)).cell _ ha4 ha5, v, zs, rfl, ⟨O2.mono ho2 (by omega), fun z hz => O2.mono (h3 z hz) (by omega), fun z hz => O2.mono (h4 z hz) (by omega)⟩, h1, ?_⟩
  exact (hb2.grown gd hb2.size (fun k e => by cases e)).grown hg hb2.size (fun k e => by cases e; omega)
set_option maxHeartbeats 1000000 in
theorem eachl_any (s : ByteArray) (hs : s.size ≤ 1000000) (M : Nat) (hM : M ≤ 1099511627776) (w : World) : Calls Try.prog 13 #[.string s, .int .i64 (M : Int)] w (TellsD w (eat M (tS s.data.toList) [])) := by
  have hlen : (tS s.data.toList).length ≤ 1000000 := by
    have h := rqT_facts s.data.toList (by simpa using hs)
    unfold tS
    split
    · simp
    · have := tel_len rSr (rqT s.data.toList).1; omega
  have HLEN := Lib.hid hlen
  have HOK := Lib.hid (tS_ok s.data.toList)
  have HG := Lib.hid (fun n b W hx => each_gives n s hs b (fun _ => False) W hx)
  generalize tS s.data.toList = XS at *
  clear hlen
  obtain ⟨i0, hi, hz0, hz1, hz2⟩ := info_parts Try.info40
  refine (callsIn_wide (n := 5)).1 ?_
  refine callsIn_of_wp_marks Try.func13 rfl trivial ?_ rfl
  simp only [Try.ntmps13, List.size_toArray, List.length_cons, List.length_nil, Nat.reduceAdd, Nat.reduceSub, Array.replicate_succ, Array.replicate_zero, List.push_toArray, List.append_toArray, List.nil_append, List.cons_append]
  obtain ⟨w0, hw0⟩ : ∃ w0, ((((w.alloc (.cells #[.int .i64 (M : Int)] 3)).alloc (.cells #[.slice none 0 0] 23)).alloc (.cells #[.int .i64 0] 24)).alloc (.cells #[.slice none 0 0] 23)).alloc (.cells #[.int .i64 0] 24) = w0 := ⟨_, rfl⟩
  have hs0 : w0.heap.size = w.heap.size + 5 := by rw [← hw0]; simp
  have hb0 : Below w.heap.size w w0 := by
    rw [← hw0]
    exact (((((Below.refl _ w).alloc (Nat.le_refl _) _).alloc (by simp) _).alloc (by simp; omega) _).alloc (by simp; omega) _).alloc (by simp; omega) _
  have q0 : Boxed w0 w.heap.size 3 (.int .i64 (M : Int)) := by rw [← hw0]; exact ((((Boxed.new w 3 _).alloc _).alloc _).alloc _).alloc _
  have q1 : Boxed w0 (w.heap.size + 1) 23 (.slice none 0 0) := by
    have := Boxed.new (w.alloc (.cells #[.int .i64 (M : Int)] 3)) 23 (.slice none 0 0)
    simp only [World.size_alloc] at this
    rw [← hw0]; exact ((this.alloc _).alloc _).alloc _
  have q2 : Boxed w0 (w.heap.size + 2) 24 (.int .i64 0) := by
    have := Boxed.new ((w.alloc (.cells #[.int .i64 (M : Int)] 3)).alloc (.cells #[.slice none 0 0] 23)) 24 (.int .i64 0)
    simp only [World.size_alloc] at this
    rw [← hw0]; exact (this.alloc _).alloc _
  have q3 : Boxed w0 (w.heap.size + 3) 23 (.slice none 0 0) := by
    have := Boxed.new (((w.alloc (.cells #[.int .i64 (M : Int)] 3)).alloc (.cells #[.slice none 0 0] 23)).alloc (.cells #[.int .i64 0] 24)) 23 (.slice none 0 0)
    simp only [World.size_alloc] at this
    rw [← hw0]; exact this.alloc _
  have q4 : Boxed w0 (w.heap.size + 4) 24 (.int .i64 0) := by
    have := Boxed.new ((((w.alloc (.cells #[.int .i64 (M : Int)] 3)).alloc (.cells #[.slice none 0 0] 23)).alloc (.cells #[.int .i64 0] 24)).alloc (.cells #[.slice none 0 0] 23)) 24 (.int .i64 0)
    simp only [World.size_alloc] at this
    rw [← hw0]; exact this
  have HW0 := Lib.hid hw0
  have HS0 := Lib.hid hs0
  have HB0 := Lib.hid hb0
  have HQ := Lib.hid (And.intro q0 (And.intro q1 (And.intro q2 (And.intro q3 q4))))
  clear hw0 hs0 hb0 q0 q1 q2 q3 q4
  gi_wp2_with fail
  rw [HW0.out]
  refine ⟨trivial, (callsIn_wide.2 (each_any s w0)).mono ?_⟩
  rintro e w1 ⟨rfl, hw1⟩
  have hsz : w1.heap.size = w.heap.size + 6 := by rw [hw1, World.size_alloc, HS0.out]
  have hb1 : Below w0.heap.size w0 w1 := by rw [hw1]; exact (Below.refl _ _).alloc (Nat.le_refl _) _
  have hbs : Boxed w1 w0.heap.size 9 (.string s) := by rw [hw1]; exact Boxed.new _ _ _
  have up : ∀ {B : Nat} {t : TypeId} {v : Value}, Boxed w0 B t v → Boxed w1 B t v := fun h => (hb1.block _ h.lt).trans h
  have hI0 : EJ M w (eat M XS []) XS.length XS (fun _ => False) w1 := by
    obtain ⟨q0, q1, q2, q3, q4⟩ := HQ.out
    exact ⟨.slice none 0 0, [], [], 0, up q0, up q1, up q2, up q3, up q4, O2.nil _ _ _, trivial, .inl ⟨rfl, rfl⟩, HOK.out, by simp, HB0.out.trans (hb1.mono HB0.out.size), by omega, fun j h => h.elim⟩
  have HI0 := Lib.hid hI0
  have HSZ := Lib.hid hsz
  have HBX := Lib.hid hbs
  clear hw1 hsz hb1 hbs hI0
  have hcmp := cmp_nil w0.heap.size
  gi_wp2
  apply wp_range2 (β := Pv) (gf := 37) (lb := #[.pointer (some ⟨w0.heap.size, 0, none⟩)]) rfl (enters_of Try.func37 (by kernel_rfl) rfl) (En2 (QS (w.heap.size + 8))) (fun x us W h => by obtain ⟨p, h⟩ := h; rw [h.eq]; rfl) XS (fun _ => False) (by intro j hj; exact hj.elim) ?seq
    (EJ M w (eat M XS []) XS.length) (EX M w (eat M XS []) XS.length 0) (by rw [HSZ.out]; exact EJ.ab) (by rw [HSZ.out]; exact fun c => EX.ab c) HI0.out
    (BPe w) ?ax _ ?assign ?body ?done ?stop
  case seq =>
    intro W hW hb
    have hq : W.heap.size = w.heap.size + 8 := by rw [hW, HSZ.out]
    rw [← hq]
    exact HG.out _ _ W ((hb.block _ HBX.out.lt).trans HBX.out)
  case ax =>
    rw [HSZ.out]
    exact BPe.ab
  case assign =>
    rintro l x rest us F W K hI ⟨p, hp⟩ hB hK
    rw [HSZ.out] at hB
    have HBP := Lib.hid (BPe.new hI hp.q hB)
    have hs1 : ∀ (w : World) (a : Addr), (store a p.1).run Try.prog w = stored Try.prog w a p.1 .plain := fun w a => run_store Try.prog w a _ .plain hp.o1
    have hs2 : ∀ (w : World) (a : Addr), (store a p.2).run Try.prog w = stored Try.prog w a p.2 .plain := fun w a => run_store Try.prog w a _ .plain hp.o2
    have HI2 := Lib.hid (EJ.ab _ F F _ _ none hI (World.grownBy_alloc W (.cells #[p.1, p.2] 40) none) (fun r e => by cases e) (fun j h => .inl h))
    have he := hp.eq
    subst he
    clear hp hI
    gi_wp2
    obtain ⟨Bx, hBx⟩ : ∃ Bx, W.heap.size = Bx := ⟨_, rfl⟩
    rw [hBx] at HBP ⊢
    exact hK Bx p _ (Kept.grown (World.grownBy_alloc W _ none) (fun r e => by cases e)) HI2.out HBP.out
  case body =>
    rintro l x rest F Bx p W ⟨v, acc, ps, la, hI⟩ hbx hB
    rw [HSZ.out] at hB
    obtain ⟨a1, c1, hp1⟩ := O2.shape hbx.q.1
    obtain ⟨a2, c2, hp2⟩ := O2.shape hbx.q.2
    obtain ⟨p0, p1⟩ := p
    dsimp only at hp1 hp2 ⊢
    rw [List.length_map] at hp1 hp2
    subst hp1 hp2
    have hlen : acc.length + (rest.length + 1) ≤ XS.length := by have := hI.len; rw [List.length_cons] at this; exact this
    have hps : ps.length = acc.length := hI.qs.len
    obtain ⟨x, e⟩ := x
    obtain ⟨hla, hrun⟩ : la = 0 ∧ eat M ((x, e) :: rest) acc = eat M XS [] := by
      rcases hI.run with h | ⟨h, -⟩
      · exact h
      · cases h
    subst hla
    have HI := Lib.hid hI
    have HBX := Lib.hid hbx
    have HPS := Lib.hid hps
    have hN6 : acc.length ≤ 1000000 := by have := HLEN.out; omega
    have hok := hI.ok
    have z3 := hI.b3.cell
    have f3 := hI.b3.frozen
    clear hI hbx hps hlen
    by_cases he : e = 0
    · subst he
      rw [eat, if_neg (by simp)] at hrun
      have HL := Lib.hid (HI.out.last (rest' := (x, 0) :: rest) 0 (.inl ⟨rfl, by rw [eat, if_neg (by simp)]; exact hrun⟩) hok (Nat.le_refl _))
      have hne : Bx ≠ w.heap.size + 4 := by have := HBX.out.ge; omega
      have HBX1 := Lib.hid (HBX.out.box.other (j := 0) hne (.int .i64 ((0 : Nat) : Int)))
      have HQ1 := Lib.hid (QS.ok (w.heap.size + 8) _ _ _ _ _ HBX.out.q (grownBy_setCell' W (w.heap.size + 4) (.int .i64 ((0 : Nat) : Int))) (fun r e => by cases e; exact .inl (by omega)))
      have p0 : (W.setCell ⟨w.heap.size + 1 + 1 + 1 + 1, 0, none⟩ (.int .i64 0)).cell? ⟨Bx, 0, none⟩ = some (.slice a1 x.ls.length c1) := HBX1.out.c0
      have p1 : (W.setCell ⟨w.heap.size + 1 + 1 + 1 + 1, 0, none⟩ (.int .i64 0)).cell? ⟨Bx, 1, none⟩ = some (.slice a2 x.ss.length c2) := HBX1.out.c1
      obtain ⟨va, vc, hv⟩ := HI.out.own.shape
      subst hv
      have y2 : (W.setCell ⟨w.heap.size + 1 + 1 + 1 + 1, 0, none⟩ (.int .i64 0)).cell? ⟨w.heap.size + 1 + 1 + 1, 0, none⟩ = some (.slice va ps.length vc) := HL.out.1.b2.cell
      have g2 : (W.setCell ⟨w.heap.size + 1 + 1 + 1 + 1, 0, none⟩ (.int .i64 0)).frozen? ⟨w.heap.size + 1 + 1 + 1, 0, none⟩ = false := HL.out.1.b2.frozen
      have hps2 : ps.length ≤ 1000000 := by have := HPS.out; omega
      have HOKR := Lib.hid hok.2
      have HRN := Lib.hid hrun
      have hcn := cells_new2 (W.setCell ⟨w.heap.size + 1 + 1 + 1 + 1, 0, none⟩ (.int .i64 0)) (.slice a1 x.ls.length c1) (.slice a2 x.ss.length c2) 40
      rw [show (W.setCell ⟨w.heap.size + 1 + 1 + 1 + 1, 0, none⟩ (.int .i64 0)).heap.size = W.heap.size by simp [World.setCell]] at hcn
      have HCN := Lib.hid hcn
      have HGA := Lib.hid (World.grownBy_alloc (W.setCell ⟨w.heap.size + 1 + 1 + 1 + 1, 0, none⟩ (.int .i64 0)) (.cells #[.slice a1 x.ls.length c1, .slice a2 x.ss.length c2] 40) none)
      have HOA : Hid (O2 40 ((W.setCell ⟨w.heap.size + 1 + 1 + 1 + 1, 0, none⟩ (.int .i64 0)).alloc (.cells #[.slice a1 x.ls.length c1, .slice a2 x.ss.length c2] 40)) (w.heap.size + 8) (.slice va ps.length vc) ps) := Lib.hid (World.ownsRow.alloc HL.out.1.own (.cells #[.slice a1 x.ls.length c1, .slice a2 x.ss.length c2] 40))
      have HONE : Hid (∀ u ∈ [Value.slice a1 x.ls.length c1, .slice a2 x.ss.length c2], u.oneCell' = true) := Lib.hid (by simp [Value.oneCell'])
      have HBZ : Hid (w.heap.size + 8 ≤ (W.setCell ⟨w.heap.size + 1 + 1 + 1 + 1, 0, none⟩ (.int .i64 0)).heap.size) := Lib.hid (by simpa [World.setCell] using hB)
      have HL' : Hid (EJ' M w (eat M XS []) XS.length ((x, 0) :: rest) F (W.setCell ⟨w.heap.size + 1 + 1 + 1 + 1, 0, none⟩ (.int .i64 0)) (.slice va ps.length vc) acc ps 0) := Lib.hid HL.out.1
      have HB3 : Hid (∀ W4 : World, ((W.setCell ⟨w.heap.size + 1 + 1 + 1 + 1, 0, none⟩ (.int .i64 0)).alloc (.cells #[.slice a1 x.ls.length c1, .slice a2 x.ss.length c2] 40)).grownBy W4 (Value.slice va ps.length vc).ownBlock → Boxed W4 (w.heap.size + 3) 23 (.slice va ps.length vc) ∧ Boxed W4 w.heap.size 3 (.int .i64 (M : Int))) := Lib.hid fun W4 hg => ⟨(HL'.out.b2.kept HGA.out (by simp)).kept hg (fun e => by have := (HL'.out.own.lt _ e.symm).1; omega), (HL'.out.bm.kept HGA.out (by simp)).kept hg (fun e => by have := (HL'.out.own.lt _ e.symm).1; omega)⟩
      clear hne hok hrun hcn
      by_cases hMM : M ≤ acc.length + 1
      · have HMM := Lib.hid hMM
        have hMi : (M : Int) ≤ (ps.length : Int) + 1 := by have := HPS.out; omega
        clear hMM
        gi_wp2_with (gi_at_builtin; refine wpListIn_append_own_at _ rfl (.tmp 31) (.tmp 33) 23 rfl (w.heap.size + 8) 40 i0 _ 2 48 Try.underlying23 hi hz0 hz1 hz2 (by rfl) (by decide) (.slice va ps.length vc) ps.length (prs ps) rfl HOA.out ⟨W.heap.size, 0, none⟩ 1 1 [.slice a1 x.ls.length c1, .slice a2 x.ss.length c2] rfl rfl HCN.out HONE.out (by unfold maxLen; omega) (by omega) (by have := HBZ.out; rw [World.size_alloc]; omega) ?_; intro v' w4 hown' hgrow hnil hloc; have HON := Lib.hid hown'; have HGR := Lib.hid hgrow; have HLO := Lib.hid hloc; have hb3 := HB3.out _ hgrow; have u3 : w4.cell? ⟨w.heap.size + 1 + 1 + 1, 0, none⟩ = some (.slice va ps.length vc) := hb3.1.cell; have u4 : w4.frozen? ⟨w.heap.size + 1 + 1 + 1, 0, none⟩ = false := hb3.1.frozen; obtain ⟨a3, c3, hv2⟩ := ownsRow_shape hown'; subst hv2; have um : (w4.setCell ⟨w.heap.size + 1 + 1 + 1, 0, none⟩ (.slice a3 (ps.length + 1) c3)).cell? ⟨w.heap.size, 0, none⟩ = some (.int .i64 (M : Int)) := (hb3.2.other (by omega) _).cell; clear hown' hgrow hnil hloc hb3)
        have hl := HL'.out.goes (rest' := []) HQ1.out HBZ.out HGA.out HGR.out (by have h := HON.out; unfold O2; rw [prs_append, List.length_append]; exact h) HLO.out (.inr ⟨rfl, by have := HRN.out; rw [if_pos HMM.out] at this; exact this⟩) trivial (by simp)
        show Kept (fun j => j = w1.heap.size ∨ j = w1.heap.size + 1) W _ ∧ _
        rw [HSZ.out]
        exact ⟨(HL.out.2.trans hl.2).mono (fun j h => .inr h), rfl, EJ.ab _ _ _ _ _ none ⟨_, _, _, _, hl.1⟩ (World.grownBy.refl _ _) (fun r e => by cases e) (fun j h => h.elim)⟩
      · have HMM := Lib.hid hMM
        have hMi : ¬ (M : Int) ≤ (ps.length : Int) + 1 := by have := HPS.out; omega
        clear hMM
        gi_wp2_with (gi_at_builtin; refine wpListIn_append_own_at _ rfl (.tmp 31) (.tmp 33) 23 rfl (w.heap.size + 8) 40 i0 _ 2 48 Try.underlying23 hi hz0 hz1 hz2 (by rfl) (by decide) (.slice va ps.length vc) ps.length (prs ps) rfl HOA.out ⟨W.heap.size, 0, none⟩ 1 1 [.slice a1 x.ls.length c1, .slice a2 x.ss.length c2] rfl rfl HCN.out HONE.out (by unfold maxLen; omega) (by omega) (by have := HBZ.out; rw [World.size_alloc]; omega) ?_; intro v' w4 hown' hgrow hnil hloc; have HON := Lib.hid hown'; have HGR := Lib.hid hgrow; have HLO := Lib.hid hloc; have hb3 := HB3.out _ hgrow; have u3 : w4.cell? ⟨w.heap.size + 1 + 1 + 1, 0, none⟩ = some (.slice va ps.length vc) := hb3.1.cell; have u4 : w4.frozen? ⟨w.heap.size + 1 + 1 + 1, 0, none⟩ = false := hb3.1.frozen; obtain ⟨a3, c3, hv2⟩ := ownsRow_shape hown'; subst hv2; have um : (w4.setCell ⟨w.heap.size + 1 + 1 + 1, 0, none⟩ (.slice a3 (ps.length + 1) c3)).cell? ⟨w.heap.size, 0, none⟩ = some (.int .i64 (M : Int)) := (hb3.2.other (by omega) _).cell; clear hown' hgrow hnil hloc hb3)
        have hl := HL'.out.goes (rest' := rest) HQ1.out HBZ.out HGA.out HGR.out (by have h := HON.out; unfold O2; rw [prs_append, List.length_append]; exact h) HLO.out (.inl (by have := HRN.out; rw [if_neg HMM.out] at this; exact this)) HOKR.out (by simp)
        show Kept (fun j => F j ∨ j = w1.heap.size ∨ j = w1.heap.size + 1) W _ ∧ _
        rw [HSZ.out]
        exact ⟨HL.out.2.trans hl.2, _, _, _, _, hl.1⟩
    · obtain ⟨⟨hr0, hx0⟩, -⟩ : (rest = [] ∧ x = ⟨[], []⟩) ∧ True := ⟨hok.1 he, trivial⟩
      subst hr0 hx0
      have he1 : ((e : Int) != 0) = true := by rw [bne_iff_ne]; omega
      rw [eat, if_pos he] at hrun
      have HL := Lib.hid (HI.out.last (rest' := []) e (.inr ⟨rfl, hrun⟩) trivial (by simp))
      have hne : Bx ≠ w.heap.size + 4 := by have := HBX.out.ge; omega
      have y0 := (HBX.out.box.other (j := 0) hne (.int .i64 (e : Int))).c0
      have y1 := (HBX.out.box.other (j := 0) hne (.int .i64 (e : Int))).c1
      clear he hrun hok hne
      gi_wp2
      show Kept (fun j => F j ∨ j = w1.heap.size ∨ j = w1.heap.size + 1) W _ ∧ _
      rw [HSZ.out]
      exact ⟨HL.out.2, v, acc, ps, e, HL.out.1⟩
  case done =>
    rintro F W ⟨v, acc, ps, la, hI⟩ hD
    have HI := Lib.hid hI
    clear hI
    obtain ⟨va, vc, hv⟩ := HI.out.own.shape
    subst hv
    have c2 : W.cell? ⟨w.heap.size + 1 + 1 + 1, 0, none⟩ = some (.slice va ps.length vc) := HI.out.b2.cell
    have c3 : W.cell? ⟨w.heap.size + 1 + 1 + 1 + 1, 0, none⟩ = some (.int .i64 (la : Int)) := HI.out.b3.cell
    have f0 : W.frozen? ⟨w.heap.size + 1, 0, none⟩ = false := HI.out.b0.frozen
    have f1 : W.frozen? ⟨w.heap.size + 1 + 1, 0, none⟩ = false := HI.out.b1.frozen
    have c0 : W.cell? ⟨w.heap.size + 1, 0, none⟩ = some (.slice none 0 0) := HI.out.b0.cell
    have c1 : W.cell? ⟨w.heap.size + 1 + 1, 0, none⟩ = some (.int .i64 0) := HI.out.b1.cell
    gi_wp2
    refine wpIn_wide.2 ?_
    go_region
    go_wp2
    gi_wp2
    exact fin_each HI.out hD HSZ.out rfl rfl rfl
  case stop =>
    rintro c W ⟨rfl, v, acc, ps, la, hI⟩ hD
    have HI := Lib.hid hI
    clear hI
    obtain ⟨va, vc, hv⟩ := HI.out.own.shape
    subst hv
    have c2 : W.cell? ⟨w.heap.size + 1 + 1 + 1, 0, none⟩ = some (.slice va ps.length vc) := HI.out.b2.cell
    have c3 : W.cell? ⟨w.heap.size + 1 + 1 + 1 + 1, 0, none⟩ = some (.int .i64 (la : Int)) := HI.out.b3.cell
    have f0 : W.frozen? ⟨w.heap.size + 1, 0, none⟩ = false := HI.out.b0.frozen
    have f1 : W.frozen? ⟨w.heap.size + 1 + 1, 0, none⟩ = false := HI.out.b1.frozen
    have c0 : W.cell? ⟨w.heap.size + 1, 0, none⟩ = some (.slice none 0 0) := HI.out.b0.cell
    have c1 : W.cell? ⟨w.heap.size + 1 + 1, 0, none⟩ = some (.int .i64 0) := HI.out.b1.cell
    gi_wp2
    refine wpIn_wide.2 ?_
    go_region
    go_wp2
    gi_wp2
    exact fin_each HI.out hD HSZ.out rfl rfl rfl
end Go.Proofs.Ytknfodpegkpjnaa
