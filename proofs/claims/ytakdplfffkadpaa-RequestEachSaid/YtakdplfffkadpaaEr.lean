/- Regions in a round that draw; Each, plainly; its two ranges. -/
import Derived.RangeFuncNested
import Derived.RangeFuncCalls
import Derived.Lib.QuietBelow
import Derived.Lib.QuietBelowIn
import Derived.OwnWalkIn
import Derived.BigQuiet
import Derived.ControlIn
import Derived.Test.YtakdplfffkadpaaEa
namespace Go.Proofs.Ytakdplfffkadpaa
open Go Go.RowKit Go.Sort
/-- No operation defers. -/
def calmB (ops : Array Oper) : Bool := ops.all fun o => match o.op with | .defer _ => false | _ => true
theorem calm_of {ops : Array Oper} (h : calmB ops = true) {i : Nat} {o : Oper} (ho : ops[i]? = some o) : ∀ c, o.op ≠ .defer c := by
  intro c e
  unfold calmB at h
  rw [Array.all_eq_true] at h
  obtain ⟨hi, rfl⟩ := Array.getElem?_eq_some_iff.1 ho
  have := h i hi
  rw [e] at this
  cases this
theorem oper_round {F : Fence} {n : Nat} {P : Program} {o : Oper} {a : Act} {w : World} {K : Act → World → Prop} {Q : Exit → Act → World → Prop} (l : Nat) (ho : ∀ c, o.op ≠ .defer c) (h : o.wpIn F n P a w K Q) : o.wpIn (F.inRound l) n P a w K Q := by
  unfold Oper.wpIn at *
  rw [Oper.semAt_plain _ _ _ ho] at h
  rw [Oper.semAt_plain _ _ _ ho]
  refine ⟨h.1, ?_⟩
  have h2 := h.2
  generalize (execOp a.eval o).run P w = r at *
  cases r with
  | ok x w' => cases x <;> exact h2
  | halt x w' => cases x <;> exact h2
theorem any_round {F : Fence} {n : Nat} {P : Program} {md : Region.Mode} {ops : Array Oper} {Q : Exit → Act → World → Prop} (l : Nat) (hc : calmB ops = true) : ∀ (fuel : Nat) (listed : Array Bool) (a : Act) (w : World),
    wpAnyIn F n P md ops Q fuel listed a w → wpAnyIn (F.inRound l) n P md ops Q fuel listed a w
  | 0, _, _, _, h => h
  | fuel + 1, listed, a, w, h => ⟨h.1, fun i hi => by
    have h1 := h.2 i hi
    unfold wpOpIn at *
    cases ho : ops[i]? with
    | none => rw [ho] at h1; exact any_round l hc fuel _ _ _ h1
    | some o =>
      rw [ho] at h1
      dsimp only at h1 ⊢
      split
      · rename_i hw
        rw [if_pos hw] at h1
        exact oper_round l (calm_of hc ho) (Oper.wpIn_mono (fun a w h => any_round l hc fuel _ a w h) h1)
      · rename_i hw
        rw [if_neg hw] at h1
        exact ⟨h1.1, any_round l hc fuel _ _ _ h1.2⟩⟩
theorem quiet_in {n : Nat} {P : Program} {ops : Array Oper} {C : World → Prop} {Q : Act → Prop} : ∀ (l : List Oper) (a : Act), wpQuiet P ops C Q l a → wpQuietIn Fence.wide n P ops C Q l a
  | [], _, h => h
  | o :: r, a, h => by
    refine ⟨fun _ _ _ _ => trivial, ?_⟩
    unfold wpQuiet at h
    split
    · rename_i hw
      rw [if_pos hw] at h
      obtain ⟨v, h1, h2⟩ := h
      refine ⟨v, fun w hw => ?_, quiet_in r _ h2⟩
      have h3 := h1 w hw
      unfold Oper.quietAt at h3
      unfold Oper.quietAtIn
      generalize (execOp a.eval o).run P w = q at *
      cases q with
      | ok x w' =>
        cases x
        case enter f args => exact ⟨h3.1, (fun h => (by cases h)), callsIn_wide.2 h3.2⟩
        all_goals exact h3
      | halt x w' => exact h3
    · rename_i hw
      rw [if_neg hw] at h
      exact quiet_in r _ h
theorem region_round {n : Nat} {P : Program} {id l0 : Nat} {Q : Exit → Act → World → Prop} {a : Act} {w : World} {l : List Oper} (C : World → Prop) (hC : C { w with drawn := w.drawn + 1 }) (hm : P.follows .mixedOrders = true) (hB : Region.lexB .any l.toArray = true) (hc : calmB l.toArray = true)
    (h : wpQuiet P l.toArray C (fun a' => ∀ w', C w' → Q .normal a' w') l a) : (Code.region id l.toArray true).wpIn (Fence.wide.inRound l0) n P Q a w := by
  simp only [Region.lexB, Bool.and_eq_true] at hB
  refine wpIn_region_any hm (any_round l0 hc _ _ _ _ (wpAnyIn_of_quiet (F := Fence.wide) (Q := fun a' => ∀ w', C w' → Q .normal a' w') rfl (fun _ w' hw' h => h w' hw') _ _ _ _ hC ?_))
  have := wpAnyQIn_lex (F := Fence.wide) (n := n) (C := C) (md := .any) hB.1 l.toArray.toList 0 (Array.replicate l.toArray.size false) a (by simp) (by simpa using hB.2) (by simpa using quiet_in (n := n) l a h)
  simpa using this
theorem region_round_below {n : Nat} {P : Program} {id l0 : Nat} {Q : Exit → Act → World → Prop} {a : Act} {w : World} {l : List Oper} (hm : P.follows .mixedOrders = true) (hB : Region.lexB .any l.toArray = true) (hc : calmB l.toArray = true)
    (h : wpQuiet P l.toArray (fun w' => ∃ p : Regrown, w' = grow (redrawn w p.d) p.os) (fun a' => ∀ w', (∃ p : Regrown, w' = grow (redrawn w p.d) p.os) → Q .normal a' w') l a) : (Code.region id l.toArray true).wpIn (Fence.wide.inRound l0) n P Q a w :=
  region_round (fun w' => ∃ p : Regrown, w' = grow (redrawn w p.d) p.os) ⟨⟨w.drawn + 1, #[]⟩, by rw [grow_empty]; rfl⟩ hm hB hc h
end Go.Proofs.Ytakdplfffkadpaa
namespace Go.Proofs.Ytakdplfffkadpaa
open Go Go.RowKit
set_option maxRecDepth 100000
/-- How many are right. -/
def cnt : List (Sr × Nat) → Nat
  | [] => 0
  | x :: r => (if x.2 = 0 then 1 else 0) + cnt r
/-- The last error. -/
def lastE : List (Sr × Nat) → Nat → Nat
  | [], d => d
  | x :: r, _ => lastE r x.2
/-- The right ones ahead are these. -/
def pre : List (Sr × Nat) → List Sr → Prop
  | x :: r, y :: t => (x.2 = 0 → x.1 = y) ∧ pre r t
  | _, _ => True
theorem cnt_le : ∀ XS : List (Sr × Nat), cnt XS ≤ XS.length
  | [] => Nat.le_refl _
  | x :: r => by have := cnt_le r; rw [cnt, List.length_cons]; split <;> omega
theorem pre_nil (r : List (Sr × Nat)) : pre r [] := by cases r <;> trivial
theorem gat_last : ∀ (XS : List (Sr × Nat)) (acc : List Sr), okL XS → (gat XS acc).2 = lastE XS 0 ∧ (lastE XS 0 = 0 → (gat XS acc).1 = acc ++ XS.map Prod.fst ∧ cnt XS = XS.length) ∧ (lastE XS 0 ≠ 0 → (gat XS acc).1 = [])
  | [], acc, _ => ⟨rfl, fun _ => ⟨by simp [gat], rfl⟩, fun h => absurd rfl h⟩
  | x :: r, acc, h => by
    by_cases hx : x.2 = 0
    · obtain ⟨h1, h2, h3⟩ := gat_last r (acc ++ [x.1]) h.2
      rw [gat, if_neg (by simp [hx]), lastE, hx, cnt, if_pos hx]
      refine ⟨h1, fun e => ?_, h3⟩
      obtain ⟨k1, k2⟩ := h2 e
      exact ⟨by rw [k1]; simp, by rw [k2, List.length_cons]; omega⟩
    · obtain ⟨rfl, -⟩ := h.1 hx
      rw [gat, if_pos hx, lastE]
      exact ⟨rfl, fun e => absurd e hx, fun _ => rfl⟩
theorem tx_app (n : Nat) (a b : List Fd) : tx n (a ++ b) = tx n a ++ tx n b := by unfold tx; rw [List.filter_append, List.map_append]
theorem tx_fRq : ∀ l : List Sr, tx 1 (fRq l) = l.map eSr
  | [] => rfl
  | x :: r => by
    show tx 1 (part 1 (eSr x) :: fRq r) = _
    rw [tx_cons, if_pos (show (part 1 (eSr x)).n = 1 from rfl), tx_fRq r]
    rfl
theorem tel_pre : ∀ (l : List Sr), Rok l → ∀ ts : List (List UInt8), pre (tel rSr (l.map eSr ++ ts)) l
  | [], _, ts => pre_nil _
  | x :: r, h, ts => by
    have hx := rSr_e (h.s x (by simp)).1
    rw [List.map_cons, List.cons_append, tel, hx]
    exact ⟨fun _ => rfl, tel_pre r ⟨fun y hy => h.s y (by simp [hy])⟩ ts⟩
theorem tS_pre {l : List Sr} (h : Rok l) (s : List UInt8) (hl : (eRq l).length < 18446744073709551616) (hs : s.length < 18446744073709551616) : pre (tS (eRq l ++ s)) l := by
  have hone : ∀ k : Nat, k ≠ 0 → pre [((⟨[], []⟩ : Sr), k)] l := fun k hk => by
    cases l with
    | nil => exact pre_nil _
    | cons y t => exact ⟨fun e => absurd e hk, by cases t <;> trivial⟩
  have e : msg (eRq l ++ s) [] = _ := msg_both (msg_eM (fRq_ok h)) hl hs
  unfold tS rqT
  rw [e]
  by_cases h0 : (msg s []).2 = 0
  · rw [if_pos h0]
    dsimp only
    rw [if_neg (show ¬ (0 : Nat) ≠ 0 by decide)]
    by_cases h1 : bd 1 2 (fRq l ++ (msg s []).1) = true
    · rw [if_pos h1]
      dsimp only
      rw [if_pos (show (4 : Nat) ≠ 0 by decide)]
      exact hone 4 (by decide)
    · rw [if_neg h1]
      dsimp only
      rw [if_neg (show ¬ (0 : Nat) ≠ 0 by decide), tx_app, tx_fRq]
      exact tel_pre l h _
  · rw [if_neg h0]
    dsimp only
    rw [if_pos h0]
    dsimp only
    rw [if_pos h0]
    exact hone _ h0
theorem dec_ahead {l : List Sr} (h : Rok l) (s : List UInt8) (hl : (eRq l).length < 18446744073709551616) (hs : s.length < 18446744073709551616) (h0 : (dec (eRq l ++ s)).2 = 0) : l.length ≤ (dec (eRq l ++ s)).1.length := by
  obtain ⟨m, k, h1, h2⟩ := rRq_ahead h s hl hs
  have hd : dec (eRq l ++ s) = if k ≠ 0 then ([], k) else (m, 0) := by unfold dec; rw [h1]
  rw [hd] at h0 ⊢
  clear hd h1
  by_cases hk : k = 0
  · subst hk
    rw [if_neg (by simp)]
    dsimp only
    rcases h2 with ⟨h2, -⟩ | ⟨r, rfl⟩
    · exact absurd rfl h2
    · simp
  · rw [if_pos (show k ≠ 0 from hk)] at h0
    exact absurd h0 hk
/-- All that the law reckons with. -/
structure EachFacts (l : List Sr) (XS : List (Sr × Nat)) (A : List Sr) (E : Nat) : Prop where
  ok : okL XS
  pr : pre XS l
  last : lastE XS 0 = E
  all : E = 0 → cnt XS = A.length ∧ l.length ≤ cnt XS
  none : E ≠ 0 → A.length = 0
  len : XS.length ≤ 1000000
theorem each_facts {l : List Sr} (h : Rok l) (s : List UInt8) (hl : (eRq l).length ≤ 500000) (hs : s.length ≤ 500000) : EachFacts l (tS (eRq l ++ s)) (dec (eRq l ++ s)).1 (dec (eRq l ++ s)).2 := by
  have hok := tS_ok (eRq l ++ s)
  obtain ⟨h1, h2, h3⟩ := gat_last _ [] hok
  rw [gat_tS] at h1 h2 h3
  have hlen : (tS (eRq l ++ s)).length ≤ 1000000 := by
    have h := rqT_facts (eRq l ++ s) (by rw [List.length_append]; omega)
    unfold tS
    split
    · simp
    · have := tel_len rSr (rqT (eRq l ++ s)).1; omega
  refine ⟨hok, tS_pre h s (by omega) (by omega), h1.symm, fun e => ?_, fun e => ?_, hlen⟩
  · obtain ⟨k1, k2⟩ := h2 (by rw [← h1]; exact e)
    have hd := dec_ahead h s (by omega) (by omega) e
    rw [k1] at hd ⊢
    rw [k2]
    simp at hd ⊢
    exact hd
  · rw [h3 (by rw [← h1]; exact e)]; rfl
end Go.Proofs.Ytakdplfffkadpaa
namespace Go.Proofs.Ytakdplfffkadpaa
open Go Go.RowKit
set_option maxRecDepth 100000
/-- A range, cut off from what follows. -/
theorem range_cut {F : Fence} {n id : Nat} {P : Program} {c : Code} {Q : Exit → Act → World → Prop} {a : Act} {w : World} (d : Deferred) (R : World → Prop)
    (hr : c.wpIn F n P (fun e a' W => (e = .normal ∨ e = .exit id) ∧ a' = { a with defers := d :: a.defers } ∧ R W) a w) (hk : ∀ W, R W → Q .normal { a with defers := d :: a.defers } W) : c.wpIn F n P (Exit.inBlock id Q) a w :=
  wpIn_mono hr (fun e a' W h => by
    obtain ⟨h1, rfl, h3⟩ := h
    rcases h1 with rfl | rfl
    · exact hk W h3
    · show (if id = id then _ else _)
      rw [if_pos rfl]; exact hk W h3)
theorem range_cut0 {F : Fence} {n : Nat} {P : Program} {c : Code} {Q : Exit → Act → World → Prop} {a : Act} {w : World} (d : Deferred) (R : World → Prop)
    (hr : c.wpIn F n P (fun e a' W => e = .normal ∧ a' = { a with defers := d :: a.defers } ∧ R W) a w) (hk : ∀ W, R W → Q .normal { a with defers := d :: a.defers } W) : c.wpIn F n P Q a w :=
  wpIn_mono hr (fun e a' W h => by
    obtain ⟨rfl, rfl, h3⟩ := h
    exact hk W h3)
/-- Behind the first range. -/
structure Aft (w : World) (V X : Value) (M TB B9 T : Nat) (W : World) : Prop where
  b0 : Boxed W w.heap.size 23 V
  b1 : Boxed W (w.heap.size + 1) 3 (.int .i64 (M : Int))
  b9 : Boxed W B9 9 X
  bt : Boxed W TB 3 (.int .i64 (T : Int))
  bel : Below w.heap.size w W
theorem Aft.ab {w : World} {V X : Value} {M TB B9 T b : Nat} (h9 : B9 < b) (h1 : w.heap.size + 1 < b) (hb : TB < b) : AbW b (Aft w V X M TB B9 T) := by
  rintro A A' row h hg hr
  have ne : ∀ j, j < b → some j ≠ row := fun j hj e => by have := hr j e.symm; omega
  exact ⟨h.b0.kept hg (ne _ (by omega)), h.b1.kept hg (ne _ (by omega)), h.b9.kept hg (ne _ h9), h.bt.kept hg (ne _ hb), h.bel.grown hg h.bel.size (fun k e => by have := hr k e; omega)⟩
theorem Aft.put {w : World} {V X : Value} {M TB B9 T : Nat} {W : World} (h : Aft w V X M TB B9 T W) (h9 : B9 < TB) (h1 : w.heap.size + 1 < TB) (T' : Nat) : Aft w V X M TB B9 T' (W.setCell ⟨TB, 0, none⟩ (.int .i64 (T' : Int))) :=
  ⟨h.b0.other (by omega) _, h.b1.other (by omega) _, h.b9.other (by omega) _, h.bt.set _, below_set h.bel (by omega) _⟩
theorem Aft.other {w : World} {V X : Value} {M TB B9 T B : Nat} {W : World} (h : Aft w V X M TB B9 T W) (h9 : B9 < B) (h1 : w.heap.size + 1 < B) (hB : TB < B) (u : Value) : Aft w V X M TB B9 T (W.setCell ⟨B, 0, none⟩ u) :=
  ⟨h.b0.other (by omega) _, h.b1.other (by omega) _, h.b9.other (by omega) _, h.bt.other (by omega) _, below_set h.bel (by omega) _⟩
/-- Between the rounds of the first one. -/
structure E1 (w : World) (V X : Value) (M TB B9 T : Nat) (l : List Sr) (rest : List (Sr × Nat)) (F : Bks) (W : World) (k : Nat) : Prop where
  af : Aft w V X M TB B9 k W
  run : min (k + cnt rest) M = T
  lt : k < M
  pr : pre rest (l.drop k)
  ok : okL rest
  fb : ∀ j, F j → TB < j ∧ j < W.heap.size
theorem E1.ab {w : World} {V X : Value} {M TB B9 T b : Nat} {l : List Sr} (h9 : B9 < b) (h1 : w.heap.size + 1 < b) (hb : TB < b) : AbI b (fun rest F W => ∃ k, E1 w V X M TB B9 T l rest F W k) := by
  rintro s F F' A A' row ⟨k, h⟩ hg hr hF
  refine ⟨k, Aft.ab h9 h1 hb _ _ row h.af hg hr, h.run, h.lt, h.pr, h.ok, fun j hj => ?_⟩
  have := hg.size
  rcases hF j hj with hj | ⟨hj, hj2⟩
  · have := h.fb j hj; omega
  · have := h.af.bt.lt; omega
/-- Between the rounds of the second one. -/
structure E2 (w : World) (V X : Value) (M TB B9 T AB D N E : Nat) (rest : List (Sr × Nat)) (F : Bks) (W : World) (a la : Nat) : Prop where
  af : Aft w V X M TB B9 T W
  dd : W.heap[D]? = some (.deferred (some []))
  ba : Boxed W AB 3 (.int .i64 (a : Int))
  bl : Boxed W (AB + 1) 24 (.int .i64 (la : Int))
  run : a + cnt rest = N
  last : lastE rest la = E
  fb : ∀ j, F j → AB + 1 < j ∧ j < W.heap.size
theorem E2.ab {w : World} {V X : Value} {M TB B9 T AB D N E b : Nat} (h9 : B9 < b) (h1 : w.heap.size + 1 < b) (hb : TB < b) (hA : AB + 1 < b) (hD : D < b) : AbI b (fun rest F W => ∃ a la, E2 w V X M TB B9 T AB D N E rest F W a la) := by
  rintro s F F' A A' row ⟨a, la, h⟩ hg hr hF
  have ne : ∀ j, j < b → some j ≠ row := fun j hj e => by have := hr j e.symm; omega
  refine ⟨a, la, Aft.ab h9 h1 hb _ _ row h.af hg hr, (hg.block D (Array.getElem?_eq_some_iff.1 h.dd).1 (ne _ hD)).trans h.dd, h.ba.kept hg (ne _ (by omega)), h.bl.kept hg (ne _ hA), h.run, h.last, fun j hj => ?_⟩
  have := hg.size
  rcases hF j hj with hj | ⟨hj, hj2⟩
  · have := h.fb j hj; omega
  · have := h.bl.lt; omega
theorem E2.right {w : World} {V X : Value} {M TB B9 T AB D N E : Nat} {x : Sr × Nat} {rest : List (Sr × Nat)} {F : Bks} {W : World} {a la : Nat} (h : E2 w V X M TB B9 T AB D N E (x :: rest) F W a la) (hx : x.2 = 0) (h9 : B9 < AB) (h1 : w.heap.size + 1 < AB) (hb : TB < AB) (hD : D < AB) :
    E2 w V X M TB B9 T AB D N E rest F ((W.setCell ⟨AB, 0, none⟩ (.int .i64 ((a + 1 : Nat) : Int))).setCell ⟨AB + 1, 0, none⟩ (.int .i64 ((0 : Nat) : Int))) (a + 1) 0 := by
  refine ⟨(h.af.other h9 h1 hb _).other (by omega) (by omega) (by omega) _, ?_, (h.ba.set _).other (by omega) _, (h.bl.other (by omega) _).set _, ?_, ?_, fun j hj => ?_⟩
  · rw [Below.heap_setCell _ _ _ _ (by simp only; omega), Below.heap_setCell _ _ _ _ (by simp only; omega)]; exact h.dd
  · have := h.run; rw [cnt, if_pos hx] at this; omega
  · have := h.last; rw [lastE, hx] at this; exact this
  · have := h.fb j hj; simp [World.setCell]; omega
theorem E2.wrong {w : World} {V X : Value} {M TB B9 T AB D N E : Nat} {x : Sr × Nat} {rest : List (Sr × Nat)} {F : Bks} {W : World} {a la : Nat} (h : E2 w V X M TB B9 T AB D N E (x :: rest) F W a la) (hx : x.2 ≠ 0) (h9 : B9 < AB) (h1 : w.heap.size + 1 < AB) (hb : TB < AB) (hD : D < AB) :
    E2 w V X M TB B9 T AB D N E rest F (W.setCell ⟨AB + 1, 0, none⟩ (.int .i64 (x.2 : Int))) a x.2 := by
  refine ⟨h.af.other (by omega) (by omega) (by omega) _, ?_, h.ba.other (by omega) _, h.bl.set _, ?_, ?_, fun j hj => ?_⟩
  · rw [Below.heap_setCell _ _ _ _ (by simp only; omega)]; exact h.dd
  · have := h.run; rw [cnt, if_neg hx] at this; omega
  · have := h.last; rw [lastE] at this; exact this
  · have := h.fb j hj; simp [World.setCell]; omega
/-- A told series in its box. -/
structure BPn (b base : Nat) (x : Sr × Nat) (Bx : Nat) (p : Pv) (W : World) : Prop where
  box : Box2 W Bx 40 p.1 p.2
  ge : b ≤ Bx
  q : QS base x.1 p W
theorem BPn.ab {b base : Nat} (hb : b + 2 ≤ base) (x : Sr × Nat) (Bx : Nat) (p : Pv) : AbW b (BPn (b + 2) base x Bx p) := by
  rintro A A' row ⟨h1, h2, h3⟩ hg hr
  exact ⟨h1.kept hg (fun e => by have := hr _ e.symm; omega), h2, QS.ok _ _ _ _ _ _ h3 hg (fun r e => .inl (by have := hr r e; omega))⟩
end Go.Proofs.Ytakdplfffkadpaa
