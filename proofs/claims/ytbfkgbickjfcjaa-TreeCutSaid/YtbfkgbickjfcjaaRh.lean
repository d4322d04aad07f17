/- A range over a function, whose body is told of the loop's own blocks. -/
import Derived.Test.YtbfkgbickjfcjaaRg
namespace Go.Proofs.Ytbfkgbickjfcjaa
set_option linter.unusedVariables false
set_option linter.unusedSimpArgs false
open Go Go.RowKit
theorem wp_rangeD {α : Type} {n : Nat} {P : Program} {g : Operand} {ps : Array Tmp} {assign body : Code} {Q : Exit → Act → World → Prop} {a : Act} {w : World} {gf : Nat} {lb : Array Value}
    (hg : a.eval g = .func (.func gf) #[] lb) (eg : ∀ args w, (callFunc gf args).run P w = .ok (.enter gf args) w)
    (encs : α → Array Value) (hps : ∀ x, (encs x).size = ps.size) (XS : List α) (k : Nat) (q : Nat → Prop) (hq : ¬ q (w.heap.size + 1))
    (hseq : ∀ W, W.heap.size = w.heap.size + 2 → Below w.heap.size w W → Gives (n - 1) P gf lb encs XS k q W)
    (I : List α → World → Prop) (Ix : Code → World → Prop) (hI : Ab w.heap.size (2 + k) I) (hIx : Ab w.heap.size (2 + k) Ix) (h0 : I XS w)
    (Ax : α → Act → World → Prop) (hAx : ∀ x, Ab w.heap.size (2 + k) (Ax x))
    (hassign : ∀ (l : Nat) (x : α) (rest : List α) (W : World) (K : Act → World → Prop), I (x :: rest) W → w.heap.size + 2 + k ≤ W.heap.size →
      (∀ a' W', Kept (fun j => q j ∨ j = w.heap.size ∨ j = w.heap.size + 1) W W' → I (x :: rest) W' → Ax x a' W' → K a' W') →
      assign.wpIn (Fence.wide.inRound l) (n - 1 - 1) P (Exit.then K (fun _ _ _ => False)) { tmps := (ps.zip (encs x)).foldl (fun t (p, v) => t.setIfInBounds p v) a.tmps, defers := [] } W)
    (hbody : ∀ (l : Nat) (x : α) (rest : List α) (a' : Act) (W : World), I (x :: rest) W → Ax x a' W → w.heap.size + 2 + k ≤ W.heap.size → W.heap[w.heap.size]? = some (.deferred (some [])) → (∃ r, W.heap[w.heap.size + 1]? = some (.loop r)) →
      body.wpIn (Fence.wide.inRound l) (n - 1 - 1) P (rPost w.heap.size q I Ix rest W) a' W)
    (hdone : ∀ W, I [] W → W.heap[w.heap.size]? = some (.deferred (some [])) → Q .normal { a with defers := { target := .collected w.heap.size, args := #[] } :: a.defers } W)
    (hstop : ∀ c W, Ix c W → W.heap[w.heap.size]? = some (.deferred (some [])) → c.wpIn Fence.wide n P Q { a with defers := { target := .collected w.heap.size, args := #[] } :: a.defers } W) :
    (Code.rangeFunc g ps assign body).wpIn Fence.wide n P Q a w := by
  refine wpIn_rangeFunc fun fn hfn => ?_
  let B := w.heap.size
  let rc : LoopState → Option Code → Obj := fun st pe => .loop { state := st, pending := pe, fn := fn, tmps := a.tmps, params := ps, assign := assign, body := body, defers := B }
  let W1 : World := (w.alloc (.deferred (some []))).alloc (rc .ready none)
  have hsz : W1.heap.size = B + 2 := by simp [W1, B]
  have hD1 : W1.heap[B]? = some (.deferred (some [])) := (Below.heap_alloc _ _ _ (by simp [B])).trans (World.alloc_heap_new w _)
  have hL1 : W1.heap[B + 1]? = some (rc .ready none) := by
    have := World.alloc_heap_new (w.alloc (.deferred (some []))) (rc .ready none)
    rwa [World.size_alloc] at this
  have hbW : Below w.heap.size w W1 := ((Below.refl _ w).alloc (Nat.le_refl _) _).alloc (by simp) _
  have put : ∀ {A : World} (o : Obj), A.grownBy (A.putObj (B + 1) o) (some (B + 1)) := fun {A} o => grownBy_putObj' A (B + 1) o
  have rowL : ∀ r, some (B + 1) = some r → w.heap.size ≤ r ∧ r < w.heap.size + (2 + k) := fun r e => by cases e; exact ⟨Nat.le_succ _, by show B + 1 < B + (2 + k); omega⟩
  -- what holds between two rounds, and when a round has said no more
  let J : List α → World → Prop := fun s W => I s W ∧ W.heap[B + 1]? = some (rc .ready none) ∧ W.heap[B]? = some (.deferred (some []))
  let Jx : Unit → World → Prop := fun _ W => ∃ c, Ix c W ∧ W.heap[B + 1]? = some (rc .done (some c)) ∧ W.heap[B]? = some (.deferred (some []))
  have keep : ∀ {A A' : World} {row : Option Nat}, A.grownBy A' row → (∀ r, row = some r → W1.heap.size ≤ r ∧ r < W1.heap.size + k) → ∀ {j : Nat} {o : Obj}, j ≤ B + 1 → A.heap[j]? = some o → A'.heap[j]? = some o :=
    fun {A A' row} hg' hr {j o} hj ho => (hg'.block j (Array.getElem?_eq_some_iff.1 ho).1 (fun e => by have := (hr j e.symm).1; omega)).trans ho
  have lift : ∀ {row : Option Nat}, (∀ r, row = some r → W1.heap.size ≤ r ∧ r < W1.heap.size + k) → ∀ r, row = some r → w.heap.size ≤ r ∧ r < w.heap.size + (2 + k) :=
    fun {row} hr r e => by have := hr r e; rw [hsz] at this; exact ⟨by show B ≤ r; omega, by show r < B + (2 + k); omega⟩
  have abJ : Ab W1.heap.size k J := fun s A A' row h hg' hr => ⟨hI s A A' row h.1 hg' (lift hr), keep hg' hr (by omega) h.2.1, keep hg' hr (by omega) h.2.2⟩
  have abJx : Ab W1.heap.size k Jx := fun s A A' row h hg' hr => by
    obtain ⟨c, h1, h2, h3⟩ := h
    exact ⟨c, hIx c A A' row h1 hg' (lift hr), keep hg' hr (by omega) h2, keep hg' hr (by omega) h3⟩
  have hI1 : I XS W1 := hI _ _ _ none (hI _ _ _ none h0 (World.grownBy_alloc w _ none) (fun r e => by cases e)) (World.grownBy_alloc _ _ none) (fun r e => by cases e)
  refine ⟨B + 1, [{ target := .collected B, args := #[] }], W1, { target := .fn (.func gf) lb, args := #[.func (.yield (B + 1)) #[] #[]] }, W1, gf,
    #[.func (.yield (B + 1)) #[] #[]] ++ lb, W1, run_enterLoop_outer _ _ _ _ _, ?_, fun _ _ => trivial, ?_, fun h => (by cases h), ?_⟩
  · simp only [resolve, hg]
    simp [go_sem]
  · simp [invoke, go_sem, eg]
  · refine (hseq W1 hsz hbW (B + 1) J Jx abJ abJx ?_ ⟨hI1, hL1, hD1⟩).mono ?_
    · rintro x rest A ⟨hi, hl, hd⟩ hA
      rw [hsz] at hA
      have hy := run_yield (P := P) (args := encs x) hl (by rw [hps x])
      refine ⟨fn, _, assign, body, hy, roundIn_of_wpIn hfn (hassign _ x rest A _ hi (by omega) fun a' W' hk hi' hax => ?_)⟩
      have hl' : W'.heap[B + 1]? = some (rc .ready none) := (hk.same _ (.inr (.inr rfl)) (Array.getElem?_eq_some_iff.1 hl).1).trans hl
      have hd' : W'.heap[B]? = some (.deferred (some [])) := (hk.same _ (.inr (.inl rfl)) (Array.getElem?_eq_some_iff.1 hd).1).trans hd
      refine ⟨_, run_beginRound hl' rfl, ?_⟩
      have hlt := (Array.getElem?_eq_some_iff.1 hl').1
      have hl2 : (W'.putObj (B + 1) (rc .busy none)).heap[B + 1]? = some (rc .busy none) := World.putObj_heap_same hlt
      have hd2 : (W'.putObj (B + 1) (rc .busy none)).heap[B]? = some (.deferred (some [])) := (World.putObj_heap_other (by omega)).trans hd'
      refine wpIn_mono (hbody _ x rest a' _ (hI _ _ _ _ hi' (put _) rowL) (hAx x _ _ _ _ hax (put _) rowL) (by rw [World.putObj_size]; exact Nat.le_trans (by omega) hk.size) hd2 ⟨_, hl2⟩) ?_
      have fin : ∀ (jump : Option Code) (W3 : World), Kept (fun j => j = w.heap.size ∨ j = w.heap.size + 1) (W'.putObj (B + 1) (rc .busy none)) W3 →
          (Instr.endRound (B + 1) jump).run P W3 = .ok (.bool jump.isNone) (W3.putObj (B + 1) (rc (if jump.isNone then .ready else .done) jump)) ∧
          (W3.putObj (B + 1) (rc (if jump.isNone then .ready else .done) jump)).heap[B + 1]? = some (rc (if jump.isNone then .ready else .done) jump) ∧
          (W3.putObj (B + 1) (rc (if jump.isNone then .ready else .done) jump)).heap[B]? = some (.deferred (some [])) := fun jump W3 hk3 => by
        have h3 := (hk3.same (B + 1) (.inr rfl) (Array.getElem?_eq_some_iff.1 hl2).1).trans hl2
        have h4 := (hk3.same B (.inl rfl) (Array.getElem?_eq_some_iff.1 hd2).1).trans hd2
        exact ⟨run_endRound jump h3, World.putObj_heap_same (Array.getElem?_eq_some_iff.1 h3).1, (World.putObj_heap_other (by omega)).trans h4⟩
      have kq : ∀ {A : World} (o : Obj), Kept q A (A.putObj (B + 1) o) := fun o => Kept.grown (put o) (fun r e => by cases e; exact hq)
      rintro e a3 W3 hp
      cases e with
      | normal =>
        obtain ⟨hk3, hi3⟩ := hp
        obtain ⟨hr, hl4, hd4⟩ := fin none W3 (hk3.mono (fun j hj => .inr hj))
        exact ⟨_, _, hr, .inl ⟨rfl, ⟨hI _ _ _ _ hi3 (put _) rowL, hl4, hd4⟩, ((hk.mono (fun j hj => .inl hj)).trans (kq _)).trans ((hk3.mono (fun j hj => .inl hj)).trans (kq _))⟩⟩
      | ret =>
        obtain ⟨hr, hl4, hd4⟩ := fin (some .ret) W3 hp.1
        exact ⟨_, _, hr, .inr ⟨rfl, _, hIx _ _ _ _ hp.2 (put _) rowL, hl4, hd4⟩⟩
      | exit id =>
        obtain ⟨hr, hl4, hd4⟩ := fin (some (.exit id)) W3 hp.1
        exact ⟨_, _, hr, .inr ⟨rfl, _, hIx _ _ _ _ hp.2 (put _) rowL, hl4, hd4⟩⟩
      | goto t =>
        obtain ⟨hr, hl4, hd4⟩ := fin (some (.goto t)) W3 hp.1
        exact ⟨_, _, hr, .inr ⟨rfl, _, hIx _ _ _ _ hp.2 (put _) rowL, hl4, hd4⟩⟩
      | panic ch => exact hp.elim
      | outgrown => exact hp.elim
    · rintro e A ⟨⟨v, rfl⟩, (⟨hi, hl, hd⟩ | ⟨c, hi, hl, hd⟩)⟩
      · exact ⟨none, _, run_endLoop hl (by simp), hdone _ (hI _ _ _ _ hi (put _) rowL) ((World.putObj_heap_other (by omega)).trans hd)⟩
      · exact ⟨some c, _, run_endLoop hl (by simp), hstop c _ (hIx _ _ _ _ hi (put _) rowL) ((World.putObj_heap_other (by omega)).trans hd)⟩
/-- The same, where behind the assignment the activation is told by a number, of which something holds (a box, say). -/
theorem wp_range2D {α : Type} {n : Nat} {P : Program} {g : Operand} {ps : Array Tmp} {assign body : Code} {Q : Exit → Act → World → Prop} {a : Act} {w : World} {gf : Nat} {lb : Array Value}
    (hg : a.eval g = .func (.func gf) #[] lb) (eg : ∀ args w, (callFunc gf args).run P w = .ok (.enter gf args) w)
    (encs : α → Array Value) (hps : ∀ x, (encs x).size = ps.size) (XS : List α) (k : Nat) (q : Nat → Prop) (hq : ¬ q (w.heap.size + 1))
    (hseq : ∀ W, W.heap.size = w.heap.size + 2 → Below w.heap.size w W → Gives (n - 1) P gf lb encs XS k q W)
    (I : List α → World → Prop) (Ix : Code → World → Prop) (hI : Ab w.heap.size (2 + k) I) (hIx : Ab w.heap.size (2 + k) Ix) (h0 : I XS w)
    (BP : α → Nat → World → Prop) (hBP : ∀ x, Ab w.heap.size (2 + k) (BP x)) (AF : α → Nat → Act)
    (hassign : ∀ (l : Nat) (x : α) (rest : List α) (W : World) (K : Act → World → Prop), I (x :: rest) W → w.heap.size + 2 + k ≤ W.heap.size →
      (∀ Bx W', Kept (fun j => q j ∨ j = w.heap.size ∨ j = w.heap.size + 1) W W' → I (x :: rest) W' → BP x Bx W' → K (AF x Bx) W') →
      assign.wpIn (Fence.wide.inRound l) (n - 1 - 1) P (Exit.then K (fun _ _ _ => False)) { tmps := (ps.zip (encs x)).foldl (fun t (p, v) => t.setIfInBounds p v) a.tmps, defers := [] } W)
    (hbody : ∀ (l : Nat) (x : α) (rest : List α) (Bx : Nat) (W : World), I (x :: rest) W → BP x Bx W → w.heap.size + 2 + k ≤ W.heap.size → W.heap[w.heap.size]? = some (.deferred (some [])) → (∃ r, W.heap[w.heap.size + 1]? = some (.loop r)) →
      body.wpIn (Fence.wide.inRound l) (n - 1 - 1) P (rPost w.heap.size q I Ix rest W) (AF x Bx) W)
    (hdone : ∀ W, I [] W → W.heap[w.heap.size]? = some (.deferred (some [])) → Q .normal { a with defers := { target := .collected w.heap.size, args := #[] } :: a.defers } W)
    (hstop : ∀ c W, Ix c W → W.heap[w.heap.size]? = some (.deferred (some [])) → c.wpIn Fence.wide n P Q { a with defers := { target := .collected w.heap.size, args := #[] } :: a.defers } W) :
    (Code.rangeFunc g ps assign body).wpIn Fence.wide n P Q a w :=
  wp_rangeD hg eg encs hps XS k q hq hseq I Ix hI hIx h0 (fun x a' W => ∃ Bx, BP x Bx W ∧ a' = AF x Bx)
    (fun x s A A' row h hg hr => by obtain ⟨Bx, h1, h2⟩ := h; exact ⟨Bx, hBP x _ _ _ _ h1 hg hr, h2⟩)
    (fun l x rest W K hi hB hK => hassign l x rest W K hi hB (fun Bx W' h1 h2 h3 => hK _ _ h1 h2 ⟨Bx, h3, rfl⟩))
    (fun l x rest a' W hi hx hB hD hL => by obtain ⟨Bx, h1, rfl⟩ := hx; exact hbody l x rest Bx W hi h1 hB hD hL) hdone hstop
end Go.Proofs.Ytbfkgbickjfcjaa
