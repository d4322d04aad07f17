/- The document's Scan. -/
import Derived.Test.YtieemdcoomilaaaGreatDoorOn
import Derived.RangeFuncNested
import Derived.RangeFuncCalls
import Derived.Below
set_option linter.unusedVariables false
set_option linter.unusedSimpArgs false
namespace Go.Proofs.YtieemdcoomilaaaGreatDoor
open Go Go.RowKit
set_option maxRecDepth 100000
/-- What is scanned of bytes from a place on. -/
def scq (s : ByteArray) (a : Nat) : List Fq := (Fr.scn (bh s a) a).1.map qf
def sce (s : ByteArray) (a : Nat) : Nat := (Fr.scn (bh s a) a).2
theorem scq_bad (s : ByteArray) (a : Nat) (h : Fr.er (bh s a) ≠ 0) : scq s a = [] ∧ sce s a = a := by
  unfold scq sce
  rw [Fr.scn_bad _ h]
  exact ⟨rfl, rfl⟩
theorem scq_good (s : ByteArray) (a : Nat) (h : Fr.er (bh s a) = 0) : scq s a = qf ⟨Fr.kd (bh s a), Fr.pl (bh s a), a⟩ :: scq s (a + 9 + Fr.ln (bh s a)) ∧ sce s a = sce s (a + 9 + Fr.ln (bh s a)) := by
  unfold scq sce
  rw [Fr.scn_good a h, List.drop_drop, ← Nat.add_assoc]
  exact ⟨rfl, rfl⟩
theorem scq_len (s : ByteArray) : ∀ (n a : Nat), s.size - a ≤ n → (scq s a).length ≤ s.size - a
  | 0, a, h => by
    have hb : Fr.er (bh s a) ≠ 0 := fun e => by have := (Fr.er_good.1 e).nine; rw [bh_length] at this; omega
    rw [(scq_bad s a hb).1]; simp
  | n + 1, a, h => by
    by_cases hb : Fr.er (bh s a) = 0
    · have hn := (Fr.er_good.1 hb).nine
      rw [bh_length] at hn
      rw [(scq_good s a hb).1, List.length_cons]
      have := scq_len s n (a + 9 + Fr.ln (bh s a)) (by omega)
      omega
    · rw [(scq_bad s a hb).1]; simp
/-- What a call tells that scans. -/
def Scans (E : TypeId) (w : World) (xs : List Fq) (k : Nat) (e : Ending) (w' : World) : Prop := ∃ v, e = .returned (.tuple #[v, .int .i64 (k : Int)]) ∧ O3 E w' w.heap.size v xs ∧ Below w.heap.size w w'
theorem rscan_arg (s : ByteArray) (at' : Int) (w : World) (hs : s.size ≤ 140737488351232) (h : at' < 0 ∨ (s.size : Int) < at') : Calls Tryz.prog 76 #[.string s, .int .i64 at'] w (Scans 66 w [] 0) := by
  by_cases h0 : at' < 0
  · go_enter Tryz.func76, Tryz.ntmps76
    go_wp2
    go_ret2
    exact ⟨_, rfl, O3.nil _ _ _, Below.refl _ _⟩
  · have h1 : (s.size : Int) < at' := by omega
    clear h
    go_enter Tryz.func76, Tryz.ntmps76
    go_wp2
    go_ret2
    exact ⟨_, rfl, O3.nil _ _ _, Below.refl _ _⟩
theorem below_chain {w a b : World} (h : Below w.heap.size w a) (k : Below a.heap.size a b) : Below w.heap.size w b := h.trans (k.mono h.size)
set_option maxHeartbeats 2000000 in
theorem rscan_any (s : ByteArray) (a : Nat) (ha : a ≤ s.size) (w : World) (hs : s.size ≤ 1048576) : Calls Tryz.prog 76 #[.string s, .int .i64 (a : Int)] w (Scans 66 w (scq s a) (sce s a)) := by
  obtain ⟨i0, hi, hz0, hz1, hz2⟩ := info_parts Tryz.info66
  have hcap : (scq s a).length ≤ 1048576 := by have := scq_len s _ a (Nat.le_refl _); omega
  have hg0 : decide ((a : Int) < 0) = false := decide_eq_false (by omega)
  have hg1 : decide (s.size < a) = false := decide_eq_false (by omega)
  go_enter Tryz.func76, Tryz.ntmps76
  go_wp2
  go_loopw [1, 6] (fun x v wr => ∃ (c : Nat) (acc : List Fq), c ≤ s.size ∧ x = .int .i64 (c : Int) ∧ Hid (O3 66 wr w.heap.size v acc) ∧ Hid (acc ++ scq s c = scq s a) ∧ Hid (sce s c = sce s a) ∧ Hid (Below w.heap.size w wr)) (fun x _ _ => s.size - (intOf x).toNat)
  case atStart => exact ⟨a, [], ha, rfl, Lib.hid (O3.nil _ _ _), Lib.hid rfl, Lib.hid rfl, Lib.hid (Below.refl _ _)⟩
  case round =>
    obtain ⟨c, acc, hc, rfl, HO, HA, HE, HB⟩ := hrel
    by_cases hg : Fr.er (bh s c) = 0
    · have hgd := Fr.er_good.1 hg
      obtain ⟨q1, q2⟩ := scq_good s c hg
      have hR := rread_ok s c hgd wr (by omega)
      have hw := hgd.whole
      rw [bh_length] at hw
      have hn := hgd.nine
      rw [bh_length] at hn
      have H1 := Lib.hid q1; have H2 := Lib.hid q2
      clear q1 q2 hg hgd
      have hx : c + 9 + Fr.ln (bh s c) ≤ s.size := by omega
      have hx2 : c < c + 9 + Fr.ln (bh s c) := by omega
      generalize c + 9 + Fr.ln (bh s c) = X at *
      clear hw hn
      unfold qf at H1
      dsimp only at H1
      generalize ((Fr.kd (bh s c)).toNat : Int) = K at *
      generalize bs (Fr.pl (bh s c)) = T at *
      have HR := Lib.hid hR
      clear hR
      have hal : acc.length ≤ 1048576 := by have := congrArg List.length HA.out; rw [List.length_append] at this; omega
      go_wp2_with fail
      refine HR.out.mono ?_
      rintro e w1 ⟨rfl, hb1⟩
      have HO1 := Lib.hid (((HO.out.below hb1 (Nat.le_refl _)).below (below_one w1 (.cells #[.int .u8 K, .string T, .int .i64 (c : Int)] 66)) (Nat.le_refl _)).below (below_one _ (.cells #[.int .u8 K, .string T, .int .i64 (c : Int)] 66)) (Nat.le_refl _))
      have HB1 := Lib.hid (below_chain (below_chain (below_chain HB.out hb1) (below_one w1 (.cells #[.int .u8 K, .string T, .int .i64 (c : Int)] 66))) (below_one _ (.cells #[.int .u8 K, .string T, .int .i64 (c : Int)] 66)))
      have HCN := Lib.hid (cells_new3 (w1.alloc (.cells #[.int .u8 K, .string T, .int .i64 (c : Int)] 66)) (.int .u8 K) (.string T) (.int .i64 (c : Int)) 66)
      rw [World.size_alloc] at HCN
      obtain ⟨va, vc, hv⟩ := HO.out.shape
      subst hv
      clear hb1
      go_wp2_with (at_builtin; refine wpList_append_own_at _ rfl (.tmp 29) (.tmp 31) 109 rfl w.heap.size 66 i0 _ 3 32 Tryz.underlying109 hi hz0 hz1 hz2 (by rfl) (by decide) (.slice va acc.length vc) acc.length (fls acc) rfl HO1.out ⟨w1.heap.size + 1, 0, none⟩ 1 1 [.int .u8 K, .string T, .int .i64 (c : Int)] rfl rfl HCN.out (one3 _ _ _) (by unfold maxLen; omega) (by omega) HB1.out.size ?_; intro v' w4 hown' hgrow hnil hloc; have HON := Lib.hid hown'; have HGR := Lib.hid hgrow; clear hown' hgrow hnil hloc)
      have HB2 : Hid (Below w.heap.size w w4) := Lib.hid (HB1.out.grown HGR.out HB1.out.size (fun k e => (HO1.out.lt k e).1))
      have HO2 : Hid (O3 66 w4 w.heap.size v' (acc ++ [⟨K, T, (c : Int)⟩])) := Lib.hid (by unfold O3; rw [fls_append, List.length_append]; exact HON.out)
      go_roundw
      case rel => exact ⟨X, acc ++ [⟨K, T, (c : Int)⟩], hx, rfl, HO2, Lib.hid (by rw [← HA.out, H1.out]; simp), Lib.hid (by rw [← HE.out, H2.out]), HB2⟩
      case measure => simp [intOf]; omega
    · obtain ⟨q1, q2⟩ := scq_bad s c hg
      have hR := rread_bad s c _ (er1_at s c hc) hg wr (by omega)
      have he : ((Fr.er (bh s c) : Int) != 0) = true := by rw [bne_iff_ne]; omega
      rw [q1, List.append_nil] at HA
      rw [q2] at HE
      generalize Fr.er (bh s c) = E at *
      have HR := Lib.hid hR
      clear hR q1 q2 hg
      go_wp2_with fail
      refine HR.out.mono ?_
      rintro e w1 ⟨rfl, hb1⟩
      have HO1 := Lib.hid ((HO.out.below hb1 (Nat.le_refl _)).below (below_one w1 (.cells #[.int .u8 0, .string ⟨#[]⟩, .int .i64 0] 66)) (Nat.le_refl _))
      have HB1 := Lib.hid (below_chain (below_chain HB.out hb1) (below_one w1 (.cells #[.int .u8 0, .string ⟨#[]⟩, .int .i64 0] 66)))
      clear hb1
      go_wp2
      go_ret2
      exact ⟨_, by rw [HE.out]; rfl, by rw [← HA.out]; exact HO1.out, HB1.out⟩
end Go.Proofs.YtieemdcoomilaaaGreatDoor
namespace Go.Proofs.YtieemdcoomilaaaGreatDoor
open Go Go.RowKit
/-- Some blocks. -/
abbrev Bks := Nat → Prop
/-- Blocks that lie as they lay. -/
structure Kept (q : Bks) (A A' : World) : Prop where
  size : A.heap.size ≤ A'.heap.size
  same : ∀ j, q j → j < A.heap.size → A'.heap[j]? = A.heap[j]?
theorem Kept.refl (q : Bks) (A : World) : Kept q A A := ⟨Nat.le_refl _, fun _ _ _ => rfl⟩
theorem Kept.trans {q : Bks} {A B C : World} (h : Kept q A B) (k : Kept q B C) : Kept q A C :=
  ⟨Nat.le_trans h.size k.size, fun j hj hl => (k.same j hj (Nat.lt_of_lt_of_le hl h.size)).trans (h.same j hj hl)⟩
theorem Kept.mono {q q' : Bks} {A B : World} (h : Kept q A B) (hq : ∀ j, q' j → q j) : Kept q' A B := ⟨h.size, fun j hj hl => h.same j (hq j hj) hl⟩
theorem Kept.grown {q : Bks} {A B : World} {row : Option Nat} (h : A.grownBy B row) (hr : ∀ r, row = some r → ¬ q r) : Kept q A B :=
  ⟨h.size, fun j hj hl => h.block j hl (fun e => hr j e.symm hj)⟩
theorem Kept.below {q : Bks} {A B : World} (h : Below A.heap.size A B) : Kept q A B := ⟨h.size, fun j _ hl => h.block j hl⟩
/-- It abides new blocks, of which all may be kept, and a turn of a block from b on that is kept. -/
def AbJ {β : Type} (b : Nat) (J : β → Bks → World → Prop) : Prop :=
  ∀ s F F' A A' row, J s F A → A.grownBy A' row → (∀ r, row = some r → b ≤ r ∧ F r) → (∀ j, F' j → F j ∨ (A.heap.size ≤ j ∧ j < A'.heap.size)) → J s F' A'
def AbX (Jx : World → Prop) : Prop := ∀ A A', Jx A → Below A.heap.size A A' → Jx A'
/-- It abides new blocks, and a turn of the blocks b and b + 1, or of a later one that is kept. -/
def AbI {β : Type} (b : Nat) (I : β → Bks → World → Prop) : Prop :=
  ∀ s F F' A A' row, I s F A → A.grownBy A' row → (∀ r, row = some r → r = b ∨ r = b + 1 ∨ (b + 2 ≤ r ∧ F r)) → (∀ j, F' j → F j ∨ (A.heap.size ≤ j ∧ j < A'.heap.size)) → I s F' A'
def AbW (b : Nat) (I : World → Prop) : Prop :=
  ∀ A A' row, I A → A.grownBy A' row → (∀ r, row = some r → r = b ∨ r = b + 1) → I A'
/-- The iterator's contract: whatever is carried on by the rounds, element by element, is carried to the end, or to where a round said no more. -/
def Gives {α : Type} (n : Nat) (P : Program) (gf : Nat) (lb : Array Value) (En : α → Array Value → World → Prop) (XS : List α) (F0 : Bks) (W : World) : Prop :=
  ∀ (l : Nat) (J : List α → Bks → World → Prop) (Jx : World → Prop), AbJ W.heap.size J → AbX Jx →
    (∀ x rest az F A, J (x :: rest) F A → En x az A → W.heap.size ≤ A.heap.size → YieldAt Fence.wide (n - 1) P l az A fun e A' =>
      (e = .returned (.bool true) ∧ J rest F A' ∧ Kept F A A') ∨ (e = .returned (.bool false) ∧ Jx A' ∧ A.heap.size ≤ A'.heap.size)) →
    J XS F0 W → CallsIn Fence.wide n P gf (#[.func (.yield l) #[] #[]] ++ lb) W fun e A => (∃ v, e = .returned v) ∧ ((∃ F, J [] F A) ∨ Jx A)
/-- How a round may be left. -/
def rPost {α : Type} (b : Nat) (F : Bks) (I : List α → Bks → World → Prop) (Ix : Code → World → Prop) (rest : List α) (W : World) : Exit → Act → World → Prop
  | .normal, _, W' => Kept (fun j => F j ∨ j = b ∨ j = b + 1) W W' ∧ I rest F W'
  | .ret, _, W' => Kept (fun j => j = b ∨ j = b + 1) W W' ∧ Ix .ret W'
  | .exit id, _, W' => Kept (fun j => j = b ∨ j = b + 1) W W' ∧ Ix (.exit id) W'
  | .goto t, _, W' => Kept (fun j => j = b ∨ j = b + 1) W W' ∧ Ix (.goto t) W'
  | .panic _, _, _ => False
  | .outgrown, _, _ => False
theorem below_of_grown {A A' : World} (h : A.grownBy A' none) : Below A.heap.size A A' := ⟨h.os, h.tape, h.output, h.size, fun j hj => h.block j hj (by simp)⟩
theorem grown_of_below {A A' : World} (h : Below A.heap.size A A') : A.grownBy A' none := ⟨h.os, h.tape, h.output, h.size, fun j hj _ => h.block j hj⟩
theorem wp_range {α : Type} {n : Nat} {P : Program} {g : Operand} {ps : Array Tmp} {assign body : Code} {Q : Exit → Act → World → Prop} {a : Act} {w : World} {gf : Nat} {lb : Array Value}
    (hg : a.eval g = .func (.func gf) #[] lb) (eg : ∀ args w, (callFunc gf args).run P w = .ok (.enter gf args) w)
    (En : α → Array Value → World → Prop) (hps : ∀ x az W, En x az W → az.size = ps.size) (XS : List α) (F0 : Bks) (hF0 : ∀ j, F0 j → j < w.heap.size)
    (hseq : ∀ W, W.heap.size = w.heap.size + 2 → Below w.heap.size w W → Gives (n - 1) P gf lb En XS F0 W)
    (I : List α → Bks → World → Prop) (Ix : Code → World → Prop) (hI : AbI w.heap.size I) (hIx : ∀ c, AbW w.heap.size (Ix c)) (h0 : I XS F0 w)
    (Ax : α → Act → World → Prop) (hAx : ∀ x a', AbW w.heap.size (Ax x a'))
    (hassign : ∀ (l : Nat) (x : α) (rest : List α) (az : Array Value) (F : Bks) (W : World) (K : Act → World → Prop), I (x :: rest) F W → En x az W → w.heap.size + 2 ≤ W.heap.size →
      (∀ a' W', Kept (fun j => F j ∨ j = w.heap.size ∨ j = w.heap.size + 1) W W' → I (x :: rest) F W' → Ax x a' W' → K a' W') →
      assign.wpIn (Fence.wide.inRound l) (n - 1 - 1) P (Exit.then K (fun _ _ _ => False)) { tmps := (ps.zip az).foldl (fun t (p, v) => t.setIfInBounds p v) a.tmps, defers := [] } W)
    (hbody : ∀ (l : Nat) (x : α) (rest : List α) (F : Bks) (a' : Act) (W : World), I (x :: rest) F W → Ax x a' W → w.heap.size + 2 ≤ W.heap.size →
      body.wpIn (Fence.wide.inRound l) (n - 1 - 1) P (rPost w.heap.size F I Ix rest W) a' W)
    (hdone : ∀ F W, I [] F W → W.heap[w.heap.size]? = some (.deferred (some [])) → Q .normal { a with defers := { target := .collected w.heap.size, args := #[] } :: a.defers } W)
    (hstop : ∀ c W, Ix c W → W.heap[w.heap.size]? = some (.deferred (some [])) → c.wpIn Fence.wide n P Q { a with defers := { target := .collected w.heap.size, args := #[] } :: a.defers } W) :
    (Code.rangeFunc g ps assign body).wpIn Fence.wide n P Q a w := by
  refine wpIn_rangeFunc fun fn hfn => ?_
  let B := w.heap.size
  let rc : LoopState → Option Code → Obj := fun st pe => .loop { state := st, pending := pe, fn := fn, tmps := a.tmps, params := ps, assign := assign, body := body, defers := B }
  let W1 : World := (w.alloc (.deferred (some []))).alloc (rc .ready none)
  have hsz : W1.heap.size = B + 2 := by simp [W1, B]
  have hD1 : W1.heap[B]? = some (.deferred (some [])) := (Below.heap_alloc _ _ _ (by simp [B])).trans (World.alloc_heap_new w _)
  have hL1 : W1.heap[B + 1]? = some (rc .ready none) := by
    have := World.alloc_heap_new (w.alloc (.deferred (some []))) (rc .ready none)
    rwa [World.size_alloc] at this
  have hbW : Below w.heap.size w W1 := ((Below.refl _ w).alloc (Nat.le_refl _) _).alloc (by simp) _
  have put : ∀ {A : World} (o : Obj), A.grownBy (A.putObj (B + 1) o) (some (B + 1)) := fun {A} o => grownBy_putObj' A (B + 1) o
  have rowL : ∀ r, some (B + 1) = some r → r = w.heap.size ∨ r = w.heap.size + 1 := fun r e => by cases e; exact .inr rfl
  have rowI : ∀ F : Bks, ∀ r, some (B + 1) = some r → r = w.heap.size ∨ r = w.heap.size + 1 ∨ (w.heap.size + 2 ≤ r ∧ F r) := fun F r e => by cases e; exact .inr (.inl rfl)
  have rowN : ∀ r : Nat, none = some r → r = w.heap.size ∨ r = w.heap.size + 1 := fun r e => by cases e
  have rowM : ∀ F : Bks, ∀ r : Nat, none = some r → r = w.heap.size ∨ r = w.heap.size + 1 ∨ (w.heap.size + 2 ≤ r ∧ F r) := fun F r e => by cases e
  -- what holds between two rounds, and when a round has said no more
  let J : List α → Bks → World → Prop := fun s F W => I s F W ∧ W.heap[B + 1]? = some (rc .ready none) ∧ W.heap[B]? = some (.deferred (some [])) ∧ ¬ F (B + 1)
  let Jx : World → Prop := fun W => ∃ c, Ix c W ∧ W.heap[B + 1]? = some (rc .done (some c)) ∧ W.heap[B]? = some (.deferred (some []))
  have keep : ∀ {A A' : World}, Below A.heap.size A A' → ∀ {j : Nat} {o : Obj}, A.heap[j]? = some o → A'.heap[j]? = some o :=
    fun {A A'} hg' {j o} ho => (hg'.block j (Array.getElem?_eq_some_iff.1 ho).1).trans ho
  have keepG : ∀ {A A' : World} {row : Option Nat}, A.grownBy A' row → (∀ r, row = some r → W1.heap.size ≤ r) → ∀ {j : Nat} {o : Obj}, j ≤ B + 1 → A.heap[j]? = some o → A'.heap[j]? = some o :=
    fun {A A' row} hg' hr {j o} hj ho => (hg'.block j (Array.getElem?_eq_some_iff.1 ho).1 (fun e => by have := hr j e.symm; omega)).trans ho
  have abJ : AbJ W1.heap.size J := fun s F F' A A' row h hg' hr hF => ⟨hI s F F' A A' row h.1 hg' (fun r e => .inr (.inr ⟨by have := (hr r e).1; rw [hsz] at this; exact this, (hr r e).2⟩)) hF, keepG hg' (fun r e => (hr r e).1) (Nat.le_refl _) h.2.1, keepG hg' (fun r e => (hr r e).1) (Nat.le_succ _) h.2.2.1, fun e => by
    rcases hF _ e with e | e
    · exact h.2.2.2 e
    · have := (Array.getElem?_eq_some_iff.1 h.2.1).1; omega⟩
  have abJx : AbX Jx := fun A A' h hg' => by
    obtain ⟨c, h1, h2, h3⟩ := h
    exact ⟨c, hIx c A A' none h1 (grown_of_below hg') rowN, keep hg' h2, keep hg' h3⟩
  have hI1 : I XS F0 W1 := hI _ F0 _ _ _ none (hI _ F0 F0 _ _ none h0 (World.grownBy_alloc w _ none) (rowM _) (fun j h => .inl h)) (World.grownBy_alloc _ _ none) (rowM _) (fun j h => .inl h)
  have same : ∀ {F : Bks} {A : World} (o : Obj), ∀ j, F j → F j ∨ (A.heap.size ≤ j ∧ j < (A.putObj (B + 1) o).heap.size) := fun _ _ h => .inl h
  refine ⟨B + 1, [{ target := .collected B, args := #[] }], W1, { target := .fn (.func gf) lb, args := #[.func (.yield (B + 1)) #[] #[]] }, W1, gf,
    #[.func (.yield (B + 1)) #[] #[]] ++ lb, W1, run_enterLoop_outer _ _ _ _ _, ?_, fun _ _ => trivial, ?_, fun h => (by cases h), ?_⟩
  · simp only [resolve, hg]
    simp [go_sem]
  · simp [invoke, go_sem, eg]
  · refine (hseq W1 hsz hbW (B + 1) J Jx abJ abJx ?_ ⟨hI1, hL1, hD1, fun e => by have h : B + 1 < w.heap.size := hF0 _ e; have e : B = w.heap.size := rfl; omega⟩).mono ?_
    · rintro x rest az F A ⟨hi, hl, hd, hnF⟩ hen hA
      rw [hsz] at hA
      have hy := run_yield (P := P) (args := az) hl (by rw [hps x az A hen])
      refine ⟨fn, _, assign, body, hy, roundIn_of_wpIn hfn (hassign _ x rest az F A _ hi hen (by omega) fun a' W' hk hi' hax => ?_)⟩
      have hl' : W'.heap[B + 1]? = some (rc .ready none) := (hk.same _ (.inr (.inr rfl)) (Array.getElem?_eq_some_iff.1 hl).1).trans hl
      have hd' : W'.heap[B]? = some (.deferred (some [])) := (hk.same _ (.inr (.inl rfl)) (Array.getElem?_eq_some_iff.1 hd).1).trans hd
      refine ⟨_, run_beginRound hl' rfl, ?_⟩
      have hlt := (Array.getElem?_eq_some_iff.1 hl').1
      have hl2 : (W'.putObj (B + 1) (rc .busy none)).heap[B + 1]? = some (rc .busy none) := World.putObj_heap_same hlt
      have hd2 : (W'.putObj (B + 1) (rc .busy none)).heap[B]? = some (.deferred (some [])) := (World.putObj_heap_other (by omega)).trans hd'
      refine wpIn_mono (hbody _ x rest F a' _ (hI _ F F _ _ _ hi' (put _) (rowI _) (same _)) (hAx x a' _ _ _ hax (put _) rowL) (by rw [World.putObj_size]; exact Nat.le_trans (by omega) hk.size)) ?_
      have fin : ∀ (jump : Option Code) (W3 : World), Kept (fun j => j = w.heap.size ∨ j = w.heap.size + 1) (W'.putObj (B + 1) (rc .busy none)) W3 →
          (Instr.endRound (B + 1) jump).run P W3 = .ok (.bool jump.isNone) (W3.putObj (B + 1) (rc (if jump.isNone then .ready else .done) jump)) ∧
          (W3.putObj (B + 1) (rc (if jump.isNone then .ready else .done) jump)).heap[B + 1]? = some (rc (if jump.isNone then .ready else .done) jump) ∧
          (W3.putObj (B + 1) (rc (if jump.isNone then .ready else .done) jump)).heap[B]? = some (.deferred (some [])) := fun jump W3 hk3 => by
        have h3 := (hk3.same (B + 1) (.inr rfl) (Array.getElem?_eq_some_iff.1 hl2).1).trans hl2
        have h4 := (hk3.same B (.inl rfl) (Array.getElem?_eq_some_iff.1 hd2).1).trans hd2
        exact ⟨run_endRound jump h3, World.putObj_heap_same (Array.getElem?_eq_some_iff.1 h3).1, (World.putObj_heap_other (by omega)).trans h4⟩
      have kq : ∀ {A : World} (o : Obj), Kept F A (A.putObj (B + 1) o) := fun o => Kept.grown (put o) (fun r e => by cases e; exact hnF)
      have sz : ∀ (jump : Option Code) (W3 : World), Kept (fun j => j = w.heap.size ∨ j = w.heap.size + 1) (W'.putObj (B + 1) (rc .busy none)) W3 → A.heap.size ≤ (W3.putObj (B + 1) (rc (if jump.isNone then .ready else .done) jump)).heap.size := fun jump W3 h => by
        have := h.size
        rw [World.putObj_size] at this ⊢
        exact Nat.le_trans hk.size this
      rintro e a3 W3 hp
      cases e with
      | normal =>
        obtain ⟨hk3, hi3⟩ := hp
        obtain ⟨hr, hl4, hd4⟩ := fin none W3 (hk3.mono (fun j hj => .inr hj))
        exact ⟨_, _, hr, .inl ⟨rfl, ⟨hI _ F F _ _ _ hi3 (put _) (rowI _) (same _), hl4, hd4, hnF⟩, ((hk.mono (fun j hj => .inl hj)).trans (kq _)).trans ((hk3.mono (fun j hj => .inl hj)).trans (kq _))⟩⟩
      | ret =>
        obtain ⟨hr, hl4, hd4⟩ := fin (some .ret) W3 hp.1
        exact ⟨_, _, hr, .inr ⟨rfl, ⟨_, hIx _ _ _ _ hp.2 (put _) rowL, hl4, hd4⟩, sz (some .ret) W3 hp.1⟩⟩
      | exit id =>
        obtain ⟨hr, hl4, hd4⟩ := fin (some (.exit id)) W3 hp.1
        exact ⟨_, _, hr, .inr ⟨rfl, ⟨_, hIx _ _ _ _ hp.2 (put _) rowL, hl4, hd4⟩, sz (some (.exit id)) W3 hp.1⟩⟩
      | goto t =>
        obtain ⟨hr, hl4, hd4⟩ := fin (some (.goto t)) W3 hp.1
        exact ⟨_, _, hr, .inr ⟨rfl, ⟨_, hIx _ _ _ _ hp.2 (put _) rowL, hl4, hd4⟩, sz (some (.goto t)) W3 hp.1⟩⟩
      | panic ch => exact hp.elim
      | outgrown => exact hp.elim
    · rintro e A ⟨⟨v, rfl⟩, (⟨F, hi, hl, hd, hnF⟩ | ⟨c, hi, hl, hd⟩)⟩
      · exact ⟨none, _, run_endLoop hl (by simp), hdone F _ (hI _ F F _ _ _ hi (put _) (rowI _) (same _)) ((World.putObj_heap_other (by omega)).trans hd)⟩
      · exact ⟨some c, _, run_endLoop hl (by simp), hstop c _ (hIx _ _ _ _ hi (put _) rowL) ((World.putObj_heap_other (by omega)).trans hd)⟩
/-- The same, where behind the assignment the activation is told by a number and a value, of which something holds (a box, say). -/
theorem wp_range2 {α β : Type} {n : Nat} {P : Program} {g : Operand} {ps : Array Tmp} {assign body : Code} {Q : Exit → Act → World → Prop} {a : Act} {w : World} {gf : Nat} {lb : Array Value}
    (hg : a.eval g = .func (.func gf) #[] lb) (eg : ∀ args w, (callFunc gf args).run P w = .ok (.enter gf args) w)
    (En : α → Array Value → World → Prop) (hps : ∀ x az W, En x az W → az.size = ps.size) (XS : List α) (F0 : Bks) (hF0 : ∀ j, F0 j → j < w.heap.size)
    (hseq : ∀ W, W.heap.size = w.heap.size + 2 → Below w.heap.size w W → Gives (n - 1) P gf lb En XS F0 W)
    (I : List α → Bks → World → Prop) (Ix : Code → World → Prop) (hI : AbI w.heap.size I) (hIx : ∀ c, AbW w.heap.size (Ix c)) (h0 : I XS F0 w)
    (BP : α → Nat → β → World → Prop) (hBP : ∀ x i y, AbW w.heap.size (BP x i y)) (AF : α → Nat → β → Act)
    (hassign : ∀ (l : Nat) (x : α) (rest : List α) (az : Array Value) (F : Bks) (W : World) (K : Act → World → Prop), I (x :: rest) F W → En x az W → w.heap.size + 2 ≤ W.heap.size →
      (∀ i y W', Kept (fun j => F j ∨ j = w.heap.size ∨ j = w.heap.size + 1) W W' → I (x :: rest) F W' → BP x i y W' → K (AF x i y) W') →
      assign.wpIn (Fence.wide.inRound l) (n - 1 - 1) P (Exit.then K (fun _ _ _ => False)) { tmps := (ps.zip az).foldl (fun t (p, v) => t.setIfInBounds p v) a.tmps, defers := [] } W)
    (hbody : ∀ (l : Nat) (x : α) (rest : List α) (F : Bks) (i : Nat) (y : β) (W : World), I (x :: rest) F W → BP x i y W → w.heap.size + 2 ≤ W.heap.size →
      body.wpIn (Fence.wide.inRound l) (n - 1 - 1) P (rPost w.heap.size F I Ix rest W) (AF x i y) W)
    (hdone : ∀ F W, I [] F W → W.heap[w.heap.size]? = some (.deferred (some [])) → Q .normal { a with defers := { target := .collected w.heap.size, args := #[] } :: a.defers } W)
    (hstop : ∀ c W, Ix c W → W.heap[w.heap.size]? = some (.deferred (some [])) → c.wpIn Fence.wide n P Q { a with defers := { target := .collected w.heap.size, args := #[] } :: a.defers } W) :
    (Code.rangeFunc g ps assign body).wpIn Fence.wide n P Q a w :=
  wp_range hg eg En hps XS F0 hF0 hseq I Ix hI hIx h0 (fun x a' W => ∃ i y, BP x i y W ∧ a' = AF x i y)
    (fun x a' A A' row h hg hr => by obtain ⟨i, y, h1, h2⟩ := h; exact ⟨i, y, hBP x i y _ _ _ h1 hg hr, h2⟩)
    (fun l x rest az F W K hi he hB hK => hassign l x rest az F W K hi he hB (fun i y W' h1 h2 h3 => hK _ _ h1 h2 ⟨i, y, h3, rfl⟩))
    (fun l x rest F a' W hi hx hB => by obtain ⟨i, y, h1, rfl⟩ := hx; exact hbody l x rest F i y W hi h1 hB) hdone hstop
end Go.Proofs.YtieemdcoomilaaaGreatDoor
