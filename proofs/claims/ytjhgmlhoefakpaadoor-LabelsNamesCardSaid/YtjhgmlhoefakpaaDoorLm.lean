/- Labels as the calls have them: slices that are owned, slices that are read; append; an argument opened. -/
import Derived.Test.YtjhgmlhoefakpaaDoorRt
import Derived.Test.YtjhgmlhoefakpaaDoorRv
import Derived.Deep.RegionLaw
import Derived.Laws.MakeOwn
import Derived.Deep.Slices
import Derived.Deep.Fields
import Derived.ProofKit
import Derived.OpenShut
import Derived.Maps.AppendAt
import Derived.Deep.AppendSrc
namespace Go.Proofs.YtjhgmlhoefakpaaDoor
open Go.ChangeShapes Go.WideShapes Go.Deep Go.RowKit
set_option maxRecDepth 100000
/-- A label. -/
structure Lb where
  n : ByteArray
  v : ByteArray
theorem Lb.eq {a b : Lb} (h : a.n = b.n) (k : a.v = b.v) : a = b := by cases a; cases b; simp_all
def lv (f : Lb) : Value := .agg #[.string f.n, .string f.v]
def cells2 (l : List Lb) : List Value := l.flatMap fun f => [.string f.n, .string f.v]
theorem cells2_append (l : List Lb) (p : Lb) : cells2 (l ++ [p]) = cells2 l ++ [.string p.n, .string p.v] := by simp [cells2]
theorem cells2_at : ∀ (l : List Lb) (j : Nat) (h : j < l.length), (cells2 l)[j * 2]? = some (.string l[j].n) ∧ (cells2 l)[j * 2 + 1]? = some (.string l[j].v)
  | [], j, h => by simp at h
  | f :: r, 0, _ => ⟨rfl, rfl⟩
  | f :: r, j + 1, h => by
    have ih := cells2_at r j (by simpa using h)
    have e : cells2 (f :: r) = [.string f.n, .string f.v] ++ cells2 r := rfl
    rw [e, show (j + 1) * 2 = j * 2 + 2 by omega, List.getElem?_append_right (by simp), show j * 2 + 2 + 1 = j * 2 + 1 + 2 by omega, List.getElem?_append_right (by simp)]
    simpa using ih
/-- The call owns the labels l. -/
def Ol (w : World) (base : Nat) (v : Value) (l : List Lb) : Prop := w.ownsRow base 28 2 v l.length (cells2 l)
theorem info28 : (Tryd.prog.info? 28).map (fun i => (i.zero, i.size, i.bytes)) = some (some (.agg #[.string ⟨#[]⟩, .string ⟨#[]⟩]), 2, 32) := by kernel_rfl
theorem ownsRow_shape {w : World} {base e z n : Nat} {v : Value} {xs : List Value} (h : w.ownsRow base e z v n xs) : ∃ a c, v = .slice a n c := by
  rcases h.2 with ⟨rfl, hn⟩ | ⟨g, cap, cur, rfl, _⟩
  · exact ⟨_, _, by rw [hn]⟩
  · exact ⟨_, _, rfl⟩
theorem ownsRow_same {w w' : World} {base e z n : Nat} {v : Value} {xs : List Value} (h : w.ownsRow base e z v n xs) (hb : ∀ g, g < w.heap.size → v.ownBlock = some g → w'.heap[g]? = w.heap[g]?) : w'.ownsRow base e z v n xs := by
  obtain ⟨h1, h2⟩ := h
  refine ⟨h1, h2.imp id ?_⟩
  rintro ⟨g, cap, cur, rfl, hb', hh, rest⟩
  exact ⟨g, cap, cur, rfl, hb', (hb g (Array.getElem?_eq_some_iff.1 hh).1 rfl).trans hh, rest⟩
theorem ownsRow_below {w w' : World} {base e z n m : Nat} {v : Value} {xs : List Value} (h : w.ownsRow base e z v n xs) (hb : Below m w w') (hn : w.heap.size ≤ m) : w'.ownsRow base e z v n xs :=
  ownsRow_same h fun g hg _ => hb.block g (by omega)
theorem ownsRow_mono {w : World} {base b e z n : Nat} {v : Value} {xs : List Value} (h : w.ownsRow base e z v n xs) (hb : b ≤ base) : w.ownsRow b e z v n xs := by
  obtain ⟨h1, h2⟩ := h
  refine ⟨h1, h2.imp id ?_⟩
  rintro ⟨g, cap, cur, rfl, hg, rest⟩
  exact ⟨g, cap, cur, rfl, Nat.le_trans hb hg, rest⟩
theorem Ol.shape {w : World} {base : Nat} {v : Value} {l : List Lb} (h : Ol w base v l) : ∃ a c, v = .slice a l.length c := ownsRow_shape h
theorem Ol.below {w w' : World} {base m : Nat} {v : Value} {l : List Lb} (h : Ol w base v l) (hb : Below m w w') (hn : w.heap.size ≤ m) : Ol w' base v l := ownsRow_below h hb hn
theorem Ol.same {w w' : World} {base : Nat} {v : Value} {l : List Lb} (h : Ol w base v l) (hb : ∀ g, g < w.heap.size → v.ownBlock = some g → w'.heap[g]? = w.heap[g]?) : Ol w' base v l := ownsRow_same h hb
theorem Ol.mono {w : World} {base b : Nat} {v : Value} {l : List Lb} (h : Ol w base v l) (hb : b ≤ base) : Ol w b v l := ownsRow_mono h hb
/-- Labels, read wherever they begin. -/
def LAt (W : World) (v : Value) (l : List Lb) : Prop :=
  (l = [] ∧ ∃ a c, v = .slice a 0 c) ∨ ∃ g o c, v = .slice (some ⟨g, o, none⟩) l.length c ∧ ∀ j (h : j < l.length), W.cell? ⟨g, o + j * 2, none⟩ = some (.string l[j].n) ∧ W.cell? ⟨g, o + j * 2 + 1, none⟩ = some (.string l[j].v)
theorem LAt.same {W W' : World} {v : Value} {l : List Lb} (h : LAt W v l) (hb : ∀ g, g < W.heap.size → v.ownBlock = some g → W'.heap[g]? = W.heap[g]?) : LAt W' v l := by
  rcases h with h | ⟨g, o, c, rfl, h⟩
  · exact .inl h
  · refine .inr ⟨g, o, c, rfl, fun j hj => ?_⟩
    have hlt := World.block_lt_of_cell? W ⟨g, _, none⟩ (h j hj).1
    have e : ∀ o, W'.cell? ⟨g, o, none⟩ = W.cell? ⟨g, o, none⟩ := fun o => World.cell?_of_block (a := ⟨g, o, none⟩) (hb g hlt rfl)
    rw [e, e]
    exact h j hj
theorem LAt.below {W W' : World} {v : Value} {l : List Lb} (h : LAt W v l) {n : Nat} (hb : Below n W W') (hn : W.heap.size ≤ n) : LAt W' v l := h.same fun g hg _ => hb.block g (by omega)
theorem LAt.slice {W : World} {v : Value} {l : List Lb} (h : LAt W v l) : ∃ a c, v = .slice a l.length c := by
  rcases h with ⟨rfl, a, c, rfl⟩ | ⟨g, o, c, rfl, _⟩
  · exact ⟨_, _, rfl⟩
  · exact ⟨_, _, rfl⟩
theorem LAt.nil (W : World) : LAt W (.slice none 0 0) [] := .inl ⟨rfl, _, _, rfl⟩
theorem Ol.at {w : World} {base : Nat} {v : Value} {l : List Lb} (h : Ol w base v l) : LAt w v l := by
  have h0 := h
  unfold Ol at h0
  rcases h0.2 with ⟨rfl, hn⟩ | ⟨g, cap, cur, rfl, _⟩
  · exact .inl ⟨List.eq_nil_of_length_eq_zero hn, _, _, rfl⟩
  · refine .inr ⟨g, 0, cap, rfl, fun j hj => ?_⟩
    obtain ⟨c0, c1⟩ := cells2_at l j hj
    simp only [Nat.zero_add]
    rw [h0.cellAt _ (by omega), h0.cellAt _ (by omega)]
    exact ⟨c0, c1⟩
theorem own_lt {w : World} {base e z n : Nat} {v : Value} {xs : List Value} (h : w.ownsRow base e z v n xs) : ∀ g, v.ownBlock = some g → base ≤ g ∧ g < w.heap.size := by
  intro k hk
  rcases h.2 with ⟨rfl, _⟩ | ⟨g, cap, cur, rfl, hb, hh, _⟩
  · simp [Value.ownBlock] at hk
  · simp [Value.ownBlock] at hk
    subst hk
    exact ⟨hb, (Array.getElem?_eq_some_iff.1 hh).1⟩
theorem below_trans' {w a b : World} (h : Below w.heap.size w a) (k : Below a.heap.size a b) : Below w.heap.size w b := h.trans (k.mono h.size)
/-- Two cells in a new block. -/
theorem cells_new2 (W : World) (x0 x1 : Value) (t : TypeId) : ∀ j u, [x0, x1][j]? = some u → (W.alloc (.cells #[x0, x1] t)).cell? ((⟨W.heap.size, 0, none⟩ : Addr).add j) = some u := by
  intro j u hj
  have hadd : (⟨W.heap.size, 0, none⟩ : Addr).add j = ⟨W.heap.size, j, none⟩ := by unfold Addr.add; split <;> simp_all
  rw [hadd, World.cell?_alloc_mark]
  match j, hj with
  | 0, hj => exact hj
  | 1, hj => exact hj
theorem cells_new21 (W : World) (o : Obj) (x0 x1 : Value) (t : TypeId) : ∀ j u, [x0, x1][j]? = some u → ((W.alloc o).alloc (.cells #[x0, x1] t)).cell? ((⟨W.heap.size + 1, 0, none⟩ : Addr).add j) = some u := by
  intro j u hj
  have hadd : (⟨W.heap.size + 1, 0, none⟩ : Addr).add j = ⟨W.heap.size + 1, j, none⟩ := by unfold Addr.add; split <;> simp_all
  rw [hadd, show W.heap.size + 1 = (W.alloc o).heap.size by simp, World.cell?_alloc_mark]
  match j, hj with
  | 0, hj => exact hj
  | 1, hj => exact hj
theorem grown_trans {w w' w'' : World} {r : Option Nat} (h : w.grownBy w' r) (k : w'.grownBy w'' r) : w.grownBy w'' r :=
  ⟨k.os.trans h.os, k.tape.trans h.tape, k.output.trans h.output, Nat.le_trans h.size k.size, fun i hi hr => (k.block i (Nat.lt_of_lt_of_le hi h.size) hr).trans (h.block i hi hr)⟩
theorem grown_below {w w' : World} (h : Below w.heap.size w w') (r : Option Nat) : w.grownBy w' r := ⟨h.os, h.tape, h.output, h.size, fun i hi _ => h.block i hi⟩
theorem below_grown {w w' : World} {r : Option Nat} (h : w.grownBy w' r) {n : Nat} (hn : n ≤ w.heap.size) (hr : ∀ g, r = some g → n ≤ g) : Below n w w' :=
  ⟨h.os, h.tape, h.output, h.size, fun i hi => h.block i (by omega) (fun e => by have := hr i e.symm; omega)⟩
theorem cells2_cell : ∀ (l : List Lb) (j : Nat) (u : Value), (cells2 l)[j]? = some u → ∃ (q : Nat) (h : q < l.length), (j = q * 2 ∧ u = .string l[q].n) ∨ (j = q * 2 + 1 ∧ u = .string l[q].v)
  | [], j, u, h => by simp [cells2] at h
  | f :: r, 0, u, h => ⟨0, by simp, .inl ⟨rfl, by
      have e : (cells2 (f :: r))[0]? = some (.string f.n) := rfl
      rw [e] at h
      exact (Option.some.inj h).symm⟩⟩
  | f :: r, 1, u, h => ⟨0, by simp, .inr ⟨rfl, by
      have e : (cells2 (f :: r))[1]? = some (.string f.v) := rfl
      rw [e] at h
      exact (Option.some.inj h).symm⟩⟩
  | f :: r, j + 2, u, h => by
    have e : cells2 (f :: r) = [.string f.n, .string f.v] ++ cells2 r := rfl
    rw [e, List.getElem?_append_right (by simp)] at h
    obtain ⟨q, hq, hh⟩ := cells2_cell r j u (by simpa using h)
    refine ⟨q + 1, by simpa using hq, ?_⟩
    rcases hh with ⟨rfl, rfl⟩ | ⟨rfl, rfl⟩
    · exact .inl ⟨by omega, rfl⟩
    · exact .inr ⟨by omega, rfl⟩
theorem cells2_len (l : List Lb) : (cells2 l).length = l.length * 2 := by
  induction l with
  | nil => rfl
  | cons f r ih =>
    have e : cells2 (f :: r) = [.string f.n, .string f.v] ++ cells2 r := rfl
    rw [e, List.length_append, ih, List.length_cons, List.length_cons, List.length_cons, List.length_nil]
    omega
theorem cells2_one (l : List Lb) : ∀ u ∈ cells2 l, u.oneCell' = true := by
  intro u hu
  obtain ⟨j, hj⟩ := List.getElem?_of_mem hu
  obtain ⟨q, hq, ⟨-, rfl⟩ | ⟨-, rfl⟩⟩ := cells2_cell l j u hj
  · rfl
  · rfl
theorem cells2_app (a b : List Lb) : cells2 (a ++ b) = cells2 a ++ cells2 b := by simp [cells2]
theorem lat_src {w : World} {v : Value} {l : List Lb} (h : LAt w v l) : (∃ c, v = .slice none 0 c ∧ l = []) ∨ ∃ ad c, v = .slice (some ad) l.length c ∧ ∀ j u, (cells2 l)[j]? = some u → w.cell? (ad.add j) = some u := by
  rcases h with ⟨rfl, a, c, rfl⟩ | ⟨g, o, c, rfl, hc⟩
  · cases a with
    | none => exact .inl ⟨c, rfl, rfl⟩
    | some ad => exact .inr ⟨ad, c, rfl, fun j u hj => by simp [cells2] at hj⟩
  · refine .inr ⟨⟨g, o, none⟩, c, rfl, fun j u hj => ?_⟩
    obtain ⟨q, hq, hh⟩ := cells2_cell l j u hj
    rw [Go.WideShapes.add_plain]
    rcases hh with ⟨rfl, rfl⟩ | ⟨rfl, rfl⟩
    · exact (hc q hq).1
    · rw [← Nat.add_assoc]; exact (hc q hq).2
theorem run_append_nil (w : World) (base : Nat) (ty : TypeId) (v : Value) (l : List Lb) (c : Nat) (h : Ol w base v l) : (Builtin.append_ #[25, 25] ty #[v, .slice none 0 c]).run Tryd.prog w = .ok v w := by
  obtain ⟨i0, hi, hz0, hz1, hz2⟩ := info_parts info28
  have hs := Src.ofNil (P := Tryd.prog) (size := 2) w Tryd.underlying25 c
  unfold Ol at h
  rcases h.2 with ⟨rfl, hn⟩ | ⟨g, cap, cur, rfl, hb, hh, hle, hm, hcs, _⟩
  · simp [Builtin.append_, run_underlying Tryd.underlying25, sizeOf, typeInfo, hi, hs.len, hz1, hs.cells]
  · have := run_append_room_src (P := Tryd.prog) w 25 25 ty 28 i0 Tryd.underlying25 hi g 0 l.length cap (.slice none 0 c) 0 [] (by rw [hz1]; exact hs) (by omega) (fun j hj => by simp at hj) (fun j hj => by simp at hj)
    simpa [World.setCells] using this
theorem wpList_append_l {w : World} {ops : Array Oper} {rest : List Oper} {o : Oper} {a : Act} {Q : Exit → Act → World → Prop} (s x : Operand)
    (ho : o.op = .call { callee := .builtin .append, args := #[s, x], argTypes := #[25, 25] }) (hgn : o.guard = none)
    (base : Nat) (v : Value) (l1 : List Lb) (hs : a.eval s = v) (hown : Ol w base v l1) (vx : Value) (l2 : List Lb) (hx : a.eval x = vx) (hG : LAt w vx l2) (hlen : l1.length + l2.length ≤ 1000000000) (hbase : base ≤ w.heap.size)
    (h : ∀ v' w', Ol w' base v' (l1 ++ l2) → w.grownBy w' v.ownBlock → (v'.ownBlock = v.ownBlock ∨ v'.ownBlock = some w.heap.size) → wpList Tryd.prog ops Q rest (a.put o.dst v') w') : wpList Tryd.prog ops Q (o :: rest) a w := by
  obtain ⟨i0, hi, hz0, hz1, hz2⟩ := info_parts info28
  rcases lat_src hG with ⟨c, rfl, rfl⟩ | ⟨ad, c, rfl, hc⟩
  · refine wpList_plain hgn fun K hK => ?_
    have hr := run_append_nil w base o.type v l1 c hown
    unfold Oper.wp execOp
    simp only [ho, resolve, invoke, builtin, Sem.run_bind, Sem.run_pure, Result.andThen_ok, List.map_toArray, List.map_cons, List.map_nil, hs, hx, hr]
    refine hK _ _ (h v w ?_ (World.grownBy.refl w _) (.inl rfl))
    rw [List.append_nil]
    exact hown
  · refine wpList_append_own_at w hgn s x 25 ho base 28 i0 _ 2 32 Tryd.underlying25 hi hz0 hz1 hz2 (by rfl) (by decide) v l1.length (cells2 l1) hs hown ad l2.length c (cells2 l2) hx (cells2_len l2) hc (cells2_one l2) (by unfold maxLen; omega) (by omega) hbase fun v' w' h1 h2 _ h4 => h v' w' ?_ h2 h4
    unfold Ol
    rw [List.length_append, cells2_app]
    exact h1
theorem ol_empty (w : World) (base : Nat) (hb : base ≤ w.heap.size) : Ol (w.alloc (.cells #[] 28)) base (.slice (some ⟨w.heap.size, 0, none⟩) 0 0) [] :=
  ⟨rfl, .inr ⟨w.heap.size, 0, #[], rfl, hb, heap_alloc_new w _, by simp, by simp [maxLen], by simp, by simp [cells2]⟩⟩
theorem ol_nil (w : World) (base : Nat) : Ol w base (.slice none 0 0) [] := ⟨rfl, .inl ⟨rfl, rfl⟩⟩
/-- A slice of one label, built. -/
theorem ol_one (w : World) (base : Nat) (hb : base ≤ w.heap.size) (x : Lb) : Ol (w.alloc (.cells #[.string x.n, .string x.v] 28)) base (.slice (some ⟨w.heap.size, 0, none⟩) 1 1) [x] :=
  ⟨rfl, .inr ⟨w.heap.size, 1, #[.string x.n, .string x.v], rfl, hb, heap_alloc_new w _, by simp, by simp [maxLen], by simp, by simp [cells2]⟩⟩
section
variable {H : Type} {enc : TypeId × Value → H} {P : Program} {w : World} {base : Nat} {spare : Nat → Bool} {held : Bool}
/-- Each field of each element stands in its own cell, and reads as its type says. -/
theorem open_rows {t e : TypeId} {fs : Array Field} {fuel : Nat} {v : Value} {x : DataW H × List MemPlace} (ht : P.underlying t = some (.slice e)) (he : P.underlying e = some (.struct fs)) (hone : oneCellFields P fs = true)
    (hC : P.cellsOf e = fs.size) (hp : 0 < fs.size) (h : DataW.trod enc P w base spare held fuel t [v] = some x) :
    v = .slice none 0 0 ∨ ∃ (a : Addr) (len cap : Nat), v = .slice (some a) len cap ∧ len ≤ cap ∧ cap ≤ maxLen ∧ (len = 0 ∨ a.spot = none) ∧
      ∀ i, i < len → ∀ (j : Nat) (f : Field), fs[j]? = some f → ∃ (u : Value) (n : Nat) (y : DataW H × List MemPlace), w.cell? (a.add (i * fs.size + j)) = some u ∧ DataW.trod enc P w base spare held n f.type [u] = some y := by
  rcases open_slice ht h with ⟨h0, _⟩ | ⟨a, len, cap, m, n, D, Pl, hcs, _, hl, hm, hmm, _, hi⟩
  · exact .inl (by simpa using h0)
  · have hlm : len ≤ m := by rw [hmm]; split <;> omega
    have key : ∀ i, i < len → ∀ (j : Nat) (f : Field), fs[j]? = some f → ∃ (u : Value) (n : Nat) (y : DataW H × List MemPlace), w.cell? (a.add (i * fs.size + j)) = some u ∧ DataW.trod enc P w base spare held n f.type [u] = some y := by
      intro i hil j f hj
      obtain ⟨cs', hc, ht'⟩ := hi i (by omega)
      rw [hC] at hc
      obtain ⟨ys, n', _, _, _, hyl, hf⟩ := DataW.trod_struct he ht'
      obtain ⟨_, hcl, hat⟩ := World.cells?_some hc
      obtain ⟨ho, hk⟩ := hone_of hone j f hj
      have hjl : j < fs.size := (Array.getElem?_eq_some_iff.1 hj).1
      have h1 := hf j f hj
      have hlt : j < cs'.length := by omega
      rw [ho, hk, List.drop_eq_getElem_cons hlt, List.take_succ_cons, List.take_zero, List.getElem?_eq_getElem (by omega)] at h1
      refine ⟨_, n', _, ?_, h1⟩
      rw [← Go.Deep.add_add, hat j hjl, List.getElem?_eq_getElem hlt]
    refine .inr ⟨a, len, cap, by simpa using hcs, hl, hm, ?_, key⟩
    rcases Nat.eq_zero_or_pos len with h0 | h0
    · exact .inl h0
    · right
      obtain ⟨u, _, _, hu, _⟩ := key 0 h0 0 fs[0] (by simp [hp])
      simpa [Addr.add] using World.cell?_spot hu
end
/-- An argument that is labels. -/
structure Arg (w : World) (v : Value) (l : List Lb) : Prop where
  at' : LAt w v l
  len : l.length ≤ maxLen
  wide : ∀ p ∈ l, p.n.size ≤ maxLen ∧ p.v.size ≤ maxLen
theorem one28 : oneCellFields Tryd.prog #[{ name := "Name", type := 9, offset := 0, embedded := false, tag := "", pkgPath := "", byteOffset := 0 }, { name := "Value", type := 9, offset := 1, embedded := false, tag := "", pkgPath := "", byteOffset := 16 }] = true := by kernel_rfl
theorem open_labels {H : Type} {enc : TypeId × Value → H} {w : World} {base b0 : Nat} {spare : Nat → Bool} {held : Bool} {r : Reach} {v : Value} {d : DataW H} {p : List MemPlace} (hv : Value.okWide Tryd.prog w r b0 25 v) (h : DataW.Trod enc Tryd.prog w base spare held 25 v d p) : ∃ l : List Lb, Arg w v l := by
  obtain ⟨a0, l0, c0, rfl⟩ := okWide_slice Tryd.underlying25 hv
  obtain ⟨fuel, hf⟩ := h
  rcases open_rows Tryd.underlying25 Tryd.underlying28 one28 (by kernel_rfl) (by decide) hf with h0 | ⟨a, len, cap, h0, hlc, hcm, hsp, hk⟩
  · cases h0; exact ⟨[], .inl ⟨rfl, _, _, rfl⟩, Nat.zero_le _, fun p hp => by cases hp⟩
  · cases h0
    rcases Nat.eq_zero_or_pos l0 with h0 | h0
    · subst h0; exact ⟨[], .inl ⟨rfl, _, _, rfl⟩, Nat.zero_le _, fun p hp => by cases hp⟩
    · obtain ⟨b, off, spot⟩ := a
      have hs : spot = none := by rcases hsp with h | h; · omega
                                  · exact h
      subst hs
      have hq : ∀ i, i < l0 → ∃ q : Lb, w.cell? ⟨b, off + (i * 2 + 0), none⟩ = some (.string q.n) ∧ w.cell? ⟨b, off + (i * 2 + 1), none⟩ = some (.string q.v) ∧ q.n.size ≤ maxLen ∧ q.v.size ≤ maxLen := by
        intro i hi
        obtain ⟨u0, n0, y0, e0, g0⟩ := hk i hi 0 _ rfl
        obtain ⟨u1, n1, y1, e1, g1⟩ := hk i hi 1 _ rfl
        obtain ⟨z0, k0, _, f0⟩ := DataW.trod_string Tryd.underlying9 g0
        obtain ⟨z1, k1, _, f1⟩ := DataW.trod_string Tryd.underlying9 g1
        simp only [List.cons.injEq, and_true] at k0 k1
        subst k0 k1
        rw [Go.WideShapes.add_plain] at e0 e1
        exact ⟨⟨z0, z1⟩, e0, e1, f0, f1⟩
      have : ∀ i : Fin l0, ∃ q : Lb, w.cell? ⟨b, off + (i.1 * 2 + 0), none⟩ = some (.string q.n) ∧ w.cell? ⟨b, off + (i.1 * 2 + 1), none⟩ = some (.string q.v) ∧ q.n.size ≤ maxLen ∧ q.v.size ≤ maxLen := fun i => hq i.1 i.2
      obtain ⟨q, hq'⟩ := Classical.axiomOfChoice this
      refine ⟨List.ofFn q, .inr ⟨b, off, c0, by rw [List.length_ofFn], fun j hj => ?_⟩, by rw [List.length_ofFn]; omega, fun p hp => ?_⟩
      · rw [List.length_ofFn] at hj
        have e := hq' ⟨j, hj⟩
        rw [List.getElem_ofFn]
        exact ⟨by simpa using e.1, by rw [Nat.add_assoc]; exact e.2.1⟩
      · obtain ⟨i, rfl⟩ := (List.mem_ofFn ..).1 hp
        exact (hq' i).2.2
end Go.Proofs.YtjhgmlhoefakpaaDoor
