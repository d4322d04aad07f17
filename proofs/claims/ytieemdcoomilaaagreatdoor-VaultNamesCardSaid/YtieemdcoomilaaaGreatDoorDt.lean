/- Two disks held against each other. -/
import Derived.Test.YtieemdcoomilaaaGreatDoorDk
import Derived.Laws.StructEq
import Derived.ChangeKeysEq
import Derived.Test.YtieemdcoomilaaaGreatDoorPu
import Derived.Deep.QuietTactic
import Derived.BigQuiet
import Derived.Handy
import Derived.Test.YtieemdcoomilaaaGreatDoorSa
set_option linter.unusedVariables false
set_option linter.unusedSimpArgs false
namespace Go.Proofs.YtieemdcoomilaaaGreatDoor
open Go Go.RowKit Go.ChangeShapes Go.WideShapes
set_option maxRecDepth 100000
theorem agg_of {t : TypeId} {fs : Array Field} (h : Tryz.prog.underlying t = some (.struct fs)) (W : World) : (isAgg t).run Tryz.prog W = .ok true W := by
  unfold isAgg
  rw [Sem.run_bind, run_underlying h W]
  rfl
theorem agg_arr {t e : TypeId} {n : Nat} (h : Tryz.prog.underlying t = some (.array n e)) (W : World) : (isAgg t).run Tryz.prog W = .ok true W := by
  unfold isAgg
  rw [Sem.run_bind, run_underlying h W]
  rfl
theorem part_cell {t : TypeId} (h : ∀ W, (isAgg t).run Tryz.prog W = .ok false W) {cs : Array Value} {off : Nat} {v : Value} (hv : cs[off]? = some v) (W : World) : (part t cs off).run Tryz.prog W = .ok v W := by
  simp only [part, Sem.run_bind, h, Result.andThen_ok, Bool.false_eq_true, if_false, hv, Sem.run_pure]
theorem part_agg {t : TypeId} (h : ∀ W, (isAgg t).run Tryz.prog W = .ok true W) {i : TypeInfo} (hi : Tryz.prog.info? t = some i) {cs : Array Value} {off : Nat} (W : World) : (part t cs off).run Tryz.prog W = .ok (.agg (cs.extract off (off + Tryz.prog.cellsOf t))) W := by
  simp only [part, Sem.run_bind, h, Result.andThen_ok, if_true, run_sizeOf W hi, Sem.run_pure]
theorem quiet_load_mid {o : Oper} {a : Act} {C : World → Prop} {K : Act → Prop} (ty : TypeId) (x : Operand) (ho : o.op = .load ty x) (b off : Nat) (hx : a.eval x = .pointer (some ⟨b, off, none⟩)) (cs : List Value) (d : TypeDesc) (hS : ∀ w, C w → w.rangeAt b off cs)
    (hu : Tryz.prog.underlying ty = some d) (hd : d.isRow = true) (hi : (Tryz.prog.info? ty).map (·.size) = some cs.length) (hk : K (a.put o.dst (.agg cs.toArray))) : o.quiet Tryz.prog a C K :=
  ⟨_, fun w hw => by
    unfold Oper.quietAt execOp
    simp only [ho, hx, Instr.loadAt, Instr.sureAddr, Sem.run_bind, Sem.run_pure, Result.andThen_ok, run_loadVar_mid w b off ty cs d (hS w hw) hu hd hi]
    exact ⟨rfl, rfl⟩, hk⟩
theorem range_regrown {w : World} {b o : Nat} {cs : List Value} (h : w.rangeAt b o cs) {w' : World} (hw : ∃ p : Regrown, w' = «Sort».grow (redrawn w p.d) p.os) : w'.rangeAt b o cs := fun j v hv => by
  obtain ⟨p, rfl⟩ := hw
  exact cell_regrown (h j v hv) _ _
theorem open_nums {H : Type} {enc : TypeId × Value → H} {w : World} {base b0 : Nat} {spare : Nat → Bool} {held : Bool} {r : Reach} {v : Value} {d : DataW H} {p : List MemPlace} (hv : Value.okWide Tryz.prog w r b0 38 v) (h : DataW.Trod enc Tryz.prog w base spare held 38 v d p) : ∃ l : List Int, KAt w v l ∧ l.length ≤ 9223372036854775807 := by
  obtain ⟨a0, l0, c0, rfl⟩ := okWide_slice Tryz.underlying38 hv
  obtain ⟨fuel, hf⟩ := h
  exact open_nums' (v := .slice a0 l0 c0) hf
/-- Tapes that are told in block G. -/
structure Told (w : World) (G : Nat) (T : Nat → Tp) : Prop where
  a : ∀ j < 32, w.cell? ⟨G, j * 2, none⟩ = some (.string (qT (T j)).a)
  b : ∀ j < 32, w.cell? ⟨G, j * 2 + 1, none⟩ = some (.string (qT (T j)).b)
theorem Told.lt {w : World} {G : Nat} {T : Nat → Tp} (h : Told w G T) : G < w.heap.size := World.block_lt_of_cell? w _ (h.a 0 (by decide))
theorem Told.congr {w w' : World} {G : Nat} {T : Nat → Tp} (h : Told w G T) (hb : w'.heap[G]? = w.heap[G]?) : Told w' G T :=
  ⟨fun j hj => (World.cell?_of_block (a := ⟨G, _, none⟩) hb).trans (h.a j hj), fun j hj => (World.cell?_of_block (a := ⟨G, _, none⟩) hb).trans (h.b j hj)⟩
theorem Told.below {w w' : World} {G : Nat} {T : Nat → Tp} (h : Told w G T) {m : Nat} (hb : Below m w w') (hm : G < m) : Told w' G T := h.congr (hb.block G hm)
theorem Told.grown {w w' : World} {G : Nat} {T : Nat → Tp} (h : Told w G T) {B : Nat} (hg : w.grownBy w' (some B)) (hn : G ≠ B) : Told w' G T := h.congr (hg.block G h.lt (by simpa using hn))
theorem TRow.told {w w' : World} {G : Nat} {T : Nat → Tp} (h : TRow w w' G T 32) : Told w' G T := ⟨h.a, h.b⟩
theorem all_of {x : Tp} (h : x.ok) : (qT x).a ++ (qT x).b = x.s := by
  show x.s.extract 0 x.f ++ x.s.extract x.f x.s.size = x.s
  rw [ByteArray.extract_append_extract, Nat.min_eq_left (Nat.zero_le _), Nat.max_eq_right h.1]
  exact ByteArray.extract_zero_size
/-- What a Back leaves, as it is told. -/
theorem kept_told {d : Dk} (h : d.ok) (ks : List Int) {k : Nat} (hk : k < 32) : (qT ((backD d ks).T k)).b = ⟨#[]⟩ ∧ (qT (d.T k)).a.size ≤ (qT ((backD d ks).T k)).a.size ∧ (qT ((backD d ks).T k)).a.size ≤ ((qT (d.T k)).a ++ (qT (d.T k)).b).size ∧ ((qT (d.T k)).a ++ (qT (d.T k)).b).extract 0 (qT ((backD d ks).T k)).a.size = (qT ((backD d ks).T k)).a ∧ ((qT (d.T k)).a ++ (qT (d.T k)).b).size ≤ 1048576 ∧ (qT (d.T k)).a.size ≤ 1048576 ∧ (qT (d.T k)).b.size ≤ 1048576 := by
  obtain ⟨b1, b2, b3, b4, n, b5, b6⟩ := back_at h ks k hk
  have hok := h.t k hk
  rw [all_of hok]
  generalize (backD d ks).T k = y at *
  generalize d.T k = x at *
  have hz : (x.s.extract 0 n).size = n := by simp; omega
  have hn : y.s.size = n := by rw [b6]; exact hz
  have hya : (qT y).a = y.s := by show y.s.extract 0 y.f = y.s; rw [b3]; exact ByteArray.extract_zero_size
  have hxa : (qT x).a.size = x.f := by show (x.s.extract 0 x.f).size = x.f; have := hok.1; simp; omega
  have hxb : (qT x).b.size ≤ x.s.size := by show (x.s.extract x.f x.s.size).size ≤ _; simp
  have h1 := hok.1
  have h2 := hok.2
  refine ⟨?_, by rw [hya, hxa]; omega, by rw [hya]; omega, by rw [hya, hn, ← b6], h2, by omega, by omega⟩
  show y.s.extract y.f y.s.size = _
  rw [b3]
  exact ByteArray.extract_same
end Go.Proofs.YtieemdcoomilaaaGreatDoor
namespace Go.Proofs.YtieemdcoomilaaaGreatDoor
open Go Go.RowKit
set_option maxRecDepth 100000
/-- Nothing has turned but blocks B and V, and new ones. -/
structure Gv (w w' : World) (B V : Nat) : Prop where
  os : w'.os = w.os
  tape : w'.tape = w.tape
  output : w'.output = w.output
  size : w.heap.size ≤ w'.heap.size
  block : ∀ k, k < w.heap.size → k ≠ B → k ≠ V → w'.heap[k]? = w.heap[k]?
namespace Gv
variable {w w' w'' : World} {B V : Nat}
theorem refl (w : World) (B V : Nat) : Gv w w B V := ⟨rfl, rfl, rfl, Nat.le_refl _, fun _ _ _ _ => rfl⟩
theorem trans (h : Gv w w' B V) (k : Gv w' w'' B V) : Gv w w'' B V :=
  ⟨k.os.trans h.os, k.tape.trans h.tape, k.output.trans h.output, Nat.le_trans h.size k.size, fun j hj h1 h2 => (k.block j (Nat.lt_of_lt_of_le hj h.size) h1 h2).trans (h.block j hj h1 h2)⟩
theorem of_below (h : Below w.heap.size w w') (B V : Nat) : Gv w w' B V := ⟨h.os, h.tape, h.output, h.size, fun i hi _ _ => h.block i hi⟩
theorem of_B (h : w.grownBy w' (some B)) (V : Nat) : Gv w w' B V := ⟨h.os, h.tape, h.output, h.size, fun i hi h1 _ => h.block i hi (fun e => h1 (by cases e; rfl))⟩
theorem of_V (h : w.grownBy w' (some V)) (B : Nat) : Gv w w' B V := ⟨h.os, h.tape, h.output, h.size, fun i hi _ h1 => h.block i hi (fun e => h1 (by cases e; rfl))⟩
theorem alloc (h : Gv w w' B V) (o : Obj) : Gv w (w'.alloc o) B V := h.trans (of_below (below_one w' o) B V)
theorem setV (h : Gv w w' B V) (j : Nat) (u : Value) : Gv w (w'.setCell ⟨V, j, none⟩ u) B V := h.trans (of_V (grown_setCell w' V j u) B)
theorem below {m : Nat} {a : World} (h : Gv w w' B V) (hb : Below m a w) (hm : m ≤ w.heap.size) (h1 : m ≤ B) (h2 : m ≤ V) : Below m a w' :=
  hb.trans ⟨h.os, h.tape, h.output, h.size, fun i hi => h.block i (by omega) (by omega) (by omega)⟩
theorem below' {m : Nat} (h : Gv w w' B V) (hm : m ≤ w.heap.size) (h1 : m ≤ B) (h2 : m ≤ V) : Below m w w' :=
  ⟨h.os, h.tape, h.output, h.size, fun i hi => h.block i (by omega) (by omega) (by omega)⟩
theorem cell (h : Gv w w' B V) {g o : Nat} {u : Value} (hc : w.cell? ⟨g, o, none⟩ = some u) (h1 : g ≠ B) (h2 : g ≠ V) : w'.cell? ⟨g, o, none⟩ = some u :=
  (World.cell?_of_block (a := ⟨g, o, none⟩) (h.block g (World.block_lt_of_cell? w _ hc) h1 h2)).trans hc
theorem kat (h : Gv w w' B V) {v : Value} {l : List Int} (hk : KAt w v l) (hv : ∀ g, v.ownBlock = some g → g ≠ B ∧ g ≠ V) : KAt w' v l := hk.same fun g hg e => h.block g hg (hv g e).1 (hv g e).2
theorem tab (h : Gv w w' B V) (hT : Tab w) (h1 : B ≠ 0) (h2 : V ≠ 0) : Tab w' :=
  ⟨Nat.lt_of_lt_of_le hT.1 h.size, fun i hi => h.cell (hT.2 i hi) (fun e => h1 e.symm) (fun e => h2 e.symm)⟩
theorem own (h : Gv w w' B V) {base : Nat} {v : Value} {xs : List Value} (ho : Own w base v xs) (hv : ∀ g, v.ownBlock = some g → g ≠ B ∧ g ≠ V) : Own w' base v xs := by
  rcases ho with hn | ⟨g, cap, rfl, hb, hlt, hc, hm, hin, hcs⟩
  · exact .inl hn
  · have hbk := h.block g hlt (hv g rfl).1 (hv g rfl).2
    exact .inr ⟨g, cap, rfl, hb, Nat.lt_of_lt_of_le hlt h.size, hc, hm, fun j hj => by
      rw [World.cell?_of_block (a := ⟨g, j, none⟩) hbk, World.frozen?_of_block (a := ⟨g, j, none⟩) hbk]; exact hin j hj, fun j hj => by
      rw [World.cell?_of_block (a := ⟨g, j, none⟩) hbk]; exact hcs j hj⟩
end Gv
/-- A closure, and what it is called with. -/
structure Clo where
  F : FuncId
  first : Array Value
  cap : Array Value
def Clo.v (c : Clo) : Value := .func (.func c.F) c.first c.cap
/-- What a step tells: an error, and what holds then. -/
def StRet (P : World → Prop) (Q : Int → World → Prop) (e : Ending) (w' : World) : Prop := ∃ r : Int, e = .returned (.int .i64 r) ∧ (r = 0 → P w') ∧ (r ≠ 0 → Q r w')
set_option maxHeartbeats 1000000 in
/-- One step behind the other, up to the first one that errs. -/
theorem vturn_any (n : Nat) (cl : Nat → Clo) (a : Option Addr) (c : Nat) (w : World) (P : Nat → World → Prop) (Q : Int → World → Prop) (hn : n ≤ 9223372036854775807) (hp : P 0 w)
    (ha : 0 < n → ∃ g o, a = some ⟨g, o, none⟩ ∧ ∀ k < n, ∀ W, P k W → W.cell? ⟨g, o + k, none⟩ = some (cl k).v)
    (hcf : ∀ k < n, ∀ args W, (callFunc (cl k).F args).run Tryz.prog W = .ok (.enter (cl k).F args) W)
    (hc : ∀ k < n, ∀ W, P k W → Calls Tryz.prog (cl k).F ((cl k).first ++ (cl k).cap) W (StRet (P (k + 1)) Q)) :
    Calls Tryz.prog 41 #[.slice a n c] w (StRet (P n) Q) := by
  have HP := Lib.hid hp
  have HC := Lib.hid hc
  have HF := Lib.hid hcf
  have HA := Lib.hid ha
  clear hp hc hcf ha
  go_enter Tryz.func41, Tryz.ntmps41
  go_wp2
  go_loopw [8] (fun i wl => ∃ k : Nat, i = .int .i64 (k : Int) ∧ k ≤ n ∧ Hid (P k wl)) (fun i _ => n - (intOf i).toNat)
  case atStart => exact ⟨0, rfl, by omega, HP⟩
  case round =>
    obtain ⟨k, rfl, hk, HW⟩ := hrel
    by_cases hlt : k < n
    · obtain ⟨g, o, rfl, hg⟩ := HA.out (by omega)
      have f0 := hg k hlt wr HW.out
      have e1 := HF.out k hlt
      have HK := Lib.hid (HC.out k hlt wr HW.out)
      clear HC HF HA hg
      generalize cl k = q at *
      obtain ⟨F, first, cap⟩ := q
      unfold Clo.v at f0
      dsimp only at f0 e1 HK
      go_wp2_with fail
      refine HK.out.mono ?_
      rintro e w2 ⟨r, rfl, h1, h2⟩
      have H1 := Lib.hid h1
      have H2 := Lib.hid h2
      clear h1 h2
      by_cases hr : r = 0
      · have hE2 : (r != 0) = false := by rw [hr]; rfl
        have HP2 := Lib.hid (H1.out hr)
        clear hr
        go_wp2
        go_roundw
        case rel => exact ⟨k + 1, by go_num, by omega, HP2⟩
        case measure => simp [intOf]; omega
      · have hE2 : (r != 0) = true := by rw [bne_iff_ne]; exact hr
        have HQ2 := Lib.hid (H2.out hr)
        have hr2 := Lib.hid hr
        clear hr
        go_wp2
        go_ret
        exact ⟨r, rfl, fun h => absurd h hr2.out, fun _ => HQ2.out⟩
    · obtain rfl : k = n := by omega
      go_wp2
      go_ret
      exact ⟨0, rfl, fun _ => HW.out, fun h => absurd rfl h⟩
end Go.Proofs.YtieemdcoomilaaaGreatDoor
namespace Go.Proofs.YtieemdcoomilaaaGreatDoor
open Go.RowKit
/-- A reader's three cells in block b. -/
structure RdAt (w : World) (b : Nat) (s : ByteArray) (a e : Int) : Prop where
  c0 : w.cell? ⟨b, 0, none⟩ = some (.string s)
  c1 : w.cell? ⟨b, 1, none⟩ = some (.int .i64 a)
  c2 : w.cell? ⟨b, 2, none⟩ = some (.int .i64 e)
  f1 : w.frozen? ⟨b, 1, none⟩ = false
  f2 : w.frozen? ⟨b, 2, none⟩ = false
theorem RdAt.congr {w w' : World} {b : Nat} {s : ByteArray} {a e : Int} (h : RdAt w b s a e) (hb : w'.heap[b]? = w.heap[b]?) : RdAt w' b s a e :=
  ⟨(World.cell?_of_block (a := ⟨b, 0, none⟩) hb).trans h.c0, (World.cell?_of_block (a := ⟨b, 1, none⟩) hb).trans h.c1, (World.cell?_of_block (a := ⟨b, 2, none⟩) hb).trans h.c2,
    (World.frozen?_of_block (a := ⟨b, 1, none⟩) hb).trans h.f1, (World.frozen?_of_block (a := ⟨b, 2, none⟩) hb).trans h.f2⟩
theorem RdAt.lt {w : World} {b : Nat} {s : ByteArray} {a e : Int} (h : RdAt w b s a e) : b < w.heap.size := World.block_lt_of_cell? w ⟨b, 0, none⟩ h.c0
theorem RdAt.at {w : World} {b : Nat} {s : ByteArray} {a e x : Int} (h : RdAt w b s a e) : RdAt (w.setCell ⟨b, 1, none⟩ (.int .i64 x)) b s x e :=
  ⟨by rw [World.cell?_setCell_other _ _ _ _ (by simp)]; exact h.c0, World.cell?_setCell_same _ _ _ h.c1, by rw [World.cell?_setCell_other _ _ _ _ (by simp)]; exact h.c2,
    by rw [World.frozen?_setCell]; exact h.f1, by rw [World.frozen?_setCell]; exact h.f2⟩
theorem RdAt.err {w : World} {b : Nat} {s : ByteArray} {a e x : Int} (h : RdAt w b s a e) : RdAt (w.setCell ⟨b, 2, none⟩ (.int .i64 x)) b s a x :=
  ⟨by rw [World.cell?_setCell_other _ _ _ _ (by simp)]; exact h.c0, by rw [World.cell?_setCell_other _ _ _ _ (by simp)]; exact h.c1, World.cell?_setCell_same _ _ _ h.c2,
    by rw [World.frozen?_setCell]; exact h.f1, by rw [World.frozen?_setCell]; exact h.f2⟩
/-- What a call on a reader leaves: the value; the reader's new cells; nothing else that was there has turned. -/
def RdRet (w : World) (b : Nat) (s : ByteArray) (v : Value) (a e : Int) (en : Ending) (w' : World) : Prop :=
  en = .returned v ∧ RdAt w' b s a e ∧ w.grownBy w' (some b)
theorem grown_drewN (w : World) (m b : Nat) : w.grownBy (w.drewN m) (some b) := ⟨rfl, rfl, rfl, Nat.le_refl _, fun _ _ _ => rfl⟩
theorem grown_set (w : World) (m b j : Nat) (u : Value) : w.grownBy ((w.drewN m).setCell ⟨b, j, none⟩ u) (some b) :=
  ⟨rfl, rfl, rfl, by simp [World.setCell], fun k _ hk => Below.heap_setCell (w.drewN m) _ _ k (fun e => hk (by rw [e]))⟩
theorem RdAt.drewN {w : World} {b : Nat} {s : ByteArray} {a e : Int} (h : RdAt w b s a e) (m : Nat) : RdAt (w.drewN m) b s a e := h.congr rfl
set_option maxRecDepth 100000 in
set_option maxHeartbeats 400000 in
theorem err_any (b : Nat) (e : Int) (w : World) (hc : w.cell? ⟨b, 2, none⟩ = some (.int .i64 e)) :
    Calls Tryz.prog 165 #[.pointer (some ⟨b, 0, none⟩)] w fun en w' => en = .returned (.int .i64 e) ∧ w = w' := by
  go_enter Tryz.func165, Tryz.ntmps165
  go_wp2
  go_ret
  exact ⟨rfl, rfl⟩
set_option maxRecDepth 100000 in
set_option maxHeartbeats 400000 in
theorem left_any (b : Nat) (s : ByteArray) (a : Int) (w : World) (hc0 : w.cell? ⟨b, 0, none⟩ = some (.string s)) (hc1 : w.cell? ⟨b, 1, none⟩ = some (.int .i64 a)) (ha : 0 ≤ a) (ha2 : a ≤ (s.size : Int)) (hs : s.size ≤ 140737488351232) :
    Calls Tryz.prog 168 #[.pointer (some ⟨b, 0, none⟩)] w fun en w' => en = .returned (.int .i64 ((s.size : Int) - a)) ∧ ∃ m, w' = w.drewN m := by
  go_enter Tryz.func168, Tryz.ntmps168
  go_wp2
  go_quiet (fail)
  go_wp2
  go_ret
  exact ⟨rfl, _, rfl⟩
set_option maxRecDepth 100000 in
set_option maxHeartbeats 400000 in
theorem take_ok (b : Nat) (s : ByteArray) (a x : Int) (w : World) (h : RdAt w b s a 0) :
    Calls Tryz.prog 167 #[.pointer (some ⟨b, 0, none⟩), .int .i64 x, .int .i64 0] w fun en w' => en = .returned (.tuple #[]) ∧ w.setCell ⟨b, 1, none⟩ (.int .i64 x) = w' := by
  have c1 := h.c1
  have f1 := h.f1
  clear h
  go_enter Tryz.func167, Tryz.ntmps167
  go_wp2
  go_end0
  exact ⟨rfl, rfl⟩
set_option maxRecDepth 100000 in
set_option maxHeartbeats 400000 in
theorem take_no (b : Nat) (s : ByteArray) (a x k : Int) (w : World) (h : RdAt w b s a 0) (hk : (k != 0) = true) :
    Calls Tryz.prog 167 #[.pointer (some ⟨b, 0, none⟩), .int .i64 x, .int .i64 k] w fun en w' => en = .returned (.tuple #[]) ∧ w.setCell ⟨b, 2, none⟩ (.int .i64 k) = w' := by
  have c2 := h.c2
  have f2 := h.f2
  clear h
  go_enter Tryz.func167, Tryz.ntmps167
  go_wp2
  refine bodyPost_ret (results_none rfl _ _ _) rfl ?_
  exact ⟨rfl, rfl⟩
set_option maxRecDepth 100000 in
set_option maxHeartbeats 400000 in
theorem mvarint_ok (b : Nat) (s : ByteArray) (a : Int) (most : Int) (n : Int) (x : Int) (w : World) (h : RdAt w b s a 0)
    (hT : ∀ w : World, Calls Tryz.prog 166 #[.string s, .int .i64 a, .int .u64 most] w fun e w' => e = .returned (.tuple #[.int .u64 n, .int .i64 x, .int .i64 0]) ∧ w = w') :
    Calls Tryz.prog 161 #[.pointer (some ⟨b, 0, none⟩), .int .u64 most] w (RdRet w b s (.int .u64 n) x 0) := by
  have c0 := h.c0
  have c1 := h.c1
  have c2 := h.c2
  have H := Lib.hid h
  have T := Lib.hid hT
  clear h hT
  go_enter Tryz.func161, Tryz.ntmps161
  go_wp2_with (go_at_call 165; refine (err_any b 0 _ c2).mono ?_; rintro e w' ⟨rfl, rfl⟩)
  go_quiet ((go_at_call 166; exact Calls.quiet_of_same ((T.out _).mono fun _ _ h => ⟨h.1, h.2.symm⟩)))
  rename_i nq
  go_wp2_with (go_at_call 167; refine (take_ok b s a x _ (H.out.drewN nq)).mono ?_; rintro e w' ⟨rfl, rfl⟩)
  go_ret
  exact ⟨rfl, (H.out.drewN _).at, grown_set _ _ _ _ _⟩
set_option maxRecDepth 100000 in
set_option maxHeartbeats 400000 in
theorem mvarint_no (b : Nat) (s : ByteArray) (a : Int) (most : Int) (k : Int) (w : World) (h : RdAt w b s a 0) (hk : (k != 0) = true)
    (hT : ∀ w : World, Calls Tryz.prog 166 #[.string s, .int .i64 a, .int .u64 most] w fun e w' => e = .returned (.tuple #[.int .u64 0, .int .i64 0, .int .i64 k]) ∧ w = w') :
    Calls Tryz.prog 161 #[.pointer (some ⟨b, 0, none⟩), .int .u64 most] w (RdRet w b s (.int .u64 0) a k) := by
  have c0 := h.c0
  have c1 := h.c1
  have c2 := h.c2
  have H := Lib.hid h
  have T := Lib.hid hT
  clear h hT
  go_enter Tryz.func161, Tryz.ntmps161
  go_wp2_with (go_at_call 165; refine (err_any b 0 _ c2).mono ?_; rintro e w' ⟨rfl, rfl⟩)
  go_quiet ((go_at_call 166; exact Calls.quiet_of_same ((T.out _).mono fun _ _ h => ⟨h.1, h.2.symm⟩)))
  rename_i nq
  go_wp2_with (go_at_call 167; refine (take_no b s a 0 k _ (H.out.drewN nq) hk).mono ?_; rintro e w' ⟨rfl, rfl⟩)
  go_ret
  exact ⟨rfl, (H.out.drewN _).err, grown_set _ _ _ _ _⟩
set_option maxRecDepth 100000 in
set_option maxHeartbeats 400000 in
theorem mvarint_err (b : Nat) (s : ByteArray) (a e : Int) (most : Int) (w : World) (h : RdAt w b s a e) (he : (e != 0) = true) :
    Calls Tryz.prog 161 #[.pointer (some ⟨b, 0, none⟩), .int .u64 most] w (RdRet w b s (.int .u64 0) a e) := by
  have c2 := h.c2
  have H := Lib.hid h
  clear h
  go_enter Tryz.func161, Tryz.ntmps161
  go_wp2_with (go_at_call 165; refine (err_any b e _ c2).mono ?_; rintro e w' ⟨rfl, rfl⟩)
  go_ret
  exact ⟨rfl, H.out, World.grownBy.refl w _⟩
end Go.Proofs.YtieemdcoomilaaaGreatDoor
namespace Go.Proofs.YtieemdcoomilaaaGreatDoor
open Go.RowKit
/-- What a call of function f tells, at any world. -/
def TellsU (f : Nat) (args : Array Value) (n x k : Int) : Prop := ∀ w : World, Calls Tryz.prog f args w fun e w' => e = .returned (.tuple #[.int .u64 n, .int .i64 x, .int .i64 k]) ∧ w = w'
def TellsS (f : Nat) (args : Array Value) (n : ByteArray) (x k : Int) : Prop := ∀ w : World, Calls Tryz.prog f args w fun e w' => e = .returned (.tuple #[.string n, .int .i64 x, .int .i64 k]) ∧ w = w'
set_option maxRecDepth 100000 in
set_option maxHeartbeats 400000 in
theorem uto_ok (s : ByteArray) (a most n x : Int) (h : TellsU 169 #[.string s, .int .i64 a] n x 0) (hm : n ≤ most) : TellsU 166 #[.string s, .int .i64 a, .int .u64 most] n x 0 := by
  intro w
  have T := Lib.hid h
  clear h
  go_enter Tryz.func166, Tryz.ntmps166
  go_wp2_with (go_at_call 169; refine (T.out _).mono ?_; rintro e w' ⟨rfl, rfl⟩)
  go_ret3
  exact ⟨rfl, rfl⟩
set_option maxRecDepth 100000 in
set_option maxHeartbeats 400000 in
theorem uto_no (s : ByteArray) (a most k : Int) (hk : (k == 0) = false) (h : TellsU 169 #[.string s, .int .i64 a] 0 0 k) : TellsU 166 #[.string s, .int .i64 a, .int .u64 most] 0 0 k := by
  intro w
  have T := Lib.hid h
  clear h
  go_enter Tryz.func166, Tryz.ntmps166
  go_wp2_with (go_at_call 169; refine (T.out _).mono ?_; rintro e w' ⟨rfl, rfl⟩)
  go_ret3
  exact ⟨rfl, rfl⟩
theorem ret_raw {s t : ByteArray} {x y k : Int} (h : s = t) (h2 : x = y) : Ending.returned (.tuple #[.string s, .int .i64 x, .int .i64 k]) = Ending.returned (.tuple #[.string t, .int .i64 y, .int .i64 k]) := by rw [h, h2]
end Go.Proofs.YtieemdcoomilaaaGreatDoor
namespace Go.Proofs.YtieemdcoomilaaaGreatDoor
open Go.RowKit
set_option maxRecDepth 100000 in
set_option maxHeartbeats 400000 in
theorem uto_big (s : ByteArray) (a most n x : Int) (h : TellsU 169 #[.string s, .int .i64 a] n x 0) (hm : most < n) : TellsU 166 #[.string s, .int .i64 a, .int .u64 most] 0 0 40 := by
  intro w
  have T := Lib.hid h
  clear h
  go_enter Tryz.func166, Tryz.ntmps166
  go_wp2_with (go_at_call 169; refine (T.out _).mono ?_; rintro e w' ⟨rfl, rfl⟩)
  go_ret3
  exact ⟨rfl, rfl⟩
end Go.Proofs.YtieemdcoomilaaaGreatDoor
namespace Go.Proofs.YtieemdcoomilaaaGreatDoor
open Go.RowKit
theorem RdAt.alloc {w : World} {b : Nat} {s : ByteArray} {a e : Int} (h : RdAt w b s a e) (o : Obj) : RdAt (w.alloc o) b s a e := h.congr (Below.heap_alloc w o b h.lt)
theorem grown_alloc {w w' : World} {b : Nat} {o : Obj} (h : (w.alloc o).grownBy w' (some b)) : w.grownBy w' (some b) :=
  ⟨h.os, h.tape, h.output, Nat.le_trans (by simp) h.size, fun k hk hne => (h.block k (by simp; omega) hne).trans (Below.heap_alloc w o k hk)⟩
/-- A method's contract at one state of the reader. -/
def Meth (f : Nat) (args : List Value) (s : ByteArray) (a e : Int) (v : Value) (a' e' : Int) : Prop :=
  ∀ (w : World) (b : Nat), RdAt w b s a e → Calls Tryz.prog f (.pointer (some ⟨b, 0, none⟩) :: args).toArray w (RdRet w b s v a' e')
/-- What a varint's place tells: a number, or an error. -/
theorem uv_cases (s : ByteArray) (a : Nat) (ha : a ≤ s.size) (hs : s.size ≤ 140737488351232) :
    (∃ N C : Nat, Bt.rd (s.data.toList.drop a) 0 0 = (N, C, 0) ∧ TellsU 169 #[.string s, .int .i64 a] N ((a + C : Nat) : Int) 0 ∧ N ≤ 18446744073709551615 ∧ 1 ≤ C ∧ a + C ≤ s.size) ∨
    (∃ K : Nat, Bt.rd (s.data.toList.drop a) 0 0 = (0, 0, K) ∧ K ≠ 0 ∧ TellsU 169 #[.string s, .int .i64 a] 0 0 K) := by
  have hf := Bt.rd_facts (s.data.toList.drop a) 0 0 (by omega) (by simp)
  have hl : (s.data.toList.drop a).length = s.size - a := by simp
  rcases hr : Bt.rd (s.data.toList.drop a) 0 0 with ⟨N, C, K⟩
  rw [hr] at hf
  simp only at hf
  by_cases hK : K = 0
  · subst hK
    have h2 := hf.2.1 rfl
    exact .inl ⟨N, C, rfl, fun w => uvarint_ok s a w ha hs N C _ hr rfl, by omega, by omega, by omega⟩
  · have hz : N = 0 ∧ C = 0 := by
      rcases hf.2.2 with h | h | h
      · exact absurd h hK
      · simp at h; omega
      · simp at h; omega
    obtain ⟨rfl, rfl⟩ := hz
    exact .inr ⟨K, rfl, hK, fun w => uvarint_no s a w ha hs K hK hr⟩
theorem ne0 {k : Nat} (h : k ≠ 0) : ((k : Int) != 0) = true := by rw [bne_iff_ne]; omega
theorem eq0 {k : Nat} (h : k ≠ 0) : ((k : Int) == 0) = false := by rw [beq_eq_false_iff_ne]; omega
theorem grown_trans2 {w w1 w2 : World} {b : Nat} (h : w.grownBy w1 (some b)) (k : w1.grownBy w2 (some b)) : w.grownBy w2 (some b) :=
  ⟨k.os.trans h.os, k.tape.trans h.tape, k.output.trans h.output, Nat.le_trans h.size k.size, fun i hi hne => (k.block i (Nat.lt_of_lt_of_le hi h.size) hne).trans (h.block i hi hne)⟩
end Go.Proofs.YtieemdcoomilaaaGreatDoor
namespace Go.Proofs.YtieemdcoomilaaaGreatDoor
open Go Go.RowKit
set_option maxRecDepth 100000
/-- A head. -/
structure He where
  gen : Int
  base : Int
  snap : Int
  log : List Int
/-- A head's value, its log in v. -/
def hval (h : He) (v : Value) : Value := .agg #[.int .i64 h.gen, .int .i64 h.base, .int .i64 h.snap, v]
/-- May a tape be named that is not yet among those of S? -/
def ad (S : Nat → Bool) (t : Int) : Bool := decide (2 ≤ t ∧ t < 32) && !S t.toNat
def mark (S : Nat → Bool) (t : Nat) : Nat → Bool := fun j => if j = t then true else S j
def dis (S : Nat → Bool) : List Int → Bool
  | [] => true
  | t :: r => if ad S t = true then dis (mark S t.toNat) r else false
def no32 : Nat → Bool := fun _ => false
/-- Up to which generation a head may be. -/
def gtop : Int := 1099511627776
def mayB (h : He) : Bool :=
  if h.gen < 1 then false else if gtop < h.gen then false else if h.base < 0 then false else if 1099511627776 < h.base then false else if h.log = [] then false
  else if h.snap = 0 then (if h.base ≠ 0 then false else dis no32 h.log)
  else if ad no32 h.snap = true then dis (mark no32 h.snap.toNat) h.log else false
/-- The marks lie in block B. -/
structure NAt (w : World) (B : Nat) (S : Nat → Bool) : Prop where
  c : ∀ j < 32, w.cell? ⟨B, j, none⟩ = some (.bool (S j))
  fz : ∀ j, w.frozen? ⟨B, j, none⟩ = false
theorem NAt.congr {w w' : World} {B : Nat} {S : Nat → Bool} (h : NAt w B S) (hb : w'.heap[B]? = w.heap[B]?) : NAt w' B S :=
  ⟨fun j hj => (World.cell?_of_block (a := ⟨B, j, none⟩) hb).trans (h.c j hj), fun j => (World.frozen?_of_block (a := ⟨B, j, none⟩) hb).trans (h.fz j)⟩
theorem NAt.lt {w : World} {B : Nat} {S : Nat → Bool} (h : NAt w B S) : B < w.heap.size := World.block_lt_of_cell? w ⟨B, 0, none⟩ (h.c 0 (by decide))
theorem NAt.set {w : World} {B : Nat} {S : Nat → Bool} (h : NAt w B S) {t : Nat} (ht : t < 32) : NAt (w.setCell ⟨B, t, none⟩ (.bool true)) B (mark S t) := by
  refine ⟨fun j hj => ?_, fun j => by rw [World.frozen?_setCell]; exact h.fz j⟩
  by_cases e : j = t
  · subst e
    rw [World.cell?_setCell_same _ _ _ (h.c j hj)]
    unfold mark; rw [if_pos rfl]
  · rw [World.cell?_setCell_other _ _ _ _ (by intro hh; cases hh; exact e rfl), h.c j hj]
    unfold mark; rw [if_neg e]
theorem zero63 : ∃ Z : Array Value, (∀ w, (zeroValue 195).run Tryz.prog w = .ok (.agg Z) w) ∧ Z = #[.bool false, .bool false, .bool false, .bool false, .bool false, .bool false, .bool false, .bool false, .bool false, .bool false, .bool false, .bool false, .bool false, .bool false, .bool false, .bool false, .bool false, .bool false, .bool false, .bool false, .bool false, .bool false, .bool false, .bool false, .bool false, .bool false, .bool false, .bool false, .bool false, .bool false, .bool false, .bool false] :=
  ⟨_, fun w => (zero_of_info (P := Tryz.prog) (t := 195) (n := 32) (by kernel_rfl)).1 w, rfl⟩
theorem NAt.new {w : World} {Z : Array Value} (hz : Z = #[.bool false, .bool false, .bool false, .bool false, .bool false, .bool false, .bool false, .bool false, .bool false, .bool false, .bool false, .bool false, .bool false, .bool false, .bool false, .bool false, .bool false, .bool false, .bool false, .bool false, .bool false, .bool false, .bool false, .bool false, .bool false, .bool false, .bool false, .bool false, .bool false, .bool false, .bool false, .bool false]) : NAt (w.alloc (.cells Z 195)) w.heap.size no32 := by
  have hb : (w.alloc (.cells Z 195)).heap[w.heap.size]? = some (.cells Z 195 (0, 0)) := heap_alloc_new w (.cells Z 195)
  generalize w.alloc (.cells Z 195) = W at *
  generalize w.heap.size = B at *
  refine ⟨fun j hj => ?_, fun j => by simp [World.frozen?, hb]⟩
  rw [cell_of_row _ _ j Z 195 (0, 0) hb, hz]
  match j, hj with
  | 0, _ | 1, _ | 2, _ | 3, _ | 4, _ | 5, _ | 6, _ | 7, _ | 8, _ | 9, _ | 10, _ | 11, _ | 12, _ | 13, _ | 14, _ | 15, _ | 16, _ | 17, _ | 18, _ | 19, _ | 20, _ | 21, _ | 22, _ | 23, _ | 24, _ | 25, _ | 26, _ | 27, _ | 28, _ | 29, _ | 30, _ | 31, _ => rfl
  | j + 32, hj => omega
set_option maxHeartbeats 400000 in
theorem add_out (B : Nat) (S : Nat → Bool) (t : Int) (w : World) (ht : ¬ (2 ≤ t ∧ t < 32)) : Calls Tryz.prog 159 #[.pointer (some ⟨B, 0, none⟩), .int .i64 t] w fun e w' => e = .returned (.bool false) ∧ w = w' := by
  by_cases h : t < 2
  · go_enter Tryz.func159, Tryz.ntmps159
    go_wp2
    go_ret
    exact ⟨rfl, rfl⟩
  · have h2 : 32 ≤ t := by omega
    go_enter Tryz.func159, Tryz.ntmps159
    go_wp2
    go_ret
    exact ⟨rfl, rfl⟩
set_option maxHeartbeats 400000 in
theorem add_twice (B : Nat) (S : Nat → Bool) (t : Nat) (w : World) (h2 : 2 ≤ t) (h3 : t < 32) (hn : NAt w B S) (hS : S t = true) : Calls Tryz.prog 159 #[.pointer (some ⟨B, 0, none⟩), .int .i64 (t : Int)] w fun e w' => e = .returned (.bool false) ∧ w = w' := by
  have c := hn.c t h3
  rw [hS] at c
  go_enter Tryz.func159, Tryz.ntmps159
  go_wp2
  go_ret
  exact ⟨rfl, rfl⟩
set_option maxHeartbeats 400000 in
theorem add_new (B : Nat) (S : Nat → Bool) (t : Nat) (w : World) (h2 : 2 ≤ t) (h3 : t < 32) (hn : NAt w B S) (hS : S t = false) : Calls Tryz.prog 159 #[.pointer (some ⟨B, 0, none⟩), .int .i64 (t : Int)] w fun e w' => e = .returned (.bool true) ∧ w.setCell ⟨B, t, none⟩ (.bool true) = w' := by
  have c := hn.c t h3
  have f := hn.fz t
  rw [hS] at c
  go_enter Tryz.func159, Tryz.ntmps159
  go_wp2
  go_ret
  exact ⟨rfl, rfl⟩
theorem nadd_any (B : Nat) (S : Nat → Bool) (t : Int) (w : World) (hn : NAt w B S) : Calls Tryz.prog 159 #[.pointer (some ⟨B, 0, none⟩), .int .i64 t] w fun e w' => e = .returned (.bool (ad S t)) ∧ NAt w' B (if ad S t = true then mark S t.toNat else S) ∧ w.grownBy w' (some B) := by
  by_cases ht : 2 ≤ t ∧ t < 32
  · obtain ⟨n, rfl⟩ := Int.eq_ofNat_of_zero_le (show 0 ≤ t by omega)
    have e1 : ad S (n : Int) = !S n := by unfold ad; rw [decide_eq_true ht, Int.toNat_natCast]; rfl
    rw [e1, Int.toNat_natCast]
    cases hS : S n
    · refine (add_new B S n w (by omega) (by omega) hn hS).mono ?_
      rintro e w' ⟨rfl, rfl⟩
      exact ⟨rfl, hn.set (by omega), grown_setCell w B n _⟩
    · refine (add_twice B S n w (by omega) (by omega) hn hS).mono ?_
      rintro e w' ⟨rfl, rfl⟩
      exact ⟨rfl, hn, World.grownBy.refl _ _⟩
  · have e1 : ad S t = false := by unfold ad; rw [decide_eq_false ht]; rfl
    rw [e1]
    refine (add_out B S t w ht).mono ?_
    rintro e w' ⟨rfl, rfl⟩
    exact ⟨rfl, hn, World.grownBy.refl _ _⟩
end Go.Proofs.YtieemdcoomilaaaGreatDoor
