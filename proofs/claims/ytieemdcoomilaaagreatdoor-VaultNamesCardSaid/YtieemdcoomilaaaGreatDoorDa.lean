/- The disk, plainly, and where it lies. -/
import Derived.Test.YtieemdcoomilaaaGreatDoorProg
import Derived.Test.YtieemdcoomilaaaGreatDoorFb
import Derived.WalkKit
import Derived.WalkLawsBesides
import Derived.WalkSpells
import Derived.Deep.LoopGhost
import Derived.Deep.MidRow
import Derived.Deep.WholeRow
import Derived.Lib.Hide
import Derived.Lib.Strings
import Derived.Handy
import Derived.Below
import Derived.Laws.ResultCell
import Derived.BigQuiet
import Derived.Deep.QuietTactic
set_option linter.unusedVariables false
set_option linter.unusedSimpArgs false
namespace Go.Proofs.YtieemdcoomilaaaGreatDoor
open Go Go.RowKit
set_option maxRecDepth 100000
/-- A tape: its bytes, and how many of them are firm. -/
structure Tp where
  s : ByteArray
  f : Nat
def t0 : Tp := ⟨⟨#[]⟩, 0⟩
/-- A disk. -/
structure Dk where
  cap : Nat
  T : Nat → Tp
  dn : Bool
  dm : Bool
  left : Nat
def upd (T : Nat → Tp) (i : Nat) (x : Tp) : Nat → Tp := fun j => if j = i then x else T j
theorem upd_same (T : Nat → Tp) (i : Nat) (x : Tp) : upd T i x i = x := if_pos rfl
theorem upd_other (T : Nat → Tp) {i j : Nat} (x : Tp) (h : j ≠ i) : upd T i x j = T j := if_neg h
/-- How many bytes the first n tapes have. -/
def sumT (T : Nat → Tp) : Nat → Nat
  | 0 => 0
  | n + 1 => sumT T n + (T n).s.size
def Dk.used (d : Dk) : Nat := sumT d.T 32
theorem sumT_congr {T U : Nat → Tp} : ∀ n, (∀ j < n, T j = U j) → sumT T n = sumT U n
  | 0, _ => rfl
  | n + 1, h => by
    show sumT T n + _ = sumT U n + _
    rw [sumT_congr n (fun j hj => h j (by omega)), h n (by omega)]
theorem sumT_upd (T : Nat → Tp) (i : Nat) (x : Tp) : ∀ n, i < n → sumT (upd T i x) n + (T i).s.size = sumT T n + x.s.size
  | 0, h => by omega
  | n + 1, h => by
    show sumT (upd T i x) n + (upd T i x n).s.size + _ = sumT T n + (T n).s.size + _
    by_cases e : i = n
    · subst e
      rw [upd_same, sumT_congr (T := upd T i x) (U := T) i (fun j hj => upd_other T x (by omega))]
      omega
    · have ih := sumT_upd T i x n (by omega)
      rw [upd_other T x (show n ≠ i by omega)]
      omega
theorem sumT_ge (T : Nat → Tp) : ∀ n i, i < n → (T i).s.size ≤ sumT T n
  | 0, i, h => by omega
  | n + 1, i, h => by
    show _ ≤ sumT T n + (T n).s.size
    by_cases e : i = n
    · subst e; omega
    · have := sumT_ge T n i (by omega); omega
theorem sumT_le (T : Nat → Tp) (M : Nat) : ∀ n, (∀ j < n, (T j).s.size ≤ M) → sumT T n ≤ n * M
  | 0, _ => by simp [sumT]
  | n + 1, h => by
    have a := sumT_le T M n (fun j hj => h j (by omega))
    have b := h n (by omega)
    show sumT T n + (T n).s.size ≤ _
    rw [Nat.add_mul]
    omega
/-- What a tape may be. -/
def Tp.ok (t : Tp) : Prop := t.f ≤ t.s.size ∧ t.s.size ≤ 1048576
/-- What a disk may be. -/
structure Dk.ok (d : Dk) : Prop where
  t : ∀ i < 32, (d.T i).ok
  used : d.used ≤ d.cap
  cap : d.cap ≤ 9223372036854775807
  left : d.left ≤ 9223372036854775807
theorem Dk.ok.size {d : Dk} (h : d.ok) : d.used ≤ 33554432 := by
  have := sumT_le d.T 1048576 32 (fun j hj => (h.t j hj).2)
  unfold Dk.used
  omega
/-- The disk lies in block B. -/
structure DAt (w : World) (B : Nat) (d : Dk) : Prop where
  cap : w.cell? ⟨B, 0, none⟩ = some (.int .i64 (d.cap : Int))
  s : ∀ i < 32, w.cell? ⟨B, 1 + i * 2, none⟩ = some (.string (d.T i).s)
  f : ∀ i < 32, w.cell? ⟨B, 1 + i * 2 + 1, none⟩ = some (.int .i64 ((d.T i).f : Int))
  dn : w.cell? ⟨B, 65, none⟩ = some (.bool d.dn)
  dm : w.cell? ⟨B, 66, none⟩ = some (.bool d.dm)
  left : w.cell? ⟨B, 67, none⟩ = some (.int .i64 (d.left : Int))
  fz : ∀ j, w.frozen? ⟨B, j, none⟩ = false
theorem DAt.congr {w w' : World} {B : Nat} {d : Dk} (h : DAt w B d) (hb : w'.heap[B]? = w.heap[B]?) : DAt w' B d := by
  have e : ∀ j, w'.cell? ⟨B, j, none⟩ = w.cell? ⟨B, j, none⟩ := fun j => World.cell?_of_block (a := ⟨B, j, none⟩) hb
  have e2 : ∀ j, w'.frozen? ⟨B, j, none⟩ = w.frozen? ⟨B, j, none⟩ := fun j => World.frozen?_of_block (a := ⟨B, j, none⟩) hb
  exact ⟨(e _).trans h.cap, fun i hi => (e _).trans (h.s i hi), fun i hi => (e _).trans (h.f i hi), (e _).trans h.dn, (e _).trans h.dm, (e _).trans h.left, fun j => (e2 j).trans (h.fz j)⟩
theorem DAt.lt {w : World} {B : Nat} {d : Dk} (h : DAt w B d) : B < w.heap.size := World.block_lt_of_cell? w ⟨B, 0, none⟩ h.cap
theorem DAt.below {w w' : World} {B m : Nat} {d : Dk} (h : DAt w B d) (hb : Below m w w') (hm : B < m) : DAt w' B d := h.congr (hb.block B hm)
theorem DAt.alloc {w : World} {B : Nat} {d : Dk} (h : DAt w B d) (o : Obj) : DAt (w.alloc o) B d := h.congr (Below.heap_alloc w o B h.lt)
theorem DAt.drewN {w : World} {B : Nat} {d : Dk} (h : DAt w B d) (m : Nat) : DAt (w.drewN m) B d := h.congr rfl
theorem DAt.apart {w : World} {B : Nat} {d : Dk} (h : DAt w B d) {a : Addr} (ha : B ≠ a.block) (u : Value) : DAt (w.setCell a u) B d := h.congr (Below.heap_setCell w a u B ha)
/-- Behind a store of one cell. -/
theorem DAt.set {w : World} {B : Nat} {d : Dk} (h : DAt w B d) {j : Nat} {u : Value} (d' : Dk) {old : Value} (ho : w.cell? ⟨B, j, none⟩ = some old)
    (cap : some (.int .i64 (d'.cap : Int)) = if (0 : Nat) = j then some u else some (Value.int .i64 (d.cap : Int)))
    (s : ∀ i < 32, some (Value.string (d'.T i).s) = if 1 + i * 2 = j then some u else some (.string (d.T i).s))
    (f : ∀ i < 32, some (Value.int .i64 ((d'.T i).f : Int)) = if 1 + i * 2 + 1 = j then some u else some (.int .i64 ((d.T i).f : Int)))
    (dn : some (Value.bool d'.dn) = if (65 : Nat) = j then some u else some (.bool d.dn))
    (dm : some (Value.bool d'.dm) = if (66 : Nat) = j then some u else some (.bool d.dm))
    (left : some (Value.int .i64 (d'.left : Int)) = if (67 : Nat) = j then some u else some (.int .i64 (d.left : Int))) : DAt (w.setCell ⟨B, j, none⟩ u) B d' := by
  have key : ∀ k v v', w.cell? ⟨B, k, none⟩ = some v → (some v' = if k = j then some u else some v) → (w.setCell ⟨B, j, none⟩ u).cell? ⟨B, k, none⟩ = some v' := fun k v v' hc hv => by
    by_cases e : k = j
    · subst e
      rw [if_pos rfl] at hv
      rw [hv, World.cell?_setCell_same _ _ _ ho]
    · rw [if_neg e] at hv
      rw [World.cell?_setCell_other _ _ _ _ (by intro h; cases h; exact e rfl), hc, ← hv]
  exact ⟨key _ _ _ h.cap cap, fun i hi => key _ _ _ (h.s i hi) (s i hi), fun i hi => key _ _ _ (h.f i hi) (f i hi), key _ _ _ h.dn dn, key _ _ _ h.dm dm, key _ _ _ h.left left, fun j => by rw [World.frozen?_setCell]; exact h.fz j⟩
theorem DAt.setDn {w : World} {B : Nat} {d : Dk} (h : DAt w B d) (b : Bool) : DAt (w.setCell ⟨B, 65, none⟩ (.bool b)) B { d with dn := b } :=
  h.set _ h.dn rfl (fun i hi => by rw [if_neg (by omega)]) (fun i hi => by rw [if_neg (by omega)]) rfl rfl rfl
theorem DAt.setDm {w : World} {B : Nat} {d : Dk} (h : DAt w B d) (b : Bool) : DAt (w.setCell ⟨B, 66, none⟩ (.bool b)) B { d with dm := b } :=
  h.set _ h.dm rfl (fun i hi => by rw [if_neg (by omega)]) (fun i hi => by rw [if_neg (by omega)]) rfl rfl rfl
theorem DAt.setLeft {w : World} {B : Nat} {d : Dk} (h : DAt w B d) (n : Nat) : DAt (w.setCell ⟨B, 67, none⟩ (.int .i64 (n : Int))) B { d with left := n } :=
  h.set _ h.left rfl (fun i hi => by rw [if_neg (by omega)]) (fun i hi => by rw [if_neg (by omega)]) rfl rfl rfl
theorem DAt.setT {w : World} {B : Nat} {d : Dk} (h : DAt w B d) {i : Nat} (hi : i < 32) (x : Tp) : DAt ((w.setCell ⟨B, 1 + i * 2, none⟩ (.string x.s)).setCell ⟨B, 1 + i * 2 + 1, none⟩ (.int .i64 (x.f : Int))) B { d with T := upd d.T i x } := by
  have a : DAt (w.setCell ⟨B, 1 + i * 2, none⟩ (.string x.s)) B { d with T := upd d.T i ⟨x.s, (d.T i).f⟩ } :=
    h.set _ (h.s i hi) (by rw [if_neg (by omega)]) (fun k hk => by
      by_cases e : k = i
      · subst e; rw [if_pos rfl]; show some (Value.string (upd d.T k _ k).s) = _; rw [upd_same]
      · rw [if_neg (by omega)]; show some (Value.string (upd d.T i _ k).s) = _; rw [upd_other _ _ e])
      (fun k hk => by
        rw [if_neg (by omega)]
        by_cases e : k = i
        · subst e; show some (Value.int _ ((upd d.T k _ k).f : Int)) = _; rw [upd_same]
        · show some (Value.int _ ((upd d.T i _ k).f : Int)) = _; rw [upd_other _ _ e]) (by rw [if_neg (by omega)]) (by rw [if_neg (by omega)]) (by rw [if_neg (by omega)])
  exact a.set _ (a.f i hi) (by rw [if_neg (by omega)]) (fun k hk => by
      rw [if_neg (by omega)]
      by_cases e : k = i
      · subst e; show some (Value.string (upd d.T k _ k).s) = some (Value.string (upd d.T k _ k).s); rw [upd_same, upd_same]
      · show some (Value.string (upd d.T i _ k).s) = some (Value.string (upd d.T i _ k).s); rw [upd_other _ _ e, upd_other _ _ e])
      (fun k hk => by
        by_cases e : k = i
        · subst e; rw [if_pos rfl]; show some (Value.int _ ((upd d.T k _ k).f : Int)) = _; rw [upd_same]
        · rw [if_neg (by omega)]; show some (Value.int _ ((upd d.T i _ k).f : Int)) = some (Value.int _ ((upd d.T i _ k).f : Int)); rw [upd_other _ _ e, upd_other _ _ e]) (by rw [if_neg (by omega)]) (by rw [if_neg (by omega)]) (by rw [if_neg (by omega)])
/-- The tapes' cells, one behind the other. -/
def tcells (T : Nat → Tp) (n : Nat) : List Value := (List.range (2 * n)).map fun j => if j % 2 = 0 then .string (T (j / 2)).s else .int .i64 ((T (j / 2)).f : Int)
theorem tcells_len (T : Nat → Tp) (n : Nat) : (tcells T n).length = 2 * n := by simp [tcells]
theorem DAt.range {w : World} {B : Nat} {d : Dk} (h : DAt w B d) : w.rangeAt B 1 (tcells d.T 32) := fun j v hv => by
  unfold tcells at hv
  rw [List.getElem?_map] at hv
  have hj : j < 2 * 32 := by
    rcases Nat.lt_or_ge j (2 * 32) with e | e
    · exact e
    · rw [List.getElem?_eq_none (by simpa using e)] at hv; simp at hv
  rw [List.getElem?_range hj, Option.map_some] at hv
  by_cases e : j % 2 = 0
  · rw [if_pos e] at hv
    have := h.s (j / 2) (by omega)
    rw [show 1 + j / 2 * 2 = 1 + j by omega] at this
    rw [this, ← hv]
  · rw [if_neg e] at hv
    have := h.f (j / 2) (by omega)
    rw [show 1 + j / 2 * 2 + 1 = 1 + j by omega] at this
    rw [this, ← hv]
/-- What a call leaves that may have turned the disk in block B, and nothing else that was there. -/
theorem grown_trans {w w' w'' : World} {r : Option Nat} (h : w.grownBy w' r) (k : w'.grownBy w'' r) : w.grownBy w'' r :=
  ⟨k.os.trans h.os, k.tape.trans h.tape, k.output.trans h.output, Nat.le_trans h.size k.size, fun j hj hr => (k.block j (Nat.lt_of_lt_of_le hj h.size) hr).trans (h.block j hj hr)⟩
theorem grown_below {w w' : World} (h : Below w.heap.size w w') (r : Option Nat) : w.grownBy w' r := ⟨h.os, h.tape, h.output, h.size, fun i hi _ => h.block i hi⟩
theorem grown_setCell (w : World) (B j : Nat) (u : Value) : w.grownBy (w.setCell ⟨B, j, none⟩ u) (some B) :=
  ⟨rfl, rfl, rfl, by simp [World.setCell], fun k _ hk => Below.heap_setCell w _ _ k (fun e => hk (by rw [e]))⟩
theorem below_grown {n B : Nat} {a w w' : World} (h : Below n a w) (g : w.grownBy w' (some B)) (hn : n ≤ w.heap.size) (hB : n ≤ B) : Below n a w' :=
  h.grown g hn (fun k e => by cases e; exact hB)
theorem below_trans' {w a b : World} (h : Below w.heap.size w a) (k : Below a.heap.size a b) : Below w.heap.size w b := h.trans (k.mono h.size)
end Go.Proofs.YtieemdcoomilaaaGreatDoor
namespace Go.Proofs.YtieemdcoomilaaaGreatDoor
open Go Go.RowKit
set_option maxRecDepth 100000
theorem load66 {w : World} (B : Nat) (x y : Value) (hB : w.heap[B]? = some (.cells #[x, y] 100 (0, 0))) : (loadVar 100 ⟨B, 0, none⟩).run Tryz.prog w = .ok (.agg #[x, y]) w :=
  run_loadVar_row (P := Tryz.prog) w B 100 100 #[x, y] (0, 0) _ hB Tryz.underlying100 rfl (by kernel_rfl)
theorem retc {fn : Func} {R : Ending → World → Prop} {a : Act} {w : World} {x y : Value} {p : Tmp} (hr : fn.results = #[.cell p 100]) (B : Nat) (h2 : a.tmps.getD p undef = .pointer (some ⟨B, 0, none⟩)) (hd : a.defers = [])
    (hB : w.heap[B]? = some (.cells #[x, y] 100 (0, 0))) (hR : R (.returned (.agg #[x, y])) w) : bodyPost Tryz.prog fn R .ret a w :=
  bodyPost_ret (by
    have hl := load66 B x y hB
    have hp' : a.tmps[p]?.getD undef = .pointer (some ⟨B, 0, none⟩) := by simpa using h2
    simp [results, hr, hp', asAddr, hl]) hd hR
theorem retc2 {fn : Func} {R : Ending → World → Prop} {a : Act} {w : World} {x y z : Value} {p u : Tmp} (hr : fn.results = #[.cell p 100, .tmp u]) (B : Nat) (h2 : a.tmps.getD p undef = .pointer (some ⟨B, 0, none⟩)) (h3 : a.tmps.getD u undef = z) (hd : a.defers = [])
    (hB : w.heap[B]? = some (.cells #[x, y] 100 (0, 0))) (hR : R (.returned (.tuple #[.agg #[x, y], z])) w) : bodyPost Tryz.prog fn R .ret a w :=
  bodyPost_ret (by
    have hl := load66 B x y hB
    rw [results_cell_tmp hr, h2, h3]
    simp [asAddr, hl, Result.andThen]) hd hR
/-- A block of two cells. -/
def Box2 (W : World) (B : Nat) (t : TypeId) (x y : Value) : Prop := W.heap[B]? = some (.cells #[x, y] t (0, 0))
section
variable {W W' : World} {B m : Nat} {t : TypeId} {x y : Value}
theorem Box2.lt (h : Box2 W B t x y) : B < W.heap.size := (Array.getElem?_eq_some_iff.1 h).1
theorem Box2.c0 (h : Box2 W B t x y) : W.cell? ⟨B, 0, none⟩ = some x := by simp [World.cell?, show W.heap[B]? = _ from h]
theorem Box2.c1 (h : Box2 W B t x y) : W.cell? ⟨B, 1, none⟩ = some y := by simp [World.cell?, show W.heap[B]? = _ from h]
theorem Box2.free (h : Box2 W B t x y) (j : Nat) : W.frozen? ⟨B, j, none⟩ = false := by simp [World.frozen?, show W.heap[B]? = _ from h]
theorem Box2.below (h : Box2 W B t x y) (hb : Below m W W') (hm : B < m) : Box2 W' B t x y := (hb.block B hm).trans h
theorem Box2.kept {row : Option Nat} (h : Box2 W B t x y) (hg : W.grownBy W' row) (hne : some B ≠ row) : Box2 W' B t x y := (hg.block B h.lt hne).trans h
theorem Box2.alloc (h : Box2 W B t x y) (o : Obj) : Box2 (W.alloc o) B t x y := (Below.heap_alloc W o B h.lt).trans h
theorem Box2.new (W : World) (t : TypeId) (x y : Value) : Box2 (W.alloc (.cells #[x, y] t)) W.heap.size t x y := heap_alloc_new W _
theorem Box2.set (h : Box2 W B t x y) (a b : Value) : Box2 ((W.setCell ⟨B, 0, none⟩ a).setCell ⟨B, 1, none⟩ b) B t a b := by
  unfold Box2 at *
  simp [World.setCell, Array.getElem?_modify, h]
theorem Box2.apart {a : Addr} (h : Box2 W B t x y) (ha : B ≠ a.block) (u : Value) : Box2 (W.setCell a u) B t x y := (Below.heap_setCell W a u B ha).trans h
end
theorem below_setD {n : Nat} {w w' : World} (h : Below n w w') {B : Nat} (hB : n ≤ B) (j : Nat) (u : Value) : Below n w (w'.setCell ⟨B, j, none⟩ u) := h.setCell (p := ⟨B, j, none⟩) hB u
set_option maxHeartbeats 400000 in
theorem ready_any (B : Nat) (d : Dk) (w : World) (h : w.cell? ⟨B, 65, none⟩ = some (.bool d.dn)) : Calls Tryz.prog 72 #[.pointer (some ⟨B, 0, none⟩)] w fun e w' => e = .returned (.int .i64 (if d.dn then 45 else 0)) ∧ w = w' := by
  cases hd : d.dn
  · rw [hd] at h
    go_enter Tryz.func72, Tryz.ntmps72
    go_wp2
    go_ret
    exact ⟨rfl, rfl⟩
  · rw [hd] at h
    go_enter Tryz.func72, Tryz.ntmps72
    go_wp2
    go_ret
    exact ⟨rfl, rfl⟩
set_option maxHeartbeats 400000 in
theorem loose_any (t : Tp) (w : World) (ht : t.ok) : Calls Tryz.prog 70 #[.agg #[.string t.s, .int .i64 (t.f : Int)]] w (Ret w (.int .i64 ((t.s.size - t.f : Nat) : Int))) := by
  obtain ⟨h1, h2⟩ := ht
  rw [show ((t.s.size - t.f : Nat) : Int) = (t.s.size : Int) - (t.f : Int) by omega]
  obtain ⟨s, f⟩ := t
  dsimp only at *
  go_enter Tryz.func70, Tryz.ntmps70
  go_wp2
  go_ret
  exact ⟨rfl, (Below.refl _ _).alloc (Nat.le_refl _) _⟩
set_option maxHeartbeats 400000 in
theorem firm_any (s : ByteArray) (w : World) : Calls Tryz.prog 73 #[.string s] w (Ret w (.agg #[.string s, .int .i64 (s.size : Int)])) := by
  go_enter Tryz.func73, Tryz.ntmps73
  go_wp2
  exact retc Tryz.results73 w.heap.size rfl rfl (heap_alloc_new w _) ⟨rfl, (Below.refl _ _).alloc (Nat.le_refl _) _⟩
/-- What a write makes of a tape. -/
def wr (t : Tp) (x : ByteArray) : Tp × Nat := if 1048576 < x.size + t.s.size then (t0, 40) else (⟨t.s ++ x, t.f⟩, 0)
def sy (t : Tp) : Tp × Nat := (⟨t.s, t.s.size⟩, 0)
def wi (_ : Tp) : Tp × Nat := (t0, 0)
def tr (n : Int) (t : Tp) : Tp × Nat := if 0 ≤ n ∧ n ≤ t.s.size then (⟨t.s.extract 0 n.toNat, n.toNat⟩, 0) else (t0, 1)
theorem below_two (w : World) (x y : Obj) : Below w.heap.size w ((w.alloc x).alloc y) := ((Below.refl _ _).alloc (Nat.le_refl _) _).alloc (by simp) _
theorem heap_two (w : World) (x y : Obj) : ((w.alloc x).alloc y).heap[w.heap.size + 1]? = some y := by
  have := heap_alloc_new (w.alloc x) y
  rwa [World.size_alloc] at this
theorem two_after {w w' : World} {o : Obj} {x y : Value} {t : TypeId} (h : Below ((w.alloc o).alloc (.cells #[x, y] t)).heap.size ((w.alloc o).alloc (.cells #[x, y] t)) w') :
    Box2 w' (w.heap.size + 1) t x y ∧ w'.cell? ⟨w.heap.size + 1, 0, none⟩ = some x ∧ w'.cell? ⟨w.heap.size + 1, 1, none⟩ = some y ∧ w'.frozen? ⟨w.heap.size + 1, 0, none⟩ = false ∧ w'.frozen? ⟨w.heap.size + 1, 1, none⟩ = false ∧ Below w.heap.size w w' := by
  have b : Box2 w' (w.heap.size + 1) t x y := Box2.below (heap_two w o _) h (by simp)
  exact ⟨b, b.c0, b.c1, b.free 0, b.free 1, (below_two w _ _).trans (h.mono (by simp; omega))⟩
set_option maxHeartbeats 400000 in
theorem written_any (t : Tp) (x : ByteArray) (w : World) (ht : t.s.size ≤ 9223372036854775807) (_hx : x.size ≤ 9223372036854775807) : Calls Tryz.prog 74 #[.agg #[.string t.s, .int .i64 (t.f : Int)], .string x] w (Ret w (.tuple #[.agg #[.string (wr t x).1.s, .int .i64 ((wr t x).1.f : Int)], .int .i64 ((wr t x).2 : Int)])) := by
  have h2 := ht
  unfold wr
  obtain ⟨s, f⟩ := t
  dsimp only at *
  by_cases hc : 1048576 < x.size + s.size
  · rw [if_pos hc]
    dsimp only [t0]
    go_enter Tryz.func74, Tryz.ntmps74
    go_wp2
    exact retc2 Tryz.results74 (w.heap.size + 1) rfl rfl rfl (heap_two _ _ _) ⟨rfl, below_two _ _ _⟩
  · rw [if_neg hc]
    dsimp only
    go_enter Tryz.func74, Tryz.ntmps74
    go_wp2
    exact retc2 Tryz.results74 (w.heap.size + 1) rfl rfl rfl (heap_two _ _ _) ⟨rfl, below_two _ _ _⟩
set_option maxHeartbeats 400000 in
theorem wiped_any (t : Tp) (w : World) : Calls Tryz.prog 120 #[.agg #[.string t.s, .int .i64 (t.f : Int)]] w (Ret w (.tuple #[.agg #[.string (wi t).1.s, .int .i64 ((wi t).1.f : Int)], .int .i64 ((wi t).2 : Int)])) := by
  unfold wi
  obtain ⟨s, f⟩ := t
  dsimp only [t0]
  go_enter Tryz.func120, Tryz.ntmps120
  go_wp2
  exact retc2 Tryz.results120 (w.heap.size + 1) rfl rfl rfl (heap_two _ _ _) ⟨rfl, below_two _ _ _⟩
set_option maxHeartbeats 400000 in
theorem synced_any (t : Tp) (w : World) : Calls Tryz.prog 82 #[.agg #[.string t.s, .int .i64 (t.f : Int)]] w (Ret w (.tuple #[.agg #[.string (sy t).1.s, .int .i64 ((sy t).1.f : Int)], .int .i64 ((sy t).2 : Int)])) := by
  unfold sy
  obtain ⟨s, f⟩ := t
  dsimp only
  go_enter Tryz.func82, Tryz.ntmps82
  go_wp2_with fail
  refine (firm_any _ _).mono ?_
  rintro e w' ⟨rfl, hb⟩
  obtain ⟨x1, c0, c1, f0, f1, hB⟩ := two_after hb
  go_wp2
  exact retc2 Tryz.results82 (w.heap.size + 1) rfl rfl rfl (x1.set _ _) ⟨rfl, below_setD (below_setD hB (by omega) _ _) (by omega) _ _⟩
/-- What a failure leaves of a tape. -/
def bk (n : Int) (t : Tp) : Tp := let k := (IntKind.u64.wrap n).toNat % (t.s.size - t.f + 1); ⟨t.s.extract 0 (t.f + k), t.f + k⟩
theorem wrap_nat (n : Int) : ∃ m : Nat, IntKind.u64.wrap n = (m : Int) := by
  have h : 0 ≤ IntKind.u64.wrap n := by rw [IntKind.wrap_u64]; omega
  exact ⟨_, (Int.toNat_of_nonneg h).symm⟩
set_option maxHeartbeats 400000 in
theorem back_any (t : Tp) (n : Int) (w : World) (ht : t.ok) : Calls Tryz.prog 71 #[.agg #[.string t.s, .int .i64 (t.f : Int)], .int .i64 n] w (Ret w (.agg #[.string (bk n t).s, .int .i64 ((bk n t).f : Int)])) := by
  have HL := Lib.hid (fun W => loose_any t W ht)
  obtain ⟨h1, h2⟩ := ht
  obtain ⟨m, hm⟩ := wrap_nat n
  obtain ⟨K, hK, hK2, hK3⟩ : ∃ K, bk n t = ⟨t.s.extract 0 (t.f + K), t.f + K⟩ ∧ t.f + K ≤ t.s.size ∧ (m : Int).tmod (((t.s.size - t.f : Nat) : Int) + 1) = (K : Int) := by
    refine ⟨m % (t.s.size - t.f + 1), by unfold bk; rw [hm, Int.toNat_natCast], by have := Nat.mod_lt m (show 0 < t.s.size - t.f + 1 by omega); omega, ?_⟩
    rw [Int.tmod_eq_emod_of_nonneg (by omega)]
    rfl
  rw [hK]
  clear hK
  obtain ⟨s, f⟩ := t
  dsimp only at *
  have HS : Hid ((s.extract 0 (f + K)).size = f + K) := Lib.hid (by simp; omega)
  have hK4 : (f : Int) + (K : Int) ≤ (s.size : Int) := by omega
  have hK5 : K ≤ 1048576 := by omega
  have hL : s.size - f ≤ 1048576 := by omega
  generalize s.size - f = L at *
  go_enter Tryz.func71, Tryz.ntmps71
  go_wp2_with fail
  refine (HL.out _).mono ?_
  rintro e w' ⟨rfl, hb⟩
  obtain ⟨x1, c0, c1, f0, f1, hB⟩ := two_after hb
  have x0 : Box2 w' w.heap.size 100 (.string s) (.int .i64 (f : Int)) := Box2.below (Box2.alloc (Box2.new w 100 _ _) _) hb (by simp; omega)
  have d0 := x0.c0
  have d1 := x0.c1
  have X1 := Lib.hid x1
  have HB := Lib.hid hB
  clear x0 x1 hB hb
  go_wp2_with fail
  refine (firm_any _ _).mono ?_
  rw [HS.out]
  rintro e w'' ⟨rfl, hb2⟩
  have x2 := X1.out.below hb2 X1.out.lt
  have c0 := x2.c0
  have c1 := x2.c1
  have f0 := x2.free 0
  have f1 := x2.free 1
  have HB2 := Lib.hid (below_trans' HB.out hb2)
  go_wp2
  exact retc Tryz.results71 (w.heap.size + 1) rfl rfl (x2.set _ _) ⟨rfl, below_setD (below_setD HB2.out (by omega) _ _) (by omega) _ _⟩
end Go.Proofs.YtieemdcoomilaaaGreatDoor
namespace Go.Proofs.YtieemdcoomilaaaGreatDoor
open Go Go.RowKit
set_option maxRecDepth 100000
theorem tcells_even (T : Nat → Tp) {n k : Nat} (hk : k < n) : (tcells T n)[k * 2]? = some (.string (T k).s) := by
  unfold tcells
  rw [List.getElem?_map, List.getElem?_range (by omega), Option.map_some, if_pos (by omega), show k * 2 / 2 = k by omega]
theorem tcells_odd (T : Nat → Tp) {n k : Nat} (hk : k < n) : (tcells T n)[k * 2 + 1]? = some (.int .i64 ((T k).f : Int)) := by
  unfold tcells
  rw [List.getElem?_map, List.getElem?_range (by omega), Option.map_some, if_neg (by omega), show (k * 2 + 1) / 2 = k by omega]
theorem index67 (T : Nat → Tp) (k : Nat) (hk : k < 32) (W : World) : (Instr.index 101 (.agg (tcells T 32).toArray) (.int .i64 (k : Int))).run Tryz.prog W = .ok (.agg #[.string (T k).s, .int .i64 ((T k).f : Int)]) W := by
  have hx : (tcells T 32).toArray.extract (k * 2) (k * 2 + 2) = #[.string (T k).s, .int .i64 ((T k).f : Int)] := by
    apply Array.ext'
    rw [Array.toList_extract]
    simp only [List.extract]
    have h0 := tcells_even T hk
    have h1 := tcells_odd T hk
    generalize tcells T 32 = C at *
    apply List.ext_getElem?
    intro i
    match i with
    | 0 => simpa [List.getElem?_take, List.getElem?_drop] using h0
    | 1 => simpa [List.getElem?_take, List.getElem?_drop] using h1
    | i + 2 => simp [List.getElem?_take]; omega
  have hagg : (isAgg 100).run Tryz.prog W = .ok true W := by
    unfold isAgg
    rw [Sem.run_bind, run_underlying Tryz.underlying100 W]
    rfl
  have hsz : (sizeOf 100).run Tryz.prog W = .ok 2 W := by
    obtain ⟨i, hi, hs⟩ : ∃ i, Tryz.prog.info? 100 = some i ∧ i.size = 2 := ⟨_, rfl, rfl⟩
    rw [run_sizeOf W hi]; rfl
  simp only [Instr.index, asIntOf, Sem.run_bind, Sem.run_pure, Result.andThen_ok, run_underlying Tryz.underlying101 W]
  rw [if_pos (by omega)]
  simp only [Sem.run_bind, Int.toNat_natCast, hsz, Result.andThen_ok, part, hagg, Sem.run_ite, ↓reduceIte, Sem.run_pure, hx]
theorem len67 : (Tryz.prog.info? 101).map (·.size) = some 64 := by kernel_rfl
set_option maxHeartbeats 400000 in
theorem used_any0 (B : Nat) (d : Dk) (w : World) (h : DAt w B d) (hd : ∀ i < 32, (d.T i).ok) : Calls Tryz.prog 34 #[.pointer (some ⟨B, 0, none⟩)] w (Ret w (.int .i64 (d.used : Int))) := by
  have HR := Lib.hid h.range
  have HL : Hid ((Tryz.prog.info? 101).map (·.size) = some (tcells d.T 32).length) := Lib.hid (by rw [tcells_len]; exact len67)
  have hix : ∀ k, k < 32 → ∀ W, _ := fun k hk W => index67 d.T k hk W
  have HIX := Lib.hid hix
  clear hix
  generalize tcells d.T 32 = C at *
  have HS : ∀ k ≤ 32, sumT d.T k ≤ 33554432 := fun k hk => by
    have := sumT_le d.T 1048576 k (fun j hj => (hd j (by omega)).2)
    have : k * 1048576 ≤ 32 * 1048576 := Nat.mul_le_mul_right _ hk
    omega
  have HS := Lib.hid HS
  clear hd h
  unfold Dk.used
  generalize d.T = T at *
  go_enter Tryz.func34, Tryz.ntmps34
  go_wp2_with (refine wpList_load_mid rfl 101 _ rfl B 1 rfl _ _ HR.out Tryz.underlying101 rfl HL.out ?_)
  go_loopw [3, 12] (fun n i wr => ∃ k m : Nat, i = .int .i64 (k : Int) ∧ n = .int .i64 (m : Int) ∧ k ≤ 32 ∧ Hid (m = sumT T k) ∧ Hid (Below w.heap.size w wr)) (fun _ i _ => 32 - (intOf i).toNat)
  case atStart => exact ⟨0, 0, rfl, rfl, by omega, Lib.hid rfl, Lib.hid (Below.refl _ _)⟩
  case round =>
    obtain ⟨k, m, rfl, rfl, hk, HM, HB⟩ := hrel
    by_cases hlt : k < 32
    · have hi := HIX.out k hlt
      have hm : m + (T k).s.size ≤ 33554432 := by have := HS.out (k + 1) (by omega); rw [HM.out]; exact this
      have HM2 : Hid (m + (T k).s.size = sumT T (k + 1)) := Lib.hid (by rw [HM.out]; rfl)
      generalize (T k).f = F at *
      generalize (T k).s = S at *
      go_wp2
      go_roundw
      case rel => exact ⟨k + 1, m + S.size, by go_num, by go_num, by omega, HM2, Lib.hid (HB.out.alloc HB.out.size _)⟩
      case measure => simp [intOf]; omega
    · obtain rfl : k = 32 := by omega
      go_wp2
      go_ret
      exact ⟨by rw [HM.out]; rfl, HB.out⟩
theorem used_any (B : Nat) (d : Dk) (w : World) (h : DAt w B d) (hd : d.ok) : Calls Tryz.prog 34 #[.pointer (some ⟨B, 0, none⟩)] w (Ret w (.int .i64 (d.used : Int))) := used_any0 B d w h hd.t
end Go.Proofs.YtieemdcoomilaaaGreatDoor
