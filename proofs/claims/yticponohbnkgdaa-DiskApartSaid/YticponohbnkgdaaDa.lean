/- The disk, plainly, and where it lies. -/
import Derived.Test.YticponohbnkgdaaProg
import Derived.WalkKit
import Derived.WalkLawsBesides
import Derived.WalkSpells
import Derived.Deep.LoopGhost
import Derived.Deep.MidRow
import Derived.Deep.WholeRow
import Derived.Lib.Hide
import Derived.Lib.Strings
import Derived.Handy
import Derived.Below
namespace Go.Proofs.Yticponohbnkgdaa
open Go Go.RowKit
set_option maxRecDepth 100000
/-- A tape: its bytes, and how many of them are firm. -/
structure Tp where
  s : ByteArray
  f : Nat
def t0 : Tp := ⟨⟨#[]⟩, 0⟩
/-- A disk. -/
structure Dk where
  cap : Nat
  T : Nat → Tp
  dn : Bool
  dm : Bool
  left : Nat
def upd (T : Nat → Tp) (i : Nat) (x : Tp) : Nat → Tp := fun j => if j = i then x else T j
theorem upd_same (T : Nat → Tp) (i : Nat) (x : Tp) : upd T i x i = x := if_pos rfl
theorem upd_other (T : Nat → Tp) {i j : Nat} (x : Tp) (h : j ≠ i) : upd T i x j = T j := if_neg h
/-- How many bytes the first n tapes have. -/
def sumT (T : Nat → Tp) : Nat → Nat
  | 0 => 0
  | n + 1 => sumT T n + (T n).s.size
def Dk.used (d : Dk) : Nat := sumT d.T 32
theorem sumT_congr {T U : Nat → Tp} : ∀ n, (∀ j < n, T j = U j) → sumT T n = sumT U n
  | 0, _ => rfl
  | n + 1, h => by
    show sumT T n + _ = sumT U n + _
    rw [sumT_congr n (fun j hj => h j (by omega)), h n (by omega)]
theorem sumT_upd (T : Nat → Tp) (i : Nat) (x : Tp) : ∀ n, i < n → sumT (upd T i x) n + (T i).s.size = sumT T n + x.s.size
  | 0, h => by omega
  | n + 1, h => by
    show sumT (upd T i x) n + (upd T i x n).s.size + _ = sumT T n + (T n).s.size + _
    by_cases e : i = n
    · subst e
      rw [upd_same, sumT_congr (T := upd T i x) (U := T) i (fun j hj => upd_other T x (by omega))]
      omega
    · have ih := sumT_upd T i x n (by omega)
      rw [upd_other T x (show n ≠ i by omega)]
      omega
theorem sumT_ge (T : Nat → Tp) : ∀ n i, i < n → (T i).s.size ≤ sumT T n
  | 0, i, h => by omega
  | n + 1, i, h => by
    show _ ≤ sumT T n + (T n).s.size
    by_cases e : i = n
    · subst e; omega
    · have := sumT_ge T n i (by omega); omega
theorem sumT_le (T : Nat → Tp) (M : Nat) : ∀ n, (∀ j < n, (T j).s.size ≤ M) → sumT T n ≤ n * M
  | 0, _ => by simp [sumT]
  | n + 1, h => by
    have a := sumT_le T M n (fun j hj => h j (by omega))
    have b := h n (by omega)
    show sumT T n + (T n).s.size ≤ _
    rw [Nat.add_mul]
    omega
/-- What a tape may be. -/
def Tp.ok (t : Tp) : Prop := t.f ≤ t.s.size ∧ t.s.size ≤ 1048576
/-- What a disk may be. -/
structure Dk.ok (d : Dk) : Prop where
  t : ∀ i < 32, (d.T i).ok
  used : d.used ≤ d.cap
  cap : d.cap ≤ 9223372036854775807
  left : d.left ≤ 9223372036854775807
theorem Dk.ok.size {d : Dk} (h : d.ok) : d.used ≤ 33554432 := by
  have := sumT_le d.T 1048576 32 (fun j hj => (h.t j hj).2)
  unfold Dk.used
  omega
/-- The disk lies in block B. -/
structure DAt (w : World) (B : Nat) (d : Dk) : Prop where
  cap : w.cell? ⟨B, 0, none⟩ = some (.int .i64 (d.cap : Int))
  s : ∀ i < 32, w.cell? ⟨B, 1 + i * 2, none⟩ = some (.string (d.T i).s)
  f : ∀ i < 32, w.cell? ⟨B, 1 + i * 2 + 1, none⟩ = some (.int .i64 ((d.T i).f : Int))
  dn : w.cell? ⟨B, 65, none⟩ = some (.bool d.dn)
  dm : w.cell? ⟨B, 66, none⟩ = some (.bool d.dm)
  left : w.cell? ⟨B, 67, none⟩ = some (.int .i64 (d.left : Int))
  fz : ∀ j, w.frozen? ⟨B, j, none⟩ = false
theorem DAt.congr {w w' : World} {B : Nat} {d : Dk} (h : DAt w B d) (hb : w'.heap[B]? = w.heap[B]?) : DAt w' B d := by
  have e : ∀ j, w'.cell? ⟨B, j, none⟩ = w.cell? ⟨B, j, none⟩ := fun j => World.cell?_of_block (a := ⟨B, j, none⟩) hb
  have e2 : ∀ j, w'.frozen? ⟨B, j, none⟩ = w.frozen? ⟨B, j, none⟩ := fun j => World.frozen?_of_block (a := ⟨B, j, none⟩) hb
  exact ⟨(e _).trans h.cap, fun i hi => (e _).trans (h.s i hi), fun i hi => (e _).trans (h.f i hi), (e _).trans h.dn, (e _).trans h.dm, (e _).trans h.left, fun j => (e2 j).trans (h.fz j)⟩
theorem DAt.lt {w : World} {B : Nat} {d : Dk} (h : DAt w B d) : B < w.heap.size := World.block_lt_of_cell? w ⟨B, 0, none⟩ h.cap
theorem DAt.below {w w' : World} {B m : Nat} {d : Dk} (h : DAt w B d) (hb : Below m w w') (hm : B < m) : DAt w' B d := h.congr (hb.block B hm)
theorem DAt.alloc {w : World} {B : Nat} {d : Dk} (h : DAt w B d) (o : Obj) : DAt (w.alloc o) B d := h.congr (Below.heap_alloc w o B h.lt)
theorem DAt.drewN {w : World} {B : Nat} {d : Dk} (h : DAt w B d) (m : Nat) : DAt (w.drewN m) B d := h.congr rfl
theorem DAt.apart {w : World} {B : Nat} {d : Dk} (h : DAt w B d) {a : Addr} (ha : B ≠ a.block) (u : Value) : DAt (w.setCell a u) B d := h.congr (Below.heap_setCell w a u B ha)
/-- Behind a store of one cell. -/
theorem DAt.set {w : World} {B : Nat} {d : Dk} (h : DAt w B d) {j : Nat} {u : Value} (d' : Dk) {old : Value} (ho : w.cell? ⟨B, j, none⟩ = some old)
    (cap : some (.int .i64 (d'.cap : Int)) = if (0 : Nat) = j then some u else some (Value.int .i64 (d.cap : Int)))
    (s : ∀ i < 32, some (Value.string (d'.T i).s) = if 1 + i * 2 = j then some u else some (.string (d.T i).s))
    (f : ∀ i < 32, some (Value.int .i64 ((d'.T i).f : Int)) = if 1 + i * 2 + 1 = j then some u else some (.int .i64 ((d.T i).f : Int)))
    (dn : some (Value.bool d'.dn) = if (65 : Nat) = j then some u else some (.bool d.dn))
    (dm : some (Value.bool d'.dm) = if (66 : Nat) = j then some u else some (.bool d.dm))
    (left : some (Value.int .i64 (d'.left : Int)) = if (67 : Nat) = j then some u else some (.int .i64 (d.left : Int))) : DAt (w.setCell ⟨B, j, none⟩ u) B d' := by
  have key : ∀ k v v', w.cell? ⟨B, k, none⟩ = some v → (some v' = if k = j then some u else some v) → (w.setCell ⟨B, j, none⟩ u).cell? ⟨B, k, none⟩ = some v' := fun k v v' hc hv => by
    by_cases e : k = j
    · subst e
      rw [if_pos rfl] at hv
      rw [hv, World.cell?_setCell_same _ _ _ ho]
    · rw [if_neg e] at hv
      rw [World.cell?_setCell_other _ _ _ _ (by intro h; cases h; exact e rfl), hc, ← hv]
  exact ⟨key _ _ _ h.cap cap, fun i hi => key _ _ _ (h.s i hi) (s i hi), fun i hi => key _ _ _ (h.f i hi) (f i hi), key _ _ _ h.dn dn, key _ _ _ h.dm dm, key _ _ _ h.left left, fun j => by rw [World.frozen?_setCell]; exact h.fz j⟩
theorem DAt.setDn {w : World} {B : Nat} {d : Dk} (h : DAt w B d) (b : Bool) : DAt (w.setCell ⟨B, 65, none⟩ (.bool b)) B { d with dn := b } :=
  h.set _ h.dn rfl (fun i hi => by rw [if_neg (by omega)]) (fun i hi => by rw [if_neg (by omega)]) rfl rfl rfl
theorem DAt.setDm {w : World} {B : Nat} {d : Dk} (h : DAt w B d) (b : Bool) : DAt (w.setCell ⟨B, 66, none⟩ (.bool b)) B { d with dm := b } :=
  h.set _ h.dm rfl (fun i hi => by rw [if_neg (by omega)]) (fun i hi => by rw [if_neg (by omega)]) rfl rfl rfl
theorem DAt.setLeft {w : World} {B : Nat} {d : Dk} (h : DAt w B d) (n : Nat) : DAt (w.setCell ⟨B, 67, none⟩ (.int .i64 (n : Int))) B { d with left := n } :=
  h.set _ h.left rfl (fun i hi => by rw [if_neg (by omega)]) (fun i hi => by rw [if_neg (by omega)]) rfl rfl rfl
theorem DAt.setT {w : World} {B : Nat} {d : Dk} (h : DAt w B d) {i : Nat} (hi : i < 32) (x : Tp) : DAt ((w.setCell ⟨B, 1 + i * 2, none⟩ (.string x.s)).setCell ⟨B, 1 + i * 2 + 1, none⟩ (.int .i64 (x.f : Int))) B { d with T := upd d.T i x } := by
  have a : DAt (w.setCell ⟨B, 1 + i * 2, none⟩ (.string x.s)) B { d with T := upd d.T i ⟨x.s, (d.T i).f⟩ } :=
    h.set _ (h.s i hi) (by rw [if_neg (by omega)]) (fun k hk => by
      by_cases e : k = i
      · subst e; rw [if_pos rfl]; show some (Value.string (upd d.T k _ k).s) = _; rw [upd_same]
      · rw [if_neg (by omega)]; show some (Value.string (upd d.T i _ k).s) = _; rw [upd_other _ _ e])
      (fun k hk => by
        rw [if_neg (by omega)]
        by_cases e : k = i
        · subst e; show some (Value.int _ ((upd d.T k _ k).f : Int)) = _; rw [upd_same]
        · show some (Value.int _ ((upd d.T i _ k).f : Int)) = _; rw [upd_other _ _ e]) (by rw [if_neg (by omega)]) (by rw [if_neg (by omega)]) (by rw [if_neg (by omega)])
  exact a.set _ (a.f i hi) (by rw [if_neg (by omega)]) (fun k hk => by
      rw [if_neg (by omega)]
      by_cases e : k = i
      · subst e; show some (Value.string (upd d.T k _ k).s) = some (Value.string (upd d.T k _ k).s); rw [upd_same, upd_same]
      · show some (Value.string (upd d.T i _ k).s) = some (Value.string (upd d.T i _ k).s); rw [upd_other _ _ e, upd_other _ _ e])
      (fun k hk => by
        by_cases e : k = i
        · subst e; rw [if_pos rfl]; show some (Value.int _ ((upd d.T k _ k).f : Int)) = _; rw [upd_same]
        · rw [if_neg (by omega)]; show some (Value.int _ ((upd d.T i _ k).f : Int)) = some (Value.int _ ((upd d.T i _ k).f : Int)); rw [upd_other _ _ e, upd_other _ _ e]) (by rw [if_neg (by omega)]) (by rw [if_neg (by omega)]) (by rw [if_neg (by omega)])
/-- The tapes' cells, one behind the other. -/
def tcells (T : Nat → Tp) (n : Nat) : List Value := (List.range (2 * n)).map fun j => if j % 2 = 0 then .string (T (j / 2)).s else .int .i64 ((T (j / 2)).f : Int)
theorem tcells_len (T : Nat → Tp) (n : Nat) : (tcells T n).length = 2 * n := by simp [tcells]
theorem DAt.range {w : World} {B : Nat} {d : Dk} (h : DAt w B d) : w.rangeAt B 1 (tcells d.T 32) := fun j v hv => by
  unfold tcells at hv
  rw [List.getElem?_map] at hv
  have hj : j < 2 * 32 := by
    rcases Nat.lt_or_ge j (2 * 32) with e | e
    · exact e
    · rw [List.getElem?_eq_none (by simpa using e)] at hv; simp at hv
  rw [List.getElem?_range hj, Option.map_some] at hv
  by_cases e : j % 2 = 0
  · rw [if_pos e] at hv
    have := h.s (j / 2) (by omega)
    rw [show 1 + j / 2 * 2 = 1 + j by omega] at this
    rw [this, ← hv]
  · rw [if_neg e] at hv
    have := h.f (j / 2) (by omega)
    rw [show 1 + j / 2 * 2 + 1 = 1 + j by omega] at this
    rw [this, ← hv]
/-- What a call leaves that may have turned the disk in block B, and nothing else that was there. -/
theorem grown_trans {w w' w'' : World} {r : Option Nat} (h : w.grownBy w' r) (k : w'.grownBy w'' r) : w.grownBy w'' r :=
  ⟨k.os.trans h.os, k.tape.trans h.tape, k.output.trans h.output, Nat.le_trans h.size k.size, fun j hj hr => (k.block j (Nat.lt_of_lt_of_le hj h.size) hr).trans (h.block j hj hr)⟩
theorem grown_below {w w' : World} (h : Below w.heap.size w w') (r : Option Nat) : w.grownBy w' r := ⟨h.os, h.tape, h.output, h.size, fun i hi _ => h.block i hi⟩
theorem grown_setCell (w : World) (B j : Nat) (u : Value) : w.grownBy (w.setCell ⟨B, j, none⟩ u) (some B) :=
  ⟨rfl, rfl, rfl, by simp [World.setCell], fun k _ hk => Below.heap_setCell w _ _ k (fun e => hk (by rw [e]))⟩
theorem below_grown {n B : Nat} {a w w' : World} (h : Below n a w) (g : w.grownBy w' (some B)) (hn : n ≤ w.heap.size) (hB : n ≤ B) : Below n a w' :=
  h.grown g hn (fun k e => by cases e; exact hB)
theorem below_trans' {w a b : World} (h : Below w.heap.size w a) (k : Below a.heap.size a b) : Below w.heap.size w b := h.trans (k.mono h.size)
def Ret (w : World) (v : Value) (e : Ending) (w' : World) : Prop := e = .returned v ∧ Below w.heap.size w w'
end Go.Proofs.Yticponohbnkgdaa
