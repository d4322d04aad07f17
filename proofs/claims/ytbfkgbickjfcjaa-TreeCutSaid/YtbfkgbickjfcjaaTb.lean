/- Trees in memory: nodes that are never changed. -/
import Derived.Test.YtbfkgbickjfcjaaProg
import Derived.Test.YtbfkgbickjfcjaaTa
import Derived.Laws.BitsAllLaws
import Derived.RowKit
import Derived.IntWalk
import Derived.Lib.Strings
import Derived.Lib.Slices
import Derived.Lib.Walk
import Derived.WalkKit
import Derived.WalkLawsBesides
import Derived.WalkSpells
import Derived.Deep.LoopGhost
import Derived.Lib.Hide
import Derived.Below
import Derived.Deep.RegionHeld3
import Derived.BigQuiet
import Derived.Deep.CutRange
import Derived.Sort.Walk0
import Derived.RangeFuncBox
import Derived.RangeFuncNested
namespace Go.Proofs.Ytbfkgbickjfcjaa
set_option linter.unusedVariables false
set_option linter.unusedSimpArgs false
open Go Go.RowKit
set_option maxRecDepth 100000
/-- An entry. -/
structure En where
  k : ByteArray
  v : ByteArray
  made : Int
  mod : Int
/-- A slice. -/
structure Sl where
  a : Option Addr
  n : Nat
  c : Nat
class Bl (w W : World) : Prop where
  h : Below w.heap.size w W
instance Bl.rfl' (w : World) : Bl w w := ⟨Below.refl _ _⟩
instance Bl.drew (w W : World) [b : Bl w W] : Bl w W.drew := ⟨Below.drew b.h⟩
instance Bl.alloc (w W : World) (o : Obj) [b : Bl w W] : Bl w (W.alloc o) := ⟨b.h.alloc b.h.size o⟩
theorem Bl.tr {a b c : World} (h : Bl a b) (k : Below b.heap.size b c) : Bl a c := ⟨h.h.trans (k.mono h.h.size)⟩
theorem below_trans' {w w1 w2 : World} (h : Below w.heap.size w w1) (k : Below w1.heap.size w1 w2) : Below w.heap.size w w2 := h.trans (k.mono h.size)
theorem cell_lt {w : World} {b o : Nat} {v : Value} (h : w.cell? ⟨b, o, none⟩ = some v) : b < w.heap.size := World.block_lt_of_cell? w _ h
/-- A block is these cells. -/
structure NS (w : World) (b : Nat) (k : ByteArray) (x : En) (n : Int) (pl pr : Option Addr) : Prop where
  blk : w.heap[b]? = some (.cells #[.string k, .string x.k, .string x.v, .int .i64 x.made, .int .i64 x.mod, .int .i64 n, .pointer pl, .pointer pr] 125 (0, 0))
structure NI (w : World) (b : Nat) (k : Int) (x : Sl) (n : Int) (pl pr : Option Addr) : Prop where
  blk : w.heap[b]? = some (.cells #[.int .i64 k, .slice x.a x.n x.c, .int .i64 n, .pointer pl, .pointer pr] 115 (0, 0))
theorem NS.lt {w : World} {b : Nat} {k : ByteArray} {x : En} {n : Int} {pl pr : Option Addr} (h : NS w b k x n pl pr) : b < w.heap.size := (Array.getElem?_eq_some_iff.1 h.blk).1
theorem NI.lt {w : World} {b : Nat} {k : Int} {x : Sl} {n : Int} {pl pr : Option Addr} (h : NI w b k x n pl pr) : b < w.heap.size := (Array.getElem?_eq_some_iff.1 h.blk).1
theorem NS.kept {w w' : World} {b : Nat} {k : ByteArray} {x : En} {n : Int} {pl pr : Option Addr} (h : NS w b k x n pl pr) (e : w'.heap[b]? = w.heap[b]?) : NS w' b k x n pl pr := ⟨e.trans h.blk⟩
theorem NI.kept {w w' : World} {b : Nat} {k : Int} {x : Sl} {n : Int} {pl pr : Option Addr} (h : NI w b k x n pl pr) (e : w'.heap[b]? = w.heap[b]?) : NI w' b k x n pl pr := ⟨e.trans h.blk⟩
theorem NS.cells {w : World} {b : Nat} {k : ByteArray} {x : En} {n : Int} {pl pr : Option Addr} (h : NS w b k x n pl pr) :
    w.cell? ⟨b, 0, none⟩ = some (.string k) ∧ w.cell? ⟨b, 1, none⟩ = some (.string x.k) ∧ w.cell? ⟨b, 2, none⟩ = some (.string x.v) ∧ w.cell? ⟨b, 3, none⟩ = some (.int .i64 x.made) ∧ w.cell? ⟨b, 4, none⟩ = some (.int .i64 x.mod) ∧ w.cell? ⟨b, 5, none⟩ = some (.int .i64 n) ∧ w.cell? ⟨b, 6, none⟩ = some (.pointer pl) ∧ w.cell? ⟨b, 7, none⟩ = some (.pointer pr) := by
  refine ⟨?_, ?_, ?_, ?_, ?_, ?_, ?_, ?_⟩ <;> simp [World.cell?, h.blk]
theorem NI.cells {w : World} {b : Nat} {k : Int} {x : Sl} {n : Int} {pl pr : Option Addr} (h : NI w b k x n pl pr) :
    w.cell? ⟨b, 0, none⟩ = some (.int .i64 k) ∧ w.cell? ⟨b, 1, none⟩ = some (.slice x.a x.n x.c) ∧ w.cell? ⟨b, 2, none⟩ = some (.int .i64 n) ∧ w.cell? ⟨b, 3, none⟩ = some (.pointer pl) ∧ w.cell? ⟨b, 4, none⟩ = some (.pointer pr) := by
  refine ⟨?_, ?_, ?_, ?_, ?_⟩ <;> simp [World.cell?, h.blk]
theorem NS.new (w : World) (k : ByteArray) (x : En) (n : Int) (pl pr : Option Addr) : NS (w.alloc (.cells #[.string k, .string x.k, .string x.v, .int .i64 x.made, .int .i64 x.mod, .int .i64 n, .pointer pl, .pointer pr] 125)) w.heap.size k x n pl pr := ⟨World.alloc_heap_new _ _⟩
theorem NI.new (w : World) (k : Int) (x : Sl) (n : Int) (pl pr : Option Addr) : NI (w.alloc (.cells #[.int .i64 k, .slice x.a x.n x.c, .int .i64 n, .pointer pl, .pointer pr] 115)) w.heap.size k x n pl pr := ⟨World.alloc_heap_new _ _⟩
/-- The tree at a pointer. -/
def SAt (w : World) : Option Addr → T ByteArray En → Prop
  | p, .nil => p = none
  | p, .node k x l r => ∃ b pl pr, p = some ⟨b, 0, none⟩ ∧ NS w b k x ((l.sz + 1 + r.sz : Nat) : Int) pl pr ∧ SAt w pl l ∧ SAt w pr r
def IAt (w : World) : Option Addr → T Int Sl → Prop
  | p, .nil => p = none
  | p, .node k x l r => ∃ b pl pr, p = some ⟨b, 0, none⟩ ∧ NI w b k x ((l.sz + 1 + r.sz : Nat) : Int) pl pr ∧ IAt w pl l ∧ IAt w pr r
theorem SAt.keep {w w' : World} (h : ∀ j, j < w.heap.size → w'.heap[j]? = w.heap[j]?) : ∀ {t : T ByteArray En} {p : Option Addr}, SAt w p t → SAt w' p t
  | .nil, _, ht => ht
  | .node _ _ _ _, _, ⟨b, pl, pr, hp, hn, hl, hr⟩ => ⟨b, pl, pr, hp, hn.kept (h b hn.lt), hl.keep h, hr.keep h⟩
theorem IAt.keep {w w' : World} (h : ∀ j, j < w.heap.size → w'.heap[j]? = w.heap[j]?) : ∀ {t : T Int Sl} {p : Option Addr}, IAt w p t → IAt w' p t
  | .nil, _, ht => ht
  | .node _ _ _ _, _, ⟨b, pl, pr, hp, hn, hl, hr⟩ => ⟨b, pl, pr, hp, hn.kept (h b hn.lt), hl.keep h, hr.keep h⟩
theorem SAt.below {w w' : World} (h : Below w.heap.size w w') {t : T ByteArray En} {p : Option Addr} (ht : SAt w p t) : SAt w' p t := ht.keep h.block
theorem IAt.below {w w' : World} (h : Below w.heap.size w w') {t : T Int Sl} {p : Option Addr} (ht : IAt w p t) : IAt w' p t := ht.keep h.block
theorem NS.below {w w' : World} (hb : Below w.heap.size w w') {b : Nat} {k : ByteArray} {x : En} {n : Int} {pl pr : Option Addr} (h : NS w b k x n pl pr) : NS w' b k x n pl pr := h.kept (hb.block b h.lt)
theorem NI.below {w w' : World} (hb : Below w.heap.size w w') {b : Nat} {k : Int} {x : Sl} {n : Int} {pl pr : Option Addr} (h : NI w b k x n pl pr) : NI w' b k x n pl pr := h.kept (hb.block b h.lt)
theorem scount_any (t : T ByteArray En) (p : Option Addr) (w : World) (h : SAt w p t) : Calls Try.prog 75 #[.pointer p] w fun e w' => e = .returned (.int .i64 ((t.sz : Nat) : Int)) ∧ w = w' := by
  cases t with
  | nil =>
    obtain rfl := h
    go_enter Try.func75, Try.ntmps75
    go_wp2
    go_ret
    exact ⟨rfl, rfl⟩
  | node k x l r =>
    obtain ⟨b, pl, pr, rfl, hn, -, -⟩ := h
    obtain ⟨-, -, -, -, -, c5, -, -⟩ := hn.cells
    clear hn
    rw [show T.sz (T.node k x l r) = l.sz + 1 + r.sz from rfl]
    generalize l.sz + 1 + r.sz = m at *
    go_enter Try.func75, Try.ntmps75
    go_wp2
    go_ret
    exact ⟨rfl, rfl⟩
theorem sweight_any (t : T ByteArray En) (p : Option Addr) (w : World) (h : SAt w p t) (hs : t.sz ≤ 1000000) : Calls Try.prog 94 #[.pointer p] w fun e w' => e = .returned (.int .i64 ((t.sz : Int) + 1)) ∧ w = w' := by
  have H := Lib.hid (scount_any t p w h)
  clear h
  generalize t.sz = m at *
  go_enter Try.func94, Try.ntmps94
  go_wp2_with (go_at_call 75; refine H.out.mono ?_; rintro e w' ⟨rfl, rfl⟩)
  go_ret
  exact ⟨rfl, rfl⟩
set_option maxHeartbeats 1000000 in
theorem sover_any (b : Nat) (k : ByteArray) (x : En) (n : Int) (ql qr : Option Addr) (l r : T ByteArray En) (pl pr : Option Addr) (w : World) (hn : NS w b k x n ql qr) (hl : SAt w pl l) (hr : SAt w pr r) (hsl : l.sz ≤ 1000000) (hsr : r.sz ≤ 1000000) :
    Calls Try.prog 95 #[.pointer (some ⟨b, 0, none⟩), .pointer pl, .pointer pr] w fun e w' => ∃ b', e = .returned (.pointer (some ⟨b', 0, none⟩)) ∧ NS w' b' k x ((l.sz + 1 + r.sz : Nat) : Int) pl pr ∧ Below w.heap.size w w' := by
  have HL : Hid (∀ W [Bl w W], Calls Try.prog 75 #[.pointer pl] W fun e w' => e = .returned (.int .i64 ((l.sz : Nat) : Int)) ∧ W = w') := Lib.hid fun W i => scount_any l pl W (hl.below i.h)
  have HR : Hid (∀ W [Bl w W], Calls Try.prog 75 #[.pointer pr] W fun e w' => e = .returned (.int .i64 ((r.sz : Nat) : Int)) ∧ W = w') := Lib.hid fun W i => scount_any r pr W (hr.below i.h)
  have HN := Lib.hid hn
  have HSS : Hid (∀ W [Bl w W], W.cell? ⟨b, 0, none⟩ = some (.string k) ∧ W.cell? ⟨b, 1, none⟩ = some (.string x.k) ∧ W.cell? ⟨b, 2, none⟩ = some (.string x.v) ∧ W.cell? ⟨b, 3, none⟩ = some (.int .i64 x.made) ∧ W.cell? ⟨b, 4, none⟩ = some (.int .i64 x.mod)) := Lib.hid fun W i => by
    obtain ⟨c0, c1, c2, c3, c4, -, -, -⟩ := (HN.out.below i.h).cells
    exact ⟨c0, c1, c2, c3, c4⟩
  obtain ⟨c0, c1, c2, c3, c4, -, -, -⟩ := hn.cells
  clear hn hl hr
  generalize l.sz = m at *
  generalize r.sz = m' at *
  have y0 : IntKind.i64.wrap ((m : Int) + 1) = (m : Int) + 1 := IntWalk.i64_in _ (by omega)
  have y1 : IntKind.i64.wrap ((m : Int) + 1 + (m' : Int)) = ((m + 1 + m' : Nat) : Int) := by rw [IntWalk.i64_in _ (by omega)]; omega
  go_enter Try.func95, Try.ntmps95
  go_wp2_with fail
  go_region_held3 (fun w' => w'.cell? ⟨b, 0, none⟩ = some (.string k) ∧ w'.cell? ⟨b, 1, none⟩ = some (.string x.k) ∧ w'.cell? ⟨b, 2, none⟩ = some (.string x.v) ∧ w'.cell? ⟨b, 3, none⟩ = some (.int .i64 x.made) ∧ w'.cell? ⟨b, 4, none⟩ = some (.int .i64 x.mod)) (first | exact HSS.out _ | fail) (first
    | (go_at_call 75; ((with_reducible refine (HL.out _).mono ?_); rintro e w' ⟨rfl, rfl⟩))
    | (go_at_call 75; ((with_reducible refine (HR.out _).mono ?_); rintro e w' ⟨rfl, rfl⟩))
    | fail)
  go_wp2
  go_ret
  exact ⟨w.heap.size, rfl, ((NS.new w k x _ pl pr).kept rfl), ((Below.refl _ w).alloc (Nat.le_refl _) _).drew⟩
theorem icount_any (t : T Int Sl) (p : Option Addr) (w : World) (h : IAt w p t) : Calls Try.prog 97 #[.pointer p] w fun e w' => e = .returned (.int .i64 ((t.sz : Nat) : Int)) ∧ w = w' := by
  cases t with
  | nil =>
    obtain rfl := h
    go_enter Try.func97, Try.ntmps97
    go_wp2
    go_ret
    exact ⟨rfl, rfl⟩
  | node k x l r =>
    obtain ⟨b, pl, pr, rfl, hn, -, -⟩ := h
    obtain ⟨-, -, c5, -, -⟩ := hn.cells
    clear hn
    rw [show T.sz (T.node k x l r) = l.sz + 1 + r.sz from rfl]
    generalize l.sz + 1 + r.sz = m at *
    go_enter Try.func97, Try.ntmps97
    go_wp2
    go_ret
    exact ⟨rfl, rfl⟩
theorem iweight_any (t : T Int Sl) (p : Option Addr) (w : World) (h : IAt w p t) (hs : t.sz ≤ 1000000) : Calls Try.prog 90 #[.pointer p] w fun e w' => e = .returned (.int .i64 ((t.sz : Int) + 1)) ∧ w = w' := by
  have H := Lib.hid (icount_any t p w h)
  clear h
  generalize t.sz = m at *
  go_enter Try.func90, Try.ntmps90
  go_wp2_with (go_at_call 97; refine H.out.mono ?_; rintro e w' ⟨rfl, rfl⟩)
  go_ret
  exact ⟨rfl, rfl⟩
set_option maxHeartbeats 1000000 in
theorem iover_any (b : Nat) (k : Int) (x : Sl) (n : Int) (ql qr : Option Addr) (l r : T Int Sl) (pl pr : Option Addr) (w : World) (hn : NI w b k x n ql qr) (hl : IAt w pl l) (hr : IAt w pr r) (hsl : l.sz ≤ 1000000) (hsr : r.sz ≤ 1000000) :
    Calls Try.prog 91 #[.pointer (some ⟨b, 0, none⟩), .pointer pl, .pointer pr] w fun e w' => ∃ b', e = .returned (.pointer (some ⟨b', 0, none⟩)) ∧ NI w' b' k x ((l.sz + 1 + r.sz : Nat) : Int) pl pr ∧ Below w.heap.size w w' := by
  have HL : Hid (∀ W [Bl w W], Calls Try.prog 97 #[.pointer pl] W fun e w' => e = .returned (.int .i64 ((l.sz : Nat) : Int)) ∧ W = w') := Lib.hid fun W i => icount_any l pl W (hl.below i.h)
  have HR : Hid (∀ W [Bl w W], Calls Try.prog 97 #[.pointer pr] W fun e w' => e = .returned (.int .i64 ((r.sz : Nat) : Int)) ∧ W = w') := Lib.hid fun W i => icount_any r pr W (hr.below i.h)
  have HN := Lib.hid hn
  have HSS : Hid (∀ W [Bl w W], W.cell? ⟨b, 0, none⟩ = some (.int .i64 k) ∧ W.cell? ⟨b, 1, none⟩ = some (.slice x.a x.n x.c)) := Lib.hid fun W i => by
    obtain ⟨c0, c1, -, -, -⟩ := (HN.out.below i.h).cells
    exact ⟨c0, c1⟩
  obtain ⟨c0, c1, -, -, -⟩ := hn.cells
  clear hn hl hr
  generalize l.sz = m at *
  generalize r.sz = m' at *
  have y0 : IntKind.i64.wrap ((m : Int) + 1) = (m : Int) + 1 := IntWalk.i64_in _ (by omega)
  have y1 : IntKind.i64.wrap ((m : Int) + 1 + (m' : Int)) = ((m + 1 + m' : Nat) : Int) := by rw [IntWalk.i64_in _ (by omega)]; omega
  go_enter Try.func91, Try.ntmps91
  go_wp2_with fail
  go_region_held3 (fun w' => w'.cell? ⟨b, 0, none⟩ = some (.int .i64 k) ∧ w'.cell? ⟨b, 1, none⟩ = some (.slice x.a x.n x.c)) (first | exact HSS.out _ | fail) (first
    | (go_at_call 97; ((with_reducible refine (HL.out _).mono ?_); rintro e w' ⟨rfl, rfl⟩))
    | (go_at_call 97; ((with_reducible refine (HR.out _).mono ?_); rintro e w' ⟨rfl, rfl⟩))
    | fail)
  go_wp2
  go_ret
  exact ⟨w.heap.size, rfl, ((NI.new w k x _ pl pr).kept rfl), ((Below.refl _ w).alloc (Nat.le_refl _) _).drew⟩
end Go.Proofs.Ytbfkgbickjfcjaa
