/- The contracts of a reader's methods, over the seat's own program: what is asked of it, by what the functions beneath tell. -/
import Derived.Test.YtpcpbdcdapmlnaaDoorRf
import Derived.Test.YtpcpbdcdapmlnaaDoorPu
import Derived.Deep.QuietTactic
import Derived.BigQuiet
import Derived.Handy
namespace Go.Proofs.YtpcpbdcdapmlnaaDoor
open Go.RowKit
/-- A reader's three cells in block b. -/
structure RdAt (w : World) (b : Nat) (s : ByteArray) (a e : Int) : Prop where
  c0 : w.cell? ⟨b, 0, none⟩ = some (.string s)
  c1 : w.cell? ⟨b, 1, none⟩ = some (.int .i64 a)
  c2 : w.cell? ⟨b, 2, none⟩ = some (.int .i64 e)
  f1 : w.frozen? ⟨b, 1, none⟩ = false
  f2 : w.frozen? ⟨b, 2, none⟩ = false
theorem RdAt.congr {w w' : World} {b : Nat} {s : ByteArray} {a e : Int} (h : RdAt w b s a e) (hb : w'.heap[b]? = w.heap[b]?) : RdAt w' b s a e :=
  ⟨(World.cell?_of_block (a := ⟨b, 0, none⟩) hb).trans h.c0, (World.cell?_of_block (a := ⟨b, 1, none⟩) hb).trans h.c1, (World.cell?_of_block (a := ⟨b, 2, none⟩) hb).trans h.c2,
    (World.frozen?_of_block (a := ⟨b, 1, none⟩) hb).trans h.f1, (World.frozen?_of_block (a := ⟨b, 2, none⟩) hb).trans h.f2⟩
theorem RdAt.lt {w : World} {b : Nat} {s : ByteArray} {a e : Int} (h : RdAt w b s a e) : b < w.heap.size := World.block_lt_of_cell? w ⟨b, 0, none⟩ h.c0
theorem RdAt.at {w : World} {b : Nat} {s : ByteArray} {a e x : Int} (h : RdAt w b s a e) : RdAt (w.setCell ⟨b, 1, none⟩ (.int .i64 x)) b s x e :=
  ⟨by rw [World.cell?_setCell_other _ _ _ _ (by simp)]; exact h.c0, World.cell?_setCell_same _ _ _ h.c1, by rw [World.cell?_setCell_other _ _ _ _ (by simp)]; exact h.c2,
    by rw [World.frozen?_setCell]; exact h.f1, by rw [World.frozen?_setCell]; exact h.f2⟩
theorem RdAt.err {w : World} {b : Nat} {s : ByteArray} {a e x : Int} (h : RdAt w b s a e) : RdAt (w.setCell ⟨b, 2, none⟩ (.int .i64 x)) b s a x :=
  ⟨by rw [World.cell?_setCell_other _ _ _ _ (by simp)]; exact h.c0, by rw [World.cell?_setCell_other _ _ _ _ (by simp)]; exact h.c1, World.cell?_setCell_same _ _ _ h.c2,
    by rw [World.frozen?_setCell]; exact h.f1, by rw [World.frozen?_setCell]; exact h.f2⟩
/-- What a call on a reader leaves: the value; the reader's new cells; nothing else that was there has turned. -/
def RdRet (w : World) (b : Nat) (s : ByteArray) (v : Value) (a e : Int) (en : Ending) (w' : World) : Prop :=
  en = .returned v ∧ RdAt w' b s a e ∧ w.grownBy w' (some b)
theorem grown_drewN (w : World) (m b : Nat) : w.grownBy (w.drewN m) (some b) := ⟨rfl, rfl, rfl, Nat.le_refl _, fun _ _ _ => rfl⟩
theorem grown_set (w : World) (m b j : Nat) (u : Value) : w.grownBy ((w.drewN m).setCell ⟨b, j, none⟩ u) (some b) :=
  ⟨rfl, rfl, rfl, by simp [World.setCell], fun k _ hk => Below.heap_setCell (w.drewN m) _ _ k (fun e => hk (by rw [e]))⟩
theorem RdAt.drewN {w : World} {b : Nat} {s : ByteArray} {a e : Int} (h : RdAt w b s a e) (m : Nat) : RdAt (w.drewN m) b s a e := h.congr rfl
set_option maxRecDepth 100000 in
set_option maxHeartbeats 400000 in
theorem err_any (b : Nat) (e : Int) (w : World) (hc : w.cell? ⟨b, 2, none⟩ = some (.int .i64 e)) :
    Calls Tryd.prog 70 #[.pointer (some ⟨b, 0, none⟩)] w fun en w' => en = .returned (.int .i64 e) ∧ w = w' := by
  go_enter Tryd.func70, Tryd.ntmps70
  go_wp2
  go_ret
  exact ⟨rfl, rfl⟩
set_option maxRecDepth 100000 in
set_option maxHeartbeats 400000 in
theorem left_any (b : Nat) (s : ByteArray) (a : Int) (w : World) (hc0 : w.cell? ⟨b, 0, none⟩ = some (.string s)) (hc1 : w.cell? ⟨b, 1, none⟩ = some (.int .i64 a)) (ha : 0 ≤ a) (ha2 : a ≤ (s.size : Int)) (hs : s.size ≤ 140737488351232) :
    Calls Tryd.prog 73 #[.pointer (some ⟨b, 0, none⟩)] w fun en w' => en = .returned (.int .i64 ((s.size : Int) - a)) ∧ ∃ m, w' = w.drewN m := by
  go_enter Tryd.func73, Tryd.ntmps73
  go_wp2
  go_quiet (fail)
  go_wp2
  go_ret
  exact ⟨rfl, _, rfl⟩
set_option maxRecDepth 100000 in
set_option maxHeartbeats 400000 in
theorem take_ok (b : Nat) (s : ByteArray) (a x : Int) (w : World) (h : RdAt w b s a 0) :
    Calls Tryd.prog 72 #[.pointer (some ⟨b, 0, none⟩), .int .i64 x, .int .i64 0] w fun en w' => en = .returned (.tuple #[]) ∧ w.setCell ⟨b, 1, none⟩ (.int .i64 x) = w' := by
  have c1 := h.c1
  have f1 := h.f1
  clear h
  go_enter Tryd.func72, Tryd.ntmps72
  go_wp2
  go_end0
  exact ⟨rfl, rfl⟩
set_option maxRecDepth 100000 in
set_option maxHeartbeats 400000 in
theorem take_no (b : Nat) (s : ByteArray) (a x k : Int) (w : World) (h : RdAt w b s a 0) (hk : (k != 0) = true) :
    Calls Tryd.prog 72 #[.pointer (some ⟨b, 0, none⟩), .int .i64 x, .int .i64 k] w fun en w' => en = .returned (.tuple #[]) ∧ w.setCell ⟨b, 2, none⟩ (.int .i64 k) = w' := by
  have c2 := h.c2
  have f2 := h.f2
  clear h
  go_enter Tryd.func72, Tryd.ntmps72
  go_wp2
  refine bodyPost_ret (results_none rfl _ _ _) rfl ?_
  exact ⟨rfl, rfl⟩
set_option maxRecDepth 100000 in
set_option maxHeartbeats 400000 in
theorem mvarint_ok (b : Nat) (s : ByteArray) (a : Int) (most : Int) (n : Int) (x : Int) (w : World) (h : RdAt w b s a 0)
    (hT : ∀ w : World, Calls Tryd.prog 71 #[.string s, .int .i64 a, .int .u64 most] w fun e w' => e = .returned (.tuple #[.int .u64 n, .int .i64 x, .int .i64 0]) ∧ w = w') :
    Calls Tryd.prog 50 #[.pointer (some ⟨b, 0, none⟩), .int .u64 most] w (RdRet w b s (.int .u64 n) x 0) := by
  have c0 := h.c0
  have c1 := h.c1
  have c2 := h.c2
  have H := Lib.hid h
  have T := Lib.hid hT
  clear h hT
  go_enter Tryd.func50, Tryd.ntmps50
  go_wp2_with (go_at_call 70; refine (err_any b 0 _ c2).mono ?_; rintro e w' ⟨rfl, rfl⟩)
  go_quiet ((go_at_call 71; exact Calls.quiet_of_same ((T.out _).mono fun _ _ h => ⟨h.1, h.2.symm⟩)))
  rename_i nq
  go_wp2_with (go_at_call 72; refine (take_ok b s a x _ (H.out.drewN nq)).mono ?_; rintro e w' ⟨rfl, rfl⟩)
  go_ret
  exact ⟨rfl, (H.out.drewN _).at, grown_set _ _ _ _ _⟩
set_option maxRecDepth 100000 in
set_option maxHeartbeats 400000 in
theorem mvarint_no (b : Nat) (s : ByteArray) (a : Int) (most : Int) (k : Int) (w : World) (h : RdAt w b s a 0) (hk : (k != 0) = true)
    (hT : ∀ w : World, Calls Tryd.prog 71 #[.string s, .int .i64 a, .int .u64 most] w fun e w' => e = .returned (.tuple #[.int .u64 0, .int .i64 0, .int .i64 k]) ∧ w = w') :
    Calls Tryd.prog 50 #[.pointer (some ⟨b, 0, none⟩), .int .u64 most] w (RdRet w b s (.int .u64 0) a k) := by
  have c0 := h.c0
  have c1 := h.c1
  have c2 := h.c2
  have H := Lib.hid h
  have T := Lib.hid hT
  clear h hT
  go_enter Tryd.func50, Tryd.ntmps50
  go_wp2_with (go_at_call 70; refine (err_any b 0 _ c2).mono ?_; rintro e w' ⟨rfl, rfl⟩)
  go_quiet ((go_at_call 71; exact Calls.quiet_of_same ((T.out _).mono fun _ _ h => ⟨h.1, h.2.symm⟩)))
  rename_i nq
  go_wp2_with (go_at_call 72; refine (take_no b s a 0 k _ (H.out.drewN nq) hk).mono ?_; rintro e w' ⟨rfl, rfl⟩)
  go_ret
  exact ⟨rfl, (H.out.drewN _).err, grown_set _ _ _ _ _⟩
set_option maxRecDepth 100000 in
set_option maxHeartbeats 400000 in
theorem mvarint_err (b : Nat) (s : ByteArray) (a e : Int) (most : Int) (w : World) (h : RdAt w b s a e) (he : (e != 0) = true) :
    Calls Tryd.prog 50 #[.pointer (some ⟨b, 0, none⟩), .int .u64 most] w (RdRet w b s (.int .u64 0) a e) := by
  have c2 := h.c2
  have H := Lib.hid h
  clear h
  go_enter Tryd.func50, Tryd.ntmps50
  go_wp2_with (go_at_call 70; refine (err_any b e _ c2).mono ?_; rintro e w' ⟨rfl, rfl⟩)
  go_ret
  exact ⟨rfl, H.out, World.grownBy.refl w _⟩
end Go.Proofs.YtpcpbdcdapmlnaaDoor
