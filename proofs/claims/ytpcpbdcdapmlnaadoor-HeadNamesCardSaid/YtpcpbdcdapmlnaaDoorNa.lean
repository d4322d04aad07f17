/- Nobody's disk: what Load and Put tell of none. -/
import Derived.Test.YtpcpbdcdapmlnaaDoorHv
namespace Go.Proofs.YtpcpbdcdapmlnaaDoor
open Go Go.RowKit
set_option maxRecDepth 100000
theorem nil_ready (w : World) : Calls Tryd.prog 62 #[.pointer none] w (fun e w' => e = .returned (.int .i64 2) ∧ w = w') := by
  go_enter Tryd.func62, Tryd.ntmps62
  go_wp2
  go_ret
  exact ⟨rfl, rfl⟩
theorem nil_at (t : Int) (w : World) : Calls Tryd.prog 86 #[.pointer none, .int .i64 t] w (fun e w' => e = .returned (.tuple #[.pointer none, .int .i64 2]) ∧ w = w') := by
  go_enter Tryd.func86, Tryd.ntmps86
  go_wp2_with fail
  refine (nil_ready _).mono ?_
  rintro e w' ⟨rfl, rfl⟩
  go_wp2
  go_ret2
  exact ⟨rfl, rfl⟩
theorem nil_read (t : Int) (w : World) : Calls Tryd.prog 74 #[.pointer none, .int .i64 t] w (fun e w' => e = .returned (.tuple #[.string ⟨#[]⟩, .int .i64 2]) ∧ w = w') := by
  go_enter Tryd.func74, Tryd.ntmps74
  go_wp2_with fail
  refine (nil_at _ _).mono ?_
  rintro e w' ⟨rfl, rfl⟩
  go_wp2
  go_ret2
  exact ⟨rfl, rfl⟩
set_option maxHeartbeats 1000000 in
theorem heads_nil (w : World) : Calls Tryd.prog 53 #[.pointer none] w (PrRet w he0 he0 (.int .i64 2)) := by
  have HR := Lib.hid (fun W => nil_read 0 W)
  have X0 := Lib.hid ((Box8.new w (.int .i64 0) (.int .i64 0) (.int .i64 0) (.slice none 0 0) (.int .i64 0) (.int .i64 0) (.int .i64 0) (.slice none 0 0)).alloc (.cells #[.int .i64 0, .int .i64 0, .int .i64 0, .slice none 0 0, .int .i64 0, .int .i64 0, .int .i64 0, .slice none 0 0] 84))
  have HB := Lib.hid (below_two w (.cells #[.int .i64 0, .int .i64 0, .int .i64 0, .slice none 0 0, .int .i64 0, .int .i64 0, .int .i64 0, .slice none 0 0] 84) (.cells #[.int .i64 0, .int .i64 0, .int .i64 0, .slice none 0 0, .int .i64 0, .int .i64 0, .int .i64 0, .slice none 0 0] 84))
  go_enter Tryd.func53, Tryd.ntmps53
  go_wp2
  go_loopw [8] (fun i wl => i = .int .i64 0 ∧ Hid (Box8 wl w.heap.size (.int .i64 0) (.int .i64 0) (.int .i64 0) (.slice none 0 0) (.int .i64 0) (.int .i64 0) (.int .i64 0) (.slice none 0 0)) ∧ Hid (Below w.heap.size w wl)) (fun _ _ => 0)
  case atStart => exact ⟨rfl, X0, HB⟩
  case round =>
    obtain ⟨rfl, HX, HW⟩ := hrel
    go_wp2_with fail
    refine (HR.out _).mono ?_
    rintro e w1 ⟨rfl, rfl⟩
    have q0 := HX.out.c0; have q1 := HX.out.c1; have q2 := HX.out.c2; have q3 := HX.out.c3
    have q4 := HX.out.c4; have q5 := HX.out.c5; have q6 := HX.out.c6; have q7 := HX.out.c7
    have z0 := HX.out.free 0; have z1 := HX.out.free 1; have z2 := HX.out.free 2; have z3 := HX.out.free 3
    have z4 := HX.out.free 4; have z5 := HX.out.free 5; have z6 := HX.out.free 6; have z7 := HX.out.free 7
    go_wp2
    have hg := grown_set4 wr w.heap.size (.int .i64 0) (.int .i64 0) (.int .i64 0) (.slice none 0 0)
    have hg2 := grown_trans hg (grown_set4h _ w.heap.size (.int .i64 0) (.int .i64 0) (.int .i64 0) (.slice none 0 0))
    exact ret8 Tryd.results53 w.heap.size rfl rfl rfl (HX.out.all _ _ _ _ _ _ _ _) ⟨.slice none 0 0, .slice none 0 0, rfl, Own.nil _ _, Own.nil _ _, below_grown HW.out hg2 HW.out.size (Nat.le_refl _)⟩
theorem load_nil (w : World) : Calls Tryd.prog 17 #[.pointer none] w (LdRet w he0 0 false 2) := load_fail (.pointer none) 2 (by decide) w (fun W _ => heads_nil W)
set_option maxHeartbeats 1000000 in
theorem put_nil (g b s : Int) (v : Value) (w : World) : Calls Tryd.prog 14 #[.pointer none, .agg #[.int .i64 g, .int .i64 b, .int .i64 s, v]] w (Ret w (.int .i64 2)) := by
  have HA : Hid (Below w.heap.size w ((w.alloc (.cells #[.pointer none] 31)).alloc (.cells #[.int .i64 g, .int .i64 b, .int .i64 s, v] 26))) := Lib.hid (below_two _ _ _)
  go_enter Tryd.func14, Tryd.ntmps14
  go_wp2_with fail
  go_ret
  exact ⟨rfl, HA.out⟩
end Go.Proofs.YtpcpbdcdapmlnaaDoor
namespace Go.Proofs.YtpcpbdcdapmlnaaDoor
open Go Go.RowKit
set_option maxRecDepth 100000
def bad (k : Nat) : He :=
  match k with
  | 0 => ⟨0, 0, 0, []⟩
  | 1 => ⟨1, 0, 0, []⟩
  | 2 => ⟨0, 0, 0, [2]⟩
  | 3 => ⟨1099511627777, 0, 0, [2]⟩
  | 4 => ⟨1, 1, 0, [2]⟩
  | 5 => ⟨1, (-1), 3, [2]⟩
  | 6 => ⟨1, 1099511627777, 3, [2]⟩
  | 7 => ⟨1, 0, 1, [2]⟩
  | 8 => ⟨1, 0, 32, [2]⟩
  | 9 => ⟨1, 0, 2, [2]⟩
  | 10 => ⟨1, 0, (-1), [2]⟩
  | 11 => ⟨1, 0, 0, [0]⟩
  | 12 => ⟨1, 0, 0, [1]⟩
  | 13 => ⟨1, 0, 0, [32]⟩
  | 14 => ⟨1, 0, 0, [-2]⟩
  | _ => ⟨1, 0, 0, [4, 5, 4]⟩
theorem bad_no (k : Nat) (h : k < 16) : mayB (bad k) = false := by
  match k, h with
  | 0, _ => rfl
  | 1, _ => rfl
  | 2, _ => rfl
  | 3, _ => rfl
  | 4, _ => rfl
  | 5, _ => rfl
  | 6, _ => rfl
  | 7, _ => rfl
  | 8, _ => rfl
  | 9, _ => rfl
  | 10, _ => rfl
  | 11, _ => rfl
  | 12, _ => rfl
  | 13, _ => rfl
  | 14, _ => rfl
  | 15, _ => rfl
  | n + 16, h => omega
theorem bad_len (k : Nat) : (bad k).log.length ≤ 9223372036854775807 := by
  have : (bad k).log.length ≤ 3 := by
    unfold bad
    split <;> simp
  omega
/-- The log of the k-th one, as it lies. -/
def lv (n k : Nat) : Value :=
  match k with
  | 0 => .slice none 0 0
  | 1 => .slice none 0 0
  | 2 => .slice (some ⟨n, 0, none⟩) 1 1
  | 3 => .slice (some ⟨n + 1, 0, none⟩) 1 1
  | 4 => .slice (some ⟨n + 2, 0, none⟩) 1 1
  | 5 => .slice (some ⟨n + 3, 0, none⟩) 1 1
  | 6 => .slice (some ⟨n + 4, 0, none⟩) 1 1
  | 7 => .slice (some ⟨n + 5, 0, none⟩) 1 1
  | 8 => .slice (some ⟨n + 6, 0, none⟩) 1 1
  | 9 => .slice (some ⟨n + 7, 0, none⟩) 1 1
  | 10 => .slice (some ⟨n + 8, 0, none⟩) 1 1
  | 11 => .slice (some ⟨n + 9, 0, none⟩) 1 1
  | 12 => .slice (some ⟨n + 10, 0, none⟩) 1 1
  | 13 => .slice (some ⟨n + 11, 0, none⟩) 1 1
  | 14 => .slice (some ⟨n + 12, 0, none⟩) 1 1
  | _ => .slice (some ⟨n + 13, 0, none⟩) 3 3
def rowV (n : Nat) : Array Value := #[.int .i64 0, .int .i64 0, .int .i64 0, .slice none 0 0, .int .i64 1, .int .i64 0, .int .i64 0, .slice none 0 0, .int .i64 0, .int .i64 0, .int .i64 0, .slice (some ⟨n, 0, none⟩) 1 1, .int .i64 1099511627777, .int .i64 0, .int .i64 0, .slice (some ⟨n + 1, 0, none⟩) 1 1, .int .i64 1, .int .i64 1, .int .i64 0, .slice (some ⟨n + 2, 0, none⟩) 1 1, .int .i64 1, .int .i64 (-1), .int .i64 3, .slice (some ⟨n + 3, 0, none⟩) 1 1, .int .i64 1, .int .i64 1099511627777, .int .i64 3, .slice (some ⟨n + 4, 0, none⟩) 1 1, .int .i64 1, .int .i64 0, .int .i64 1, .slice (some ⟨n + 5, 0, none⟩) 1 1, .int .i64 1, .int .i64 0, .int .i64 32, .slice (some ⟨n + 6, 0, none⟩) 1 1, .int .i64 1, .int .i64 0, .int .i64 2, .slice (some ⟨n + 7, 0, none⟩) 1 1, .int .i64 1, .int .i64 0, .int .i64 (-1), .slice (some ⟨n + 8, 0, none⟩) 1 1, .int .i64 1, .int .i64 0, .int .i64 0, .slice (some ⟨n + 9, 0, none⟩) 1 1, .int .i64 1, .int .i64 0, .int .i64 0, .slice (some ⟨n + 10, 0, none⟩) 1 1, .int .i64 1, .int .i64 0, .int .i64 0, .slice (some ⟨n + 11, 0, none⟩) 1 1, .int .i64 1, .int .i64 0, .int .i64 0, .slice (some ⟨n + 12, 0, none⟩) 1 1, .int .i64 1, .int .i64 0, .int .i64 0, .slice (some ⟨n + 13, 0, none⟩) 3 3]
def osR (n : Nat) : List Obj := [.cells #[.int .i64 2] 3, .cells #[.int .i64 2] 3, .cells #[.int .i64 2] 3, .cells #[.int .i64 2] 3, .cells #[.int .i64 2] 3, .cells #[.int .i64 2] 3, .cells #[.int .i64 2] 3, .cells #[.int .i64 2] 3, .cells #[.int .i64 2] 3, .cells #[.int .i64 0] 3, .cells #[.int .i64 1] 3, .cells #[.int .i64 32] 3, .cells #[.int .i64 (-2)] 3, .cells #[.int .i64 4, .int .i64 5, .int .i64 4] 3, .cells (rowV n) 26]
/-- Blocks that are made one behind the other. -/
theorem allocs_at : ∀ (os : List Obj) (w : World) (i : Nat) (o : Obj), os[i]? = some o → (os.foldl World.alloc w).heap[w.heap.size + i]? = some o
  | [], _, _, _, h => by simp at h
  | p :: os, w, 0, o, h => by
    have hp : p = o := by simpa using h
    subst hp
    have hb : ∀ (os : List Obj) (w : World), Below w.heap.size w (os.foldl World.alloc w) := fun os => by
      induction os with
      | nil => exact fun w => Below.refl _ _
      | cons q os ih => exact fun w => below_trans' (below_one w q) (ih _)
    have := (hb os (w.alloc p)).block w.heap.size (by simp)
    exact this.trans (heap_alloc_new w p)
  | p :: os, w, i + 1, o, h => by
    have := allocs_at os (w.alloc p) i o (by simpa using h)
    rw [World.size_alloc] at this
    rw [show w.heap.size + (i + 1) = w.heap.size + 1 + i by omega]
    exact this
theorem allocs_below : ∀ (os : List Obj) (w : World), Below w.heap.size w (os.foldl World.alloc w)
  | [], w => Below.refl _ _
  | q :: os, w => below_trans' (below_one w q) (allocs_below os _)
/-- The row of heads that may not be, and their logs. -/
structure Trow (n : Nat) (W : World) : Prop where
  b : ∀ i o, (osR n)[i]? = some o → W.heap[n + i]? = some o
  s : n + 15 ≤ W.heap.size
theorem Trow.new (w : World) : Trow w.heap.size ((osR w.heap.size).foldl World.alloc w) :=
  ⟨fun i o h => allocs_at _ w i o h, by
    have := (Array.getElem?_eq_some_iff.1 (allocs_at (osR w.heap.size) w 14 _ rfl)).1
    omega⟩
theorem osR_len (n i : Nat) (o : Obj) (h : (osR n)[i]? = some o) : i < 15 := (List.getElem?_eq_some_iff.1 h).1
theorem Trow.below {n : Nat} {W W' : World} (h : Trow n W) (hb : Below W.heap.size W W') : Trow n W' :=
  ⟨fun i o hi => (hb.block (n + i) (by have := osR_len n i o hi; have := h.s; omega)).trans (h.b i o hi), Nat.le_trans h.s hb.size⟩
theorem Trow.grown {n B : Nat} {W W' : World} (h : Trow n W) (hg : W.grownBy W' (some B)) (hB : n + 15 ≤ B) : Trow n W' :=
  ⟨fun i o hi => by
    have h1 := osR_len n i o hi
    have h2 := h.s
    exact (hg.block (n + i) (by omega) (fun e => by cases e; omega)).trans (h.b i o hi), Nat.le_trans h.s hg.size⟩
theorem Trow.cell {n : Nat} {W : World} (h : Trow n W) (j : Nat) (v : Value) (hv : (rowV n)[j]? = some v) : W.cell? ⟨n + 14, j, none⟩ = some v := by
  have h1 : W.heap[n + 14]? = some (.cells (rowV n) 26 (0, 0)) := h.b 14 _ rfl
  have h2 : W.cell? ⟨n + 14, j, none⟩ = (rowV n)[j]? := by simp [World.cell?, h1]
  exact h2.trans hv
theorem Trow.c {n : Nat} {W : World} (h : Trow n W) (k : Nat) (hk : k < 16) : W.cell? ⟨n + 14, k * 4, none⟩ = some (.int .i64 (bad k).gen) ∧ W.cell? ⟨n + 14, k * 4 + 1, none⟩ = some (.int .i64 (bad k).base) ∧ W.cell? ⟨n + 14, k * 4 + 2, none⟩ = some (.int .i64 (bad k).snap) ∧ W.cell? ⟨n + 14, k * 4 + 3, none⟩ = some (lv n k) := by
  match k, hk with
  | 0, _ => exact ⟨h.cell 0 _ rfl, h.cell 1 _ rfl, h.cell 2 _ rfl, h.cell 3 _ rfl⟩
  | 1, _ => exact ⟨h.cell 4 _ rfl, h.cell 5 _ rfl, h.cell 6 _ rfl, h.cell 7 _ rfl⟩
  | 2, _ => exact ⟨h.cell 8 _ rfl, h.cell 9 _ rfl, h.cell 10 _ rfl, h.cell 11 _ rfl⟩
  | 3, _ => exact ⟨h.cell 12 _ rfl, h.cell 13 _ rfl, h.cell 14 _ rfl, h.cell 15 _ rfl⟩
  | 4, _ => exact ⟨h.cell 16 _ rfl, h.cell 17 _ rfl, h.cell 18 _ rfl, h.cell 19 _ rfl⟩
  | 5, _ => exact ⟨h.cell 20 _ rfl, h.cell 21 _ rfl, h.cell 22 _ rfl, h.cell 23 _ rfl⟩
  | 6, _ => exact ⟨h.cell 24 _ rfl, h.cell 25 _ rfl, h.cell 26 _ rfl, h.cell 27 _ rfl⟩
  | 7, _ => exact ⟨h.cell 28 _ rfl, h.cell 29 _ rfl, h.cell 30 _ rfl, h.cell 31 _ rfl⟩
  | 8, _ => exact ⟨h.cell 32 _ rfl, h.cell 33 _ rfl, h.cell 34 _ rfl, h.cell 35 _ rfl⟩
  | 9, _ => exact ⟨h.cell 36 _ rfl, h.cell 37 _ rfl, h.cell 38 _ rfl, h.cell 39 _ rfl⟩
  | 10, _ => exact ⟨h.cell 40 _ rfl, h.cell 41 _ rfl, h.cell 42 _ rfl, h.cell 43 _ rfl⟩
  | 11, _ => exact ⟨h.cell 44 _ rfl, h.cell 45 _ rfl, h.cell 46 _ rfl, h.cell 47 _ rfl⟩
  | 12, _ => exact ⟨h.cell 48 _ rfl, h.cell 49 _ rfl, h.cell 50 _ rfl, h.cell 51 _ rfl⟩
  | 13, _ => exact ⟨h.cell 52 _ rfl, h.cell 53 _ rfl, h.cell 54 _ rfl, h.cell 55 _ rfl⟩
  | 14, _ => exact ⟨h.cell 56 _ rfl, h.cell 57 _ rfl, h.cell 58 _ rfl, h.cell 59 _ rfl⟩
  | 15, _ => exact ⟨h.cell 60 _ rfl, h.cell 61 _ rfl, h.cell 62 _ rfl, h.cell 63 _ rfl⟩
  | n + 16, h => omega
theorem kat_1 {W : World} {g : Nat} {x : Int} (h : W.heap[g]? = some (.cells #[.int .i64 x] 3 (0, 0))) : KAt W (.slice (some ⟨g, 0, none⟩) 1 1) [x] :=
  .inr ⟨g, 0, 1, rfl, Nat.le_refl _, fun j hj => by
    obtain rfl : j = 0 := by simpa using hj
    simp [World.cell?, h]⟩
theorem kat_3 {W : World} {g : Nat} {x y z : Int} (h : W.heap[g]? = some (.cells #[.int .i64 x, .int .i64 y, .int .i64 z] 3 (0, 0))) : KAt W (.slice (some ⟨g, 0, none⟩) 3 3) [x, y, z] :=
  .inr ⟨g, 0, 3, rfl, Nat.le_refl _, fun j hj => by
    match j, hj with
    | 0, _ => simp [World.cell?, h]
    | 1, _ => simp [World.cell?, h]
    | 2, _ => simp [World.cell?, h]
    | n + 3, h => exact absurd (show n + 3 < 3 from h) (by omega)⟩
theorem Trow.K {n : Nat} {W : World} (h : Trow n W) (k : Nat) (hk : k < 16) : KAt W (lv n k) (bad k).log := by
  match k, hk with
  | 0, _ => exact .inl ⟨rfl, _, _, rfl⟩
  | 1, _ => exact .inl ⟨rfl, _, _, rfl⟩
  | 2, _ => exact kat_1 (h.b 0 _ rfl)
  | 3, _ => exact kat_1 (h.b 1 _ rfl)
  | 4, _ => exact kat_1 (h.b 2 _ rfl)
  | 5, _ => exact kat_1 (h.b 3 _ rfl)
  | 6, _ => exact kat_1 (h.b 4 _ rfl)
  | 7, _ => exact kat_1 (h.b 5 _ rfl)
  | 8, _ => exact kat_1 (h.b 6 _ rfl)
  | 9, _ => exact kat_1 (h.b 7 _ rfl)
  | 10, _ => exact kat_1 (h.b 8 _ rfl)
  | 11, _ => exact kat_1 (h.b 9 _ rfl)
  | 12, _ => exact kat_1 (h.b 10 _ rfl)
  | 13, _ => exact kat_1 (h.b 11 _ rfl)
  | 14, _ => exact kat_1 (h.b 12 _ rfl)
  | 15, _ => exact kat_3 (h.b 13 _ rfl)
  | n + 16, h => omega
theorem lv_slice (n k : Nat) : ∃ a c, lv n k = .slice a (bad k).log.length c := by
  unfold lv bad
  split <;> exact ⟨_, _, rfl⟩
def ps (k : Nat) : ByteArray :=
  match k with
  | 0 => { data := #[] }
  | 1 => { data := #[1, 0, 0, 1] }
  | 2 => { data := #[1, 0, 0, 0] }
  | 3 => { data := #[1, 0, 0, 1, 2, 3] }
  | 4 => { data := #[0, 0, 0, 1, 2] }
  | 5 => { data := #[1, 0, 32, 1, 2] }
  | 6 => { data := #[1, 0, 0, 1, 32] }
  | 7 => { data := #[1, 0, 0, 32, 2] }
  | 8 => { data := #[129, 128, 128, 128, 128, 32, 0, 0, 1, 2] }
  | 9 => { data := #[1, 0, 0, 2, 2, 2] }
  | _ => { data := #[129, 0, 0, 0, 1, 2] }
def es (k : Nat) : Nat :=
  match k with
  | 0 => 8
  | 1 => 8
  | 2 => 4
  | 3 => 4
  | 4 => 4
  | 5 => 40
  | 6 => 40
  | 7 => 40
  | 8 => 40
  | 9 => 4
  | _ => 0
def psV : Array Value := #[.string { data := #[] }, .int .i64 8, .string { data := #[1, 0, 0, 1] }, .int .i64 8, .string { data := #[1, 0, 0, 0] }, .int .i64 4, .string { data := #[1, 0, 0, 1, 2, 3] }, .int .i64 4, .string { data := #[0, 0, 0, 1, 2] }, .int .i64 4, .string { data := #[1, 0, 32, 1, 2] }, .int .i64 40, .string { data := #[1, 0, 0, 1, 32] }, .int .i64 40, .string { data := #[1, 0, 0, 32, 2] }, .int .i64 40, .string { data := #[129, 128, 128, 128, 128, 32, 0, 0, 1, 2] }, .int .i64 40, .string { data := #[1, 0, 0, 2, 2, 2] }, .int .i64 4, .string { data := #[129, 0, 0, 0, 1, 2] }, .int .i64 0]
structure Tpy (n : Nat) (W : World) : Prop where
  b : W.heap[n]? = some (.cells psV 37 (0, 0))
theorem Tpy.lt {n : Nat} {W : World} (h : Tpy n W) : n < W.heap.size := (Array.getElem?_eq_some_iff.1 h.b).1
theorem Tpy.below {n : Nat} {W W' : World} (h : Tpy n W) (hb : Below W.heap.size W W') : Tpy n W' := ⟨(hb.block n h.lt).trans h.b⟩
theorem Tpy.cell {n : Nat} {W : World} (h : Tpy n W) (j : Nat) (v : Value) (hv : psV[j]? = some v) : W.cell? ⟨n, j, none⟩ = some v := by
  have h2 : W.cell? ⟨n, j, none⟩ = psV[j]? := by simp [World.cell?, h.b]
  exact h2.trans hv
theorem Tpy.c {n : Nat} {W : World} (h : Tpy n W) (k : Nat) (hk : k < 11) : W.cell? ⟨n, k * 2, none⟩ = some (.string (ps k)) ∧ W.cell? ⟨n, k * 2 + 1, none⟩ = some (.int .i64 (es k : Int)) := by
  match k, hk with
  | 0, _ => exact ⟨h.cell 0 _ rfl, h.cell 1 _ rfl⟩
  | 1, _ => exact ⟨h.cell 2 _ rfl, h.cell 3 _ rfl⟩
  | 2, _ => exact ⟨h.cell 4 _ rfl, h.cell 5 _ rfl⟩
  | 3, _ => exact ⟨h.cell 6 _ rfl, h.cell 7 _ rfl⟩
  | 4, _ => exact ⟨h.cell 8 _ rfl, h.cell 9 _ rfl⟩
  | 5, _ => exact ⟨h.cell 10 _ rfl, h.cell 11 _ rfl⟩
  | 6, _ => exact ⟨h.cell 12 _ rfl, h.cell 13 _ rfl⟩
  | 7, _ => exact ⟨h.cell 14 _ rfl, h.cell 15 _ rfl⟩
  | 8, _ => exact ⟨h.cell 16 _ rfl, h.cell 17 _ rfl⟩
  | 9, _ => exact ⟨h.cell 18 _ rfl, h.cell 19 _ rfl⟩
  | 10, _ => exact ⟨h.cell 20 _ rfl, h.cell 21 _ rfl⟩
  | n + 11, h => omega
theorem ps_is (k : Nat) (h : k < 11) : (dcR (ps k)).2 = es k ∧ ((dcR (ps k)).1.gen != 0) = decide ((es k : Int) = 0) := by
  match k, h with
  | 0, _ => exact ⟨by kernel_rfl, by kernel_rfl⟩
  | 1, _ => exact ⟨by kernel_rfl, by kernel_rfl⟩
  | 2, _ => exact ⟨by kernel_rfl, by kernel_rfl⟩
  | 3, _ => exact ⟨by kernel_rfl, by kernel_rfl⟩
  | 4, _ => exact ⟨by kernel_rfl, by kernel_rfl⟩
  | 5, _ => exact ⟨by kernel_rfl, by kernel_rfl⟩
  | 6, _ => exact ⟨by kernel_rfl, by kernel_rfl⟩
  | 7, _ => exact ⟨by kernel_rfl, by kernel_rfl⟩
  | 8, _ => exact ⟨by kernel_rfl, by kernel_rfl⟩
  | 9, _ => exact ⟨by kernel_rfl, by kernel_rfl⟩
  | 10, _ => exact ⟨by kernel_rfl, by kernel_rfl⟩
  | n + 11, h => omega
theorem ps_size (k : Nat) : (ps k).size ≤ 100 := by
  unfold ps
  split <;> decide
theorem es_le (k : Nat) : es k ≤ 100 := by
  unfold es
  split <;> decide
end Go.Proofs.YtpcpbdcdapmlnaaDoor
namespace Go.Proofs.YtpcpbdcdapmlnaaDoor
open Go Go.RowKit
set_option maxRecDepth 100000
theorem put_13 : (putR (made0 13 []) (hA 1)).2 = 44 := by
  have hw : (whl (hA 1)).size = 14 := size_A 1 (by omega)
  have hm := may_A 1 (by omega) (by omega)
  have hl : ldR (made0 13 []) = (he0, 0, false, 0) := rfl
  have hp : ptT (made0 13 []) = 0 := rfl
  have hdm : (made0 13 []).dm = false := rfl
  have hdn : (made0 13 []).dn = false := rfl
  have hcap : (made0 13 []).cap = 13 := rfl
  unfold putR
  rw [hm, if_pos rfl, hl, if_neg (by simp), hp]
  generalize made0 13 [] = d at *
  generalize whl (hA 1) = s at *
  have h1 : st1 d 0 = ({ d with T := upd d.T 0 t0, left := lf d }, 0) := by
    rw [st1_eq hdn (by decide), if_neg (by rw [hdm]; simp)]
  have h2 : (st2 d 0 s).2 = 44 := by
    unfold st2
    rw [h1]
    rw [st2_of (d1 := { d with T := upd d.T 0 t0, left := lf d }) hdn (by decide) (upd_same _ _ _) (by omega), if_neg (by dsimp only; rw [hdm]; simp), if_pos (by dsimp only; omega)]
  unfold stP
  rw [h1, if_neg (by simp), if_pos (by rw [h2]; decide), h2]
theorem two_c0 {W : World} {g : Nat} {t : TypeId} {x y : Value} (h : W.heap[g]? = some (.cells #[x, y] t (0, 0))) : W.cell? ⟨g, 0, none⟩ = some x := by simp [World.cell?, h]
theorem two_c1 {W : World} {g : Nat} {t : TypeId} {x y : Value} (h : W.heap[g]? = some (.cells #[x, y] t (0, 0))) : W.cell? ⟨g, 1, none⟩ = some y := by simp [World.cell?, h]
theorem ofB_nil : (ofB ⟨#[]⟩).2 = false := by kernel_rfl
theorem frL_he0 : (frL he0 32).length = 30 := by kernel_rfl
theorem us_0 : usB (hA 1) 0 = false := by kernel_rfl
theorem us_2 : usB (hA 1) 2 = true := by kernel_rfl
end Go.Proofs.YtpcpbdcdapmlnaaDoor
