/- What a frame's value is; how a result of three cells is handed back; frame.Read and the document's Read where they refuse. -/
import Derived.Test.YtpcpbdcdapmlnaaDoorFm
import Derived.Test.YtpcpbdcdapmlnaaDoorPu
import Derived.Test.YtpcpbdcdapmlnaaDoorRf
import Derived.Test.YtpcpbdcdapmlnaaDoorRv
import Derived.Test.YtpcpbdcdapmlnaaDoorSe
import Derived.Laws.ResultCell
import Derived.Laws.Rows
import Derived.BigRegion
import Derived.BigQuiet
import Derived.Deep.RegionWith
import Derived.Deep.RegionHeld3
namespace Go.Proofs.YtpcpbdcdapmlnaaDoor
open Go Go.RowKit
set_option maxRecDepth 100000
theorem results_cell_two {fn : Func} {p u v : Tmp} {ty : TypeId} (h : fn.results = #[.cell p ty, .tmp u, .tmp v]) (tmps : Array Value) (P : Program) (w : World) :
    (results fn tmps).run P w =
      ((asAddr (tmps.getD p undef)).run P w).andThen fun a w₁ => ((loadVar ty a).run P w₁).andThen fun x w₂ => .ok (.tuple #[x, tmps.getD u undef, tmps.getD v undef]) w₂ := by
  simp only [results, h]
  simp [Sem.run_bind, Result.andThen]
/-- A type of three cells. -/
structure Tri (ty : TypeId) : Prop where
  hu : ∃ fs, Tryd.prog.underlying ty = some (.struct fs)
  hi : (Tryd.prog.info? ty).map (·.size) = some 3
theorem tri24 : Tri 90 := ⟨⟨_, Tryd.underlying90⟩, by kernel_rfl⟩
theorem ret3 {fn : Func} {R : Ending → World → Prop} {a : Act} {w : World} {x y z r e : Value} {ty : TypeId} (hr : fn.results = #[.cell 4 ty, .tmp 5, .tmp 6]) (h : Tri ty) (B : Nat) (h2 : a.tmps.getD 4 undef = .pointer (some ⟨B, 0, none⟩)) (h3 : a.tmps.getD 5 undef = r) (h4 : a.tmps.getD 6 undef = e) (hd : a.defers = [])
    (hB : w.heap[B]? = some (.cells #[x, y, z] ty (0, 0))) (hR : R (.returned (.tuple #[.agg #[x, y, z], r, e])) w) : bodyPost Tryd.prog fn R .ret a w :=
  bodyPost_ret (by
    obtain ⟨fs, hu⟩ := h.hu
    have hl := run_loadVar_row (P := Tryd.prog) w B ty ty #[x, y, z] (0, 0) _ hB hu rfl (by rw [h.hi]; rfl)
    rw [results_cell_two hr, h2, h3, h4]
    simp [asAddr, hl, Result.andThen]) hd hR
theorem set3 {w : World} {B : Nat} {x0 x1 x2 : Value} {ty : TypeId} (y0 y1 y2 : Value) (h : w.heap[B]? = some (.cells #[x0, x1, x2] ty (0, 0))) : (((w.setCell ⟨B, 0, none⟩ y0).setCell ⟨B, 1, none⟩ y1).setCell ⟨B, 2, none⟩ y2).heap[B]? = some (.cells #[y0, y1, y2] ty (0, 0)) :=
  Go.heap_setCell_same _ B 2 #[y0, y1, x2] ty y2 (Go.heap_setCell_same _ B 1 #[y0, x1, x2] ty y1 (Go.heap_setCell_same w B 0 #[x0, x1, x2] ty y0 h))
theorem below_set {n : Nat} {w W : World} (h : Below n w W) {B j : Nat} (hB : n ≤ B) (u : Value) : Below n w (W.setCell ⟨B, j, none⟩ u) :=
  ⟨h.os, h.tape, h.output, by simpa using h.size, fun i hi => (Below.heap_setCell _ _ _ _ (by simp only; omega)).trans (h.block i hi)⟩
theorem below_set3 {n : Nat} {w W : World} (h : Below n w W) {B : Nat} (hB : n ≤ B) (x y z : Value) : Below n w (((W.setCell ⟨B, 0, none⟩ x).setCell ⟨B, 1, none⟩ y).setCell ⟨B, 2, none⟩ z) :=
  below_set (below_set (below_set h hB x) hB y) hB z
theorem below_one (w : World) (o : Obj) : Below w.heap.size w (w.alloc o) := (Below.refl _ _).alloc (Nat.le_refl _) _
/-- The row of three cells of a frame. -/
abbrev fv (k : Int) (p : ByteArray) (a : Int) : Value := .agg #[.int .u8 k, .string p, .int .i64 a]
/-- What a call tells that leaves all that was there. -/
def Ret (w : World) (v : Value) (e : Ending) (w' : World) : Prop := e = .returned v ∧ Below w.heap.size w w'
/-- Refused so. -/
abbrev noV (E : Nat) : Value := .tuple #[.agg #[.int .u8 0, .string ⟨#[]⟩, .int .i64 0], .int .i64 0, .int .i64 (E : Int)]
theorem fplace_any (s : ByteArray) (at' : Int) (w : World) :
   Calls Tryd.prog 75 #[.string s, .int .i64 at'] w fun e w' => e = .returned (.bool (decide (0 ≤ at' ∧ at' ≤ (s.size : Int)))) ∧ w = w' := by
  by_cases h : 0 ≤ at'
  · go_enter Tryd.func75, Tryd.ntmps75
    go_wp2
    go_ret
    refine ⟨by simp [h], rfl⟩
  · go_enter Tryd.func75, Tryd.ntmps75
    go_wp2
    go_ret
    refine ⟨by rw [decide_eq_false (by omega)]; rfl, rfl⟩
set_option maxHeartbeats 1000000 in
theorem read_arg (s : ByteArray) (at' : Int) (w : World) (h : at' < 0 ∨ (s.size : Int) < at') :
    Calls Tryd.prog 55 #[.string s, .int .i64 at'] w (Ret w (noV 1)) := by
  have hd : decide (0 ≤ at' ∧ at' ≤ (s.size : Int)) = false := decide_eq_false (by omega)
  go_enter Tryd.func55, Tryd.ntmps55
  go_wp2_with (go_at_call 75; refine (fplace_any _ _ _).mono ?_; rintro e w' ⟨rfl, rfl⟩; simp only [hd])
  exact ret3 Tryd.results55 tri24 w.heap.size rfl rfl rfl rfl (heap_alloc_new w _) ⟨rfl, below_one _ _⟩
set_option maxHeartbeats 1000000 in
theorem read_nine (s : ByteArray) (a : Nat) (w : World) (hs : s.size ≤ 140737488351232) (h : a ≤ s.size) (h9 : s.size < a + 9) :
    Calls Tryd.prog 55 #[.string s, .int .i64 a] w (Ret w (noV 8)) := by
  have hd : decide (0 ≤ (a : Int) ∧ (a : Int) ≤ (s.size : Int)) = true := decide_eq_true (by omega)
  go_enter Tryd.func55, Tryd.ntmps55
  go_wp2_with (go_at_call 75; refine (fplace_any _ _ _).mono ?_; rintro e w' ⟨rfl, rfl⟩; simp only [hd])
  exact ret3 Tryd.results55 tri24 w.heap.size rfl rfl rfl rfl (heap_alloc_new w _) ⟨rfl, below_one _ _⟩
/-- What is told of two numbers and a place. -/
def Fx (s : ByteArray) (a n x : Nat) : Prop := ∀ w, Calls Tryd.prog 76 #[.string s, .int .i64 (a : Int), .int .i64 4] w fun e w' => e = .returned (.tuple #[.int .u64 (n : Int), .int .i64 (x : Int), .int .i64 0]) ∧ w = w'
set_option maxHeartbeats 1000000 in
theorem read_large (s : ByteArray) (a n c : Nat) (w : World) (hs : s.size ≤ 140737488351232) (h9 : a + 9 ≤ s.size) (h1 : Fx s a n (a + 4)) (h2 : Fx s (a + 4) c (a + 8)) (hn : 262144 < n) :
    Calls Tryd.prog 55 #[.string s, .int .i64 a] w (Ret w (noV 40)) := by
  have hd : decide (0 ≤ (a : Int) ∧ (a : Int) ≤ (s.size : Int)) = true := decide_eq_true (by omega)
  have H1 := Lib.hid h1
  have H2 := Lib.hid h2
  clear h1 h2
  go_enter Tryd.func55, Tryd.ntmps55
  go_wp2_with (go_at_call 75; refine (fplace_any _ _ _).mono ?_; rintro e w' ⟨rfl, rfl⟩; simp only [hd])
  refine (H1.out _).mono ?_
  rintro e w' ⟨rfl, rfl⟩
  go_wp2_with fail
  refine (H2.out _).mono ?_
  rintro e w' ⟨rfl, rfl⟩
  go_wp2
  exact ret3 Tryd.results55 tri24 w.heap.size rfl rfl rfl rfl (heap_alloc_new w _) ⟨rfl, below_one _ _⟩
set_option maxHeartbeats 1000000 in
theorem read_cut (s : ByteArray) (a n c : Nat) (w : World) (hs : s.size ≤ 140737488351232) (h9 : a + 9 ≤ s.size) (h1 : Fx s a n (a + 4)) (h2 : Fx s (a + 4) c (a + 8)) (hn : n ≤ 262144) (hc : s.size < a + 9 + n) :
    Calls Tryd.prog 55 #[.string s, .int .i64 a] w (Ret w (noV 8)) := by
  have hd : decide (0 ≤ (a : Int) ∧ (a : Int) ≤ (s.size : Int)) = true := decide_eq_true (by omega)
  have H1 := Lib.hid h1
  have H2 := Lib.hid h2
  clear h1 h2
  go_enter Tryd.func55, Tryd.ntmps55
  go_wp2_with (go_at_call 75; refine (fplace_any _ _ _).mono ?_; rintro e w' ⟨rfl, rfl⟩; simp only [hd])
  refine (H1.out _).mono ?_
  rintro e w' ⟨rfl, rfl⟩
  go_wp2_with fail
  refine (H2.out _).mono ?_
  rintro e w' ⟨rfl, rfl⟩
  go_wp2
  exact ret3 Tryd.results55 tri24 w.heap.size rfl rfl rfl rfl (heap_alloc_new w _) ⟨rfl, below_one _ _⟩
end Go.Proofs.YtpcpbdcdapmlnaaDoor
namespace Go.Proofs.YtpcpbdcdapmlnaaDoor
open Go Go.RowKit
set_option maxRecDepth 100000
theorem isKind_any (k : UInt8) (w : World) :
    Calls Tryd.prog 78 #[.int .u8 k.toNat] w fun e w' => e = .returned (.bool (decide (1 ≤ k.toNat ∧ k.toNat ≤ 3))) ∧ w = w' := by
  have hk := k.toNat_lt
  by_cases h : 1 ≤ k.toNat
  · go_enter Tryd.func78, Tryd.ntmps78
    go_wp2
    go_ret
    exact ⟨by simp [h]; omega, rfl⟩
  · go_enter Tryd.func78, Tryd.ntmps78
    go_wp2
    go_ret
    exact ⟨by simp [h], rfl⟩
set_option maxHeartbeats 1000000 in
theorem read_sum (s : ByteArray) (a n c X : Nat) (w : World) (hs : s.size ≤ 140737488351232) (h9 : a + 9 ≤ s.size) (h1 : Fx s a n (a + 4)) (h2 : Fx s (a + 4) c (a + 8)) (hn : n ≤ 262144) (hX : a + 9 + n = X) (hc : X ≤ s.size) (hc4 : c < 4294967296) (T : ByteArray) (hT : s.extract (a + 8) X = T)
    (hS : ∀ w', Below w.heap.size w w' → Calls Tryd.prog 77 #[.string T, .int .u32 c] w' fun e w'' => e = .returned (.bool false) ∧ w' = w'') :
    Calls Tryd.prog 55 #[.string s, .int .i64 a] w (Ret w (noV 42)) := by
  have hd : decide (0 ≤ (a : Int) ∧ (a : Int) ≤ (s.size : Int)) = true := decide_eq_true (by omega)
  have H1 := Lib.hid h1
  have H2 := Lib.hid h2
  have HS := Lib.hid (hS (w.alloc (.cells #[.int .u8 0, .string ⟨#[]⟩, .int .i64 0] 90)) (below_one _ _))
  have e1 : (a : Int) + 9 + (n : Int) = (X : Int) := by omega
  have hX1 : a + 8 ≤ X := by omega
  clear h1 h2 hS hX
  go_enter Tryd.func55, Tryd.ntmps55
  go_wp2_with (go_at_call 75; refine (fplace_any _ _ _).mono ?_; rintro e w' ⟨rfl, rfl⟩; simp only [hd])
  refine (H1.out _).mono ?_
  rintro e w' ⟨rfl, rfl⟩
  go_wp2_with fail
  refine (H2.out _).mono ?_
  rintro e w' ⟨rfl, rfl⟩
  go_wp2_with fail
  refine HS.out.mono ?_
  rintro e w' ⟨rfl, rfl⟩
  go_wp2
  exact ret3 Tryd.results55 tri24 w.heap.size rfl rfl rfl rfl (heap_alloc_new w _) ⟨rfl, below_one _ _⟩
set_option maxHeartbeats 1000000 in
theorem read_kind (s : ByteArray) (a n c X : Nat) (w : World) (hs : s.size ≤ 140737488351232) (h9 : a + 9 ≤ s.size) (h1 : Fx s a n (a + 4)) (h2 : Fx s (a + 4) c (a + 8)) (hn : n ≤ 262144) (hX : a + 9 + n = X) (hc : X ≤ s.size) (hc4 : c < 4294967296) (T : ByteArray) (hT : s.extract (a + 8) X = T)
    (hS : ∀ w', Below w.heap.size w w' → Calls Tryd.prog 77 #[.string T, .int .u32 c] w' fun e w'' => e = .returned (.bool true) ∧ w' = w'') (hz : 0 < T.size) (k : UInt8) (hk : T[0] = k) (hkk : ¬ (1 ≤ k.toNat ∧ k.toNat ≤ 3)) :
    Calls Tryd.prog 55 #[.string s, .int .i64 a] w (Ret w (noV 4)) := by
  have hd : decide (0 ≤ (a : Int) ∧ (a : Int) ≤ (s.size : Int)) = true := decide_eq_true (by omega)
  have H1 := Lib.hid h1
  have H2 := Lib.hid h2
  have HS := Lib.hid (hS (w.alloc (.cells #[.int .u8 0, .string ⟨#[]⟩, .int .i64 0] 90)) (below_one _ _))
  have e1 : (a : Int) + 9 + (n : Int) = (X : Int) := by omega
  have hX1 : a + 8 ≤ X := by omega
  have HK := fun w => Lib.hid (isKind_any k w)
  rw [decide_eq_false hkk] at HK
  have HK := Lib.hid HK
  clear h1 h2 hS hX
  go_enter Tryd.func55, Tryd.ntmps55
  go_wp2_with (go_at_call 75; refine (fplace_any _ _ _).mono ?_; rintro e w' ⟨rfl, rfl⟩; simp only [hd])
  refine (H1.out _).mono ?_
  rintro e w' ⟨rfl, rfl⟩
  go_wp2_with fail
  refine (H2.out _).mono ?_
  rintro e w' ⟨rfl, rfl⟩
  go_wp2_with fail
  refine HS.out.mono ?_
  rintro e w' ⟨rfl, rfl⟩
  go_wp2_with fail
  refine (HK.out _).out.mono ?_
  rintro e w' ⟨rfl, rfl⟩
  go_wp2
  exact ret3 Tryd.results55 tri24 w.heap.size rfl rfl rfl rfl (heap_alloc_new w _) ⟨rfl, below_one _ _⟩
set_option maxHeartbeats 1000000 in
theorem read_right (s : ByteArray) (a n c X : Nat) (w : World) (hs : s.size ≤ 140737488351232) (h9 : a + 9 ≤ s.size) (h1 : Fx s a n (a + 4)) (h2 : Fx s (a + 4) c (a + 8)) (hn : n ≤ 262144) (hX : a + 9 + n = X) (hc : X ≤ s.size) (hc4 : c < 4294967296) (T : ByteArray) (hT : s.extract (a + 8) X = T)
    (hS : ∀ w', Below w.heap.size w w' → Calls Tryd.prog 77 #[.string T, .int .u32 c] w' fun e w'' => e = .returned (.bool true) ∧ w' = w'') (hz : 0 < T.size) (k : UInt8) (hk : T[0] = k) (hkk : 1 ≤ k.toNat ∧ k.toNat ≤ 3) (Q : ByteArray) (hQ : T.extract 1 T.size = Q) :
    Calls Tryd.prog 55 #[.string s, .int .i64 a] w (Ret w (.tuple #[fv k.toNat Q a, .int .i64 X, .int .i64 0])) := by
  have hd : decide (0 ≤ (a : Int) ∧ (a : Int) ≤ (s.size : Int)) = true := decide_eq_true (by omega)
  have H1 := Lib.hid h1
  have H2 := Lib.hid h2
  have HS := Lib.hid (hS (w.alloc (.cells #[.int .u8 0, .string ⟨#[]⟩, .int .i64 0] 90)) (below_one _ _))
  have e1 : (a : Int) + 9 + (n : Int) = (X : Int) := by omega
  have hX1 : a + 8 ≤ X := by omega
  have HK := fun w => Lib.hid (isKind_any k w)
  rw [decide_eq_true hkk] at HK
  have HK := Lib.hid HK
  clear h1 h2 hS hX
  go_enter Tryd.func55, Tryd.ntmps55
  go_wp2_with (go_at_call 75; refine (fplace_any _ _ _).mono ?_; rintro e w' ⟨rfl, rfl⟩; simp only [hd])
  refine (H1.out _).mono ?_
  rintro e w' ⟨rfl, rfl⟩
  go_wp2_with fail
  refine (H2.out _).mono ?_
  rintro e w' ⟨rfl, rfl⟩
  go_wp2_with fail
  refine HS.out.mono ?_
  rintro e w' ⟨rfl, rfl⟩
  go_wp2_with fail
  refine (HK.out _).out.mono ?_
  rintro e w' ⟨rfl, rfl⟩
  go_wp2
  go_region
  go_wp2
  exact ret3 Tryd.results55 tri24 w.heap.size rfl rfl rfl rfl (heap_alloc_new w _) ⟨rfl, Below.drew (below_one _ _)⟩
end Go.Proofs.YtpcpbdcdapmlnaaDoor
namespace Go.Proofs.YtpcpbdcdapmlnaaDoor
open Go Go.RowKit
set_option maxRecDepth 100000
/-- The bytes from a place on. -/
abbrev bh (s : ByteArray) (a : Nat) : List UInt8 := s.data.toList.drop a
/-- How the frame at a place is refused; 0: it is not. -/
def er1 (s : ByteArray) (at' : Int) : Nat := if 0 ≤ at' ∧ at' ≤ (s.size : Int) then Fr.er (bh s at'.toNat) else 1
theorem er1_at (s : ByteArray) (a : Nat) (h : a ≤ s.size) : er1 s (a : Int) = Fr.er (bh s a) := by
  unfold er1
  rw [if_pos ⟨by omega, by omega⟩]; rfl
theorem er1_out (s : ByteArray) (at' : Int) (h : at' < 0 ∨ (s.size : Int) < at') : er1 s at' = 1 := by
  unfold er1
  rw [if_neg (by omega)]
theorem bh_length (s : ByteArray) (a : Nat) : (bh s a).length = s.size - a := by simp [bh]
theorem fat_drop (l : List UInt8) (a b z : Nat) : Bt.fat (l.drop a) b z = Bt.fat l (a + b) z := by
  unfold Bt.fat; rw [List.drop_drop]
theorem fx_one (s : ByteArray) (a : Nat) (hs : s.size ≤ 140737488351232) (h : a + 4 ≤ s.size) : Fx s a (Bt.fat s.data.toList a 4) (a + 4) := fun w => fixed_ok4 s a w h hs
theorem fx_ln (s : ByteArray) (a : Nat) (hs : s.size ≤ 140737488351232) (h : a + 9 ≤ s.size) : Fx s a (Fr.ln (bh s a)) (a + 4) := by
  have := fx_one s a hs (by omega)
  unfold Fr.ln
  rw [fat_drop]; exact this
theorem fx_cs (s : ByteArray) (a : Nat) (hs : s.size ≤ 140737488351232) (h : a + 9 ≤ s.size) : Fx s (a + 4) (Fr.cs (bh s a)) (a + 8) := by
  have := fx_one s (a + 4) hs (by omega)
  unfold Fr.cs
  rw [fat_drop]; exact this
theorem cs_lt (l : List UInt8) : Fr.cs l < 4294967296 := Nat.lt_of_lt_of_le Bt.fat_lt (by decide)
theorem ext_toList (s : ByteArray) (a b : Nat) : (s.extract a b).data.toList = (s.data.toList.take b).drop a := by
  rw [List.drop_take]; simp [ByteArray.data_extract]
/-- The kind and the payload, in the bytes. -/
theorem body_ext (s : ByteArray) (a n : Nat) (h : a + 9 + n ≤ s.size) (hn : n = Fr.ln (bh s a)) : (s.extract (a + 8) (a + 9 + n)).data.toList = Fr.kd (bh s a) :: Fr.pl (bh s a) := by
  rw [ext_toList, List.drop_take, show a + 9 + n - (a + 8) = n + 1 by omega]
  have h9 : 9 ≤ (bh s a).length := by rw [bh_length]; omega
  have e := Fr.kd_drop h9
  rw [List.drop_drop] at e
  rw [e, List.take_succ_cons]
  unfold Fr.pl
  rw [← hn]
theorem bs_toData (T : ByteArray) (l : List UInt8) (h : T.data.toList = l) : T = bs l := by rw [← h]; exact (bs_of T).symm
theorem read_bad (s : ByteArray) (at' : Int) (E : Nat) (hE : er1 s at' = E) (h0 : E ≠ 0) (w : World) (hs : s.size ≤ 140737488351232) (hT : Hid (Tab w)) :
    Calls Tryd.prog 55 #[.string s, .int .i64 at'] w (Ret w (noV E)) := by
  by_cases hp : at' < 0 ∨ (s.size : Int) < at'
  · rw [er1_out s at' hp] at hE
    subst hE
    exact read_arg s at' w hp
  obtain ⟨a, rfl⟩ := Int.eq_ofNat_of_zero_le (a := at') (by omega)
  have ha : a ≤ s.size := by omega
  rw [er1_at s a ha] at hE
  by_cases h9 : s.size < a + 9
  · have : Fr.er (bh s a) = 8 := by unfold Fr.er; rw [if_pos (by rw [bh_length]; omega)]
    rw [this] at hE; subst hE
    exact read_nine s a w hs ha h9
  have h9' : a + 9 ≤ s.size := by omega
  have c1 := fx_ln s a hs h9'
  have c2 := fx_cs s a hs h9'
  have hl := bh_length s a
  unfold Fr.er at hE
  rw [if_neg (by omega)] at hE
  by_cases h1 : 262144 < Fr.ln (bh s a)
  · rw [if_pos h1] at hE; subst hE
    exact read_large s a _ _ w hs h9' c1 c2 h1
  rw [if_neg h1] at hE
  by_cases h2 : (bh s a).length < 9 + Fr.ln (bh s a)
  · rw [if_pos h2] at hE; subst hE
    exact read_cut s a _ _ w hs h9' c1 c2 (by omega) (by omega)
  rw [if_neg h2] at hE
  have hX : a + 9 + Fr.ln (bh s a) ≤ s.size := by omega
  have hb := bs_toData _ _ (body_ext s a _ hX rfl)
  have hsz : (bs (Fr.kd (bh s a) :: Fr.pl (bh s a))).size ≤ 140737488351232 := by
    rw [← hb, ByteArray.size_extract]; omega
  have hS : ∀ w', Below w.heap.size w w' → Calls Tryd.prog 77 #[.string (bs (Fr.kd (bh s a) :: Fr.pl (bh s a))), .int .u32 (Fr.cs (bh s a) : Nat)] w' fun e w'' => e = .returned (.bool (Fr.ck (Fr.kd (bh s a) :: Fr.pl (bh s a)) == Fr.cs (bh s a))) ∧ w' = w'' := fun w' hw =>
    same_any _ _ w' hsz (Lib.hid (hT.out.below hw))
  by_cases h3 : Fr.cs (bh s a) ≠ Fr.ck (Fr.kd (bh s a) :: Fr.pl (bh s a))
  · rw [if_pos h3] at hE; subst hE
    rw [show (Fr.ck (Fr.kd (bh s a) :: Fr.pl (bh s a)) == Fr.cs (bh s a)) = false by rw [beq_eq_false_iff_ne]; exact fun h => h3 h.symm] at hS
    exact read_sum s a _ _ _ w hs h9' c1 c2 (by omega) rfl hX (cs_lt _) _ hb hS
  rw [if_neg h3] at hE
  rw [show (Fr.ck (Fr.kd (bh s a) :: Fr.pl (bh s a)) == Fr.cs (bh s a)) = true by rw [beq_iff_eq]; exact (Classical.not_not.1 h3).symm] at hS
  by_cases h4 : (Fr.kd (bh s a)).toNat < 1 ∨ 3 < (Fr.kd (bh s a)).toNat
  · rw [if_pos h4] at hE; subst hE
    exact read_kind s a _ _ _ w hs h9' c1 c2 (by omega) rfl hX (cs_lt _) _ hb hS (by rw [bs_size]; simp) (Fr.kd (bh s a)) rfl (by omega)
  · rw [if_neg h4] at hE
    exact absurd hE.symm h0
theorem read_ok (s : ByteArray) (a : Nat) (hg : Fr.Good (bh s a)) (w : World) (hs : s.size ≤ 140737488351232) (hT : Hid (Tab w)) :
    Calls Tryd.prog 55 #[.string s, .int .i64 (a : Int)] w (Ret w (.tuple #[fv ((Fr.kd (bh s a)).toNat : Nat) (bs (Fr.pl (bh s a))) (a : Int), .int .i64 ((a + 9 + Fr.ln (bh s a) : Nat) : Int), .int .i64 0])) := by
  have hl := bh_length s a
  have hn := hg.nine
  have hw := hg.whole
  have hm := hg.most
  have h9' : a + 9 ≤ s.size := by omega
  have c1 := fx_ln s a hs h9'
  have c2 := fx_cs s a hs h9'
  have hX : a + 9 + Fr.ln (bh s a) ≤ s.size := by omega
  have hb := bs_toData _ _ (body_ext s a _ hX rfl)
  have hsz : (bs (Fr.kd (bh s a) :: Fr.pl (bh s a))).size ≤ 140737488351232 := by
    rw [← hb, ByteArray.size_extract]; omega
  have hS : ∀ w', Below w.heap.size w w' → Calls Tryd.prog 77 #[.string (bs (Fr.kd (bh s a) :: Fr.pl (bh s a))), .int .u32 (Fr.cs (bh s a) : Nat)] w' fun e w'' => e = .returned (.bool (Fr.ck (Fr.kd (bh s a) :: Fr.pl (bh s a)) == Fr.cs (bh s a))) ∧ w' = w'' := fun w' hw =>
    same_any _ _ w' hsz (Lib.hid (hT.out.below hw))
  rw [show (Fr.ck (Fr.kd (bh s a) :: Fr.pl (bh s a)) == Fr.cs (bh s a)) = true by rw [beq_iff_eq]; exact hg.sum.symm] at hS
  refine read_right s a _ _ _ w hs h9' c1 c2 hm rfl hX (cs_lt _) _ hb hS (by rw [bs_size]; simp) (Fr.kd (bh s a)) rfl hg.kind (bs (Fr.pl (bh s a))) ?_
  refine bs_toData _ _ ?_
  rw [ext_toList, bs_data, bs_size, List.take_length]
  rfl
end Go.Proofs.YtpcpbdcdapmlnaaDoor
