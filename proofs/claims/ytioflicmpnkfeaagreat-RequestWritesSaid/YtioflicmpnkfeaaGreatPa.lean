/- The contracts of what reads a label, a sample of fields; how a result of two cells is handed back. -/
/- The contracts of part, at labels and at samples. -/
import Derived.Test.YtioflicmpnkfeaaGreatZb
import Derived.Test.YtioflicmpnkfeaaGreatDr
import Derived.Test.YtioflicmpnkfeaaGreatRh
namespace Go.Proofs.YtioflicmpnkfeaaGreat
open Go Go.RowKit
set_option maxRecDepth 100000
/-- A type of two cells. -/
structure Two (ty : TypeId) : Prop where
  hu : ∃ fs, Tryz.prog.underlying ty = some (.struct fs)
  hi : (Tryz.prog.info? ty).map (·.size) = some 2
theorem two33 : Two 35 := ⟨⟨_, Tryz.underlying35⟩, by kernel_rfl⟩
theorem two37 : Two 54 := ⟨⟨_, Tryz.underlying54⟩, by kernel_rfl⟩
theorem two40 : Two 29 := ⟨⟨_, Tryz.underlying29⟩, by kernel_rfl⟩
theorem load_two {ty : TypeId} (h : Two ty) (w : World) (B : Nat) (x y : Value) (hB : w.heap[B]? = some (.cells #[x, y] ty (0, 0))) : (loadVar ty ⟨B, 0, none⟩).run Tryz.prog w = .ok (.agg #[x, y]) w := by
  obtain ⟨fs, hu⟩ := h.hu
  exact run_loadVar_row (P := Tryz.prog) w B ty ty #[x, y] (0, 0) _ hB hu rfl (by rw [h.hi]; rfl)
theorem retc {fn : Func} {R : Ending → World → Prop} {a : Act} {w : World} {x y : Value} {p : Tmp} {ty : TypeId} (hr : fn.results = #[.cell p ty]) (h : Two ty) (B : Nat) (h2 : a.tmps.getD p undef = .pointer (some ⟨B, 0, none⟩)) (hd : a.defers = [])
    (hB : w.heap[B]? = some (.cells #[x, y] ty (0, 0))) (hR : R (.returned (.agg #[x, y])) w) : bodyPost Tryz.prog fn R .ret a w :=
  bodyPost_ret (by
    have hl := load_two h w B x y hB
    have hp' : a.tmps[p]?.getD undef = .pointer (some ⟨B, 0, none⟩) := by simpa using h2
    simp [results, hr, hp', asAddr, hl]) hd hR
theorem retc2 {fn : Func} {R : Ending → World → Prop} {a : Act} {w : World} {x y z : Value} {p u : Tmp} {ty : TypeId} (hr : fn.results = #[.cell p ty, .tmp u]) (h : Two ty) (B : Nat) (h2 : a.tmps.getD p undef = .pointer (some ⟨B, 0, none⟩)) (h3 : a.tmps.getD u undef = z) (hd : a.defers = [])
    (hB : w.heap[B]? = some (.cells #[x, y] ty (0, 0))) (hR : R (.returned (.tuple #[.agg #[x, y], z])) w) : bodyPost Tryz.prog fn R .ret a w :=
  bodyPost_ret (by
    have hl := load_two h w B x y hB
    rw [results_cell_tmp hr, h2, h3]
    simp [asAddr, hl, Result.andThen]) hd hR
/-- A block of two cells. -/
def Box2 (W : World) (B : Nat) (t : TypeId) (x y : Value) : Prop := W.heap[B]? = some (.cells #[x, y] t (0, 0))
section
variable {W W' : World} {B m : Nat} {t : TypeId} {x y : Value}
theorem Box2.lt (h : Box2 W B t x y) : B < W.heap.size := (Array.getElem?_eq_some_iff.1 h).1
theorem Box2.c0 (h : Box2 W B t x y) : W.cell? ⟨B, 0, none⟩ = some x := by simp [World.cell?, show W.heap[B]? = _ from h]
theorem Box2.c1 (h : Box2 W B t x y) : W.cell? ⟨B, 1, none⟩ = some y := by simp [World.cell?, show W.heap[B]? = _ from h]
theorem Box2.free (h : Box2 W B t x y) (j : Nat) : W.frozen? ⟨B, j, none⟩ = false := by simp [World.frozen?, show W.heap[B]? = _ from h]
theorem Box2.below (h : Box2 W B t x y) (hb : Below m W W') (hm : B < m) : Box2 W' B t x y := (hb.block B hm).trans h
theorem Box2.kept {row : Option Nat} (h : Box2 W B t x y) (hg : W.grownBy W' row) (hne : some B ≠ row) : Box2 W' B t x y := (hg.block B h.lt hne).trans h
theorem Box2.set (h : Box2 W B t x y) (a b : Value) : Box2 ((W.setCell ⟨B, 0, none⟩ a).setCell ⟨B, 1, none⟩ b) B t a b := by
  unfold Box2 at *
  simp [World.setCell, Array.getElem?_modify, h]
theorem Box2.new (W : World) (t : TypeId) (x y : Value) : Box2 (W.alloc (.cells #[x, y] t)) W.heap.size t x y := heap_alloc_new W _
theorem Box2.other {C j : Nat} (h : Box2 W B t x y) (hC : B ≠ C) (u : Value) : Box2 (W.setCell ⟨C, j, none⟩ u) B t x y := (Below.heap_setCell _ _ _ _ (by simpa using hC)).trans h
theorem Box2.alloc (h : Box2 W B t x y) (o : Obj) : Box2 (W.alloc o) B t x y := h.kept (World.grownBy_alloc W o none) (by simp)
end
theorem below_set {n : Nat} {w W : World} (h : Below n w W) {B j : Nat} (hB : n ≤ B) (u : Value) : Below n w (W.setCell ⟨B, j, none⟩ u) :=
  ⟨h.os, h.tape, h.output, by simpa using h.size, fun i hi => (Below.heap_setCell _ _ _ _ (by simp only; omega)).trans (h.block i hi)⟩
theorem made63 (a b : ByteArray) (w : World) : Calls Tryz.prog 65 #[.string a, .string b] w (Ret w (.agg #[.string a, .string b])) := by
  go_enter Tryz.func65, Tryz.ntmps65
  go_wp2
  exact retc Tryz.results65 two33 w.heap.size rfl rfl (heap_alloc_new w _) ⟨rfl, (Below.refl _ _).alloc (Nat.le_refl _) _⟩
theorem nt_wrap (b : Nat) (hb : b < 18446744073709551616) : IntKind.i64.wrap (b : Int) = nt b := by
  unfold nt
  rw [IntKind.wrap_i64]
  split <;> omega
theorem made67 (a b : Nat) (hb : b < 18446744073709551616) (w : World) : Calls Tryz.prog 69 #[.int .u64 (a : Int), .int .u64 (b : Int)] w (Ret w (.agg #[.int .i64 (nt b), .int .u64 (a : Int)])) := by
  have h := nt_wrap b hb
  have hb2 : (b : Int) < 18446744073709551616 := by omega
  have hb3 : 0 ≤ (b : Int) := by omega
  clear hb
  generalize nt b = T at *
  generalize (b : Int) = B at *
  go_enter Tryz.func69, Tryz.ntmps69
  go_wp2
  exact retc Tryz.results69 two37 w.heap.size rfl rfl (heap_alloc_new w _) ⟨rfl, (Below.refl _ _).alloc (Nat.le_refl _) _⟩
/-- A label is read of fields. -/
theorem lab_any (fs : List Fd) (hok : ∀ f ∈ fs, f.ok) (hl : fs.length ≤ 1000000) (v : Value) (b0 : Nat) (w : World) (hv : GAt w v (fs.map gfd)) (hb : Boxed w b0 120 (.func (.func 65) #[] #[])) :
    Calls Tryz.prog 77 #[v, .pointer (some ⟨b0, 0, none⟩)] w (Ret w (.tuple #[.agg #[.string (gLb fs lb0).1.n, .string (gLb fs lb0).1.v], .int .i64 ((gLb fs lb0).2 : Int)])) := by
  have H1 := Lib.hid (fun W (hW : GAt W v (fs.map gfd)) => last_asT (fs.map gfd) (by simpa using hl) 1 v W hW)
  have H2 := Lib.hid (fun W (hW : GAt W v (fs.map gfd)) => last_asT (fs.map gfd) (by simpa using hl) 2 v W hW)
  rw [show alk asT (1 : Int) (fs.map gfd) [] = _ from alk_T 1 fs] at H1
  rw [show alk asT (2 : Int) (fs.map gfd) [] = _ from alk_T 2 fs] at H2
  rw [gLb_eq fs lb0 hok]
  have hlt0 := hb.lt
  have hbc := hb.cell
  have HV := Lib.hid hv
  have HB0 := Lib.hid hb
  obtain ⟨va, vc, hv2⟩ := hv.slice
  rw [List.length_map] at hv2
  generalize fs.length = L at hv2 hl
  subst hv2
  clear hok hl hv hb
  have HA : Hid (Below w.heap.size w ((w.alloc (.cells #[.string ⟨#[]⟩, .string ⟨#[]⟩] 35)).alloc (.cells #[.string ⟨#[]⟩, .string ⟨#[]⟩] 35))) := Lib.hid (below_two _ _ _)
  have HX : Hid (((w.alloc (.cells #[.string ⟨#[]⟩, .string ⟨#[]⟩] 35)).alloc (.cells #[.string ⟨#[]⟩, .string ⟨#[]⟩] 35)).heap[w.heap.size]? = some (.cells #[.string ⟨#[]⟩, .string ⟨#[]⟩] 35)) := Lib.hid (heap_alloc2_old w _ _)
  have HY : Hid (((w.alloc (.cells #[.string ⟨#[]⟩, .string ⟨#[]⟩] 35)).alloc (.cells #[.string ⟨#[]⟩, .string ⟨#[]⟩] 35)).heap[w.heap.size + 1]? = some (.cells #[.string ⟨#[]⟩, .string ⟨#[]⟩] 35)) := Lib.hid (two_at w _ _)
  have HS : Hid (((w.alloc (.cells #[.string ⟨#[]⟩, .string ⟨#[]⟩] 35)).alloc (.cells #[.string ⟨#[]⟩, .string ⟨#[]⟩] 35)).heap.size = w.heap.size + 2) := Lib.hid (by simp)
  by_cases h1 : bd 1 2 fs = true
  · rw [if_pos h1, lst_no] at H1
    rw [h1, Bool.true_or, if_pos rfl]
    go_enter Tryz.func77, Tryz.ntmps77
    go_wp2_with fail
    refine (H1.out _ (HV.out.below HA.out (Nat.le_refl _))).mono ?_
    rintro e w1 ⟨rfl, hb1⟩
    have X1 : Box2 w1 w.heap.size 35 (.string ⟨#[]⟩) (.string ⟨#[]⟩) := Box2.below HX.out hb1 (by rw [HS.out]; omega)
    have Y1 : Box2 w1 (w.heap.size + 1) 35 (.string ⟨#[]⟩) (.string ⟨#[]⟩) := Box2.below HY.out hb1 (by rw [HS.out]; omega)
    have HB1 := Lib.hid (HA.out.trans (hb1.mono HA.out.size))
    clear hb1
    have y0 := Y1.c0
    have y1 := Y1.c1
    have x0 := X1.c0
    have x1 := X1.c1
    have f0 := X1.free 0
    have f1 := X1.free 1
    have HX1 := Lib.hid X1
    clear X1 Y1
    go_wp2
    exact retc2 Tryz.results77 two33 w.heap.size rfl rfl rfl (HX1.out.set _ _) ⟨rfl, below_set (below_set HB1.out (Nat.le_refl _) _) (Nat.le_refl _) _⟩
  · rw [if_neg h1] at H1
    rw [(lst_ok _ _).1, (lst_ok _ _).2] at H1
    generalize (lst (⟨#[]⟩ : ByteArray) (List.map bs (tx 1 fs), 0)).2.1 = p1 at H1
    by_cases h2 : bd 2 2 fs = true
    · rw [if_pos h2, lst_no] at H2
      rw [h2, Bool.or_true, if_pos rfl]
      dsimp only [lb0]
      generalize lastD (List.map bs (tx 1 fs)) ⟨#[]⟩ = n1 at *
      go_enter Tryz.func77, Tryz.ntmps77
      go_wp2_with fail
      refine (H1.out _ (HV.out.below HA.out (Nat.le_refl _))).mono ?_
      rintro e w1 ⟨rfl, hb1⟩
      have HV1 := Lib.hid ((HV.out.below HA.out (Nat.le_refl _)).below hb1 (Nat.le_refl _))
      have X1 : Box2 w1 w.heap.size 35 (.string ⟨#[]⟩) (.string ⟨#[]⟩) := Box2.below HX.out hb1 (by rw [HS.out]; omega)
      have Y1 : Box2 w1 (w.heap.size + 1) 35 (.string ⟨#[]⟩) (.string ⟨#[]⟩) := Box2.below HY.out hb1 (by rw [HS.out]; omega)
      have HB1 := Lib.hid (HA.out.trans (hb1.mono HA.out.size))
      have HX1 := Lib.hid X1
      have HY1 := Lib.hid Y1
      have HL1 : Hid (b0 < w1.heap.size ∧ w.heap.size + 1 < w1.heap.size) := Lib.hid ⟨Nat.lt_of_lt_of_le hlt0 HB1.out.size, Y1.lt⟩
      clear hb1 X1 Y1
      go_wp2_with fail
      refine (H2.out _ HV1.out).mono ?_
      rintro e w2 ⟨rfl, hb2⟩
      have X2 : Box2 w2 w.heap.size 35 (.string ⟨#[]⟩) (.string ⟨#[]⟩) := Box2.below HX1.out hb2 (by have := HL1.out; omega)
      have Y2 : Box2 w2 (w.heap.size + 1) 35 (.string ⟨#[]⟩) (.string ⟨#[]⟩) := Box2.below HY1.out hb2 HL1.out.2
      have HB2 := Lib.hid (HB1.out.trans (hb2.mono HB1.out.size))
      have y0 := Y2.c0
      have y1 := Y2.c1
      have x0 := X2.c0
      have x1 := X2.c1
      have f0 := X2.free 0
      have f1 := X2.free 1
      have HX2 := Lib.hid X2
      have hbc2 : w2.cell? ⟨b0, 0, none⟩ = some (.func (.func 65) #[] #[]) := (HB2.out.cell (p := ⟨b0, 0, none⟩) hlt0).trans hbc
      clear hb2 X2 Y2
      go_wp2
      exact retc2 Tryz.results77 two33 w.heap.size rfl rfl rfl (HX2.out.set _ _) ⟨rfl, below_set (below_set HB2.out (Nat.le_refl _) _) (Nat.le_refl _) _⟩
    · rw [if_neg h2] at H2
      rw [(lst_ok _ _).1, (lst_ok _ _).2] at H2
      generalize (lst (⟨#[]⟩ : ByteArray) (List.map bs (tx 2 fs), 0)).2.1 = p2 at H2
      rw [if_neg (by simp [h1, h2])]
      dsimp only [lb0]
      generalize lastD (List.map bs (tx 1 fs)) ⟨#[]⟩ = n1 at *
      generalize lastD (List.map bs (tx 2 fs)) ⟨#[]⟩ = n2 at *
      go_enter Tryz.func77, Tryz.ntmps77
      go_wp2_with fail
      refine (H1.out _ (HV.out.below HA.out (Nat.le_refl _))).mono ?_
      rintro e w1 ⟨rfl, hb1⟩
      have HV1 := Lib.hid ((HV.out.below HA.out (Nat.le_refl _)).below hb1 (Nat.le_refl _))
      have X1 : Box2 w1 w.heap.size 35 (.string ⟨#[]⟩) (.string ⟨#[]⟩) := Box2.below HX.out hb1 (by rw [HS.out]; omega)
      have Y1 : Box2 w1 (w.heap.size + 1) 35 (.string ⟨#[]⟩) (.string ⟨#[]⟩) := Box2.below HY.out hb1 (by rw [HS.out]; omega)
      have HB1 := Lib.hid (HA.out.trans (hb1.mono HA.out.size))
      have HX1 := Lib.hid X1
      have HY1 := Lib.hid Y1
      have HL1 : Hid (b0 < w1.heap.size ∧ w.heap.size + 1 < w1.heap.size) := Lib.hid ⟨Nat.lt_of_lt_of_le hlt0 HB1.out.size, Y1.lt⟩
      clear hb1 X1 Y1
      go_wp2_with fail
      refine (H2.out _ HV1.out).mono ?_
      rintro e w2 ⟨rfl, hb2⟩
      have X2 : Box2 w2 w.heap.size 35 (.string ⟨#[]⟩) (.string ⟨#[]⟩) := Box2.below HX1.out hb2 (by have := HL1.out; omega)
      have Y2 : Box2 w2 (w.heap.size + 1) 35 (.string ⟨#[]⟩) (.string ⟨#[]⟩) := Box2.below HY1.out hb2 HL1.out.2
      have HB2 := Lib.hid (HB1.out.trans (hb2.mono HB1.out.size))
      have y0 := Y2.c0
      have y1 := Y2.c1
      have x0 := X2.c0
      have x1 := X2.c1
      have f0 := X2.free 0
      have f1 := X2.free 1
      have HX2 := Lib.hid X2
      have hbc2 : w2.cell? ⟨b0, 0, none⟩ = some (.func (.func 65) #[] #[]) := (HB2.out.cell (p := ⟨b0, 0, none⟩) hlt0).trans hbc
      clear hb2 X2 Y2
      go_wp2_with fail
      refine (made63 _ _ _).mono ?_
      rintro e w3 ⟨rfl, hb3⟩
      have X3 : Box2 w3 w.heap.size 35 (.string ⟨#[]⟩) (.string ⟨#[]⟩) := HX2.out.below hb3 HX2.out.lt
      have HB3 := Lib.hid (HB2.out.trans (hb3.mono HB2.out.size))
      have g0 := X3.free 0
      have g1 := X3.free 1
      have z0 := X3.c0
      have z1 := X3.c1
      have HX3 := Lib.hid X3
      clear hb3 X3
      go_wp2
      exact retc2 Tryz.results77 two33 w.heap.size rfl rfl rfl (HX3.out.set _ _) ⟨rfl, below_set (below_set HB3.out (Nat.le_refl _) _) (Nat.le_refl _) _⟩
theorem lastD_or {α : Type} : ∀ (l : List α) (d : α), lastD l d = d ∨ lastD l d ∈ l
  | [], d => .inl rfl
  | a :: r, d => by
    rw [lastD]
    rcases lastD_or r a with h | h
    · exact .inr (by rw [h]; simp)
    · exact .inr (by simp [h])
theorem vs_lt (fs : List Fd) (hok : ∀ f ∈ fs, f.ok) (h : bd 2 0 fs = false) : lastD (vs 2 fs) 0 < 18446744073709551616 := by
  rcases lastD_or (vs 2 fs) 0 with e | e
  · rw [e]; decide
  · generalize lastD (vs 2 fs) 0 = x at *
    unfold vs at e
    obtain ⟨f, hf, e⟩ := List.mem_map.1 e
    obtain ⟨hf, h2⟩ := List.mem_filter.1 hf
    rw [← e]
    unfold bd at h
    rw [List.any_eq_false] at h
    have h3 := h f hf
    have h2 : f.n = 2 := by simpa using h2
    have h4 : f.w = 0 := by simpa [h2] using h3
    exact (hok f hf).v0 (.inl h4)
/-- A sample is read of fields. -/
theorem smp_any (fs : List Fd) (hok : ∀ f ∈ fs, f.ok) (hl : fs.length ≤ 1000000) (v : Value) (b0 : Nat) (w : World) (hv : GAt w v (fs.map gfd)) (hb : Boxed w b0 128 (.func (.func 69) #[] #[])) :
    Calls Tryz.prog 81 #[v, .pointer (some ⟨b0, 0, none⟩)] w (Ret w (.tuple #[.agg #[.int .i64 (gSm fs sm0).1.t, .int .u64 ((gSm fs sm0).1.b : Int)], .int .i64 ((gSm fs sm0).2 : Int)])) := by
  have H1 := Lib.hid (fun W (hW : GAt W v (fs.map gfd)) => last_asE (fs.map gfd) (by simpa using hl) 1 v W hW)
  have H2 := Lib.hid (fun W (hW : GAt W v (fs.map gfd)) => last_asV (fs.map gfd) (by simpa using hl) 2 v W hW)
  rw [show alk asE (1 : Int) (fs.map gfd) [] = _ from alk_E 1 fs] at H1
  rw [show alk asV (2 : Int) (fs.map gfd) [] = _ from alk_V 2 fs] at H2
  rw [gSm_eq fs sm0]
  have hnt : lastD ((vs 2 fs).map nt) sm0.t = nt (lastD (vs 2 fs) 0) := lastD_map nt (vs 2 fs) 0
  rw [hnt]
  have hv64 := vs_lt fs hok
  have hlt0 := hb.lt
  have hbc := hb.cell
  have HV := Lib.hid hv
  have HB0 := Lib.hid hb
  obtain ⟨va, vc, hv2⟩ := hv.slice
  rw [List.length_map] at hv2
  generalize fs.length = L at hv2 hl
  subst hv2
  have hv64 := hv64
  clear hok hl hv hb
  have HA : Hid (Below w.heap.size w ((w.alloc (.cells #[.int .i64 0, .int .u64 0] 54)).alloc (.cells #[.int .i64 0, .int .u64 0] 54))) := Lib.hid (below_two _ _ _)
  have HX : Hid (((w.alloc (.cells #[.int .i64 0, .int .u64 0] 54)).alloc (.cells #[.int .i64 0, .int .u64 0] 54)).heap[w.heap.size]? = some (.cells #[.int .i64 0, .int .u64 0] 54)) := Lib.hid (heap_alloc2_old w _ _)
  have HY : Hid (((w.alloc (.cells #[.int .i64 0, .int .u64 0] 54)).alloc (.cells #[.int .i64 0, .int .u64 0] 54)).heap[w.heap.size + 1]? = some (.cells #[.int .i64 0, .int .u64 0] 54)) := Lib.hid (two_at w _ _)
  have HS : Hid (((w.alloc (.cells #[.int .i64 0, .int .u64 0] 54)).alloc (.cells #[.int .i64 0, .int .u64 0] 54)).heap.size = w.heap.size + 2) := Lib.hid (by simp)
  by_cases h1 : bd 1 1 fs = true
  · rw [if_pos h1, lst_no] at H1
    rw [h1, Bool.true_or, if_pos rfl]
    go_enter Tryz.func81, Tryz.ntmps81
    go_wp2_with fail
    refine (H1.out _ (HV.out.below HA.out (Nat.le_refl _))).mono ?_
    rintro e w1 ⟨rfl, hb1⟩
    have X1 : Box2 w1 w.heap.size 54 (.int .i64 0) (.int .u64 0) := Box2.below HX.out hb1 (by rw [HS.out]; omega)
    have Y1 : Box2 w1 (w.heap.size + 1) 54 (.int .i64 0) (.int .u64 0) := Box2.below HY.out hb1 (by rw [HS.out]; omega)
    have HB1 := Lib.hid (HA.out.trans (hb1.mono HA.out.size))
    clear hb1
    have y0 := Y1.c0
    have y1 := Y1.c1
    have x0 := X1.c0
    have x1 := X1.c1
    have f0 := X1.free 0
    have f1 := X1.free 1
    have HX1 := Lib.hid X1
    clear X1 Y1
    go_wp2
    exact retc2 Tryz.results81 two37 w.heap.size rfl rfl rfl (HX1.out.set _ _) ⟨rfl, below_set (below_set HB1.out (Nat.le_refl _) _) (Nat.le_refl _) _⟩
  · rw [if_neg h1] at H1
    rw [(lst_ok _ _).1, (lst_ok _ _).2] at H1
    generalize (lst (0 : Nat) (vs 1 fs, 0)).2.1 = p1 at H1
    by_cases h2 : bd 2 0 fs = true
    · rw [if_pos h2, lst_no] at H2
      rw [h2, Bool.or_true, if_pos rfl]
      dsimp only [sm0]
      generalize lastD (vs 1 fs) 0 = n1 at *
      go_enter Tryz.func81, Tryz.ntmps81
      go_wp2_with fail
      refine (H1.out _ (HV.out.below HA.out (Nat.le_refl _))).mono ?_
      rintro e w1 ⟨rfl, hb1⟩
      have HV1 := Lib.hid ((HV.out.below HA.out (Nat.le_refl _)).below hb1 (Nat.le_refl _))
      have X1 : Box2 w1 w.heap.size 54 (.int .i64 0) (.int .u64 0) := Box2.below HX.out hb1 (by rw [HS.out]; omega)
      have Y1 : Box2 w1 (w.heap.size + 1) 54 (.int .i64 0) (.int .u64 0) := Box2.below HY.out hb1 (by rw [HS.out]; omega)
      have HB1 := Lib.hid (HA.out.trans (hb1.mono HA.out.size))
      have HX1 := Lib.hid X1
      have HY1 := Lib.hid Y1
      have HL1 : Hid (b0 < w1.heap.size ∧ w.heap.size + 1 < w1.heap.size) := Lib.hid ⟨Nat.lt_of_lt_of_le hlt0 HB1.out.size, Y1.lt⟩
      clear hb1 X1 Y1
      go_wp2_with fail
      refine (H2.out _ HV1.out).mono ?_
      rintro e w2 ⟨rfl, hb2⟩
      have X2 : Box2 w2 w.heap.size 54 (.int .i64 0) (.int .u64 0) := Box2.below HX1.out hb2 (by have := HL1.out; omega)
      have Y2 : Box2 w2 (w.heap.size + 1) 54 (.int .i64 0) (.int .u64 0) := Box2.below HY1.out hb2 HL1.out.2
      have HB2 := Lib.hid (HB1.out.trans (hb2.mono HB1.out.size))
      have y0 := Y2.c0
      have y1 := Y2.c1
      have x0 := X2.c0
      have x1 := X2.c1
      have f0 := X2.free 0
      have f1 := X2.free 1
      have HX2 := Lib.hid X2
      have hbc2 : w2.cell? ⟨b0, 0, none⟩ = some (.func (.func 69) #[] #[]) := (HB2.out.cell (p := ⟨b0, 0, none⟩) hlt0).trans hbc
      clear hb2 X2 Y2
      go_wp2
      exact retc2 Tryz.results81 two37 w.heap.size rfl rfl rfl (HX2.out.set _ _) ⟨rfl, below_set (below_set HB2.out (Nat.le_refl _) _) (Nat.le_refl _) _⟩
    · rw [if_neg h2] at H2
      rw [(lst_ok _ _).1, (lst_ok _ _).2] at H2
      generalize (lst (0 : Nat) (vs 2 fs, 0)).2.1 = p2 at H2
      rw [if_neg (by simp [h1, h2])]
      have hn2 := hv64 (by simpa using h2)
      dsimp only [sm0]
      generalize lastD (vs 1 fs) 0 = n1 at *
      generalize lastD (vs 2 fs) 0 = n2 at *
      go_enter Tryz.func81, Tryz.ntmps81
      go_wp2_with fail
      refine (H1.out _ (HV.out.below HA.out (Nat.le_refl _))).mono ?_
      rintro e w1 ⟨rfl, hb1⟩
      have HV1 := Lib.hid ((HV.out.below HA.out (Nat.le_refl _)).below hb1 (Nat.le_refl _))
      have X1 : Box2 w1 w.heap.size 54 (.int .i64 0) (.int .u64 0) := Box2.below HX.out hb1 (by rw [HS.out]; omega)
      have Y1 : Box2 w1 (w.heap.size + 1) 54 (.int .i64 0) (.int .u64 0) := Box2.below HY.out hb1 (by rw [HS.out]; omega)
      have HB1 := Lib.hid (HA.out.trans (hb1.mono HA.out.size))
      have HX1 := Lib.hid X1
      have HY1 := Lib.hid Y1
      have HL1 : Hid (b0 < w1.heap.size ∧ w.heap.size + 1 < w1.heap.size) := Lib.hid ⟨Nat.lt_of_lt_of_le hlt0 HB1.out.size, Y1.lt⟩
      clear hb1 X1 Y1
      go_wp2_with fail
      refine (H2.out _ HV1.out).mono ?_
      rintro e w2 ⟨rfl, hb2⟩
      have X2 : Box2 w2 w.heap.size 54 (.int .i64 0) (.int .u64 0) := Box2.below HX1.out hb2 (by have := HL1.out; omega)
      have Y2 : Box2 w2 (w.heap.size + 1) 54 (.int .i64 0) (.int .u64 0) := Box2.below HY1.out hb2 HL1.out.2
      have HB2 := Lib.hid (HB1.out.trans (hb2.mono HB1.out.size))
      have y0 := Y2.c0
      have y1 := Y2.c1
      have x0 := X2.c0
      have x1 := X2.c1
      have f0 := X2.free 0
      have f1 := X2.free 1
      have HX2 := Lib.hid X2
      have hbc2 : w2.cell? ⟨b0, 0, none⟩ = some (.func (.func 69) #[] #[]) := (HB2.out.cell (p := ⟨b0, 0, none⟩) hlt0).trans hbc
      clear hb2 X2 Y2
      go_wp2_with fail
      refine (made67 _ _ hn2 _).mono ?_
      rintro e w3 ⟨rfl, hb3⟩
      have X3 : Box2 w3 w.heap.size 54 (.int .i64 0) (.int .u64 0) := HX2.out.below hb3 HX2.out.lt
      have HB3 := Lib.hid (HB2.out.trans (hb3.mono HB2.out.size))
      have g0 := X3.free 0
      have g1 := X3.free 1
      have z0 := X3.c0
      have z1 := X3.c1
      have HX3 := Lib.hid X3
      clear hb3 X3
      go_wp2
      exact retc2 Tryz.results81 two37 w.heap.size rfl rfl rfl (HX3.out.set _ _) ⟨rfl, below_set (below_set HB3.out (Nat.le_refl _) _) (Nat.le_refl _) _⟩
end Go.Proofs.YtioflicmpnkfeaaGreat

namespace Go.Proofs.YtioflicmpnkfeaaGreat
open Go Go.RowKit
set_option maxRecDepth 100000
theorem eM_cnt : ∀ fs : List Fd, fs.length ≤ (eM fs).length
  | [] => Nat.le_refl _
  | f :: r => by
    have := eM_cnt r
    have h1 := fby_pos f
    rw [eM_cons, List.length_append, List.length_cons]; omega
theorem msg_ok' {s : List UInt8} (hs : s.length ≤ 1000000) {fs : List Fd} (h : msg s [] = (fs, 0)) : (∀ f ∈ fs, f.ok) ∧ fs.length ≤ s.length := by
  obtain ⟨h1, h2⟩ := msg_len (by omega) h
  exact ⟨h1, Nat.le_trans (eM_cnt fs) h2⟩
theorem partL_any (s : ByteArray) (hs : s.size ≤ 1000000) (b0 : Nat) (w : World) (hb : Boxed w b0 120 (.func (.func 65) #[] #[])) :
    Calls Tryz.prog 76 #[.string s, .func (.func 77) #[] #[.pointer (some ⟨b0, 0, none⟩)]] w (Ret w (.tuple #[.agg #[.string (rLb s.data.toList).1.n, .string (rLb s.data.toList).1.v], .int .i64 ((rLb s.data.toList).2 : Int)])) := by
  have HR := Lib.hid (fun W => pread_any s hs W)
  unfold rLb
  have hlt0 := hb.lt
  have HB0 := Lib.hid hb
  obtain ⟨fs, K, hm⟩ : ∃ fs K, msg s.data.toList [] = (fs, K) := ⟨_, _, rfl⟩
  rw [hm] at HR ⊢
  dsimp only at HR ⊢
  have hl := fun (h : K = 0) => msg_ok' (s := s.data.toList) (fs := fs) (by simpa using hs) (by rw [hm, h])
  rw [show s.data.toList.length = s.size by simp] at hl
  have HA : Hid (Below w.heap.size w (w.alloc (.cells #[.string ⟨#[]⟩, .string ⟨#[]⟩] 35))) := Lib.hid ((Below.refl _ _).alloc (Nat.le_refl _) _)
  have HX : Hid (Box2 (w.alloc (.cells #[.string ⟨#[]⟩, .string ⟨#[]⟩] 35)) w.heap.size 35 (.string ⟨#[]⟩) (.string ⟨#[]⟩)) := Lib.hid (Box2.new _ _ _ _)
  clear hm hb
  by_cases hK : K = 0
  · subst hK
    rw [if_neg (by simp)]
    obtain ⟨hok, hfl⟩ := hl rfl
    have HL := Lib.hid (fun v W (hW : GAt W v (fs.map gfd)) hb => lab_any fs hok (by omega) v b0 W hW hb)
    clear hl hok hfl
    generalize gLb fs lb0 = X at *
    generalize (X.2 : Int) = E at *
    obtain ⟨⟨n, v⟩, E0⟩ := X
    dsimp only at *
    go_enter Tryz.func76, Tryz.ntmps76
    go_wp2_with fail
    refine (HR.out _).mono ?_
    rintro e w1 ⟨u, rfl, ho, hb1⟩
    have HU := Lib.hid ho.at
    obtain ⟨ua, uc, hu⟩ := ho.shape
    rw [List.length_map] at hu
    generalize fs.length = L at hu
    subst hu
    have HX1 := Lib.hid (HX.out.below hb1 HX.out.lt)
    have HB1 := Lib.hid (HA.out.trans (hb1.mono HA.out.size))
    have HP1 : Hid (Boxed w1 b0 120 (.func (.func 65) #[] #[])) := Lib.hid ((HB1.out.block b0 hlt0).trans HB0.out)
    clear ho hb1
    go_wp2_with fail
    refine (HL.out _ _ HU.out HP1.out).mono ?_
    rintro e w2 ⟨rfl, hb2⟩
    have X2 := HX1.out.below hb2 HX1.out.lt
    have HB2 := Lib.hid (HB1.out.trans (hb2.mono HB1.out.size))
    have f0 := X2.free 0
    have f1 := X2.free 1
    have x0 := X2.c0
    have x1 := X2.c1
    have HX2 := Lib.hid X2
    clear X2 hb2
    go_wp2
    exact retc2 Tryz.results76 two33 w.heap.size rfl rfl rfl (HX2.out.set _ _) ⟨rfl, below_set (below_set HB2.out (Nat.le_refl _) _) (Nat.le_refl _) _⟩
  · rw [if_pos hK]
    have hK2 : ((K : Int) != 0) = true := by rw [bne_iff_ne]; omega
    dsimp only [lb0]
    clear hl hK
    go_enter Tryz.func76, Tryz.ntmps76
    go_wp2_with fail
    refine (HR.out _).mono ?_
    rintro e w1 ⟨u, rfl, ho, hb1⟩
    have X1 := HX.out.below hb1 HX.out.lt
    have HB1 := Lib.hid (HA.out.trans (hb1.mono HA.out.size))
    have HX1 := Lib.hid X1
    clear X1 hb1 ho
    have HB2 := Lib.hid (HB1.out.alloc HB1.out.size (.cells #[.string ⟨#[]⟩, .string ⟨#[]⟩] 35))
    have HX2 := Lib.hid (HX1.out.alloc (.cells #[.string ⟨#[]⟩, .string ⟨#[]⟩] 35))
    have f0 := HX2.out.free 0
    have f1 := HX2.out.free 1
    have x0 := HX2.out.c0
    have x1 := HX2.out.c1
    go_wp2
    exact retc2 Tryz.results76 two33 w.heap.size rfl rfl rfl (HX2.out.set _ _) ⟨rfl, below_set (below_set HB2.out (Nat.le_refl _) _) (Nat.le_refl _) _⟩
theorem partM_any (s : ByteArray) (hs : s.size ≤ 1000000) (b0 : Nat) (w : World) (hb : Boxed w b0 128 (.func (.func 69) #[] #[])) :
    Calls Tryz.prog 80 #[.string s, .func (.func 81) #[] #[.pointer (some ⟨b0, 0, none⟩)]] w (Ret w (.tuple #[.agg #[.int .i64 (rSm s.data.toList).1.t, .int .u64 ((rSm s.data.toList).1.b : Int)], .int .i64 ((rSm s.data.toList).2 : Int)])) := by
  have HR := Lib.hid (fun W => pread_any s hs W)
  unfold rSm
  have hlt0 := hb.lt
  have HB0 := Lib.hid hb
  obtain ⟨fs, K, hm⟩ : ∃ fs K, msg s.data.toList [] = (fs, K) := ⟨_, _, rfl⟩
  rw [hm] at HR ⊢
  dsimp only at HR ⊢
  have hl := fun (h : K = 0) => msg_ok' (s := s.data.toList) (fs := fs) (by simpa using hs) (by rw [hm, h])
  rw [show s.data.toList.length = s.size by simp] at hl
  have HA : Hid (Below w.heap.size w (w.alloc (.cells #[.int .i64 0, .int .u64 0] 54))) := Lib.hid ((Below.refl _ _).alloc (Nat.le_refl _) _)
  have HX : Hid (Box2 (w.alloc (.cells #[.int .i64 0, .int .u64 0] 54)) w.heap.size 54 (.int .i64 0) (.int .u64 0)) := Lib.hid (Box2.new _ _ _ _)
  clear hm hb
  by_cases hK : K = 0
  · subst hK
    rw [if_neg (by simp)]
    obtain ⟨hok, hfl⟩ := hl rfl
    have HL := Lib.hid (fun v W (hW : GAt W v (fs.map gfd)) hb => smp_any fs hok (by omega) v b0 W hW hb)
    clear hl hok hfl
    generalize gSm fs sm0 = X at *
    generalize (X.2 : Int) = E at *
    obtain ⟨⟨n, v⟩, E0⟩ := X
    generalize (v : Int) = v at *
    dsimp only at *
    go_enter Tryz.func80, Tryz.ntmps80
    go_wp2_with fail
    refine (HR.out _).mono ?_
    rintro e w1 ⟨u, rfl, ho, hb1⟩
    have HU := Lib.hid ho.at
    obtain ⟨ua, uc, hu⟩ := ho.shape
    rw [List.length_map] at hu
    generalize fs.length = L at hu
    subst hu
    have HX1 := Lib.hid (HX.out.below hb1 HX.out.lt)
    have HB1 := Lib.hid (HA.out.trans (hb1.mono HA.out.size))
    have HP1 : Hid (Boxed w1 b0 128 (.func (.func 69) #[] #[])) := Lib.hid ((HB1.out.block b0 hlt0).trans HB0.out)
    clear ho hb1
    go_wp2_with fail
    refine (HL.out _ _ HU.out HP1.out).mono ?_
    rintro e w2 ⟨rfl, hb2⟩
    have X2 := HX1.out.below hb2 HX1.out.lt
    have HB2 := Lib.hid (HB1.out.trans (hb2.mono HB1.out.size))
    have f0 := X2.free 0
    have f1 := X2.free 1
    have x0 := X2.c0
    have x1 := X2.c1
    have HX2 := Lib.hid X2
    clear X2 hb2
    go_wp2
    exact retc2 Tryz.results80 two37 w.heap.size rfl rfl rfl (HX2.out.set _ _) ⟨rfl, below_set (below_set HB2.out (Nat.le_refl _) _) (Nat.le_refl _) _⟩
  · rw [if_pos hK]
    have hK2 : ((K : Int) != 0) = true := by rw [bne_iff_ne]; omega
    dsimp only [sm0]
    clear hl hK
    go_enter Tryz.func80, Tryz.ntmps80
    go_wp2_with fail
    refine (HR.out _).mono ?_
    rintro e w1 ⟨u, rfl, ho, hb1⟩
    have X1 := HX.out.below hb1 HX.out.lt
    have HB1 := Lib.hid (HA.out.trans (hb1.mono HA.out.size))
    have HX1 := Lib.hid X1
    clear X1 hb1 ho
    have HB2 := Lib.hid (HB1.out.alloc HB1.out.size (.cells #[.int .i64 0, .int .u64 0] 54))
    have HX2 := Lib.hid (HX1.out.alloc (.cells #[.int .i64 0, .int .u64 0] 54))
    have f0 := HX2.out.free 0
    have f1 := HX2.out.free 1
    have x0 := HX2.out.c0
    have x1 := HX2.out.c1
    go_wp2
    exact retc2 Tryz.results80 two37 w.heap.size rfl rfl rfl (HX2.out.set _ _) ⟨rfl, below_set (below_set HB2.out (Nat.le_refl _) _) (Nat.le_refl _) _⟩
end Go.Proofs.YtioflicmpnkfeaaGreat
