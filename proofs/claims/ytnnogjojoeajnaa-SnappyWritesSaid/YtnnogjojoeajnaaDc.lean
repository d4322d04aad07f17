/- The contract of Decode. -/
import Derived.Test.YtnnogjojoeajnaaDe
namespace Go.Proofs.Ytnnogjojoeajnaa
open Go.RowKit Go.Shelf Go.Sort
attribute [local go_sem] Oper.semAt_some
/-- A text and an error told; nothing that was there has turned. -/
def Told (w : World) (x : List UInt8 × Int) (e : Ending) (w' : World) : Prop := e = .returned (.tuple #[.string (bs x.1), .int .i64 x.2]) ∧ Below w.heap.size w w'
theorem szs_ok {l : List UInt8} {N C : Nat} (h : szs l = (N, C, 0)) : Bt.rd l 0 0 = (N, C, 0) ∧ C ≤ l.length := by
  have hf := Bt.rd_facts l 0 0 (by omega) (by simp)
  unfold szs at h
  generalize Bt.rd l 0 0 = r at *
  obtain ⟨a, b, c⟩ := r
  dsimp only at h hf
  by_cases hc : c = 0
  · subst hc
    rw [if_neg (by simp)] at h
    split at h
    · cases h
    · cases h
      exact ⟨rfl, by have := hf.2.1 rfl; omega⟩
  · rw [if_pos hc] at h
    simp only [Prod.mk.injEq] at h
    exact absurd h.2.2 hc
theorem szs_lt {l : List UInt8} {N C K : Nat} (h : szs l = (N, C, K)) : N < 4294967296 := by
  unfold szs at h
  generalize Bt.rd l 0 0 = r at *
  obtain ⟨a, b, c⟩ := r
  dsimp only at h
  split at h
  · simp only [Prod.mk.injEq] at h; omega
  · split at h
    · simp only [Prod.mk.injEq] at h; omega
    · simp only [Prod.mk.injEq] at h; omega
/-- Between two rounds of Decode: h the heap's size at its begin. -/
structure DI' (w : World) (N : Nat) (M : Int) (R : List UInt8 × Int) (n : Nat) (rest : List (Pt × Int)) (W : World) (v : Value) (xs : List UInt8) : Prop where
  b0 : Boxed W w.heap.size 9 (.string ⟨#[]⟩)
  b1 : Boxed W (w.heap.size + 1) 23 (.int .i64 0)
  b2 : Boxed W (w.heap.size + 2) 39 (.int .u64 M)
  b3 : Boxed W (w.heap.size + 3) 28 v
  own : Own W (w.heap.size + 8) v (xs.map bv)
  run : dcd N rest xs = R
  len : xs.length ≤ N
  bel : Below w.heap.size w W
  els : ∀ x ∈ rest, Elem n x
def DI (w : World) (N : Nat) (M : Int) (R : List UInt8 × Int) (n : Nat) (rest : List (Pt × Int)) (W : World) : Prop := ∃ v xs, DI' w N M R n rest W v xs
def DX (w : World) (R : List UInt8 × Int) (c : Code) (W : World) : Prop := c = .ret ∧ Boxed W w.heap.size 9 (.string (bs R.1)) ∧ Boxed W (w.heap.size + 1) 23 (.int .i64 R.2) ∧ Below w.heap.size w W
theorem DI'.grown {w : World} {N : Nat} {M : Int} {R : List UInt8 × Int} {n : Nat} {rest : List (Pt × Int)} {A A' : World} {v : Value} {xs : List UInt8} {row : Option Nat} (h : DI' w N M R n rest A v xs) (hg : A.grownBy A' row) (hr : ∀ r, row = some r → w.heap.size + 5 ≤ r ∧ r < w.heap.size + 8) : DI' w N M R n rest A' v xs := by
  have ne : ∀ j, j < w.heap.size + 5 → some j ≠ row := fun j hj e => by have := hr j e.symm; omega
  refine ⟨h.b0.kept hg (ne _ (by omega)), h.b1.kept hg (ne _ (by omega)), h.b2.kept hg (ne _ (by omega)), h.b3.kept hg (ne _ (by omega)), h.own.kept hg ?_, h.run, h.len, h.bel.grown hg h.bel.size (fun k e => by have := hr k e; omega), h.els⟩
  cases hv : v.ownBlock with
  | none => exact .inl rfl
  | some g =>
    refine .inr fun e => ?_
    have h1 := (h.own.lt g hv).1
    have h2 := hr g e.symm
    omega
theorem DI.ab (w : World) (N : Nat) (M : Int) (R : List UInt8 × Int) (n : Nat) : Ab (w.heap.size + 5) (2 + 1) (DI w N M R n) := by
  rintro s A A' row ⟨v, xs, h⟩ hg hr
  exact ⟨v, xs, h.grown hg hr⟩
theorem DX.ab (w : World) (R : List UInt8 × Int) : Ab (w.heap.size + 5) (2 + 1) (DX w R) := by
  rintro s A A' row ⟨h1, h2, h3, h4⟩ hg hr
  exact ⟨h1, h2.kept hg (fun e => by have := hr _ e.symm; omega), h3.kept hg (fun e => by have := hr _ e.symm; omega), h4.grown hg h4.size (fun k e => by have := hr k e; omega)⟩
theorem boxed_below {n : Nat} {A B : World} {b : Nat} {t : TypeId} {v : Value} (h : Boxed A b t v) (hb : Below n A B) (hlt : b < n) : Boxed B b t v := (hb.block b hlt).trans h
theorem Below.toKept {n : Nat} {A B : World} (h : Below n A B) (q : Nat → Prop) (hq : ∀ j, q j → j < n) : Kept q A B := Kept.below h hq
theorem DI'.leave {w : World} {N : Nat} {M : Int} {R : List UInt8 × Int} {n : Nat} {rest : List (Pt × Int)} {W W2 : World} {v : Value} {xs : List UInt8} (h : DI' w N M R n rest W v xs) (hb : Below W.heap.size W W2) (hB : w.heap.size + 8 ≤ W.heap.size) (e : Int) (hR : ([], e) = R) :
    Kept (fun j => j = w.heap.size + 5 ∨ j = w.heap.size + 5 + 1) W ((W2.setCell ⟨w.heap.size, 0, none⟩ (.string ⟨#[]⟩)).setCell ⟨w.heap.size + 1, 0, none⟩ (.int .i64 e)) ∧
    DX w R .ret ((W2.setCell ⟨w.heap.size, 0, none⟩ (.string ⟨#[]⟩)).setCell ⟨w.heap.size + 1, 0, none⟩ (.int .i64 e)) := by
  subst hR
  have g1 := grownBy_setCell' W2 w.heap.size (.string ⟨#[]⟩)
  have g2 := grownBy_setCell' (W2.setCell ⟨w.heap.size, 0, none⟩ (.string ⟨#[]⟩)) (w.heap.size + 1) (.int .i64 e)
  have b0 : Boxed W2 w.heap.size 9 _ := boxed_below h.b0 hb (by omega)
  have b1 : Boxed W2 (w.heap.size + 1) 23 _ := boxed_below h.b1 hb (by omega)
  have hb' : Below w.heap.size w W2 := h.bel.trans (hb.mono (by omega))
  refine ⟨((Kept.below hb (fun j hj => by omega)).trans (Kept.grown g1 (fun r e => by cases e; omega))).trans (Kept.grown g2 (fun r e => by cases e; omega)), rfl, ?_, ?_, ?_⟩
  · exact (b0.set _).kept g2 (fun e => by have := Option.some.inj e; omega)
  · exact (b1.kept g1 (fun e => by have := Option.some.inj e; omega)).set _
  · exact (hb'.grown g1 hb'.size (fun k e => by cases e; omega)).grown g2 (by have := hb'.size; simp [World.setCell]; omega) (fun k e => by cases e; omega)
theorem DI'.goes {w : World} {N : Nat} {M : Int} {R : List UInt8 × Int} {n : Nat} {x : Pt × Int} {rest : List (Pt × Int)} {W W2 W3 : World} {v v' : Value} {xs ys : List UInt8} (h : DI' w N M R n (x :: rest) W v xs) (hb : Below W.heap.size W W2) (hB : w.heap.size + 8 ≤ W.heap.size)
    (ho : Own W3 (w.heap.size + 8) v' (ys.map bv)) (hs : Step W2 W3 v v') (hrun : dcd N rest ys = R) (hl : ys.length ≤ N) :
    Kept (fun j => j = w.heap.size + 5 + 2 ∨ j = w.heap.size + 5 ∨ j = w.heap.size + 5 + 1) W (W3.setCell ⟨w.heap.size + 3, 0, none⟩ v') ∧
    DI w N M R n rest (W3.setCell ⟨w.heap.size + 3, 0, none⟩ v') := by
  have g3 := grownBy_setCell' W3 (w.heap.size + 3) v'
  have ho2 : Own W2 (w.heap.size + 8) v (xs.map bv) := h.own.below hb (fun k hk => (h.own.lt k hk).2)
  have hne : ∀ j, j < w.heap.size + 8 → some j ≠ v.ownBlock := fun j hj e => by have := (ho2.lt j e.symm).1; omega
  have lo : ∀ j, j < w.heap.size + 8 → ∀ t u, Boxed W j t u → Boxed W3 j t u := fun j hj t u hx => (boxed_below hx hb (by omega)).kept hs.grown (hne j hj)
  have hsz2 := hb.size
  have hb3 : Below w.heap.size w W3 := (h.bel.trans (hb.mono (by omega))).grown hs.grown (by have := h.bel.size; omega) (fun k e => by have := (ho2.lt k e).1; omega)
  refine ⟨((Kept.below hb (fun j hj => by omega)).trans (Kept.grown hs.grown (fun r e => by have := (ho2.lt r e).1; omega))).trans (Kept.grown g3 (fun r e => by cases e; omega)), v', ys, ?_⟩
  refine ⟨(lo _ (by omega) _ _ h.b0).kept g3 (fun e => by have := Option.some.inj e; omega), (lo _ (by omega) _ _ h.b1).kept g3 (fun e => by have := Option.some.inj e; omega), (lo _ (by omega) _ _ h.b2).kept g3 (fun e => by have := Option.some.inj e; omega), (lo _ (by omega) _ _ h.b3).set _, ho.kept g3 ?_, hrun, hl, hb3.grown g3 hb3.size (fun k e => by cases e; omega), fun y hy => h.els y (List.mem_cons_of_mem _ hy)⟩
  cases hv : v'.ownBlock with
  | none => exact .inl rfl
  | some g => exact .inr (fun e => by have := (ho.lt g hv).1; cases e; omega)
theorem results13 (W : World) (p q : Nat) (x : ByteArray) (y : Int) (hx : W.cell? ⟨p, 0, none⟩ = some (.string x)) (hy : W.cell? ⟨q, 0, none⟩ = some (.int .i64 y)) (tmps : Array Value)
    (h4 : tmps.getD 4 undef = .pointer (some ⟨p, 0, none⟩)) (h5 : tmps.getD 5 undef = .pointer (some ⟨q, 0, none⟩)) : (results Try.f13 tmps).run Try.prog W = .ok (.tuple #[.string x, .int .i64 y]) W := by
  have h4' : tmps[4]?.getD undef = .pointer (some ⟨p, 0, none⟩) := by simpa using h4
  have h5' : tmps[5]?.getD undef = .pointer (some ⟨q, 0, none⟩) := by simpa using h5
  simp [results, Try.results13, go_sem, h4', h5', hx, hy]
theorem fin13 {w W : World} {D n : Nat} {u0 u1 : Value} {a : Act} {x : List UInt8 × Int} (h0 : Boxed W w.heap.size 9 u0) (h1 : Boxed W (w.heap.size + 1) 23 u1) (hb : Below w.heap.size w W) (hD : W.heap[D]? = some (.deferred (some []))) (hDw : w.heap.size + 5 ≤ D)
    (ha4 : a.tmps.getD 4 undef = .pointer (some ⟨w.heap.size, 0, none⟩)) (ha5 : a.tmps.getD 5 undef = .pointer (some ⟨w.heap.size + 1, 0, none⟩)) (hd : a.defers = [{ target := .collected D, args := #[] }]) :
    bodyPostM Fence.wide n Try.prog Try.f13 (Told w x) .ret a ((W.setCell ⟨w.heap.size, 0, none⟩ (.string (bs x.1))).setCell ⟨w.heap.size + 1, 0, none⟩ (.int .i64 x.2)) := by
  have g1 := grownBy_setCell' W w.heap.size (.string (bs x.1))
  have g2 := grownBy_setCell' (W.setCell ⟨w.heap.size, 0, none⟩ (.string (bs x.1))) (w.heap.size + 1) (.int .i64 x.2)
  have hlt := (Array.getElem?_eq_some_iff.1 hD).1
  have hD1 := (g1.block D hlt (fun e => by have := Option.some.inj e; omega)).trans hD
  have hD2 := (g2.block D (Array.getElem?_eq_some_iff.1 hD1).1 (fun e => by have := Option.some.inj e; omega)).trans hD1
  have b0 := (h0.set (.string (bs x.1))).kept g2 (fun e => by have := Option.some.inj e; omega)
  have b1 := (h1.kept g1 (fun e => by have := Option.some.inj e; omega)).set (.int .i64 x.2)
  have hb2 := (hb.grown g1 hb.size (fun k e => by cases e; omega)).grown g2 (by have := hb.size; simp [World.setCell]; omega) (fun k e => by cases e; omega)
  have hg := grownBy_putObj' ((W.setCell ⟨w.heap.size, 0, none⟩ (.string (bs x.1))).setCell ⟨w.heap.size + 1, 0, none⟩ (.int .i64 x.2)) D (.deferred none)
  obtain ⟨tm, df⟩ := a
  dsimp only at ha4 ha5 hd
  subst hd
  refine ⟨by simp, .inl ⟨_, _, rfl, run_takeDeferred hD2, ?_⟩⟩
  exact ⟨_, results13 _ w.heap.size (w.heap.size + 1) _ _ (b0.kept hg (fun e => by have := Option.some.inj e; omega)).cell (b1.kept hg (fun e => by have := Option.some.inj e; omega)).cell _ ha4 ha5, rfl, hb2.grown hg hb2.size (fun k e => by cases e; omega)⟩
set_option maxRecDepth 100000 in
set_option maxHeartbeats 1000000 in
theorem decode_walk (s : ByteArray) (hs : s.size ≤ 140737488351232) (hs2 : s.size ≤ 1000000000000) (most : Int) (N C : Nat) (hz : szs s.data.toList = (N, C, 0)) (hN : N < 4294967296) (hm0 : 0 ≤ most) (hm : (N : Int) ≤ most) (hm2 : most ≤ 9223372036854775807) (w : World) :
    Calls Try.prog 13 #[.string s, .int .i64 most] w (Told w (dcd N (its (s.data.toList.drop C)) [])) := by
  have HZ := Lib.hid (fun W => size_any s hs W)
  have hz2 := HZ.out
  rw [hz] at hz2
  have HS := Lib.hid hz2
  have HZZ := Lib.hid hz
  clear hz2 hz HZ
  have hN1 : (N : Int) < 4294967296 := by omega
  have hN0 : 0 ≤ (N : Int) := by omega
  have HNN := Lib.hid hN
  clear hN
  dsimp only at HS
  generalize hM : (N : Int) = M at *
  have HM := Lib.hid hM
  clear hM
  refine (callsIn_wide (n := 5)).1 ?_
  refine callsIn_of_wp_marks Try.func13 rfl trivial ?_ rfl
  simp only [Try.ntmps13, List.size_toArray, List.length_cons, List.length_nil, Nat.reduceAdd, Nat.reduceSub, Array.replicate_succ, Array.replicate_zero, List.push_toArray, List.append_toArray, List.nil_append, List.cons_append]
  gi_wp2_with fail
  refine ⟨trivial, (callsIn_wide.2 (HS.out _)).mono ?_⟩
  rintro e w1 ⟨rfl, rfl⟩
  gi_wp2_with fail
  refine ⟨trivial, (callsIn_wide.2 (elements_any s _)).mono ?_⟩
  rintro e w1 ⟨rfl, hw1⟩
  have hsz : w1.heap.size = w.heap.size + 5 := by rw [hw1]; simp
  have hbel : Below w.heap.size w w1 := by
    rw [hw1]
    exact (((((Below.refl _ w).alloc (Nat.le_refl _) _).alloc (by simp) _).alloc (by simp; omega) _).alloc (by simp; omega) _).alloc (by simp; omega) _
  have hI0 : DI w N M (dcd N (its (s.data.toList.drop C)) []) s.size (its (s.data.toList.drop C)) w1 := by
    refine ⟨.slice none 0 0, [], ?_, ?_, ?_, ?_, Own.nil _ _, rfl, Nat.zero_le _, hbel, fun x hx => its_elem _ _ (by simp) x hx⟩
    · rw [hw1]; exact ((((Boxed.new w 9 _).alloc _).alloc _).alloc _).alloc _
    · have := Boxed.new (w.alloc (.cells #[.string ⟨#[]⟩] 9)) 23 (.int .i64 0)
      rw [World.size_alloc] at this
      rw [hw1]; exact ((this.alloc _).alloc _).alloc _
    · have := Boxed.new ((w.alloc (.cells #[.string ⟨#[]⟩] 9)).alloc (.cells #[.int .i64 0] 23)) 39 (.int .u64 M)
      rw [World.size_alloc, World.size_alloc] at this
      rw [hw1]; exact (this.alloc _).alloc _
    · have := Boxed.new (((w.alloc (.cells #[.string ⟨#[]⟩] 9)).alloc (.cells #[.int .i64 0] 23)).alloc (.cells #[.int .u64 M] 39)) 28 (.slice none 0 0)
      rw [World.size_alloc, World.size_alloc, World.size_alloc] at this
      rw [hw1]; exact this.alloc _
  have hcs : w1.cell? ⟨w.heap.size + 4, 0, none⟩ = some (.string s) := by
    rw [hw1]
    have := (Boxed.new ((((w.alloc (.cells #[.string ⟨#[]⟩] 9)).alloc (.cells #[.int .i64 0] 23)).alloc (.cells #[.int .u64 M] 39)).alloc (.cells #[.slice none 0 0] 28)) 9 (.string s)).cell
    rw [World.size_alloc, World.size_alloc, World.size_alloc, World.size_alloc] at this
    exact this
  have HW1 := Lib.hid hw1
  have HI0 := Lib.hid hI0
  have HCS := Lib.hid hcs
  have HSZ := Lib.hid hsz
  clear hw1 hI0 hcs hsz
  gi_wp2
  apply wp_range2 (gf := 52) (lb := #[.pointer (some ⟨w.heap.size + 4, 0, none⟩)]) rfl (enters_of Try.func52 (by kernel_rfl) rfl) enc2 (fun _ => rfl) (its (s.data.toList.drop C)) 1 (fun j => j = w1.heap.size + 2) (by omega) ?seq
    (DI w N M (dcd N (its (s.data.toList.drop C)) []) s.size) (DX w (dcd N (its (s.data.toList.drop C)) [])) (by rw [HSZ.out]; exact DI.ab _ _ _ _ _) (by rw [HSZ.out]; exact DX.ab _ _) HI0.out
    (fun x Bx W => Box W Bx x.1 ∧ w.heap.size + 8 ≤ Bx) ?ax _ ?assign ?body ?done ?stop
  case seq =>
    intro W hW hb
    rw [← hW]
    obtain ⟨hrd, hC⟩ := szs_ok HZZ.out
    have hl : s.data.toList.length = s.size := by simp
    exact elements_gives _ (by omega) s hs N C hrd (by have := HNN.out; omega) (by omega) W _ ((hb.cell (p := ⟨w.heap.size + 4, 0, none⟩) (by rw [HSZ.out]; simp)).trans HCS.out)
  case ax =>
    rintro x Bx A A' row ⟨h1, h2⟩ hg hr
    exact ⟨h1.kept hg (fun e => by have := hr _ e.symm; rw [HSZ.out] at this; omega), h2⟩
  case assign =>
    intro l x rest W K hI hB hK
    simp only [enc2, pv]
    gi_wp2
    obtain ⟨Bx, hBx⟩ : ∃ Bx, W.heap.size = Bx := ⟨_, rfl⟩
    rw [hBx]
    refine hK Bx _ (Kept.grown (World.grownBy_alloc W _ none) (fun r e => by cases e)) ?_ ⟨by rw [← hBx]; exact Box.new W x.1, by rw [HSZ.out] at hB; omega⟩
    exact DI.ab _ _ _ _ _ _ _ _ none hI (World.grownBy_alloc W _ none) (fun r e => by cases e)
  case body =>
    rintro l x rest Bx W ⟨v, xs, hI⟩ ⟨hbx, hBx⟩ hB
    rw [HSZ.out] at hB
    have hx := hI.els x (List.mem_cons_self ..)
    obtain ⟨⟨pc, pt, po, pl⟩, e⟩ := x
    have hrun := hI.run
    rw [dcd] at hrun
    obtain ⟨x1, x2, x3, x4, x5, x6⟩ := hx
    dsimp only at x1 x2 x3 x4 x5 x6 hbx hrun ⊢
    have HI := Lib.hid hI
    have HBX := Lib.hid hbx
    have HRN := Lib.hid hrun
    clear hI hbx hrun
    have hs1 := HSZ.out
    by_cases he : e = 0
    · subst he
      have hcp := HI.out.b2.cell
      have hcv := HI.out.b3.cell
      obtain ⟨va, vc, hv⟩ := HI.out.own.shape
      have hvl : (xs.map bv).length = xs.length := by simp
      rw [hvl] at hv
      subst hv
      obtain ⟨p0, p1, p2, p3, -, -, -, -⟩ := HBX.out.cells
      dsimp only at p0 p1 p2 p3
      have k0 := cell_regrown p0
      have k1 := cell_regrown p1
      have k2 := cell_regrown p2
      have k3 := cell_regrown p3
      have kp := cell_regrown hcp
      have kv := cell_regrown hcv
      have cH : ∀ d os, Calls Try.prog 34 #[.agg #[.bool pc, .string pt, .int .i64 po, .int .i64 pl], .int .i64 (xs.length : Int)] (grow (redrawn W d) os) fun e w'' => e = .returned (.bool (here ⟨pc, pt, po, pl⟩ xs.length)) ∧ ∃ p : Regrown, w'' = grow (redrawn W p.d) p.os := fun d os => Calls.regrown_of (isHere_any ⟨pc, pt, po, pl⟩ _ _)
      have cC : ∀ d os, Calls Try.prog 35 #[.agg #[.bool pc, .string pt, .int .i64 po, .int .i64 pl]] (grow (redrawn W d) os) fun e w'' => e = .returned (.int .i64 (cnt ⟨pc, pt, po, pl⟩)) ∧ ∃ p : Regrown, w'' = grow (redrawn W p.d) p.os := fun d os => Calls.regrown_of (count_any ⟨pc, pt, po, pl⟩ _)
      have hcn0 : 0 ≤ cnt ⟨pc, pt, po, pl⟩ := by unfold cnt; dsimp only; split <;> omega
      have hcn1 : cnt ⟨pc, pt, po, pl⟩ ≤ 140737488351232 := by unfold cnt; dsimp only; split <;> omega
      have hxl : (xs.length : Int) < 4294967296 := by have := HI.out.len; have := HNN.out; omega
      have w64 : IntKind.i64.wrap ((xs.length : Int) + cnt ⟨pc, pt, po, pl⟩) = (xs.length : Int) + cnt ⟨pc, pt, po, pl⟩ := by rw [Bt.wrap_i64]; omega
      have wu64 : IntKind.u64.wrap ((xs.length : Int) + cnt ⟨pc, pt, po, pl⟩) = (xs.length : Int) + cnt ⟨pc, pt, po, pl⟩ := by rw [IntKind.wrap_u64]; omega
      have HCH := Lib.hid cH; have HCC := Lib.hid cC
      have HP := Lib.hid (⟨p0, p1, p2, p3⟩ : _ ∧ _ ∧ _ ∧ _)
      clear cH cC
      generalize hh : here ⟨pc, pt, po, pl⟩ xs.length = hv at *
      generalize hc : cnt ⟨pc, pt, po, pl⟩ = cn at *
      have HHV := Lib.hid hh; have HCN := Lib.hid hc
      clear hh hc
      clear hs1
      gi_wp2
      refine region_round (by kernel_rfl) (by kernel_rfl) (by kernel_rfl) ?_
      cases hv with
      | false =>
        repeat (go_big_quiet_step (first | (go_at_call 34; exact HCH.out _ _) | (go_at_call 35; exact HCC.out _ _)))
        refine wpQuiet_nil ?_
        intro W2 hw2
        have hb2 : Below W.heap.size W W2 := by obtain ⟨q, rfl⟩ := hw2; exact below_regrown _ _ _
        have HB2 := Lib.hid hb2
        clear hw2 hb2 k0 k1 k2 k3 kp kv
        have z0 := (boxed_below HI.out.b0 HB2.out (by omega)).cell
        have z1 := (boxed_below HI.out.b0 HB2.out (by omega)).frozen
        have z2 := (boxed_below HI.out.b1 HB2.out (by omega)).cell
        have z3 := (boxed_below HI.out.b1 HB2.out (by omega)).frozen
        gi_wp2
        have hR := HRN.out
        rw [if_neg (by simp), if_pos (by simp)] at hR
        have hl := HI.out.leave HB2.out (by omega) 4 hR
        rw [← HSZ.out] at hl
        exact hl
      | true =>
        have HBM := Lib.hid HM
        by_cases hbig : (M : Int) < (xs.length : Int) + cn
        · iterate 3 (quiet_step (fail))
          quiet_step (exact HCH.out _ _)
          iterate 5 (quiet_step (fail))
          quiet_step (exact HCC.out _ _)
          iterate 5 (quiet_step (fail))
          refine wpQuiet_nil ?_
          intro W2 hw2
          have hb2 : Below W.heap.size W W2 := by obtain ⟨q, rfl⟩ := hw2; exact below_regrown _ _ _
          have HB2 := Lib.hid hb2
          clear hw2 hb2 k0 k1 k2 k3 kp kv
          have HBIG := Lib.hid hbig
          clear hbig hxl
          have z0 := (boxed_below HI.out.b0 HB2.out (by omega)).cell
          have z1 := (boxed_below HI.out.b0 HB2.out (by omega)).frozen
          have z2 := (boxed_below HI.out.b1 HB2.out (by omega)).cell
          have z3 := (boxed_below HI.out.b1 HB2.out (by omega)).frozen
          gi_wp2
          have hR := HRN.out
          rw [if_neg (by simp), if_pos (by rw [HM.out, decide_eq_true HBIG.out]; rfl)] at hR
          have hl := HI.out.leave HB2.out (by omega) 4 hR
          rw [← HSZ.out] at hl
          exact hl
        · have hbig' : ¬ ((M : Int) < (xs.length : Int) + cn) := hbig
          repeat (go_big_quiet_step (first | (go_at_call 34; exact HCH.out _ _) | (go_at_call 35; exact HCC.out _ _)))
          refine wpQuiet_nil ?_
          intro W2 hw2
          have hb2 : Below W.heap.size W W2 := by obtain ⟨q, rfl⟩ := hw2; exact below_regrown _ _ _
          have HB2 := Lib.hid hb2
          clear hw2 hb2 k0 k1 k2 k3 kp kv
          have z0 := (boxed_below HI.out.b3 HB2.out (by omega)).cell
          have z1 := (boxed_below HI.out.b3 HB2.out (by omega)).frozen
          obtain ⟨p0, p1, p2, p3, -, -, -, -⟩ := (HBX.out.same (HB2.out.block _ HBX.out.lt)).cells
          dsimp only at p0 p1 p2 p3
          have hown2 : Own W2 (w.heap.size + 8) (.slice va xs.length vc) (xs.map bv) := HI.out.own.below HB2.out (fun k hk => (HI.out.own.lt k hk).2)
          have hfit : Fits ⟨pc, pt, po, pl⟩ xs.length := by
            refine ⟨⟨by dsimp only; omega, by dsimp only; omega, by dsimp only; omega, by dsimp only; omega, by dsimp only; omega⟩, fun hpc => ?_⟩
            have := HHV.out
            unfold here at this
            rw [hpc] at this
            simp at this
            exact ⟨this.1, this.2, x4, x5⟩
          have HG := Lib.hid (grow_any ⟨pc, pt, po, pl⟩ (w.heap.size + 8) (.slice va xs.length vc) xs W2 hfit hown2 (by have := HB2.out.size; omega) (by have := HI.out.len; have := HNN.out; dsimp only; omega))
          have HO2 := Lib.hid hown2
          clear hown2 hfit
          gi_wp2_with fail
          refine ⟨trivial, (CallsIn.inRound l (callsIn_wide.2 HG.out)).mono ?_⟩
          rintro e W3 ⟨v', rfl, ho3, hs3⟩
          have HO3 := Lib.hid ho3; have HS3 := Lib.hid hs3
          clear ho3 hs3
          obtain ⟨va', vc', hv'⟩ := HO3.out.shape
          generalize ((gro xs ⟨pc, pt, po, pl⟩).map bv).length = L at hv'
          subst hv'
          have hne : some (w.heap.size + 3) ≠ (Value.slice va xs.length vc).ownBlock := fun e => by have := (HO2.out.lt _ e.symm).1; omega
          have y0 := ((boxed_below HI.out.b3 HB2.out (by omega)).kept HS3.out.grown hne).cell
          have y1 := ((boxed_below HI.out.b3 HB2.out (by omega)).kept HS3.out.grown hne).frozen
          gi_wp2
          have hR := HRN.out
          rw [if_neg (by simp), if_neg (by rw [HM.out, decide_eq_false (by omega)]; simp)] at hR
          have hlen : (gro xs ⟨pc, pt, po, pl⟩).length ≤ N := by
            have h1 := gro_length xs ⟨pc, pt, po, pl⟩ x4
            rw [HCN.out] at h1
            have := HM.out
            omega
          have hl := HI.out.goes HB2.out (by omega) HO3.out HS3.out hR hlen
          rw [← HSZ.out] at hl
          exact hl
    · have he1 : (e != 0) = true := by rw [bne_iff_ne]; exact he
      have f0 := HI.out.b0.frozen
      have f1 := HI.out.b1.frozen
      have c0 := HI.out.b0.cell
      have c1 := HI.out.b1.cell
      clear hs1
      gi_wp2
      have hR := HRN.out
      rw [if_pos he] at hR
      have hl := HI.out.leave (Below.refl _ W) (by omega) e hR
      rw [← HSZ.out] at hl
      exact hl
  case done =>
    rintro W ⟨v, xs, hI⟩ hD
    have HI := Lib.hid hI
    have hrun := hI.run
    rw [dcd] at hrun
    have HRN := Lib.hid hrun
    have hln := hI.len
    clear hI hrun
    have hcp := HI.out.b2.cell
    have hcv := HI.out.b3.cell
    have f0 := HI.out.b0.frozen
    have f1 := HI.out.b1.frozen
    have c0 := HI.out.b0.cell
    have c1 := HI.out.b1.cell
    have hxl : (xs.length : Int) < 4294967296 := by have := HNN.out; omega
    obtain ⟨va, vc, hv⟩ := HI.out.own.shape
    have hvl : (xs.map bv).length = xs.length := by simp
    rw [hvl] at hv
    subst hv
    have hr := run_string_Own W (w.heap.size + 8) 28 9 5 _ xs HI.out.own Try.underlying28 Try.underlying5 Try.underlying9
    have HLN := Lib.hid hln
    clear hln
    by_cases hsh : (xs.length : Int) < M
    · gi_wp2
      have hR := HRN.out
      rw [if_pos (by have := HM.out; omega)] at hR
      rw [← hR]
      exact fin13 (x := ([], 4)) HI.out.b0 HI.out.b1 HI.out.bel hD (by have := HSZ.out; omega) rfl rfl rfl
    · gi_wp2
      have hR := HRN.out
      rw [if_neg (by have := HM.out; omega)] at hR
      rw [← hR]
      exact fin13 (x := (xs, 0)) HI.out.b0 HI.out.b1 HI.out.bel hD (by have := HSZ.out; omega) rfl rfl rfl
  case stop =>
    rintro c W ⟨rfl, h0, h1, hb⟩ hD
    have c0 := h0.cell
    have c1 := h1.cell
    gi_wp2
    refine ⟨by simp, .inl ⟨_, _, rfl, run_takeDeferred hD, ?_⟩⟩
    have hg := grownBy_putObj' W w1.heap.size (.deferred none)
    refine ⟨_, results13 _ w.heap.size (w.heap.size + 1) _ _ (h0.kept hg (fun e => by have := Option.some.inj e; have := HSZ.out; omega)).cell (h1.kept hg (fun e => by have := Option.some.inj e; have := HSZ.out; omega)).cell _ rfl rfl, rfl, ?_⟩
    exact hb.grown hg hb.size (fun k e => by cases e; have := HSZ.out; omega)
end Go.Proofs.Ytnnogjojoeajnaa
