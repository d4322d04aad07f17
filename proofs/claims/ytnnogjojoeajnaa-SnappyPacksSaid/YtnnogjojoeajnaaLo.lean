/- The contract of longest. -/
import Derived.Test.YtnnogjojoeajnaaMt
namespace Go.Proofs.Ytnnogjojoeajnaa
open Go.RowKit Go.Shelf Go.Sort
attribute [local go_sem] Oper.semAt_some
/-- The match of a place among some that stand ahead of it, the nearest first: how far away, how many bytes. -/
def lg (l : List UInt8) (a most : Nat) : List Nat → Nat → Nat → Nat × Nat
  | [], off, n => (off, n)
  | p :: r, off, n =>
    if n = most ∨ 65535 < a - p then (off, n)
    else if l[p + n]? ≠ l[a + n]? then lg l a most r off n
    else if n < al l p a most then lg l a most r (a - p) (al l p a most) else lg l a most r off n
/-- Between two rounds of longest. -/
structure LI' (w : World) (s : ByteArray) (a most : Nat) (R : Nat × Nat) (rest : List Nat) (W : World) (off n : Nat) : Prop where
  b0 : Boxed W w.heap.size 9 (.string s)
  b1 : Boxed W (w.heap.size + 1) 3 (.int .i64 a)
  b2 : Boxed W (w.heap.size + 2) 3 (.int .i64 off)
  b3 : Boxed W (w.heap.size + 3) 3 (.int .i64 n)
  b4 : Boxed W (w.heap.size + 4) 3 (.int .i64 most)
  run : lg s.data.toList a most rest off n = R
  len : n ≤ most
  off : off ≤ a
  bel : Below w.heap.size w W
  els : ∀ x ∈ rest, x < a
def LI (w : World) (s : ByteArray) (a most : Nat) (R : Nat × Nat) (rest : List Nat) (W : World) : Prop := ∃ off n, LI' w s a most R rest W off n
def LX (w : World) (R : Nat × Nat) (c : Code) (W : World) : Prop := c = .exit 0 ∧ Boxed W (w.heap.size + 2) 3 (.int .i64 R.1) ∧ Boxed W (w.heap.size + 3) 3 (.int .i64 R.2) ∧ Below w.heap.size w W
theorem LI'.grown {w : World} {s : ByteArray} {a most : Nat} {R : Nat × Nat} {rest : List Nat} {A A' : World} {off n : Nat} {row : Option Nat} (h : LI' w s a most R rest A off n) (hg : A.grownBy A' row) (hr : ∀ r, row = some r → w.heap.size + 5 ≤ r) : LI' w s a most R rest A' off n := by
  have ne : ∀ j, j < w.heap.size + 5 → some j ≠ row := fun j hj e => by have := hr j e.symm; omega
  exact ⟨h.b0.kept hg (ne _ (by omega)), h.b1.kept hg (ne _ (by omega)), h.b2.kept hg (ne _ (by omega)), h.b3.kept hg (ne _ (by omega)), h.b4.kept hg (ne _ (by omega)), h.run, h.len, h.off, h.bel.grown hg h.bel.size (fun k e => by have := hr k e; omega), h.els⟩
theorem LI.ab (w : World) (s : ByteArray) (a most : Nat) (R : Nat × Nat) : Ab (w.heap.size + 5) (2 + 0) (LI w s a most R) := by
  rintro x A A' row ⟨off, n, h⟩ hg hr
  exact ⟨off, n, h.grown hg (fun r e => (hr r e).1)⟩
theorem LX.ab (w : World) (R : Nat × Nat) : Ab (w.heap.size + 5) (2 + 0) (LX w R) := by
  rintro s A A' row ⟨h1, h2, h3, h4⟩ hg hr
  exact ⟨h1, h2.kept hg (fun e => by have := hr _ e.symm; omega), h3.kept hg (fun e => by have := hr _ e.symm; omega), h4.grown hg h4.size (fun k e => by have := hr k e; omega)⟩
theorem _root_.Go.Boxed.kept' {A B : World} {b : Nat} {t : TypeId} {v : Value} (h : Boxed A b t v) (hb : B.heap[b]? = A.heap[b]?) : Boxed B b t v := hb.trans h
theorem LI'.stay {w : World} {s : ByteArray} {a most : Nat} {R : Nat × Nat} {p : Nat} {rest : List Nat} {W W2 : World} {off n : Nat} {q : Nat → Prop} (h : LI' w s a most R (p :: rest) W off n) (hb : Below W.heap.size W W2) (hB : w.heap.size + 7 ≤ W.heap.size) (hq : ∀ j, q j → j < w.heap.size)
    (hrun : lg s.data.toList a most rest off n = R) : Kept (fun j => q j ∨ j = w.heap.size + 5 ∨ j = w.heap.size + 5 + 1) W W2 ∧ LI w s a most R rest W2 :=
  ⟨Kept.below hb (fun j hj => hj.elim (fun h1 => by have := hq j h1; omega) (fun h1 => by omega)), off, n,
    (hb.block _ (by omega)).trans h.b0, (hb.block _ (by omega)).trans h.b1, (hb.block _ (by omega)).trans h.b2, (hb.block _ (by omega)).trans h.b3, (hb.block _ (by omega)).trans h.b4, hrun, h.len, h.off, h.bel.trans (hb.mono (by omega)), fun x hx => h.els x (List.mem_cons_of_mem _ hx)⟩
theorem LI'.put {w : World} {s : ByteArray} {a most : Nat} {R : Nat × Nat} {p : Nat} {rest : List Nat} {W W2 : World} {off n : Nat} {q : Nat → Prop} (h : LI' w s a most R (p :: rest) W off n) (hb : Below W.heap.size W W2) (hB : w.heap.size + 7 ≤ W.heap.size) (hq : ∀ j, q j → j < w.heap.size)
    (off' n' : Nat) (ho : off' ≤ a) (hn : n' ≤ most) (hrun : lg s.data.toList a most rest off' n' = R) :
    Kept (fun j => q j ∨ j = w.heap.size + 5 ∨ j = w.heap.size + 5 + 1) W ((W2.setCell ⟨w.heap.size + 2, 0, none⟩ (.int .i64 off')).setCell ⟨w.heap.size + 3, 0, none⟩ (.int .i64 n')) ∧
    LI w s a most R rest ((W2.setCell ⟨w.heap.size + 2, 0, none⟩ (.int .i64 off')).setCell ⟨w.heap.size + 3, 0, none⟩ (.int .i64 n')) := by
  have hk : Kept (fun j => q j ∨ j = w.heap.size + 5 ∨ j = w.heap.size + 5 + 1) W W2 := Kept.below hb (fun j hj => hj.elim (fun h1 => by have := hq j h1; omega) (fun h1 => by omega))
  have g1 := grownBy_setCell' W2 (w.heap.size + 2) (.int .i64 off')
  have g2 := grownBy_setCell' (W2.setCell ⟨w.heap.size + 2, 0, none⟩ (.int .i64 off')) (w.heap.size + 3) (.int .i64 n')
  have z : ∀ j t v, j < w.heap.size + 5 → Boxed W j t v → Boxed W2 j t v := fun j t v hj hx => (hb.block _ (by omega)).trans hx
  have hb2 : Below w.heap.size w W2 := h.bel.trans (hb.mono (by omega))
  refine ⟨(hk.trans (Kept.grown g1 ?_)).trans (Kept.grown g2 ?_), off', n', ?_⟩
  · intro r e; cases e; rintro (hj | hj | hj)
    · have := hq _ hj; omega
    · omega
    · omega
  · intro r e; cases e; rintro (hj | hj | hj)
    · have := hq _ hj; omega
    · omega
    · omega
  · have ne : ∀ i j : Nat, i ≠ j → some i ≠ some j := fun i j hij e => hij (Option.some.inj e)
    exact ⟨((z _ _ _ (by omega) h.b0).kept g1 (ne _ _ (by omega))).kept g2 (ne _ _ (by omega)), ((z _ _ _ (by omega) h.b1).kept g1 (ne _ _ (by omega))).kept g2 (ne _ _ (by omega)), ((z _ _ _ (by omega) h.b2).set _).kept g2 (ne _ _ (by omega)), ((z _ _ _ (by omega) h.b3).kept g1 (ne _ _ (by omega))).set _, ((z _ _ _ (by omega) h.b4).kept g1 (ne _ _ (by omega))).kept g2 (ne _ _ (by omega)),
      hrun, hn, ho, (hb2.grown g1 hb2.size (fun k e => by cases e; omega)).grown g2 (by have := hb2.size; simp [World.setCell]; omega) (fun k e => by cases e; omega), fun x hx => h.els x (List.mem_cons_of_mem _ hx)⟩
theorem LI'.out {w : World} {s : ByteArray} {a most : Nat} {R : Nat × Nat} {rest : List Nat} {W : World} {off n : Nat} (h : LI' w s a most R rest W off n) (hR : (off, n) = R) : Kept (fun j => j = w.heap.size + 5 ∨ j = w.heap.size + 5 + 1) W W ∧ LX w R (.exit 0) W := by
  subst hR
  exact ⟨Kept.refl _ _, rfl, h.b2, h.b3, h.bel⟩
/-- Two numbers told. -/
def Two (w : World) (x : Nat × Nat) (e : Ending) (w' : World) : Prop := e = .returned (.tuple #[.int .i64 x.1, .int .i64 x.2]) ∧ Below w.heap.size w w'
theorem results44 (W : World) (p q : Nat) (x y : Int) (hx : W.cell? ⟨p, 0, none⟩ = some (.int .i64 x)) (hy : W.cell? ⟨q, 0, none⟩ = some (.int .i64 y)) (tmps : Array Value)
    (h4 : tmps.getD 6 undef = .pointer (some ⟨p, 0, none⟩)) (h5 : tmps.getD 7 undef = .pointer (some ⟨q, 0, none⟩)) : (results Try.f44 tmps).run Try.prog W = .ok (.tuple #[.int .i64 x, .int .i64 y]) W := by
  have h4' : tmps[6]?.getD undef = .pointer (some ⟨p, 0, none⟩) := by simpa using h4
  have h5' : tmps[7]?.getD undef = .pointer (some ⟨q, 0, none⟩) := by simpa using h5
  simp [results, Try.results44, go_sem, h4', h5', hx, hy]
theorem fin44 {w W : World} {D n : Nat} {u0 u1 : Value} {a : Act} {x : Nat × Nat} (h0 : Boxed W (w.heap.size + 2) 3 u0) (h1 : Boxed W (w.heap.size + 3) 3 u1) (hb : Below w.heap.size w W) (hD : W.heap[D]? = some (.deferred (some []))) (hDw : w.heap.size + 5 ≤ D)
    (ha4 : a.tmps.getD 6 undef = .pointer (some ⟨w.heap.size + 2, 0, none⟩)) (ha5 : a.tmps.getD 7 undef = .pointer (some ⟨w.heap.size + 3, 0, none⟩)) (hd : a.defers = [{ target := .collected D, args := #[] }]) :
    bodyPostM Fence.wide n Try.prog Try.f44 (Two w x) .ret a ((W.setCell ⟨w.heap.size + 2, 0, none⟩ (.int .i64 x.1)).setCell ⟨w.heap.size + 3, 0, none⟩ (.int .i64 x.2)).drew := by
  have g1 := grownBy_setCell' W (w.heap.size + 2) (.int .i64 x.1)
  have g2 := grownBy_setCell' (W.setCell ⟨w.heap.size + 2, 0, none⟩ (.int .i64 x.1)) (w.heap.size + 3) (.int .i64 x.2)
  have hlt := (Array.getElem?_eq_some_iff.1 hD).1
  have hD1 := (g1.block D hlt (fun e => by have := Option.some.inj e; omega)).trans hD
  have hD2 := (g2.block D (Array.getElem?_eq_some_iff.1 hD1).1 (fun e => by have := Option.some.inj e; omega)).trans hD1
  have b0 := (h0.set (.int .i64 x.1)).kept g2 (fun e => by have := Option.some.inj e; omega)
  have b1 := (h1.kept g1 (fun e => by have := Option.some.inj e; omega)).set (.int .i64 x.2)
  have hb2 := (hb.grown g1 hb.size (fun k e => by cases e; omega)).grown g2 (by have := hb.size; simp [World.setCell]; omega) (fun k e => by cases e; omega)
  generalize ((W.setCell ⟨w.heap.size + 2, 0, none⟩ (.int .i64 x.1)).setCell ⟨w.heap.size + 3, 0, none⟩ (.int .i64 x.2)) = W' at *
  have hD3 : W'.drew.heap[D]? = some (.deferred (some [])) := hD2
  have hg := grownBy_putObj' W'.drew D (.deferred none)
  have b0' : Boxed W'.drew _ _ _ := b0
  have b1' : Boxed W'.drew _ _ _ := b1
  have hb3 : Below w.heap.size w W'.drew := ⟨hb2.os, hb2.tape, hb2.output, hb2.size, hb2.block⟩
  obtain ⟨tm, df⟩ := a
  dsimp only at ha4 ha5 hd
  subst hd
  refine ⟨by simp, .inl ⟨_, _, rfl, run_takeDeferred hD3, ?_⟩⟩
  exact ⟨_, results44 _ _ _ _ _ (b0'.kept hg (fun e => by have := Option.some.inj e; omega)).cell (b1'.kept hg (fun e => by have := Option.some.inj e; omega)).cell _ ha4 ha5, rfl, hb3.grown hg hb3.size (fun k e => by cases e; omega)⟩
set_option maxRecDepth 100000 in
set_option maxHeartbeats 1000000 in
theorem longest_any (s : ByteArray) (hs : s.size ≤ 1000000000000) (a most : Nat) (ha : a < s.size) (hmo : most = min 64 (s.size - a)) (XS : List Nat) (hX : ∀ x ∈ XS, x < a) (gf : Nat) (lb : Array Value) (q : Nat → Prop) (w : World)
    (eg : ∀ args w, (callFunc gf args).run Try.prog w = .ok (.enter gf args) w) (hq : ∀ j, q j → j < w.heap.size) (hseq : ∀ n W, 1 ≤ n → Below w.heap.size w W → Gives n Try.prog gf lb enc1 XS 0 q W) :
    Calls Try.prog 44 #[.string s, .int .i64 a, .func (.func gf) #[] lb] w (Two w (lg s.data.toList a most XS 0 0)) := by
  have HSQ := Lib.hid hseq
  have HQ := Lib.hid hq
  have HMO := Lib.hid hmo
  have hm64 : most ≤ 64 := by omega
  have hmost : a + most ≤ s.size := by omega
  clear hseq hq hmo
  refine (callsIn_wide (n := 5)).1 ?_
  refine callsIn_of_wp_marks Try.func44 rfl trivial ?_ rfl
  simp only [Try.ntmps44, List.size_toArray, List.length_cons, List.length_nil, Nat.reduceAdd, Nat.reduceSub, Array.replicate_succ, Array.replicate_zero, List.push_toArray, List.append_toArray, List.nil_append, List.cons_append]
  have hcase : (64 = most ∧ (64 : Int) ≤ (s.size : Int) - (a : Int)) ∨ ((s.size : Int) - (a : Int) < 64 ∧ (s.size : Int) - (a : Int) = (most : Int)) := by have := HMO.out; omega
  rcases hcase with ⟨rfl, hmin⟩ | ⟨hmin, hmin2⟩
  all_goals
    gi_wp2
  · obtain ⟨w1, hw1⟩ : ∃ w1, w1 = (((((w.alloc (.cells #[.string s] 9)).alloc (.cells #[.int .i64 a] 3)).alloc (.cells #[.int .i64 0] 3)).alloc (.cells #[.int .i64 0] 3)).alloc (.cells #[.int .i64 64] 3)) := ⟨_, rfl⟩
    rw [← hw1]
    have hsz : w1.heap.size = w.heap.size + 5 := by rw [hw1]; simp
    have hbel : Below w.heap.size w w1 := by
      rw [hw1]
      exact (((((Below.refl _ w).alloc (Nat.le_refl _) _).alloc (by simp) _).alloc (by simp; omega) _).alloc (by simp; omega) _).alloc (by simp; omega) _
    have hI0 : LI w s a 64 (lg s.data.toList a 64 XS 0 0) XS w1 := by
      refine ⟨0, 0, ?_, ?_, ?_, ?_, ?_, rfl, Nat.zero_le _, Nat.zero_le _, hbel, hX⟩
      · rw [hw1]; exact ((((Boxed.new w 9 _).alloc _).alloc _).alloc _).alloc _
      · have := Boxed.new (w.alloc (.cells #[.string s] 9)) 3 (.int .i64 a)
        rw [World.size_alloc] at this
        rw [hw1]; exact ((this.alloc _).alloc _).alloc _
      · have := Boxed.new ((w.alloc (.cells #[.string s] 9)).alloc (.cells #[.int .i64 a] 3)) 3 (.int .i64 0)
        rw [World.size_alloc, World.size_alloc] at this
        rw [hw1]; exact (this.alloc _).alloc _
      · have := Boxed.new (((w.alloc (.cells #[.string s] 9)).alloc (.cells #[.int .i64 a] 3)).alloc (.cells #[.int .i64 0] 3)) 3 (.int .i64 0)
        rw [World.size_alloc, World.size_alloc, World.size_alloc] at this
        rw [hw1]; exact this.alloc _
      · have := Boxed.new ((((w.alloc (.cells #[.string s] 9)).alloc (.cells #[.int .i64 a] 3)).alloc (.cells #[.int .i64 0] 3)).alloc (.cells #[.int .i64 0] 3)) 3 (.int .i64 64)
        rw [World.size_alloc, World.size_alloc, World.size_alloc, World.size_alloc] at this
        rw [hw1]; exact this
    have HW1 := Lib.hid hw1
    have HI0 := Lib.hid hI0
    have HSZ := Lib.hid hsz
    clear hw1 hI0 hsz
    apply wp_range2 (gf := gf) (lb := lb) rfl eg enc1 (fun _ => rfl) XS 0 q (fun hj => by have := HQ.out _ hj; have := HSZ.out; omega) ?seq
      (LI w s a 64 (lg s.data.toList a 64 XS 0 0)) (LX w (lg s.data.toList a 64 XS 0 0)) (by rw [HSZ.out]; exact LI.ab _ _ _ _ _) (by rw [HSZ.out]; exact LX.ab _ _) HI0.out
      (fun x Bx W => True) (fun _ _ _ _ _ _ _ _ => trivial) _ ?assign ?body ?done ?stop
    case seq =>
      intro W hW hb
      exact HSQ.out _ W (by omega) (hbel.trans (hb.mono (by have := HSZ.out; omega)))
    case assign =>
      intro l x rest W K hI hB hK
      simp only [enc1]
      gi_wp2
      obtain ⟨z, -⟩ : ∃ z : Nat, z = 0 := ⟨_, rfl⟩
      exact hK z _ (Kept.refl _ _) hI trivial
    case body =>
      rintro l p rest Bx W ⟨off, n, hI⟩ - hB
      rw [HSZ.out] at hB
      have hp := hI.els p (List.mem_cons_self ..)
      have hrun := hI.run
      rw [lg] at hrun
      have hn := hI.len
      have HI := Lib.hid hI
      have HRN := Lib.hid hrun
      have c0 := hI.b0.cell
      have c1 := hI.b1.cell
      have c2 := hI.b2.cell
      have c3 := hI.b3.cell
      have c4 : W.cell? ⟨w.heap.size + 4, 0, none⟩ = some (.int .i64 64) := hI.b4.cell
      clear hI hrun
      by_cases hnm : n = 64
      · subst hnm
        gi_wp2
        have hl := HI.out.out (by have := HRN.out; rw [if_pos (by simp)] at this; exact this)
        rw [← HSZ.out] at hl
        exact hl
      · have hnmb : ((n : Int) == 64) = false := by rw [beq_eq_false_iff_ne]; omega
        by_cases hfar : 65535 < a - p
        · have hfi : (65535 : Int) < (a : Int) - (p : Int) := by omega
          gi_wp2
          have hl := HI.out.out (by have := HRN.out; rw [if_pos (.inr hfar)] at this; exact this)
          rw [← HSZ.out] at hl
          exact hl
        · have hfi : (a : Int) - (p : Int) ≤ 65535 := by omega
          obtain ⟨X, hXX⟩ : ∃ X, X = p + n := ⟨_, rfl⟩
          obtain ⟨Y, hYY⟩ : ∃ Y, Y = a + n := ⟨_, rfl⟩
          have h1 : X < s.size := by omega
          have h2 : Y < s.size := by omega
          have h1i : (X : Int) < (s.size : Int) := by omega
          have h2i : (Y : Int) < (s.size : Int) := by omega
          have v1 : IntKind.i64.wrap ((p : Int) + (n : Int)) = (X : Int) := by rw [Bt.wrap_i64]; omega
          have v2 : IntKind.i64.wrap ((a : Int) + (n : Int)) = (Y : Int) := by rw [Bt.wrap_i64]; omega
          have hR0 := HRN.out
          rw [if_neg (by omega), ← hXX, ← hYY] at hR0
          have hx1 : s.data.toList[X]? = some s[X] := by rw [List.getElem?_eq_getElem (by simpa using h1)]; rfl
          have hy1 : s.data.toList[Y]? = some s[Y] := by rw [List.getElem?_eq_getElem (by simpa using h2)]; rfl
          rw [hx1, hy1] at hR0
          have HR0 := Lib.hid hR0
          generalize hx : s[X] = x at *
          generalize hy : s[Y] = y at *
          clear hR0 hx1 hy1 hXX hYY
          have k0 := cell_regrown c0
          have k1 := cell_regrown c1
          have k3 := cell_regrown c3
          gi_wp2
          refine region_round (by kernel_rfl) (by kernel_rfl) (by kernel_rfl) ?_
          repeat (go_big_quiet_step (fail))
          refine wpQuiet_nil ?_
          intro W2 hw2
          have hb2 : Below W.heap.size W W2 := by obtain ⟨q, rfl⟩ := hw2; exact below_regrown _ _ _
          have HB2 := Lib.hid hb2
          clear hw2 hb2 k0 k1 k3 c0 c1 c2 c3 c4
          have hbl := fun j (hj : j < w.heap.size + 5) => HB2.out.block j (show j < W.heap.size by omega)
          have c0 := (HI.out.b0.kept' (hbl _ (by omega))).cell
          have c1 := (HI.out.b1.kept' (hbl _ (by omega))).cell
          have c3 := (HI.out.b3.kept' (hbl _ (by omega))).cell
          have c4 : W2.cell? ⟨w.heap.size + 4, 0, none⟩ = some (.int .i64 64) := (HI.out.b4.kept' (hbl _ (by omega))).cell
          clear hbl
          by_cases hxy : x = y
          · subst hxy
            have HA := Lib.hid (alike_any s p a 64 W2 (by omega) (by omega) (by omega) hs)
            have hm := alk_le 64 (s.data.toList.drop p) (s.data.toList.drop a)
            obtain ⟨D, hD⟩ : ∃ D, D = a - p := ⟨_, rfl⟩
            have hDi : (a : Int) - (p : Int) = (D : Int) := by omega
            have hR1 := HR0.out
            rw [if_neg (by simp), ← hD] at hR1
            have HR1 := Lib.hid hR1
            have HD := Lib.hid hD
            clear hR1 hD
            change al s.data.toList p a 64 ≤ 64 at hm
            generalize al s.data.toList p a 64 = m at *
            gi_wp2_with fail
            refine ⟨trivial, (CallsIn.inRound l (callsIn_wide.2 HA.out)).mono ?_⟩
            rintro e W3 ⟨rfl, hb3⟩
            have HB3 := Lib.hid (HB2.out.trans (hb3.mono HB2.out.size))
            clear hb3 c0 c1 c3 c4
            have hbl := fun j (hj : j < w.heap.size + 5) => HB3.out.block j (show j < W.heap.size by omega)
            have c1 := (HI.out.b1.kept' (hbl _ (by omega))).cell
            have c2 := (HI.out.b2.kept' (hbl _ (by omega))).cell
            have c3 := (HI.out.b3.kept' (hbl _ (by omega))).cell
            have f2 := (HI.out.b2.kept' (hbl _ (by omega))).frozen
            have f3 := (HI.out.b3.kept' (hbl _ (by omega))).frozen
            clear hbl
            by_cases hnm2 : n < m
            · gi_wp2
              have hR := HR1.out
              rw [if_pos hnm2] at hR
              have hl := HI.out.put HB3.out (by omega) HQ.out D m (by have := HD.out; omega) hm hR
              rw [← HSZ.out] at hl
              exact hl
            · gi_wp2
              have hR := HR1.out
              rw [if_neg hnm2] at hR
              have hl := HI.out.stay HB3.out (by omega) HQ.out hR
              rw [← HSZ.out] at hl
              exact hl
          · have hbv : ((x.toNat : Int) != (y.toNat : Int)) = true := by
              rw [bne_iff_ne]
              intro e
              exact hxy (UInt8.toNat_inj.1 (by omega))
            have hbv2 : (x.toNat != y.toNat) = true := by
              rw [bne_iff_ne]
              intro e
              exact hxy (UInt8.toNat_inj.1 (by omega))
            gi_wp2
            have hR := HR0.out
            rw [if_pos (by simp [hxy])] at hR
            have hl := HI.out.stay HB2.out (by omega) HQ.out hR
            rw [← HSZ.out] at hl
            exact hl
    case done =>
      rintro W ⟨off, n, hI⟩ hD
      have hR := hI.run
      rw [lg] at hR
      have HR := Lib.hid hR
      have HI := Lib.hid hI
      have c2 := hI.b2.cell
      have c3 := hI.b3.cell
      have f2 := hI.b2.frozen
      have f3 := hI.b3.frozen
      clear hI hR
      gi_wp2
      gi_region
      gi_wp2
      rw [← HR.out]
      exact fin44 (x := (off, n)) HI.out.b2 HI.out.b3 HI.out.bel hD (by have := HSZ.out; omega) rfl rfl (by rw [HSZ.out])
    case stop =>
      rintro c W ⟨rfl, h2, h3, hb⟩ hD
      have H2 := Lib.hid h2
      have H3 := Lib.hid h3
      have c2 := h2.cell
      have c3 := h3.cell
      have f2 := h2.frozen
      have f3 := h3.frozen
      clear h2 h3
      generalize lg s.data.toList a 64 XS 0 0 = R at *
      obtain ⟨R1, R2⟩ := R
      dsimp only at c2 c3
      gi_wp2
      gi_region
      gi_wp2
      exact fin44 (x := (R1, R2)) H2.out H3.out hb hD (by have := HSZ.out; omega) rfl rfl (by rw [HSZ.out])
  · obtain ⟨w1, hw1⟩ : ∃ w1, w1 = (((((w.alloc (.cells #[.string s] 9)).alloc (.cells #[.int .i64 a] 3)).alloc (.cells #[.int .i64 0] 3)).alloc (.cells #[.int .i64 0] 3)).alloc (.cells #[.int .i64 most] 3)) := ⟨_, rfl⟩
    rw [← hw1]
    have hsz : w1.heap.size = w.heap.size + 5 := by rw [hw1]; simp
    have hbel : Below w.heap.size w w1 := by
      rw [hw1]
      exact (((((Below.refl _ w).alloc (Nat.le_refl _) _).alloc (by simp) _).alloc (by simp; omega) _).alloc (by simp; omega) _).alloc (by simp; omega) _
    have hI0 : LI w s a most (lg s.data.toList a most XS 0 0) XS w1 := by
      refine ⟨0, 0, ?_, ?_, ?_, ?_, ?_, rfl, Nat.zero_le _, Nat.zero_le _, hbel, hX⟩
      · rw [hw1]; exact ((((Boxed.new w 9 _).alloc _).alloc _).alloc _).alloc _
      · have := Boxed.new (w.alloc (.cells #[.string s] 9)) 3 (.int .i64 a)
        rw [World.size_alloc] at this
        rw [hw1]; exact ((this.alloc _).alloc _).alloc _
      · have := Boxed.new ((w.alloc (.cells #[.string s] 9)).alloc (.cells #[.int .i64 a] 3)) 3 (.int .i64 0)
        rw [World.size_alloc, World.size_alloc] at this
        rw [hw1]; exact (this.alloc _).alloc _
      · have := Boxed.new (((w.alloc (.cells #[.string s] 9)).alloc (.cells #[.int .i64 a] 3)).alloc (.cells #[.int .i64 0] 3)) 3 (.int .i64 0)
        rw [World.size_alloc, World.size_alloc, World.size_alloc] at this
        rw [hw1]; exact this.alloc _
      · have := Boxed.new ((((w.alloc (.cells #[.string s] 9)).alloc (.cells #[.int .i64 a] 3)).alloc (.cells #[.int .i64 0] 3)).alloc (.cells #[.int .i64 0] 3)) 3 (.int .i64 (most : Int))
        rw [World.size_alloc, World.size_alloc, World.size_alloc, World.size_alloc] at this
        rw [hw1]; exact this
    have HW1 := Lib.hid hw1
    have HI0 := Lib.hid hI0
    have HSZ := Lib.hid hsz
    clear hw1 hI0 hsz
    apply wp_range2 (gf := gf) (lb := lb) rfl eg enc1 (fun _ => rfl) XS 0 q (fun hj => by have := HQ.out _ hj; have := HSZ.out; omega) ?seq
      (LI w s a most (lg s.data.toList a most XS 0 0)) (LX w (lg s.data.toList a most XS 0 0)) (by rw [HSZ.out]; exact LI.ab _ _ _ _ _) (by rw [HSZ.out]; exact LX.ab _ _) HI0.out
      (fun x Bx W => True) (fun _ _ _ _ _ _ _ _ => trivial) _ ?assign ?body ?done ?stop
    case seq =>
      intro W hW hb
      exact HSQ.out _ W (by omega) (hbel.trans (hb.mono (by have := HSZ.out; omega)))
    case assign =>
      intro l x rest W K hI hB hK
      simp only [enc1]
      gi_wp2
      obtain ⟨z, -⟩ : ∃ z : Nat, z = 0 := ⟨_, rfl⟩
      exact hK z _ (Kept.refl _ _) hI trivial
    case body =>
      rintro l p rest Bx W ⟨off, n, hI⟩ - hB
      rw [HSZ.out] at hB
      have hp := hI.els p (List.mem_cons_self ..)
      have hrun := hI.run
      rw [lg] at hrun
      have hn := hI.len
      have HI := Lib.hid hI
      have HRN := Lib.hid hrun
      have c0 := hI.b0.cell
      have c1 := hI.b1.cell
      have c2 := hI.b2.cell
      have c3 := hI.b3.cell
      have c4 : W.cell? ⟨w.heap.size + 4, 0, none⟩ = some (.int .i64 (most : Int)) := hI.b4.cell
      clear hI hrun
      by_cases hnm : n = most
      · subst hnm
        gi_wp2
        have hl := HI.out.out (by have := HRN.out; rw [if_pos (by simp)] at this; exact this)
        rw [← HSZ.out] at hl
        exact hl
      · have hnmb : ((n : Int) == (most : Int)) = false := by rw [beq_eq_false_iff_ne]; omega
        by_cases hfar : 65535 < a - p
        · have hfi : (65535 : Int) < (a : Int) - (p : Int) := by omega
          gi_wp2
          have hl := HI.out.out (by have := HRN.out; rw [if_pos (.inr hfar)] at this; exact this)
          rw [← HSZ.out] at hl
          exact hl
        · have hfi : (a : Int) - (p : Int) ≤ 65535 := by omega
          obtain ⟨X, hXX⟩ : ∃ X, X = p + n := ⟨_, rfl⟩
          obtain ⟨Y, hYY⟩ : ∃ Y, Y = a + n := ⟨_, rfl⟩
          have h1 : X < s.size := by omega
          have h2 : Y < s.size := by omega
          have h1i : (X : Int) < (s.size : Int) := by omega
          have h2i : (Y : Int) < (s.size : Int) := by omega
          have v1 : IntKind.i64.wrap ((p : Int) + (n : Int)) = (X : Int) := by rw [Bt.wrap_i64]; omega
          have v2 : IntKind.i64.wrap ((a : Int) + (n : Int)) = (Y : Int) := by rw [Bt.wrap_i64]; omega
          have hR0 := HRN.out
          rw [if_neg (by omega), ← hXX, ← hYY] at hR0
          have hx1 : s.data.toList[X]? = some s[X] := by rw [List.getElem?_eq_getElem (by simpa using h1)]; rfl
          have hy1 : s.data.toList[Y]? = some s[Y] := by rw [List.getElem?_eq_getElem (by simpa using h2)]; rfl
          rw [hx1, hy1] at hR0
          have HR0 := Lib.hid hR0
          generalize hx : s[X] = x at *
          generalize hy : s[Y] = y at *
          clear hR0 hx1 hy1 hXX hYY
          have k0 := cell_regrown c0
          have k1 := cell_regrown c1
          have k3 := cell_regrown c3
          gi_wp2
          refine region_round (by kernel_rfl) (by kernel_rfl) (by kernel_rfl) ?_
          repeat (go_big_quiet_step (fail))
          refine wpQuiet_nil ?_
          intro W2 hw2
          have hb2 : Below W.heap.size W W2 := by obtain ⟨q, rfl⟩ := hw2; exact below_regrown _ _ _
          have HB2 := Lib.hid hb2
          clear hw2 hb2 k0 k1 k3 c0 c1 c2 c3 c4
          have hbl := fun j (hj : j < w.heap.size + 5) => HB2.out.block j (show j < W.heap.size by omega)
          have c0 := (HI.out.b0.kept' (hbl _ (by omega))).cell
          have c1 := (HI.out.b1.kept' (hbl _ (by omega))).cell
          have c3 := (HI.out.b3.kept' (hbl _ (by omega))).cell
          have c4 : W2.cell? ⟨w.heap.size + 4, 0, none⟩ = some (.int .i64 (most : Int)) := (HI.out.b4.kept' (hbl _ (by omega))).cell
          clear hbl
          by_cases hxy : x = y
          · subst hxy
            have HA := Lib.hid (alike_any s p a most W2 (by omega) (by omega) (by omega) hs)
            have hm := alk_le most (s.data.toList.drop p) (s.data.toList.drop a)
            obtain ⟨D, hD⟩ : ∃ D, D = a - p := ⟨_, rfl⟩
            have hDi : (a : Int) - (p : Int) = (D : Int) := by omega
            have hR1 := HR0.out
            rw [if_neg (by simp), ← hD] at hR1
            have HR1 := Lib.hid hR1
            have HD := Lib.hid hD
            clear hR1 hD
            change al s.data.toList p a most ≤ most at hm
            generalize al s.data.toList p a most = m at *
            gi_wp2_with fail
            refine ⟨trivial, (CallsIn.inRound l (callsIn_wide.2 HA.out)).mono ?_⟩
            rintro e W3 ⟨rfl, hb3⟩
            have HB3 := Lib.hid (HB2.out.trans (hb3.mono HB2.out.size))
            clear hb3 c0 c1 c3 c4
            have hbl := fun j (hj : j < w.heap.size + 5) => HB3.out.block j (show j < W.heap.size by omega)
            have c1 := (HI.out.b1.kept' (hbl _ (by omega))).cell
            have c2 := (HI.out.b2.kept' (hbl _ (by omega))).cell
            have c3 := (HI.out.b3.kept' (hbl _ (by omega))).cell
            have f2 := (HI.out.b2.kept' (hbl _ (by omega))).frozen
            have f3 := (HI.out.b3.kept' (hbl _ (by omega))).frozen
            clear hbl
            by_cases hnm2 : n < m
            · gi_wp2
              have hR := HR1.out
              rw [if_pos hnm2] at hR
              have hl := HI.out.put HB3.out (by omega) HQ.out D m (by have := HD.out; omega) hm hR
              rw [← HSZ.out] at hl
              exact hl
            · gi_wp2
              have hR := HR1.out
              rw [if_neg hnm2] at hR
              have hl := HI.out.stay HB3.out (by omega) HQ.out hR
              rw [← HSZ.out] at hl
              exact hl
          · have hbv : ((x.toNat : Int) != (y.toNat : Int)) = true := by
              rw [bne_iff_ne]
              intro e
              exact hxy (UInt8.toNat_inj.1 (by omega))
            have hbv2 : (x.toNat != y.toNat) = true := by
              rw [bne_iff_ne]
              intro e
              exact hxy (UInt8.toNat_inj.1 (by omega))
            gi_wp2
            have hR := HR0.out
            rw [if_pos (by simp [hxy])] at hR
            have hl := HI.out.stay HB2.out (by omega) HQ.out hR
            rw [← HSZ.out] at hl
            exact hl
    case done =>
      rintro W ⟨off, n, hI⟩ hD
      have hR := hI.run
      rw [lg] at hR
      have HR := Lib.hid hR
      have HI := Lib.hid hI
      have c2 := hI.b2.cell
      have c3 := hI.b3.cell
      have f2 := hI.b2.frozen
      have f3 := hI.b3.frozen
      clear hI hR
      gi_wp2
      gi_region
      gi_wp2
      rw [← HR.out]
      exact fin44 (x := (off, n)) HI.out.b2 HI.out.b3 HI.out.bel hD (by have := HSZ.out; omega) rfl rfl (by rw [HSZ.out])
    case stop =>
      rintro c W ⟨rfl, h2, h3, hb⟩ hD
      have H2 := Lib.hid h2
      have H3 := Lib.hid h3
      have c2 := h2.cell
      have c3 := h3.cell
      have f2 := h2.frozen
      have f3 := h3.frozen
      clear h2 h3
      generalize lg s.data.toList a most XS 0 0 = R at *
      obtain ⟨R1, R2⟩ := R
      dsimp only at c2 c3
      gi_wp2
      gi_region
      gi_wp2
      exact fin44 (x := (R1, R2)) H2.out H3.out hb hD (by have := HSZ.out; omega) rfl rfl (by rw [HSZ.out])
end Go.Proofs.Ytnnogjojoeajnaa
