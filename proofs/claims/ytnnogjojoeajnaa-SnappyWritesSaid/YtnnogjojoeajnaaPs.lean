/- The contract of Parts. -/
import Derived.Test.YtnnogjojoeajnaaDf
import Derived.Test.YtnnogjojoeajnaaPc
namespace Go.Proofs.Ytnnogjojoeajnaa
open Go.RowKit Go.Shelf Go.Sort
attribute [local go_sem] Oper.semAt_some
theorem Ol_shape {w : World} {base : Nat} {v : Value} {l : List Pt} (h : Ol w base v l) : ∃ a c, v = .slice a l.length c := by
  rcases h.2 with ⟨rfl, hn⟩ | ⟨g, cap, cur, rfl, _⟩
  · exact ⟨_, _, by rw [hn]⟩
  · exact ⟨_, _, rfl⟩
/-- One field of a box written anew. -/
theorem Box.set1 {W : World} {B : Nat} {p : Pt} (h : Box W B p) (t : ByteArray) : Box (W.setCell ⟨B, 1, none⟩ (.string t)) B { p with t := t } := by
  unfold Box at h ⊢
  simp [World.setCell, Array.getElem?_modify, h]
theorem grownBy_set1 (W : World) (b j : Nat) (u : Value) : W.grownBy (W.setCell ⟨b, j, none⟩ u) (some b) :=
  ⟨rfl, rfl, rfl, (KeepsWalks.setCell W _ u).size, fun k _ hk => Below.heap_setCell _ _ _ k (fun e => hk (by rw [e]))⟩
/-- The parts of elements, behind others. -/
def prt : List (Pt × Int) → List Pt → List Pt × Int
  | [], l => (l, 0)
  | (p, e) :: r, l => if e ≠ 0 then ([], e) else prt r (l ++ [p])
def parts (l : List UInt8) : List Pt × Int := if (szs l).2.2 ≠ 0 then ([], ((szs l).2.2 : Int)) else prt (its (l.drop (szs l).2.1)) []
/-- Told: owned parts, and an error. -/
def TellsP (w : World) (x : List Pt × Int) (e : Ending) (w' : World) : Prop := ∃ v, e = .returned (.tuple #[v, .int .i64 x.2]) ∧ Ol w' w.heap.size v x.1 ∧ Below w.heap.size w w'
structure PJ' (w : World) (R : List Pt × Int) (n : Nat) (rest : List (Pt × Int)) (W : World) (v : Value) (ps : List Pt) : Prop where
  b0 : Boxed W w.heap.size 30 (.slice none 0 0)
  b1 : Boxed W (w.heap.size + 1) 23 (.int .i64 0)
  b2 : Boxed W (w.heap.size + 2) 30 v
  own : Ol W (w.heap.size + 7) v ps
  run : prt rest ps = R
  len : ps.length + rest.length ≤ n
  bel : Below w.heap.size w W
  els : ∀ x ∈ rest, Elem n x
def PJ (w : World) (R : List Pt × Int) (n : Nat) (rest : List (Pt × Int)) (W : World) : Prop := ∃ v ps, PJ' w R n rest W v ps
def PX (w : World) (R : List Pt × Int) (c : Code) (W : World) : Prop := c = .ret ∧ R.1 = [] ∧ Boxed W w.heap.size 30 (.slice none 0 0) ∧ Boxed W (w.heap.size + 1) 23 (.int .i64 R.2) ∧ Below w.heap.size w W
theorem PJ'.grown {w : World} {R : List Pt × Int} {n : Nat} {rest : List (Pt × Int)} {A A' : World} {v : Value} {ps : List Pt} {row : Option Nat} (h : PJ' w R n rest A v ps) (hg : A.grownBy A' row) (hr : ∀ r, row = some r → w.heap.size + 4 ≤ r ∧ r < w.heap.size + 7) : PJ' w R n rest A' v ps := by
  have ne : ∀ j, j < w.heap.size + 4 → some j ≠ row := fun j hj e => by have := hr j e.symm; omega
  refine ⟨h.b0.kept hg (ne _ (by omega)), h.b1.kept hg (ne _ (by omega)), h.b2.kept hg (ne _ (by omega)), h.own.kept hg ?_, h.run, h.len, h.bel.grown hg h.bel.size (fun k e => by have := hr k e; omega), h.els⟩
  cases hv : v.ownBlock with
  | none => exact .inl rfl
  | some g =>
    refine .inr fun e => ?_
    have h1 := (own_lt h.own g hv).1
    have h2 := hr g e.symm
    omega
theorem PJ.ab (w : World) (R : List Pt × Int) (n : Nat) : Ab (w.heap.size + 4) (2 + 1) (PJ w R n) := by
  rintro s A A' row ⟨v, ps, h⟩ hg hr
  exact ⟨v, ps, h.grown hg hr⟩
theorem PX.ab (w : World) (R : List Pt × Int) : Ab (w.heap.size + 4) (2 + 1) (PX w R) := by
  rintro s A A' row ⟨h1, h0, h2, h3, h4⟩ hg hr
  exact ⟨h1, h0, h2.kept hg (fun e => by have := hr _ e.symm; omega), h3.kept hg (fun e => by have := hr _ e.symm; omega), h4.grown hg h4.size (fun k e => by have := hr k e; omega)⟩
theorem PJ'.leave {w : World} {R : List Pt × Int} {n : Nat} {rest : List (Pt × Int)} {W : World} {v : Value} {ps : List Pt} (h : PJ' w R n rest W v ps) (e : Int) (hR : ([], e) = R) :
    Kept (fun j => j = w.heap.size + 4 ∨ j = w.heap.size + 4 + 1) W ((W.setCell ⟨w.heap.size, 0, none⟩ (.slice none 0 0)).setCell ⟨w.heap.size + 1, 0, none⟩ (.int .i64 e)) ∧
    PX w R .ret ((W.setCell ⟨w.heap.size, 0, none⟩ (.slice none 0 0)).setCell ⟨w.heap.size + 1, 0, none⟩ (.int .i64 e)) := by
  subst hR
  have g1 := grownBy_setCell' W w.heap.size (.slice none 0 0)
  have g2 := grownBy_setCell' (W.setCell ⟨w.heap.size, 0, none⟩ (.slice none 0 0)) (w.heap.size + 1) (.int .i64 e)
  refine ⟨(Kept.grown g1 (fun r e => by cases e; omega)).trans (Kept.grown g2 (fun r e => by cases e; omega)), rfl, rfl, ?_, ?_, ?_⟩
  · exact (h.b0.set _).kept g2 (fun e => by have := Option.some.inj e; omega)
  · exact (h.b1.kept g1 (fun e => by have := Option.some.inj e; omega)).set _
  · exact (h.bel.grown g1 h.bel.size (fun k e => by cases e; omega)).grown g2 (by have := h.bel.size; simp [World.setCell]; omega) (fun k e => by cases e; omega)
theorem PJ'.goes {w : World} {R : List Pt × Int} {n : Nat} {x : Pt × Int} {rest : List (Pt × Int)} {W W5 : World} {v v' : Value} {ps : List Pt} (h : PJ' w R n (x :: rest) W v ps) (hb : Below (w.heap.size + 7) W W5)
    (ho : Ol W5 (w.heap.size + 7) v' (ps ++ [x.1])) (hrun : prt rest (ps ++ [x.1]) = R) :
    Kept (fun j => j = w.heap.size + 4 + 2 ∨ j = w.heap.size + 4 ∨ j = w.heap.size + 4 + 1) W (W5.setCell ⟨w.heap.size + 2, 0, none⟩ v') ∧
    PJ w R n rest (W5.setCell ⟨w.heap.size + 2, 0, none⟩ v') := by
  have g3 := grownBy_setCell' W5 (w.heap.size + 2) v'
  have hb5 : Below w.heap.size w W5 := h.bel.trans (hb.mono (by omega))
  refine ⟨(Kept.below hb (fun j hj => by omega)).trans (Kept.grown g3 (fun r e => by cases e; omega)), v', ps ++ [x.1], ?_⟩
  refine ⟨(boxed_below h.b0 hb (by omega)).kept g3 (fun e => by have := Option.some.inj e; omega), (boxed_below h.b1 hb (by omega)).kept g3 (fun e => by have := Option.some.inj e; omega), (boxed_below h.b2 hb (by omega)).set _, ho.kept g3 ?_, hrun, ?_, hb5.grown g3 hb5.size (fun k e => by cases e; omega), fun y hy => h.els y (List.mem_cons_of_mem _ hy)⟩
  · exact .inr (fun e => by have := (own_lt ho _ e).1; omega)
  · have := h.len
    rw [List.length_append, List.length_singleton]
    rw [List.length_cons] at this
    omega
theorem results22 (W : World) (p q : Nat) (x : Value) (y : Int) (hx : W.cell? ⟨p, 0, none⟩ = some x) (hy : W.cell? ⟨q, 0, none⟩ = some (.int .i64 y)) (tmps : Array Value)
    (h4 : tmps.getD 2 undef = .pointer (some ⟨p, 0, none⟩)) (h5 : tmps.getD 3 undef = .pointer (some ⟨q, 0, none⟩)) : (results Try.f22 tmps).run Try.prog W = .ok (.tuple #[x, .int .i64 y]) W := by
  have h4' : tmps[2]?.getD undef = .pointer (some ⟨p, 0, none⟩) := by simpa using h4
  have h5' : tmps[3]?.getD undef = .pointer (some ⟨q, 0, none⟩) := by simpa using h5
  simp [results, Try.results22, go_sem, h4', h5', hx, hy]
theorem fin22 {w W : World} {D n : Nat} {u0 u1 : Value} {a : Act} {x : List Pt × Int} {v : Value} (h0 : Boxed W w.heap.size 30 u0) (h1 : Boxed W (w.heap.size + 1) 23 u1) (ho : Ol W (w.heap.size + 7) v x.1) (hb : Below w.heap.size w W) (hD : W.heap[D]? = some (.deferred (some []))) (hDw : w.heap.size + 4 ≤ D) (hDu : D < w.heap.size + 7)
    (ha4 : a.tmps.getD 2 undef = .pointer (some ⟨w.heap.size, 0, none⟩)) (ha5 : a.tmps.getD 3 undef = .pointer (some ⟨w.heap.size + 1, 0, none⟩)) (hd : a.defers = [{ target := .collected D, args := #[] }]) :
    bodyPostM Fence.wide n Try.prog Try.f22 (TellsP w x) .ret a ((W.setCell ⟨w.heap.size, 0, none⟩ v).setCell ⟨w.heap.size + 1, 0, none⟩ (.int .i64 x.2)) := by
  have g1 := grownBy_setCell' W w.heap.size v
  have g2 := grownBy_setCell' (W.setCell ⟨w.heap.size, 0, none⟩ v) (w.heap.size + 1) (.int .i64 x.2)
  have hlt := (Array.getElem?_eq_some_iff.1 hD).1
  have hD1 := (g1.block D hlt (fun e => by have := Option.some.inj e; omega)).trans hD
  have hD2 := (g2.block D (Array.getElem?_eq_some_iff.1 hD1).1 (fun e => by have := Option.some.inj e; omega)).trans hD1
  have b0 := (h0.set v).kept g2 (fun e => by have := Option.some.inj e; omega)
  have b1 := (h1.kept g1 (fun e => by have := Option.some.inj e; omega)).set (.int .i64 x.2)
  have hb2 := (hb.grown g1 hb.size (fun k e => by cases e; omega)).grown g2 (by have := hb.size; simp [World.setCell]; omega) (fun k e => by cases e; omega)
  have hg := grownBy_putObj' ((W.setCell ⟨w.heap.size, 0, none⟩ v).setCell ⟨w.heap.size + 1, 0, none⟩ (.int .i64 x.2)) D (.deferred none)
  have nv : ∀ j, j < w.heap.size + 7 → v.ownBlock = none ∨ v.ownBlock ≠ some j := fun j hj => .inr (fun e => by have := (own_lt ho _ e).1; omega)
  have ho2 : Ol _ (w.heap.size + 7) v x.1 := ((ho.kept g1 (nv _ (by omega))).kept g2 (nv _ (by omega))).kept hg (nv _ hDu)
  obtain ⟨tm, df⟩ := a
  dsimp only at ha4 ha5 hd
  subst hd
  refine ⟨by simp, .inl ⟨_, _, rfl, run_takeDeferred hD2, ?_⟩⟩
  refine ⟨_, results22 _ w.heap.size (w.heap.size + 1) _ _ (b0.kept hg (fun e => by have := Option.some.inj e; omega)).cell (b1.kept hg (fun e => by have := Option.some.inj e; omega)).cell _ ha4 ha5, _, rfl, ?_, hb2.grown hg hb2.size (fun k e => by cases e; omega)⟩
  obtain ⟨q1, q2⟩ := ho2
  refine ⟨q1, q2.imp id ?_⟩
  rintro ⟨g, cap, cur, rfl, hb, hh, rest⟩
  exact ⟨g, cap, cur, rfl, by omega, hh, rest⟩
theorem its_length : ∀ (n : Nat) (l : List UInt8), l.length ≤ n → (its l).length ≤ n
  | n, [], h => by rw [its]; exact Nat.zero_le _
  | 0, c :: r, h => by simp at h
  | n + 1, c :: r, h => by
    rw [its]
    split
    · rw [List.length_cons]
      rw [List.length_cons] at h
      have := its_length n (r.drop (el c r).2.1) (by rw [List.length_drop]; omega)
      omega
    · simp
/-- A round's box, and that the list doesn't lie there. -/
def BP22 (w : World) (x : Pt × Int) (Bx : Nat) (W : World) : Prop := Box W Bx x.1 ∧ w.heap.size + 7 ≤ Bx ∧ ∀ v, W.cell? ⟨w.heap.size + 2, 0, none⟩ = some v → v.ownBlock ≠ some Bx
theorem BP22.ab (w : World) (x : Pt × Int) : Ab (w.heap.size + 4) (2 + 1) (BP22 w x) := by
  rintro Bx A A' row ⟨h1, h2, h3⟩ hg hr
  refine ⟨h1.kept hg (fun e => by have := hr _ e.symm; omega), h2, fun v hv => h3 v ?_⟩
  rw [← hv]
  exact (World.cell?_of_block (hg.block _ (by have := h1.lt; show w.heap.size + 2 < _; omega) (fun e => by have h := hr _ e.symm; have : (⟨w.heap.size + 2, 0, none⟩ : Addr).block = w.heap.size + 2 := rfl; omega))).symm
theorem BP22.new {w : World} {R : List Pt × Int} {n : Nat} {x : Pt × Int} {rest : List (Pt × Int)} {W : World} {v : Value} {ps : List Pt} (h : PJ' w R n (x :: rest) W v ps) (hB : w.heap.size + 7 ≤ W.heap.size) :
    BP22 w x W.heap.size (W.alloc (.cells #[.bool x.1.c, .string x.1.t, .int .i64 x.1.o, .int .i64 x.1.l] 35)) := by
  refine ⟨Box.new W x.1, hB, fun u hu => ?_⟩
  have e := ((h.b2.kept (World.grownBy_alloc W (.cells #[.bool x.1.c, .string x.1.t, .int .i64 x.1.o, .int .i64 x.1.l] 35) none) (by simp)).cell).symm.trans hu
  cases e
  intro e
  have := (own_lt h.own _ e).2
  omega
set_option maxRecDepth 100000 in
set_option maxHeartbeats 1000000 in
theorem parts_walk (s : ByteArray) (hs : s.size ≤ 1000000) (N C : Nat) (hz : szs s.data.toList = (N, C, 0)) (w : World) :
    Calls Try.prog 22 #[.string s] w (TellsP w (prt (its (s.data.toList.drop C)) [])) := by
  have HZ := Lib.hid (fun W => size_any s (by omega) W)
  have hz2 := HZ.out
  rw [hz] at hz2
  have HS := Lib.hid hz2
  have HZZ := Lib.hid hz
  obtain ⟨hrd0, hN⟩ : Bt.rd s.data.toList 0 0 = (N, C, 0) ∧ C ≤ s.size := szs_ok hz
  have hlen0 : (its (s.data.toList.drop C)).length ≤ s.size := its_length _ _ (by simp)
  have HLEN := Lib.hid hlen0
  clear hz2 hz HZ hrd0 hN hlen0
  dsimp only at HS
  generalize hM : (N : Int) = M at *
  have HM := Lib.hid hM
  clear hM
  obtain ⟨i0, hi, hz0, hz1, hz2⟩ := info_parts Try.info35
  refine (callsIn_wide (n := 5)).1 ?_
  refine callsIn_of_wp_marks Try.func22 rfl trivial ?_ rfl
  simp only [Try.ntmps22, List.size_toArray, List.length_cons, List.length_nil, Nat.reduceAdd, Nat.reduceSub, Array.replicate_succ, Array.replicate_zero, List.push_toArray, List.append_toArray, List.nil_append, List.cons_append]
  gi_wp2_with fail
  refine ⟨trivial, (callsIn_wide.2 (HS.out _)).mono ?_⟩
  rintro e w1 ⟨rfl, rfl⟩
  gi_wp2_with fail
  refine ⟨trivial, (callsIn_wide.2 (elements_any s _)).mono ?_⟩
  rintro e w1 ⟨rfl, hw1⟩
  have hsz : w1.heap.size = w.heap.size + 4 := by rw [hw1]; simp
  have hbel : Below w.heap.size w w1 := by
    rw [hw1]
    exact ((((Below.refl _ w).alloc (Nat.le_refl _) _).alloc (by simp) _).alloc (by simp; omega) _).alloc (by simp; omega) _
  have hI0 : PJ w (prt (its (s.data.toList.drop C)) []) s.size (its (s.data.toList.drop C)) w1 := by
    refine ⟨.slice none 0 0, [], ?_, ?_, ?_, World.ownsRow_nil _ _ _ _, rfl, by simp; exact HLEN.out, hbel, fun x hx => its_elem _ _ (by simp) x hx⟩
    · rw [hw1]; exact (((Boxed.new w 30 _).alloc _).alloc _).alloc _
    · have := Boxed.new (w.alloc (.cells #[.slice none 0 0] 30)) 23 (.int .i64 0)
      rw [World.size_alloc] at this
      rw [hw1]; exact (this.alloc _).alloc _
    · have := Boxed.new ((w.alloc (.cells #[.slice none 0 0] 30)).alloc (.cells #[.int .i64 0] 23)) 30 (.slice none 0 0)
      rw [World.size_alloc, World.size_alloc] at this
      rw [hw1]; exact this.alloc _
  have hcs : w1.cell? ⟨w.heap.size + 3, 0, none⟩ = some (.string s) := by
    rw [hw1]
    have := (Boxed.new (((w.alloc (.cells #[.slice none 0 0] 30)).alloc (.cells #[.int .i64 0] 23)).alloc (.cells #[.slice none 0 0] 30)) 9 (.string s)).cell
    rw [World.size_alloc, World.size_alloc, World.size_alloc] at this
    exact this
  have HW1 := Lib.hid hw1
  have HI0 := Lib.hid hI0
  have HCS := Lib.hid hcs
  have HSZ := Lib.hid hsz
  clear hw1 hI0 hcs hsz
  gi_wp2
  apply wp_range2 (gf := 52) (lb := #[.pointer (some ⟨w.heap.size + 3, 0, none⟩)]) rfl (enters_of Try.func52 (by kernel_rfl) rfl) enc2 (fun _ => rfl) (its (s.data.toList.drop C)) 1 (fun j => j = w1.heap.size + 2) (by omega) ?seq
    (PJ w (prt (its (s.data.toList.drop C)) []) s.size) (PX w (prt (its (s.data.toList.drop C)) [])) (by rw [HSZ.out]; exact PJ.ab _ _ _) (by rw [HSZ.out]; exact PX.ab _ _) HI0.out
    (BP22 w) ?ax _ ?assign ?body ?done ?stop
  case seq =>
    intro W hW hb
    rw [← hW]
    obtain ⟨hrd, hC⟩ := szs_ok HZZ.out
    exact elements_gives _ (by omega) s (by omega) N C hrd (by have := szs_lt HZZ.out; omega) (by have hl : s.data.toList.length = s.size := by simp
                                                                                                  omega) W _ ((hb.cell (p := ⟨w.heap.size + 3, 0, none⟩) (by rw [HSZ.out]; simp)).trans HCS.out)
  case ax =>
    rw [HSZ.out]
    exact BP22.ab w
  case assign =>
    intro l x rest W K hI hB hK
    simp only [enc2, pv]
    gi_wp2
    have hbp : BP22 w x W.heap.size (W.alloc (.cells #[.bool x.1.c, .string x.1.t, .int .i64 x.1.o, .int .i64 x.1.l] 35)) := by
      obtain ⟨v, ps, h⟩ := hI
      exact BP22.new h (by rw [HSZ.out] at hB; omega)
    have HBP := Lib.hid hbp
    clear hbp
    obtain ⟨Bx, hBx⟩ : ∃ Bx, W.heap.size = Bx := ⟨_, rfl⟩
    rw [hBx] at HBP ⊢
    refine hK Bx _ (Kept.grown (World.grownBy_alloc W _ none) (fun r e => by cases e)) ?_ HBP.out
    exact PJ.ab _ _ _ _ _ _ none hI (World.grownBy_alloc W _ none) (fun r e => by cases e)
  case body =>
    rintro l x rest Bx W ⟨v, ps, hI⟩ ⟨hbx, hBx, hnb⟩ hB
    rw [HSZ.out] at hB
    have hx := hI.els x (List.mem_cons_self ..)
    obtain ⟨⟨pc, pt, po, pl⟩, e⟩ := x
    have hrun := hI.run
    rw [prt] at hrun
    obtain ⟨x1, x2, x3, x4, x5, x6⟩ := hx
    have hpl : ps.length + (rest.length + 1) ≤ s.size := by have := hI.len; rw [List.length_cons] at this; exact this
    dsimp only at x1 x2 x3 x4 x5 x6 hbx hrun ⊢
    have HI := Lib.hid hI
    have HBX := Lib.hid hbx
    have HRN := Lib.hid hrun
    have HNB := Lib.hid (hnb v hI.b2.cell)
    clear hI hbx hrun hnb
    have hs1 := HSZ.out
    by_cases he : e = 0
    · subst he
      have hr0 := HRN.out
      rw [if_neg (by simp)] at hr0
      have HR0 := Lib.hid hr0
      clear hr0 hs1
      obtain ⟨p0, p1, p2, p3, f0, f1, f2, f3⟩ := HBX.out.cells
      dsimp only at p0 p1 p2 p3
      gi_wp2_with fail
      refine ⟨trivial, (CallsIn.inRound l (callsIn_wide.2 (clone_any pt (by omega) W))).mono ?_⟩
      rintro e W2 ⟨rfl, hb2⟩
      have HB2 := Lib.hid hb2
      clear hb2
      have hbx2 := HBX.out.same (HB2.out.block _ HBX.out.lt)
      have HBX2 := Lib.hid hbx2
      clear p0 p1 p2 p3 f0 f1 f2 f3 hbx2
      obtain ⟨p0, p1, p2, p3, f0, f1, f2, f3⟩ := HBX2.out.cells
      dsimp only at p0 p1 p2 p3
      have hB2 := HB2.out.size
      have hbs := HBX2.out.set1 pt
      dsimp only at hbs
      have HBS := Lib.hid hbs
      clear hbs
      have hb3 : Below (w.heap.size + 7) W (W2.setCell ⟨Bx, 1, none⟩ (.string pt)) := (HB2.out.mono (by omega)).setCell hBx _
      have HB3 := Lib.hid hb3
      clear hb3
      obtain ⟨q0, q1, q2, q3, g0, g1, g2, g3⟩ := HBS.out.cells
      dsimp only at q0 q1 q2 q3
      obtain ⟨va, vc, hv⟩ := Ol_shape HI.out.own
      subst hv
      have z0 := (boxed_below HI.out.b2 HB3.out (by omega)).cell
      have z1 := (boxed_below HI.out.b2 HB3.out (by omega)).frozen
      have hown3 : Ol (W2.setCell ⟨Bx, 1, none⟩ (.string pt)) (w.heap.size + 7) (.slice va ps.length vc) ps := by
        have h2 : Ol W2 (w.heap.size + 7) (.slice va ps.length vc) ps := by
          obtain ⟨h1, h2⟩ := HI.out.own
          refine ⟨h1, h2.imp id ?_⟩
          rintro ⟨g, cap, cur, e, hb, hh, rest⟩
          exact ⟨g, cap, cur, e, hb, (HB2.out.block g (Array.getElem?_eq_some_iff.1 hh).1).trans hh, rest⟩
        exact h2.kept (grownBy_set1 W2 Bx 1 (.string pt)) (.inr HNB.out)
      have HO3 := Lib.hid hown3
      clear hown3
      dsimp only
      generalize hW3 : W2.setCell ⟨Bx, 1, none⟩ (.string pt) = W3 at *
      have hB3 : w.heap.size + 7 ≤ W3.heap.size := by have := HB3.out.size; omega
      gi_wp2_with (gi_at_builtin; refine wpListIn_append_own _ rfl (.tmp 28) (.tmp 30) 30 rfl (w.heap.size + 7) 35 i0 _ 4 40 Try.underlying30 hi hz0 hz1 hz2 (by rfl) (by decide) (.slice va ps.length vc) ps.length (cells4 ps) rfl (World.ownsRow.alloc HO3.out _) ⟨W3.heap.size, 0, none⟩ 1 1 [.bool pc, .string pt, .int .i64 po, .int .i64 pl] rfl rfl (cells_new4 _ _ _ _ _ _) (by simp [Value.oneCell']) (by unfold maxLen; omega) (by omega) (Nat.le_trans hB3 (by simp)) ?_; intro v' w4 hown' hgrow hnil; have HON := Lib.hid hown'; have HGR := Lib.hid hgrow; have HB4 := Lib.hid ((HB3.out.alloc hB3 (.cells #[.bool pc, .string pt, .int .i64 po, .int .i64 pl] 35)).grown hgrow (Nat.le_trans hB3 (by simp)) (fun k hk => (own_lt HO3.out k hk).1)); have y0 := (boxed_below HI.out.b2 HB4.out (by omega)).cell; have y1 := (boxed_below HI.out.b2 HB4.out (by omega)).frozen; obtain ⟨g', cap', hv'⟩ := ownsRow_succ hown'; subst hv'; clear hown' hgrow hnil)
      have hl := HI.out.goes HB4.out (x := (⟨pc, pt, po, pl⟩, 0)) (v' := .slice (some ⟨g', 0, none⟩) (ps.length + 1) cap') (by
        have h := HON.out
        unfold Ol
        rw [cells4_append, List.length_append]
        exact h) HR0.out
      rw [← HSZ.out] at hl
      exact hl
    · have he1 : (e != 0) = true := by rw [bne_iff_ne]; exact he
      have f0 := HI.out.b0.frozen
      have f1 := HI.out.b1.frozen
      have c0 := HI.out.b0.cell
      have c1 := HI.out.b1.cell
      clear hs1
      gi_wp2
      have hR := HRN.out
      rw [if_pos he] at hR
      have hl := HI.out.leave e hR
      rw [← HSZ.out] at hl
      exact hl
  case done =>
    rintro W ⟨v, ps, hI⟩ hD
    have HI := Lib.hid hI
    have hrun := hI.run
    rw [prt] at hrun
    have HRN := Lib.hid hrun
    clear hI hrun
    obtain ⟨va, vc, hv⟩ := Ol_shape HI.out.own
    subst hv
    have hcv := HI.out.b2.cell
    have f0 := HI.out.b0.frozen
    have f1 := HI.out.b1.frozen
    have c0 := HI.out.b0.cell
    have c1 := HI.out.b1.cell
    gi_wp2
    have hR := HRN.out
    rw [← hR]
    exact fin22 (x := (ps, 0)) HI.out.b0 HI.out.b1 HI.out.own HI.out.bel hD (by have := HSZ.out; omega) (by have := HSZ.out; omega) rfl rfl rfl
  case stop =>
    rintro c W ⟨rfl, hR1, h0, h1, hb⟩ hD
    have c0 := h0.cell
    have c1 := h1.cell
    gi_wp2
    refine ⟨by simp, .inl ⟨_, _, rfl, run_takeDeferred hD, ?_⟩⟩
    have hg := grownBy_putObj' W w1.heap.size (.deferred none)
    refine ⟨_, results22 _ w.heap.size (w.heap.size + 1) _ _ (h0.kept hg (fun e => by have := Option.some.inj e; have := HSZ.out; omega)).cell (h1.kept hg (fun e => by have := Option.some.inj e; have := HSZ.out; omega)).cell _ rfl rfl, _, rfl, ?_, ?_⟩
    · rw [hR1]
      exact World.ownsRow_nil _ _ _ _
    · exact hb.grown hg hb.size (fun k e => by cases e; have := HSZ.out; omega)
set_option maxRecDepth 100000 in
set_option maxHeartbeats 1000000 in
theorem parts_any (s : ByteArray) (hs : s.size ≤ 1000000) (w : World) :
    Calls Try.prog 22 #[.string s] w (TellsP w (parts s.data.toList)) := by
  unfold parts
  obtain ⟨N, C, K, hz⟩ : ∃ N C K, szs s.data.toList = (N, C, K) := ⟨_, _, _, rfl⟩
  by_cases hK : K = 0
  · subst hK
    rw [hz, if_neg (by simp)]
    exact parts_walk s hs N C hz w
  · have HQ : Hid (∀ W, Calls Try.prog 19 #[.string s] W fun e w' => e = .returned (.tuple #[.int .u64 0, .int .i64 (K : Int)]) ∧ W = w') := Lib.hid (fun W => by have := size_any s (by omega) W; rw [hz, szs_no hz hK] at this; exact this)
    rw [hz, if_pos hK]
    have hK1 : ((K : Int) != 0) = true := by rw [bne_iff_ne]; omega
    clear hz
    dsimp only
    generalize (K : Int) = k at *
    refine (callsIn_wide (n := 5)).1 ?_
    refine callsIn_of_wp_marks Try.func22 rfl trivial ?_ rfl
    simp only [Try.ntmps22, List.size_toArray, List.length_cons, List.length_nil, Nat.reduceAdd, Nat.reduceSub, Array.replicate_succ, Array.replicate_zero, List.push_toArray, List.append_toArray, List.nil_append, List.cons_append]
    gi_wp2_with fail
    refine ⟨trivial, (callsIn_wide.2 (HQ.out _)).mono ?_⟩
    rintro e w1 ⟨rfl, rfl⟩
    gi_wp2
    refine ⟨_, results22 _ w.heap.size (w.heap.size + 1) (.slice none 0 0) k ?_ ?_ _ rfl rfl, _, rfl, World.ownsRow_nil _ _ _ _, ?_⟩
    · exact ((Boxed.new w 30 (.slice none 0 0)).alloc _).cell
    · have := Boxed.new (w.alloc (.cells #[.slice none 0 0] 30)) 23 (.int .i64 k)
      rw [World.size_alloc] at this
      exact this.cell
    · exact ((Below.refl _ w).alloc (Nat.le_refl _) _).alloc (by simp) _
end Go.Proofs.Ytnnogjojoeajnaa
