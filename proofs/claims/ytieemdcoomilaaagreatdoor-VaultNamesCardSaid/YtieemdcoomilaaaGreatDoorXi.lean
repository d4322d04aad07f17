/- Acts, opened; long. -/
import Derived.Test.YtieemdcoomilaaaGreatDoorXe
import Derived.Test.YtieemdcoomilaaaGreatDoorWl
import Derived.Test.YtieemdcoomilaaaGreatDoorVk
import Derived.Test.YtieemdcoomilaaaGreatDoorDt
import Derived.Test.YtieemdcoomilaaaGreatDoorHm
import Derived.BigQuiet
import Derived.Deep.QuietTactic
import Derived.Lib.QuietBelow
set_option linter.unusedVariables false
set_option linter.unusedSimpArgs false
namespace Go.Proofs.YtieemdcoomilaaaGreatDoor
set_option maxRecDepth 100000
section
open Go Go.RowKit Go.Sort Go.Deep Go.ChangeShapes Go.WideShapes
structure Vc where
  kind : Nat
  s : ByteArray
  n : Int
  ks : List Int
  v : Value
/-- What an act may be, and where its numbers lie. -/
structure Vc.fit (w : World) (a : Vc) : Prop where
  kind : a.kind < 256
  s : a.s.size ≤ 9223372036854775807
  n : (Lit.int .i64 a.n).wf = true
  len : a.ks.length ≤ 9223372036854775807
  at' : KAt w a.v a.ks
theorem Vc.fit.below {w w' : World} {a : Vc} (h : a.fit w) {m : Nat} (hb : Below m w w') (hm : w.heap.size ≤ m) : a.fit w' := ⟨h.kind, h.s, h.n, h.len, h.at'.same (fun g hg _ => hb.block g (by omega))⟩
/-- The cells of acts. -/
def Vt4 (W : World) (v : Value) (l : List Vc) : Prop :=
  (l = [] ∧ ∃ a c, v = .slice a 0 c) ∨ ∃ g o c, v = .slice (some ⟨g, o, none⟩) l.length c ∧ ∀ j (h : j < l.length),
    W.cell? ⟨g, o + j * 4, none⟩ = some (.int .u8 (l[j].kind : Int)) ∧ W.cell? ⟨g, o + j * 4 + 1, none⟩ = some (.string l[j].s) ∧ W.cell? ⟨g, o + j * 4 + 2, none⟩ = some (.int .i64 l[j].n) ∧ W.cell? ⟨g, o + j * 4 + 3, none⟩ = some l[j].v
structure Vcs (w : World) (u : Value) (l : List Vc) : Prop where
  at' : Vt4 w u l
  fit : ∀ a ∈ l, a.fit w
  len : l.length ≤ 9223372036854775807
theorem Vcs.below {w w' : World} {u : Value} {l : List Vc} (h : Vcs w u l) (hb : Below w.heap.size w w') : Vcs w' u l := by
  refine ⟨?_, fun a ha => (h.fit a ha).below hb (Nat.le_refl _), h.len⟩
  rcases h.at' with hq | ⟨g, o, c, rfl, hq⟩
  · exact .inl hq
  · refine .inr ⟨g, o, c, rfl, fun j hj => ?_⟩
    obtain ⟨h1, h2, h3, h4⟩ := hq j hj
    have hlt := World.block_lt_of_cell? w ⟨g, _, none⟩ h1
    have e : ∀ k, w'.cell? ⟨g, k, none⟩ = w.cell? ⟨g, k, none⟩ := fun k => hb.cell (p := ⟨g, k, none⟩) hlt
    exact ⟨(e _).trans h1, (e _).trans h2, (e _).trans h3, (e _).trans h4⟩
theorem Vcs.slice {w : World} {v : Value} {l : List Vc} (h : Vcs w v l) : ∃ a c, v = .slice a l.length c := by
  rcases h.at' with ⟨rfl, a, c, rfl⟩ | ⟨g, o, c, rfl, _⟩
  · exact ⟨_, _, rfl⟩
  · exact ⟨_, _, rfl⟩
theorem Vcs.pos {w : World} {v : Value} {l : List Vc} (h : Vcs w v l) (hne : 0 < l.length) : ∃ g o c, v = .slice (some ⟨g, o, none⟩) l.length c ∧ ∀ j (h : j < l.length),
    w.cell? ⟨g, o + j * 4, none⟩ = some (.int .u8 (l[j].kind : Int)) ∧ w.cell? ⟨g, o + j * 4 + 1, none⟩ = some (.string l[j].s) ∧ w.cell? ⟨g, o + j * 4 + 2, none⟩ = some (.int .i64 l[j].n) ∧ w.cell? ⟨g, o + j * 4 + 3, none⟩ = some l[j].v := by
  rcases h.at' with ⟨rfl, _⟩ | h
  · simp at hne
  · exact h
variable {H : Type} {enc : TypeId × Value → H} {w : World} {base b0 : Nat} {spare : Nat → Bool} {held : Bool}
theorem open_vact {fuel : Nat} {cs : List Value} {x : DataW H × List MemPlace} (h : DataW.trod enc Tryz.prog w base spare held fuel 51 cs = some x) : ∃ a : Vc, cs = [.int .u8 (a.kind : Int), .string a.s, .int .i64 a.n, a.v] ∧ a.fit w := by
  obtain ⟨xs, n, -, hx, hl, hxl, hf⟩ := DataW.trod_struct Tryz.underlying51 h
  rw [show Tryz.prog.cellsOf 51 = 4 by kernel_rfl] at hl
  match cs, hl, xs, hxl with
  | [v0, v1, v2, v3], _, [y0, y1, y2, y3], _ =>
    have g0 := hf 0 _ rfl
    have g1 := hf 1 _ rfl
    have g2 := hf 2 _ rfl
    have g3 := hf 3 _ rfl
    change DataW.trod enc Tryz.prog w base spare held n 5 ((([v0, v1, v2, v3] : List Value).drop 0).take (Tryz.prog.cellsOf 5)) = some y0 at g0
    rw [show Tryz.prog.cellsOf 5 = 1 by kernel_rfl] at g0
    change DataW.trod enc Tryz.prog w base spare held n 5 [v0] = some y0 at g0
    change DataW.trod enc Tryz.prog w base spare held n 9 ((([v0, v1, v2, v3] : List Value).drop 1).take (Tryz.prog.cellsOf 9)) = some y1 at g1
    rw [show Tryz.prog.cellsOf 9 = 1 by kernel_rfl] at g1
    change DataW.trod enc Tryz.prog w base spare held n 9 [v1] = some y1 at g1
    change DataW.trod enc Tryz.prog w base spare held n 3 ((([v0, v1, v2, v3] : List Value).drop 2).take (Tryz.prog.cellsOf 3)) = some y2 at g2
    rw [show Tryz.prog.cellsOf 3 = 1 by kernel_rfl] at g2
    change DataW.trod enc Tryz.prog w base spare held n 3 [v2] = some y2 at g2
    change DataW.trod enc Tryz.prog w base spare held n 38 ((([v0, v1, v2, v3] : List Value).drop 3).take (Tryz.prog.cellsOf 38)) = some y3 at g3
    rw [show Tryz.prog.cellsOf 38 = 1 by kernel_rfl] at g3
    change DataW.trod enc Tryz.prog w base spare held n 38 [v3] = some y3 at g3
    obtain ⟨z0, k0, _, f0⟩ := DataW.trod_int Tryz.underlying5 g0
    obtain ⟨z1, k1, _, f1⟩ := DataW.trod_string Tryz.underlying9 g1
    obtain ⟨z2, k2, _, f2⟩ := DataW.trod_int Tryz.underlying3 g2
    obtain ⟨ks, hk, hkl⟩ := open_nums' g3
    simp only [List.cons.injEq, and_true] at k0 k1 k2
    subst k0 k1 k2
    have hb := Go.bounds_u8 f0
    obtain ⟨m, rfl⟩ := Int.eq_ofNat_of_zero_le hb.1
    exact ⟨⟨m, z1, z2, ks, v3⟩, rfl, ⟨by have := hb.2; show m < 256; omega, by unfold maxLen at f1; show z1.size ≤ _; omega, f2, hkl, hk⟩⟩
theorem open_vacts {r : Reach} {v : Value} {d : DataW H} {p : List MemPlace} (hv : Value.okWide Tryz.prog w r b0 45 v) (h : DataW.Trod enc Tryz.prog w base spare held 45 v d p) : ∃ l : List Vc, Vcs w v l := by
  obtain ⟨a0, l0, c0, rfl⟩ := okWide_slice Tryz.underlying45 hv
  obtain ⟨fuel, hf⟩ := h
  rcases open_slice (cs := [.slice a0 l0 c0]) Tryz.underlying45 hf with ⟨h0, _⟩ | ⟨a, len, cap, m, n, D, Pl, h0, _, hl, hm, hmm, _, hi⟩
  · cases h0
    exact ⟨[], .inl ⟨rfl, _, _, rfl⟩, fun a ha => (by cases ha), Nat.zero_le _⟩
  · cases h0
    have hlm : l0 ≤ m := by rw [hmm]; split <;> omega
    rw [show Tryz.prog.cellsOf 51 = 4 by kernel_rfl] at hi
    have each : ∀ i, i < l0 → ∃ x : Vc, x.fit w ∧ ∀ j, j < 4 → w.cell? ((a.add (i * 4)).add j) = ([.int .u8 (x.kind : Int), .string x.s, .int .i64 x.n, x.v] : List Value)[j]? := fun i hil => by
      obtain ⟨cs', h1, h2⟩ := hi i (by omega)
      obtain ⟨_, _, hcell⟩ := World.cells?_some h1
      obtain ⟨x, rfl, hx⟩ := open_vact h2
      exact ⟨x, hx, hcell⟩
    obtain ⟨q, hq⟩ : ∃ q : Nat → Vc, ∀ i, i < l0 → (q i).fit w ∧ ∀ j, j < 4 → w.cell? ((a.add (i * 4)).add j) = ([.int .u8 ((q i).kind : Int), .string (q i).s, .int .i64 (q i).n, (q i).v] : List Value)[j]? :=
      ⟨fun i => if h : i < l0 then Classical.choose (each i h) else ⟨0, ⟨#[]⟩, 0, [], .slice none 0 0⟩, fun i h => by simp only [h, dif_pos]; exact Classical.choose_spec (each i h)⟩
    refine ⟨(List.range l0).map q, ?_, fun x hx => ?_, by rw [List.length_map, List.length_range]; unfold maxLen at hm; omega⟩
    · rcases Nat.eq_zero_or_pos l0 with h0 | h0
      · subst h0; exact .inl ⟨rfl, _, _, rfl⟩
      · obtain ⟨g, o, spot⟩ := a
        have hs : spot = none := by
          have h5 := (hq 0 h0).2 0 (by decide)
          have := World.cell?_spot (v := .int .u8 ((q 0).kind : Int)) h5
          simpa [Addr.add] using this
        subst hs
        refine .inr ⟨g, o, c0, by simp, fun j hj => ?_⟩
        have hj' : j < l0 := by simpa using hj
        have h5 := (hq j hj').2
        have e : ∀ k, ((⟨g, o, none⟩ : Addr).add (j * 4)).add k = ⟨g, o + j * 4 + k, none⟩ := fun k => by rw [Go.WideShapes.add_plain, Go.WideShapes.add_plain]
        simp only [List.getElem_map, List.getElem_range]
        exact ⟨by have := h5 0 (by decide); rw [e] at this; exact this, by have := h5 1 (by decide); rw [e] at this; exact this, by have := h5 2 (by decide); rw [e] at this; exact this, by have := h5 3 (by decide); rw [e] at this; exact this⟩
    · obtain ⟨i, hi2, rfl⟩ := List.mem_map.1 hx
      exact (hq i (List.mem_range.1 hi2)).1
end
open Go Go.RowKit Go.Sort
theorem min4 (n : Nat) : ∃ m : Nat, (min (4000 : Int) (n : Int)) = (m : Int) ∧ m ≤ 4000 := ⟨min 4000 n, by omega, by omega⟩
set_option maxHeartbeats 1000000 in
theorem long_any (l : List Vc) (v : Value) (w : World) (hv : Vcs w v l) : Calls Tryz.prog 23 #[v] w fun e w' => ∃ b, e = .returned (.bool b) ∧ (b = false → l.length ≤ 100) ∧ Below w.heap.size w w' := by
  have HV := Lib.hid hv
  obtain ⟨a1, c1, e1⟩ := hv.slice
  have hl := hv.len
  obtain ⟨L, hL⟩ : ∃ L, l.length = L := ⟨_, rfl⟩
  rw [hL] at e1 hl ⊢
  have HL := Lib.hid hL
  have HB0 : Hid (Below w.heap.size w w) := Lib.hid (Below.refl _ _)
  clear hv hL
  subst e1
  go_enter Tryz.func23, Tryz.ntmps23
  go_wp2
  go_loopw [4, 3] (fun i x wr => ∃ k X : Nat, i = .int .i64 k ∧ x = .int .i64 X ∧ k ≤ L ∧ X ≤ 12040 ∧ Hid (40 * k ≤ X) ∧ Hid (Below w.heap.size w wr)) (fun i _ _ => L - (intOf i).toNat)
  case atStart => exact ⟨0, 0, rfl, rfl, by omega, by omega, Lib.hid (by omega), HB0⟩
  case round =>
    obtain ⟨k, X, rfl, rfl, hk, hX, HX, HB⟩ := hrel
    by_cases hx : X < 4000
    · by_cases hlt : k < L
      · obtain ⟨g1, o1, c3, h1, h3⟩ := (HV.out.below HB.out).pos (by have := HL.out; omega)
        obtain ⟨q1, q2, q3, q4⟩ := h3 k (by have := HL.out; omega)
        rw [HL.out] at h1
        injection h1 with h1 h1b h1c
        have hfit := ((HV.out.below HB.out).fit _ (List.getElem_mem (l := l) (n := k) (by have := HL.out; omega)))
        generalize l[k]'(by have := HL.out; omega) = y at q1 q2 q3 q4 hfit
        subst h1
        obtain ⟨pa, pc, hp⟩ := hfit.at'.slice
        rw [hp] at q4
        generalize y.s = ys at *
        generalize y.ks.length = yl at *
        obtain ⟨m1, e1, l1⟩ := min4 ys.size
        obtain ⟨m2, e2, l2⟩ := min4 yl
        clear h3 h1c h1b hfit hp q1 q3
        go_wp2
        go_region
        go_wp2
        go_roundw
        case rel => exact ⟨k + 1, X + 40 + m1 + m2, by simp, by simp, by omega, by omega, Lib.hid (by have := HX.out; omega), Lib.hid (Below.drew HB.out)⟩
        case measure => (try simp [intOf]); (try omega)
      · have hd : decide ((4000 : Int) ≤ (X : Int)) = false := decide_eq_false (by omega)
        have HF : Hid (L ≤ 100) := Lib.hid (by have := HX.out; omega)
        go_wp2
        go_ret
        exact ⟨_, rfl, fun _ => HF.out, HB.out⟩
    · have hd : decide ((4000 : Int) ≤ (X : Int)) = true := decide_eq_true (by omega)
      have hd2 : decide ((X : Int) < 4000) = false := decide_eq_false (by omega)
      clear hx
      by_cases hlt : k < L
      · go_wp2
        go_ret
        exact ⟨_, rfl, (fun h => by cases h), HB.out⟩
      · go_wp2
        go_ret
        exact ⟨_, rfl, (fun h => by cases h), HB.out⟩
end Go.Proofs.YtieemdcoomilaaaGreatDoor
namespace Go.Proofs.YtieemdcoomilaaaGreatDoor
open Go Go.RowKit Go.Sort BigFrame
set_option maxRecDepth 100000
theorem lz_last' : ∀ (l : List Int) (h : l ≠ []), Vt.lz l = l.getLast h
  | [t], _ => rfl
  | a :: b :: r, _ => by
    show Vt.lz (b :: r) = _
    rw [List.getLast_cons (by simp)]
    exact lz_last' _ _
theorem lz_at' (l : List Int) (h : 0 < l.length) : l[l.length - 1]'(by omega) = Vt.lz l := by
  rw [lz_last' l (by intro e; rw [e] at h; simp at h), List.getLast_eq_getElem]
theorem nodup_at {l : List Int} (h : l.Nodup) {i j : Nat} (hi : i < l.length) (hj : j < l.length) (e : l[i] = l[j]) : i = j := by
  have hp := List.pairwise_iff_getElem.1 h
  rcases Nat.lt_trichotomy i j with q | q | q
  · exact absurd e (hp i j hi hj q)
  · exact q
  · exact absurd e.symm (hp j i hj hi q)
/-- What stands on a tape of the log, scanned. -/
theorem scan_held {s : ByteArray} {X : List ByteArray} (hx : Vt.small X) (h : s.data.toList = Vt.rb X) : (scq s 0).length = X.length ∧ sce s 0 = s.size := by
  obtain ⟨h1, -, h3⟩ := scq_fs s
  obtain ⟨g1, g2⟩ := Vt.fs_rb0 hx
  rw [h, g1] at h1
  rw [h, g2, ← h] at h3
  refine ⟨?_, by rw [h3]; simp⟩
  have := congrArg List.length h1
  simpa [Vt.rw1] using this
theorem dn_below {B : Nat} {a w : World} (h : Below B a w) (n : Nat) : Below B a (w.drewN n) := ⟨h.os, h.tape, h.output, h.size, h.block⟩
set_option maxHeartbeats 8000000 in
theorem held_any (B mo : Nat) (d : Dk) (h : He) (u : Value) (w : World) (hd : DAt w B d) (hok : d.ok) (hm : mayB h = true) (he : Vt.Emp d.T h) (hh : Vt.Hld d.T h mo) (hu : KAt w u h.log) : Calls Tryz.prog 33 #[.pointer (some ⟨B, 0, none⟩), hval h u, .int .i64 (mo : Int)] w (Ret w (.bool true)) := by
  have kk := mayB_ok hm
  have nd := (Vt.mayB_more hm).nd
  have HU0 := Lib.hid hu
  obtain ⟨ua, uc, eu⟩ := hu.slice
  obtain ⟨LN, hLN⟩ : ∃ LN, h.log.length = LN := ⟨_, rfl⟩
  have hl2 : LN ≤ 30 := by rw [← hLN]; exact kk.len
  rw [hLN] at eu
  have HLN := Lib.hid hLN
  have HK := Lib.hid kk
  have HTP := Lib.hid (fun W (k : DAt W B d) => tapes_any B d W k hok.t)
  have HUS := Lib.hid (fun W t (k : KAt W u h.log) => uses_any h t u W k (by omega))
  have HEM := Lib.hid he
  have HOK := Lib.hid hok
  -- each tape of the log
  have HLG : Hid (∀ k (hk : k < h.log.length), ∃ (t N sz : Nat), h.log[k] = (t : Int) ∧ t < 32 ∧ (d.T t).s.size = sz ∧ sz ≤ 1048576 ∧ (scq (d.T t).s 0).length = N ∧ sce (d.T t).s 0 = sz ∧ (mo < sz → N = 1) ∧ (N = 0 → k + 1 = h.log.length)) := Lib.hid (fun k hk => by
    have hmem := List.getElem_mem hk
    obtain ⟨X, x1, x2, x3, x4⟩ := hh _ hmem
    have h32 := Vt.log_lt hm _ hmem
    have h0 := (kk.mem _ hmem)
    refine ⟨(h.log[k]).toNat, X.length, (d.T (h.log[k]).toNat).s.size, by omega, h32, rfl, (hok.t _ h32).2, ?_, ?_, x3, fun hN => ?_⟩
    · exact (scan_held x1 x2).1
    · exact (scan_held x1 x2).2
    · have hX : X = [] := List.eq_nil_of_length_eq_zero hN
      have e := x4 hX
      rw [← lz_at' h.log (by omega)] at e
      have := nodup_at nd hk (by omega) e
      omega)
  have HDD := Lib.hid hd
  clear hd hu hh he kk nd hLN hm
  subst eu
  unfold hval at *
  go_enter Tryz.func33, Tryz.ntmps33
  have HBX := Lib.hid (heap_alloc_new w (.cells #[.int .i64 h.gen, .int .i64 h.base, .int .i64 h.snap, .slice ua LN uc] 40))
  have HBa := Lib.hid (below_one w (.cells #[.int .i64 h.gen, .int .i64 h.base, .int .i64 h.snap, .slice ua LN uc] 40))
  go_wp2_with fail
  refine (HTP.out _ (HDD.out.below HBa.out HDD.out.lt)).mono ?_
  rintro e w1 ⟨rfl, hr⟩
  rw [World.size_alloc] at hr ⊢
  have HT1 := Lib.hid hr.told
  have HX1 : Hid (Box4 w1 w.heap.size (.int .i64 h.gen) (.int .i64 h.base) (.int .i64 h.snap) (.slice ua LN uc)) := Lib.hid ((hr.below.block w.heap.size (by omega)).trans HBX.out)
  have HB1 : Hid (Below w.heap.size w w1) := Lib.hid (HBa.out.trans (hr.below.mono (by omega)))
  clear hr HBX HBa HTP
  go_wp2
  go_loopw [8] (fun i wr => ∃ k : Nat, i = .int .i64 k ∧ 2 ≤ k ∧ k ≤ 32 ∧ Hid (Below w1.heap.size w1 wr)) (fun i _ => 32 - (intOf i).toNat)
  case atStart => exact ⟨2, rfl, by omega, by omega, Lib.hid (Below.refl _ _)⟩
  case round =>
    obtain ⟨k, rfl, hk2, hk, HB⟩ := hrel
    have HXr := Lib.hid (HX1.out.below HB.out HX1.out.lt)
    have HUr := Lib.hid (HU0.out.below (below_trans' HB1.out HB.out) (Nat.le_refl _))
    have HTr := Lib.hid (HT1.out.below HB.out HT1.out.lt)
    by_cases hlt : k < 32
    · have k0 := fun d os => cell_regrown HXr.out.c0 d os
      have k1 := fun d os => cell_regrown HXr.out.c1 d os
      have k2 := fun d os => cell_regrown HXr.out.c2 d os
      have k3 := fun d os => cell_regrown HXr.out.c3 d os
      have F75 := Lib.hid (fun d os => Calls.regrown_of (HUS.out _ (k : Int) (HUr.out.below (below_regrown wr d os) (Nat.le_refl _))))
      have q1 := fun d os => cell_regrown (HTr.out.a k hlt) d os
      have q2 := fun d os => cell_regrown (HTr.out.b k hlt) d os
      have HQ : Hid (usB h (k : Int) = false → (qT (d.T k)).a.size = 0 ∧ (qT (d.T k)).b.size = 0) := Lib.hid (fun hq => by
        have e := HEM.out k hk2 hlt hq
        have a := congrArg ByteArray.size (all_of (HOK.out.t k hlt))
        rw [ByteArray.size_append, e] at a
        omega)
      generalize (qT (d.T k)).a = x at *
      generalize (qT (d.T k)).b = y at *
      cases hus : usB h (k : Int) with
      | true =>
        rw [hus] at F75
        clear HQ hus
        go_wp2_with fail
        refine wp_region_quiet_below (by kernel_rfl) (by kernel_rfl) ?_
        iterate 2 (go_big_quiet_step (fail))
        go_big_quiet_step (first | (go_at_call 75; exact F75.out _ _))
        iterate 17 (go_big_quiet_step (fail))
        refine wpQuiet_nil ?_
        intro w5 hw5
        have hb5 : Below wr.heap.size wr w5 := by obtain ⟨q, rfl⟩ := hw5; exact below_regrown _ _ _
        have HB5 := Lib.hid (below_trans' HB.out hb5)
        clear hw5 hb5 k0 k1 k2 k3 q1 q2 F75
        go_wp2
        go_roundw
        case rel => exact ⟨k + 1, by simp, by omega, by omega, HB5⟩
        case measure => (try simp [intOf]); (try omega)
      | false =>
        rw [hus] at F75
        have HQ2 := HQ.out hus
        have hx := HQ2.1
        have hy := HQ2.2
        clear HQ HQ2 hus
        go_wp2_with fail
        refine wp_region_quiet_below (by kernel_rfl) (by kernel_rfl) ?_
        iterate 2 (go_big_quiet_step (fail))
        go_big_quiet_step (first | (go_at_call 75; exact F75.out _ _))
        iterate 17 (go_big_quiet_step (fail))
        refine wpQuiet_nil ?_
        intro w5 hw5
        have hb5 : Below wr.heap.size wr w5 := by obtain ⟨q, rfl⟩ := hw5; exact below_regrown _ _ _
        have HB5 := Lib.hid (below_trans' HB.out hb5)
        clear hw5 hb5 k0 k1 k2 k3 q1 q2 F75
        go_wp2
        go_roundw
        case rel => exact ⟨k + 1, by simp, by omega, by omega, HB5⟩
        case measure => (try simp [intOf]); (try omega)
    · have hd32 : decide ((k : Int) < 32) = false := decide_eq_false (by omega)
      clear hk2 hk hlt HEM
      go_wp2
      clear hd32
      go_loopw [9] (fun i wq => ∃ j : Nat, i = .int .i64 j ∧ j ≤ LN ∧ Hid (Below w1.heap.size w1 wq)) (fun i _ => LN - (intOf i).toNat)
      case atStart => exact ⟨0, rfl, by omega, HB⟩
      case round =>
        obtain ⟨j, rfl, hj, HBq⟩ := hrel
        rename_i wq
        have HXq := Lib.hid (HX1.out.below HBq.out HX1.out.lt)
        have b3 := HXq.out.c3
        by_cases hjl : j < LN
        · obtain ⟨g1, o1, c1, hu1, hc1⟩ := (HU0.out.below (below_trans' HB1.out HBq.out) (Nat.le_refl _)).pos (by have := HK.out.ne; exact this)
          have hu2 := (HU0.out.below (below_trans' HB1.out HBq.out) (Nat.le_refl _))
          rw [hu1] at hu2
          have z1 := hu2.at j (by have := HLN.out; omega)
          rw [HLN.out] at hu1
          injection hu1 with e1 e2 e3
          obtain ⟨t, N, sz, t1, t2, t3, t4, t5, t6, t7, t8⟩ := HLG.out j (by have := HLN.out; omega)
          rw [t1] at z1
          have q1 := (HT1.out.below HBq.out HT1.out.lt).a t t2
          have q2 := (HT1.out.below HBq.out HT1.out.lt).b t t2
          have HXY := Lib.hid (all_of (HOK.out.t t t2))
          have HSC := Lib.hid (rscan_any (d.T t).s 0 (Nat.zero_le _) · (by omega))
          rw [← HXY.out] at HSC t3 t5 t6
          have hsum : (qT (d.T t)).a.size + (qT (d.T t)).b.size ≤ 1048576 := by have e := ByteArray.size_append (a := (qT (d.T t)).a) (b := (qT (d.T t)).b); omega
          generalize (qT (d.T t)).a = x at *
          generalize (qT (d.T t)).b = y at *
          rw [t6, ← t3] at HSC
          rw [← t3] at t7
          have HT7 := Lib.hid (And.intro t7 t8)
          have HN := Lib.hid t5
          rw [show ((0 : Nat) : Int) = 0 from rfl] at HSC
          clear hu2 t1 t3 t4 t5 t6 t7 t8 hc1 e2 e3
          subst e1
          go_wp2
          go_quiet (fail)
          generalize hs : x ++ y = s at *
          have hlz : ((s.size : Int) != (s.size : Int)) = false := by simp
          go_wp2_with fail
          refine (HSC.out _).mono ?_
          rintro e w6 ⟨v6, rfl, ho, hb⟩
          have HB6 := Lib.hid (below_trans' HBq.out (dn_below (Below.refl _ _) _ |>.trans hb))
          have b6 := (HX1.out.below HB6.out HX1.out.lt).c3
          obtain ⟨a6, c6, e6⟩ := ho.shape
          rw [HN.out] at e6
          clear ho hb hs hsum
          subst e6
          by_cases hmo : mo < s.size
          · have hN := HT7.out.1 hmo
            have d0 : decide (mo < s.size) = true := decide_eq_true hmo
            have d1 : decide ((mo : Int) < (s.size : Int)) = true := decide_eq_true (by omega)
            have d2 : ((N : Int) != 1) = false := by rw [hN]; rfl
            have d2' : ((N : Int) == 1) = true := by rw [hN]; rfl
            have d3 : ((N : Int) == 0) = false := by rw [hN]; rfl
            clear hN hmo
            go_wp2
            go_roundw
            case rel => exact ⟨j + 1, by simp, by omega, HB6⟩
            case measure => (try simp [intOf]); (try omega)
          · have d1 : decide ((mo : Int) < (s.size : Int)) = false := decide_eq_false (by omega)
            have d0 : decide (mo < s.size) = false := decide_eq_false hmo
            by_cases hN : N = 0
            · have hj2 := HT7.out.2 hN
              have d3 : ((N : Int) == 0) = true := by rw [hN]; rfl
              have d4 : decide ((j : Int) < (LN : Int) - 1) = false := decide_eq_false (by have := HLN.out; omega)
              clear hN hmo hj2
              go_wp2
              go_roundw
              case rel => exact ⟨j + 1, by simp, by omega, HB6⟩
              case measure => (try simp [intOf]); (try omega)
            · have d3 : ((N : Int) == 0) = false := by rw [beq_eq_false_iff_ne]; omega
              clear hN hmo
              go_wp2
              go_roundw
              case rel => exact ⟨j + 1, by simp, by omega, HB6⟩
              case measure => (try simp [intOf]); (try omega)
        · go_wp2
          go_ret
          exact ⟨rfl, below_trans' HB1.out HBq.out⟩
end Go.Proofs.YtieemdcoomilaaaGreatDoor
namespace Go.Proofs.YtieemdcoomilaaaGreatDoor
open Go Go.RowKit Go.Sort
set_option maxRecDepth 100000
def zs (n : Nat) : ByteArray := bs (List.replicate n 0)
theorem zs_size (n : Nat) : (zs n).size = n := by unfold zs; rw [bs_size, List.length_replicate]
theorem made_at0 (x : Value) (n j : Nat) (h : j < n) : (madeCells #[x] n)[j]? = some x := by
  unfold madeCells
  rw [Array.getElem?_map, Array.getElem?_range, if_pos h]
  simp [Nat.mod_one]
theorem made_zs (n : Nat) (hn : n ≤ 1000000) : ∃ CZ : Array Value,
    (∀ W : World, (Instr.makeSlice 92 (.int .i64 (n : Int)) (.int .i64 (n : Int))).run Tryz.prog W = .ok (.slice (some ⟨W.heap.size, 0, none⟩) n n) (W.alloc (.cells CZ 5))) ∧
    (∀ W : World, Sem.run Tryz.prog (convert 92 9 (.slice (some ⟨W.heap.size, 0, none⟩) n n)) (W.alloc (.cells CZ 5)) = .ok (.string (zs n)) (W.alloc (.cells CZ 5))) := by
  obtain ⟨i0, hi, hz0, hz1, hz2⟩ := info_parts Tryz.info5
  refine ⟨madeCells #[.int .u8 0] n, fun W => ?_, fun W => ?_⟩
  · have h := run_make (P := Tryz.prog) W 92 5 i0 (.int .u8 0) Tryz.underlying92 hi hz0 .i64 .i64 (n : Int) (n : Int) (by omega) (by omega) (by rw [hz2]; omega) (by omega)
    rw [hz1, Int.toNat_natCast, Nat.mul_one] at h
    exact h
  · have h := run_convert_bytes_back (W.alloc (.cells (madeCells #[.int .u8 0] n) 5)) 92 9 5 ⟨W.heap.size, 0, none⟩ n (List.replicate n 0) Tryz.underlying92 Tryz.underlying5 Tryz.underlying9 (fun j hj => ?_)
    · rw [List.length_replicate] at h
      exact h
    · rw [List.length_replicate] at hj
      have hadd : (⟨W.heap.size, 0, none⟩ : Addr).add j = ⟨W.heap.size, j, none⟩ := by unfold Addr.add; simp <;> omega
      have hc := World.cell?_alloc_mark W (madeCells #[.int .u8 0] n) 5 (0, 0) j
      rw [hadd, hc, made_at0 _ _ _ hj, List.getElem_replicate]
      rfl
theorem many_any (n : Nat) (hn : n ≤ 1000000) (w : World) : Calls Tryz.prog 18 #[.int .i64 (n : Int)] w (Ret w (.string (zs n))) := by
  obtain ⟨CZ, hmk, hcv⟩ := made_zs n hn
  go_enter Tryz.func18, Tryz.ntmps18
  go_wp2
  go_ret
  exact ⟨rfl, (Below.refl _ _).alloc (Nat.le_refl _) _⟩
theorem vLay_nil (s : ByteArray) (w : World) : Calls Tryz.prog 13 #[.pointer none, .string s] w fun e w' => e = .returned (.int .i64 2) ∧ w = w' := by
  have H := Lib.hid (opened_nil w)
  go_enter Tryz.func13, Tryz.ntmps13
  go_wp2_with fail
  refine H.out.mono ?_
  rintro e w' ⟨rfl, rfl⟩
  go_wp2
  go_ret
  exact ⟨rfl, rfl⟩
theorem open_nil (m : Int) (w : World) : Calls Tryz.prog 9 #[.pointer none, .int .i64 m] w (Ret w (.tuple #[.pointer none, foundV false ⟨#[]⟩ (.slice none 0 0), .int .i64 2])) := by
  go_enter Tryz.func9, Tryz.ntmps9
  go_wp2
  refine retm Tryz.results9 w.heap.size rfl rfl rfl rfl (heap_alloc_new w _) ⟨rfl, below_one _ _⟩
theorem vHead_nil (w : World) : Calls Tryz.prog 17 #[.pointer none] w (Ret w (.agg #[.int .i64 0, .int .i64 0, .int .i64 0, .slice none 0 0])) := by
  have H := Lib.hid (fun W => opened_nil W)
  go_enter Tryz.func17, Tryz.ntmps17
  go_wp2_with fail
  refine (H.out _).mono ?_
  rintro e w' ⟨rfl, rfl⟩
  go_wp2
  refine ret4one Tryz.results17 w.heap.size rfl rfl (heap_alloc_new w _) ⟨rfl, below_one _ _⟩
end Go.Proofs.YtieemdcoomilaaaGreatDoor
namespace Go.Proofs.YtieemdcoomilaaaGreatDoor
open Go Go.RowKit Go.Sort
set_option maxRecDepth 100000
theorem vz_used {W : World} {V B mo : Nat} {z : Vt.Zs} (h : VZ W V B mo z) : Calls Tryz.prog 34 #[.pointer (some ⟨B, 0, none⟩)] W (Ret W (.int .i64 (Vt.sumF z.s 32 : Int))) := by
  obtain ⟨d, hx, hi⟩ := h
  rw [← hi.used]
  exact used_any B d W hx.d hx.ok
def zE : ByteArray := ⟨#[]⟩
def zR : ByteArray := ⟨#[114]⟩
def zS : ByteArray := ⟨#[115]⟩
def getZ (x : Option Vt.Zs × Nat) : Vt.Zs := x.1.getD (Vt.newZ 0)
def rA1 : Vt.Zs := getZ (Vt.addZ (Vt.newZ 30) 100 (zs 7) 7)
theorem ra0 : Vt.addZ (Vt.newZ 30) 100 (zs 8) (zs 8).size = (none, 44) := by kernel_rfl
theorem ra1 : Vt.addZ (Vt.newZ 30) 100 (zs 7) (zs 7).size = (some rA1, 0) := by kernel_rfl
theorem ra2 : Vt.addZ rA1 100 zE zE.size = (none, 44) := by kernel_rfl
theorem ra_u0 : Vt.sumF (Vt.newZ 30).s 32 = 14 := by kernel_rfl
theorem ra_u1 : Vt.sumF rA1.s 32 = 30 := by kernel_rfl
def rB1 : Vt.Zs := getZ (Vt.addZ (Vt.newZ 47) 100 zE 0)
def rB2 : Vt.Zs := getZ (Vt.layZ rB1 zS 1)
def rB3 : Vt.Zs := getZ (Vt.addZ rB2 100 zE 0)
theorem rb1 : Vt.addZ (Vt.newZ 47) 100 zE zE.size = (some rB1, 0) := by kernel_rfl
theorem rb2 : Vt.layZ rB1 (zs 2) (zs 2).size = (none, 44) := by kernel_rfl
theorem rb3 : Vt.layZ rB1 zS zS.size = (some rB2, 0) := by kernel_rfl
theorem rb_u : Vt.sumF rB2.s 32 = 38 := by kernel_rfl
theorem rb4 : Vt.addZ rB2 100 zE zE.size = (some rB3, 0) := by kernel_rfl
theorem rb5 : Vt.addZ rB3 100 zE zE.size = (none, 44) := by kernel_rfl
def rC : Nat → Vt.Zs
  | 0 => Vt.newZ 100000
  | i + 1 => getZ (Vt.addZ (rC i) 1 zR 1)
def rcOk (i : Nat) : Bool := (Vt.addZ (rC i) 1 zR zR.size).1.isSome && (Vt.addZ (rC i) 1 zR zR.size).2 == 0
theorem rc_all : ∀ i < 30, rcOk i = true := by decide +kernel
theorem rc_step (i : Nat) (h : i < 30) : Vt.addZ (rC i) 1 zR zR.size = (some (rC (i + 1)), 0) := by
  have h1 := rc_all i h
  unfold rcOk at h1
  rw [Bool.and_eq_true] at h1
  obtain ⟨h1, h2⟩ := h1
  have e : rC (i + 1) = getZ (Vt.addZ (rC i) 1 zR zR.size) := rfl
  rw [e]
  generalize Vt.addZ (rC i) 1 zR zR.size = x at *
  obtain ⟨o, k⟩ := x
  cases o with
  | none => cases h1
  | some z => have : k = 0 := by simpa using h2
              subst this; rfl
theorem rc_l : ∀ i < 31, (rC i).L.length = i := by decide +kernel
theorem rc_no : Vt.addZ (rC 30) 1 zR zR.size = (none, 44) := by kernel_rfl
theorem rc_lay : Vt.layZ (rC 30) zS zS.size = (none, 44) := by kernel_rfl
theorem rc_log : (rC 30).h.log.length = 30 ∧ (rC 30).h.gen = 30 := by decide +kernel
end Go.Proofs.YtieemdcoomilaaaGreatDoor
