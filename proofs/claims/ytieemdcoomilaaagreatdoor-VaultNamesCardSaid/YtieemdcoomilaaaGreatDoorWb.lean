/- The vault where it lies; its steps. -/
import Derived.Test.YtieemdcoomilaaaGreatDoorDt
import Derived.Test.YtieemdcoomilaaaGreatDoorHm
import Derived.Lib.QuietBelow
import Derived.StillTailTactics
set_option linter.unusedVariables false
set_option linter.unusedSimpArgs false
namespace Go.Proofs.YtieemdcoomilaaaGreatDoor
open Go Go.RowKit
set_option maxRecDepth 100000
/-- The vault lies in block V: on the disk in block B; its log's numbers in a row v that does not turn. -/
structure VAt (w : World) (V B mo : Nat) (h : He) (n : Nat) (v : Value) : Prop where
  on : w.cell? ⟨V, 0, none⟩ = some (.pointer (some ⟨B, 0, none⟩))
  mo : w.cell? ⟨V, 1, none⟩ = some (.int .i64 (mo : Int))
  g : w.cell? ⟨V, 2, none⟩ = some (.int .i64 h.gen)
  b : w.cell? ⟨V, 3, none⟩ = some (.int .i64 h.base)
  s : w.cell? ⟨V, 4, none⟩ = some (.int .i64 h.snap)
  l : w.cell? ⟨V, 5, none⟩ = some v
  n : w.cell? ⟨V, 6, none⟩ = some (.int .i64 (n : Int))
  fz : ∀ j, w.frozen? ⟨V, j, none⟩ = false
  k : KAt w v h.log
  len : h.log.length ≤ 9223372036854775807
  ow : ∀ q, v.ownBlock = some q → q ≠ B ∧ q ≠ V
theorem VAt.congr {w w' : World} {V B mo : Nat} {h : He} {n : Nat} {v : Value} (a : VAt w V B mo h n v) (hb : w'.heap[V]? = w.heap[V]?) (hv : ∀ g, g < w.heap.size → v.ownBlock = some g → w'.heap[g]? = w.heap[g]?) : VAt w' V B mo h n v := by
  have e : ∀ j, w'.cell? ⟨V, j, none⟩ = w.cell? ⟨V, j, none⟩ := fun j => World.cell?_of_block (a := ⟨V, j, none⟩) hb
  exact ⟨(e _).trans a.on, (e _).trans a.mo, (e _).trans a.g, (e _).trans a.b, (e _).trans a.s, (e _).trans a.l, (e _).trans a.n, fun j => (World.frozen?_of_block (a := ⟨V, j, none⟩) hb).trans (a.fz j), a.k.same hv, a.len, a.ow⟩
theorem VAt.lt {w : World} {V B mo : Nat} {h : He} {n : Nat} {v : Value} (a : VAt w V B mo h n v) : V < w.heap.size := World.block_lt_of_cell? w ⟨V, 0, none⟩ a.on
theorem VAt.below {w w' : World} {V B mo : Nat} {h : He} {n : Nat} {v : Value} {m : Nat} (a : VAt w V B mo h n v) (hb : Below m w w') (hm : w.heap.size ≤ m) : VAt w' V B mo h n v :=
  a.congr (hb.block V (Nat.lt_of_lt_of_le a.lt hm)) fun g hg _ => hb.block g (Nat.lt_of_lt_of_le hg hm)
theorem VAt.grown {w w' : World} {V B mo : Nat} {h : He} {n : Nat} {v : Value} (a : VAt w V B mo h n v) (hb : w.grownBy w' (some B)) (hn : V ≠ B) : VAt w' V B mo h n v :=
  a.congr (hb.block V a.lt (fun e => hn (by cases e; rfl))) fun g hg e => hb.block g hg (fun e2 => (a.ow g e).1 (by cases e2; rfl))
theorem DAt.drew {w : World} {B : Nat} {d : Dk} (h : DAt w B d) : DAt w.drew B d := h.congr rfl
theorem KAt.drew {w : World} {v : Value} {l : List Int} (h : KAt w v l) : KAt w.drew v l := h.same fun _ _ _ => rfl
theorem Tab.drew {w : World} (h : Tab w) : Tab w.drew := ⟨h.1, h.2⟩
theorem VAt.drew {w : World} {V B mo : Nat} {h : He} {n : Nat} {v : Value} (a : VAt w V B mo h n v) : VAt w.drew V B mo h n v := a.congr rfl fun _ _ _ => rfl
theorem set_at {V j : Nat} {w : World} {old : Value} (u : Value) (h : w.cell? ⟨V, j, none⟩ = some old) (k : Nat) : (w.setCell ⟨V, j, none⟩ u).cell? ⟨V, k, none⟩ = if k = j then some u else w.cell? ⟨V, k, none⟩ := by
  by_cases e : k = j
  · subst e; rw [if_pos rfl, World.cell?_setCell_same _ _ _ h]
  · rw [if_neg e, World.cell?_setCell_other _ _ _ _ (by intro h; cases h; exact e rfl)]
/-- Another head, and another count. -/
theorem VAt.put {w : World} {V B mo : Nat} {h0 : He} {n0 : Nat} {v0 : Value} (a : VAt w V B mo h0 n0 v0) (h : He) (n : Nat) (v : Value) (hk : KAt w v h.log) (hl : h.log.length ≤ 9223372036854775807) (hv : ∀ q, v.ownBlock = some q → q ≠ B ∧ q ≠ V) :
    VAt (((((w.setCell ⟨V, 2, none⟩ (.int .i64 h.gen)).setCell ⟨V, 3, none⟩ (.int .i64 h.base)).setCell ⟨V, 4, none⟩ (.int .i64 h.snap)).setCell ⟨V, 5, none⟩ v).setCell ⟨V, 6, none⟩ (.int .i64 (n : Int))) V B mo h n v := by
  have s1 := set_at (.int .i64 h.gen) a.g
  have s2 := set_at (.int .i64 h.base) ((s1 3).trans ((if_neg (by decide)).trans a.b))
  have s3 := set_at (.int .i64 h.snap) ((s2 4).trans ((if_neg (by decide)).trans ((s1 4).trans ((if_neg (by decide)).trans a.s))))
  have s4 := set_at v ((s3 5).trans ((if_neg (by decide)).trans ((s2 5).trans ((if_neg (by decide)).trans ((s1 5).trans ((if_neg (by decide)).trans a.l))))))
  have s5 := set_at (.int .i64 (n : Int)) ((s4 6).trans ((if_neg (by decide)).trans ((s3 6).trans ((if_neg (by decide)).trans ((s2 6).trans ((if_neg (by decide)).trans ((s1 6).trans ((if_neg (by decide)).trans a.n))))))))
  refine ⟨?_, ?_, ?_, ?_, ?_, ?_, ?_, fun j => by simp only [World.frozen?_setCell]; exact a.fz j, hk.same fun g hg e => ?_, hl, hv⟩
  · rw [s5, s4, s3, s2, s1]; exact a.on
  · rw [s5, s4, s3, s2, s1]; exact a.mo
  · rw [s5, s4, s3, s2, s1]; rfl
  · rw [s5, s4, s3, s2]; rfl
  · rw [s5, s4, s3]; rfl
  · rw [s5, s4]; rfl
  · rw [s5]; rfl
  · have hn := (hv g e).2
    rw [Below.heap_setCell _ _ _ g hn, Below.heap_setCell _ _ _ g hn, Below.heap_setCell _ _ _ g hn, Below.heap_setCell _ _ _ g hn, Below.heap_setCell _ _ _ g hn]
theorem gv_put {w W : World} {B V : Nat} (h : Gv w W B V) (a b c d e : Value) : Gv w ((((((W.setCell ⟨V, 2, none⟩ a).setCell ⟨V, 3, none⟩ b).setCell ⟨V, 4, none⟩ c).setCell ⟨V, 5, none⟩ d).setCell ⟨V, 6, none⟩ e)) B V := ((((h.setV _ _).setV _ _).setV _ _).setV _ _).setV _ _
abbrev VS := Dk × He × Nat
/-- The disk and the vault. -/
structure VSt (w : World) (V B mo : Nat) (x : VS) : Prop where
  d : DAt w B x.1
  ok : x.1.ok
  v : ∃ v, VAt w V B mo x.2.1 x.2.2 v
  ne : V ≠ B
  t : Tab w
  b0 : B ≠ 0
  v0 : V ≠ 0
theorem VSt.below {w w' : World} {V B mo : Nat} {x : VS} {m : Nat} (a : VSt w V B mo x) (hb : Below m w w') (hm : w.heap.size ≤ m) : VSt w' V B mo x := by
  obtain ⟨v, hv⟩ := a.v
  exact ⟨a.d.below hb (Nat.lt_of_lt_of_le a.d.lt hm), a.ok, ⟨v, hv.below hb hm⟩, a.ne, a.t.below (hb.mono hm), a.b0, a.v0⟩
theorem VSt.lt {w : World} {V B mo : Nat} {x : VS} (a : VSt w V B mo x) : V < w.heap.size := by obtain ⟨v, hv⟩ := a.v; exact hv.lt
/-- What a step tells, and leaves. -/
def StD (w : World) (V B mo : Nat) (r : VS × Nat) (e : Ending) (w' : World) : Prop := e = .returned (.int .i64 (r.2 : Int)) ∧ VSt w' V B mo r.1 ∧ Gv w w' B V
def Enters (F : FuncId) : Prop := ∀ args W, (callFunc F args).run Tryz.prog W = .ok (.enter F args) W
/-- A closure that does that, wherever the blocks bs are as they are. -/
structure Stp (w : World) (V B mo : Nat) (bs : List Nat) (c : Clo) (f : VS → VS × Nat) : Prop where
  en : Enters c.F
  lt : ∀ b ∈ bs, b < w.heap.size ∧ b ≠ B ∧ b ≠ V
  run : ∀ W x, (∀ b ∈ bs, W.heap[b]? = w.heap[b]?) → VSt W V B mo x → Calls Tryz.prog c.F (c.first ++ c.cap) W (StD W V B mo (f x))
theorem Stp.keep {w w' : World} {V B mo : Nat} {bs : List Nat} {c : Clo} {f : VS → VS × Nat} (h : Stp w V B mo bs c f) (hz : w.heap.size ≤ w'.heap.size) (hk : ∀ b ∈ bs, w'.heap[b]? = w.heap[b]?) : Stp w' V B mo bs c f :=
  ⟨h.en, fun b hb => ⟨Nat.lt_of_lt_of_le (h.lt b hb).1 hz, (h.lt b hb).2⟩, fun W x hW hx => h.run W x (fun b hb => (hW b hb).trans (hk b hb)) hx⟩
theorem Stp.gv {w w' : World} {V B mo : Nat} {bs : List Nat} {c : Clo} {f : VS → VS × Nat} (h : Stp w V B mo bs c f) (hg : Gv w w' B V) : Stp w' V B mo bs c f :=
  h.keep hg.size fun b hb => hg.block b (h.lt b hb).1 (h.lt b hb).2.1 (h.lt b hb).2.2
theorem Stp.below {w w' : World} {V B mo : Nat} {bs : List Nat} {c : Clo} {f : VS → VS × Nat} (h : Stp w V B mo bs c f) (hb : Below w.heap.size w w') : Stp w' V B mo bs c f := h.gv (Gv.of_below hb B V)
def sySt (t : Int) (x : VS) : VS × Nat := (((doD x.1 t false sy).1, x.2), (doD x.1 t false sy).2)
def wiSt (t : Int) (x : VS) : VS × Nat := (((doD x.1 t false wi).1, x.2), (doD x.1 t false wi).2)
def wrSt (t : Int) (s : ByteArray) (x : VS) : VS × Nat := (((doD x.1 t true (wf x.1 s)).1, x.2), (doD x.1 t true (wf x.1 s)).2)
def puSt (h : He) (n : Nat) (x : VS) : VS × Nat := (((putR x.1 h).1, if (putR x.1 h).2 = 0 then (h, n) else x.2), (putR x.1 h).2)
theorem gv_drew (w : World) (B V : Nat) : Gv w w.drew B V := ⟨rfl, rfl, rfl, Nat.le_refl _, fun _ _ _ _ => rfl⟩
theorem step_end {w w' : World} {V B mo : Nat} {x : VS} {d' : Dk} (hx : VSt w V B mo x) (hd : DAt w' B d') (ho : d'.ok) (hg : w.drew.grownBy w' (some B)) : VSt w' V B mo (d', x.2) ∧ Gv w w' B V := by
  obtain ⟨v, hv⟩ := hx.v
  have g2 : Gv w w' B V := (gv_drew w B V).trans (Gv.of_B hg V)
  exact ⟨⟨hd, ho, ⟨v, hv.drew.grown hg hx.ne⟩, hx.ne, g2.tab hx.t hx.b0 hx.v0, hx.b0, hx.v0⟩, g2⟩
theorem sync1_any (b1 b2 V B mo : Nat) (x : VS) (t : Int) (w : World) (c1 : w.cell? ⟨b1, 0, none⟩ = some (.pointer (some ⟨V, 0, none⟩))) (c2 : w.cell? ⟨b2, 0, none⟩ = some (.int .i64 t)) (hx : VSt w V B mo x) :
    Calls Tryz.prog 96 #[.pointer (some ⟨b1, 0, none⟩), .pointer (some ⟨b2, 0, none⟩)] w (StD w V B mo (sySt t x)) := by
  have H := Lib.hid (sync_any B x.1 t w.drew hx.d.drew hx.ok)
  have HE := Lib.hid (fun d' w' => step_end (w' := w') (d' := d') hx)
  obtain ⟨v, hv⟩ := hx.v
  have c3 := hv.on
  have ho := Lib.hid (doD_ok hx.ok t false (fine_sy hx.ok))
  unfold sySt
  generalize doD x.1 t false sy = X at *
  clear hv hx
  go_enter Tryz.func96, Tryz.ntmps96
  go_wp2_with fail
  go_still_tail 5, (by kernel_rfl)
  change wpList _ _ _ _ _ w.drew
  generalize w.drew = wd at *
  go_wp2_with fail
  refine H.out.mono ?_
  rintro e w' ⟨rfl, hd2, hg⟩
  go_wp2
  go_ret
  exact ⟨rfl, HE.out _ _ hd2 ho.out hg⟩
theorem wipe1_any (b1 b2 V B mo : Nat) (x : VS) (t : Int) (w : World) (c1 : w.cell? ⟨b1, 0, none⟩ = some (.pointer (some ⟨V, 0, none⟩))) (c2 : w.cell? ⟨b2, 0, none⟩ = some (.int .i64 t)) (hx : VSt w V B mo x) :
    Calls Tryz.prog 98 #[.pointer (some ⟨b1, 0, none⟩), .pointer (some ⟨b2, 0, none⟩)] w (StD w V B mo (wiSt t x)) := by
  have H := Lib.hid (wipe_any B x.1 t w.drew hx.d.drew hx.ok)
  have HE := Lib.hid (fun d' w' => step_end (w' := w') (d' := d') hx)
  obtain ⟨v, hv⟩ := hx.v
  have c3 := hv.on
  have ho := Lib.hid (doD_ok hx.ok t false (fine_wi hx.ok))
  unfold wiSt
  generalize doD x.1 t false wi = X at *
  clear hv hx
  go_enter Tryz.func98, Tryz.ntmps98
  go_wp2_with fail
  go_still_tail 5, (by kernel_rfl)
  change wpList _ _ _ _ _ w.drew
  generalize w.drew = wd at *
  go_wp2_with fail
  refine H.out.mono ?_
  rintro e w' ⟨rfl, hd2, hg⟩
  go_wp2
  go_ret
  exact ⟨rfl, HE.out _ _ hd2 ho.out hg⟩
theorem write1_any (b1 b2 b3 V B mo : Nat) (x : VS) (t : Int) (s : ByteArray) (hs : s.size ≤ 9223372036854775807) (w : World) (c1 : w.cell? ⟨b1, 0, none⟩ = some (.pointer (some ⟨V, 0, none⟩))) (c2 : w.cell? ⟨b2, 0, none⟩ = some (.int .i64 t)) (c4 : w.cell? ⟨b3, 0, none⟩ = some (.string s)) (hx : VSt w V B mo x) :
    Calls Tryz.prog 100 #[.pointer (some ⟨b1, 0, none⟩), .pointer (some ⟨b2, 0, none⟩), .pointer (some ⟨b3, 0, none⟩)] w (StD w V B mo (wrSt t s x)) := by
  have H := Lib.hid (write_any B x.1 t s w.drew hx.d.drew hx.ok hs)
  have HE := Lib.hid (fun d' w' => step_end (w' := w') (d' := d') hx)
  obtain ⟨v, hv⟩ := hx.v
  have c3 := hv.on
  have ho := Lib.hid (doD_ok hx.ok t true (fine_wf hx.ok s))
  unfold wrSt
  generalize doD x.1 t true (wf x.1 s) = X at *
  clear hv hx
  go_enter Tryz.func100, Tryz.ntmps100
  go_wp2_with fail
  go_still_tail 6, (by kernel_rfl)
  change wpList _ _ _ _ _ w.drew
  generalize w.drew = wd at *
  go_wp2_with fail
  refine H.out.mono ?_
  rintro e w' ⟨rfl, hd2, hg⟩
  go_wp2
  go_ret
  exact ⟨rfl, HE.out _ _ hd2 ho.out hg⟩
set_option maxHeartbeats 1000000 in
theorem put1_step (b1 b2 b3 V B mo : Nat) (x : VS) (h : He) (n : Nat) (u : Value) (w : World) (c1 : w.cell? ⟨b1, 0, none⟩ = some (.pointer (some ⟨V, 0, none⟩))) (c2 : Box4 w b2 (.int .i64 h.gen) (.int .i64 h.base) (.int .i64 h.snap) u) (c4 : w.cell? ⟨b3, 0, none⟩ = some (.int .i64 (n : Int)))
    (hk : KAt w u h.log) (hl : h.log.length ≤ 9223372036854775807) (hu : ∀ q, u.ownBlock = some q → q ≠ B ∧ q ≠ V) (n1 : b1 ≠ B ∧ b1 ≠ V) (n2 : b2 ≠ B ∧ b2 ≠ V) (n3 : b3 ≠ B ∧ b3 ≠ V) (hx : VSt w V B mo x) :
    Calls Tryz.prog 101 #[.pointer (some ⟨b1, 0, none⟩), .pointer (some ⟨b2, 0, none⟩), .pointer (some ⟨b3, 0, none⟩)] w (StD w V B mo (puSt h n x)) := by
  obtain ⟨ua, uc, hu0⟩ := hk.slice
  obtain ⟨L, hL⟩ : ∃ L, h.log.length = L := ⟨_, rfl⟩
  rw [hL] at hu0
  subst hu0
  have HL := Lib.hid hl
  clear hL
  have H := Lib.hid (put_any B x.1 h _ w.drew hx.d.drew hx.ok hk.drew hl (Lib.hid hx.t.drew))
  have HE := Lib.hid (fun d' w' => step_end (w' := w') (d' := d') hx)
  obtain ⟨v, hv⟩ := hx.v
  have c3 := hv.on
  have ho := Lib.hid (putR_ok hx.ok h)
  have q0 := c2.c0; have q1 := c2.c1; have q2 := c2.c2; have q3 := c2.c3
  have HX := Lib.hid hx
  have HU := Lib.hid hu
  have hl5 := load26 b2 _ _ _ _ c2
  unfold puSt
  generalize putR x.1 h = X at *
  unfold hval at *
  clear hv hx hu
  by_cases hP : X.2 = 0
  · rw [if_pos hP]
    have hP2 : ((X.2 : Int) == 0) = true := by rw [hP]; rfl
    have HP := Lib.hid hP
    clear hP
    go_enter Tryz.func101, Tryz.ntmps101
    go_wp2_with fail
    go_still_tail 5, (by kernel_rfl)
    change wpList _ _ _ _ _ w.drew
    generalize w.drew = wd at *
    go_wp2_with fail
    refine H.out.mono ?_
    rintro e w' ⟨rfl, hd2, hg⟩
    obtain ⟨g1, g2⟩ := HE.out _ _ hd2 ho.out hg
    have G1 := Lib.hid g1
    have G2 := Lib.hid g2
    clear g1 g2 hd2 hg HE
    have c1 := G2.out.cell c1 n1.1 n1.2
    have q0 := G2.out.cell q0 n2.1 n2.2
    have q1 := G2.out.cell q1 n2.1 n2.2
    have q2 := G2.out.cell q2 n2.1 n2.2
    have q3 := G2.out.cell q3 n2.1 n2.2
    have c4 := G2.out.cell c4 n3.1 n3.2
    obtain ⟨v', hv'⟩ := G1.out.v
    obtain ⟨va, vc, rfl⟩ := hv'.k.slice
    have HV := Lib.hid hv'
    have p2 := hv'.g; have p3 := hv'.b; have p4 := hv'.s; have p5 := hv'.l; have p6 := hv'.n
    have z2 := hv'.fz 2; have z3 := hv'.fz 3; have z4 := hv'.fz 4; have z5 := hv'.fz 5; have z6 := hv'.fz 6
    clear hv'
    have HK := Lib.hid hk
    generalize x.2.1.log.length = L2 at *
    go_wp2_with fail
    go_region
    go_wp2
    go_ret
    have hb : (some (.slice ua L uc) : Option Value) = some (.slice ua L uc) := rfl
    have ha := HV.out.put h n (.slice ua L uc) (G2.out.kat HK.out HU.out) HL.out HU.out
    have hg2 := gv_put (Gv.refl w' B V) (.int .i64 h.gen) (.int .i64 h.base) (.int .i64 h.snap) (.slice ua L uc) (.int .i64 (n : Int))
    have hgw := (G2.out.trans hg2).trans (gv_drew _ B V)
    refine ⟨by rw [HP.out]; rfl, ⟨?_, ho.out, ⟨_, ha.drew⟩, HX.out.ne, hgw.tab HX.out.t HX.out.b0 HX.out.v0, HX.out.b0, HX.out.v0⟩, hgw⟩
    exact (((((G1.out.d.apart (a := ⟨V, 2, none⟩) (fun e => HX.out.ne e.symm) _).apart (a := ⟨V, 3, none⟩) (fun e => HX.out.ne e.symm) _).apart (a := ⟨V, 4, none⟩) (fun e => HX.out.ne e.symm) _).apart (a := ⟨V, 5, none⟩) (fun e => HX.out.ne e.symm) _).apart (a := ⟨V, 6, none⟩) (fun e => HX.out.ne e.symm) _).drew
  · rw [if_neg hP]
    have hP2 : ((X.2 : Int) == 0) = false := by rw [beq_eq_false_iff_ne]; omega
    clear hP
    go_enter Tryz.func101, Tryz.ntmps101
    go_wp2_with fail
    go_still_tail 5, (by kernel_rfl)
    change wpList _ _ _ _ _ w.drew
    generalize w.drew = wd at *
    go_wp2_with fail
    refine H.out.mono ?_
    rintro e w' ⟨rfl, hd2, hg⟩
    go_wp2
    go_ret
    exact ⟨rfl, HE.out _ _ hd2 ho.out hg⟩
end Go.Proofs.YtieemdcoomilaaaGreatDoor
namespace Go.Proofs.YtieemdcoomilaaaGreatDoor
open Go Go.RowKit
set_option maxRecDepth 100000
theorem vr_put (s : ByteArray) (most a n : Nat) (r : List UInt8) (h : s.data.toList.drop a = Bt.vint n ++ r) (hn : n ≤ most) (hb : n < 18446744073709551616) : vr s most a 0 = (n, a + Bt.vlen n, 0) := by
  unfold vr
  rw [if_neg (by simp), h, Bt.rd_put hb r, if_neg (by simp), if_neg (by simp; omega)]
theorem drop_put (l : List UInt8) (a n : Nat) (r : List UInt8) (h : l.drop a = Bt.vint n ++ r) : l.drop (a + Bt.vlen n) = r := by
  rw [← List.drop_drop, h, ← Bt.vint_length, List.drop_left]
theorem vrs_put (s : ByteArray) (l : List Int) (hl : ∀ t ∈ l, 2 ≤ t ∧ t < 32) (a : Nat) (h : s.data.toList.drop a = encL l) : ∀ k, k ≤ l.length →
    vrs s k a 0 = ((l.take k).map Int.toNat, a + (encL (l.take k)).length, 0) ∧ s.data.toList.drop (a + (encL (l.take k)).length) = encL (l.drop k)
  | 0, _ => ⟨by simp [vrs, encL], by simpa [encL] using h⟩
  | k + 1, hk => by
    obtain ⟨h1, h2⟩ := vrs_put s l hl a h k (by omega)
    have hm := hl l[k] (List.getElem_mem (by omega))
    have e : encL (l.drop k) = Bt.vint l[k].toNat ++ encL (l.drop (k + 1)) := by rw [List.drop_eq_getElem_cons (show k < l.length by omega)]; rfl
    rw [e] at h2
    have h3 := vr_put s 31 _ l[k].toNat _ h2 (by omega) (by omega)
    have h4 := drop_put _ _ _ _ h2
    have e2 : encL (l.take (k + 1)) = encL (l.take k) ++ Bt.vint l[k].toNat := by rw [List.take_succ_eq_append_getElem (show k < l.length by omega), encL_snoc]
    refine ⟨?_, ?_⟩
    · show ((vrs s k a 0).1 ++ [(vr s 31 (vrs s k a 0).2.1 (vrs s k a 0).2.2).1], (vr s 31 (vrs s k a 0).2.1 (vrs s k a 0).2.2).2) = _
      rw [h1, h3, e2, List.take_succ_eq_append_getElem (show k < l.length by omega), List.map_append, List.length_append, Bt.vint_length]
      simp only [List.map_cons, List.map_nil, Nat.add_assoc]
    · rw [e2, List.length_append, Bt.vint_length, ← Nat.add_assoc]
      exact h4
theorem nat2_toNat {l : List Int} (h : ∀ t ∈ l, 2 ≤ t ∧ t < 32) : nat2 (l.map Int.toNat) = l := by
  unfold nat2
  rw [List.map_map]
  have : ∀ t ∈ l, (Int.ofNat ∘ Int.toNat) t = t := fun t ht => by
    have := h t ht
    show ((t.toNat : Nat) : Int) = t
    omega
  rw [List.map_congr_left this, List.map_id']
theorem dec_enc {h : He} (hm : mayB h = true) : dcR (bs (enc h)) = (h, 0) := by
  have ok := mayB_ok hm
  have g1 := ok.g1; have g2 := ok.g2; have b1 := ok.b1; have b2 := ok.b2; have s1 := ok.s1; have s2 := ok.s2; have ln := ok.len
  have h0 : (bs (enc h)).data.toList.drop 0 = Bt.vint h.gen.toNat ++ (Bt.vint h.base.toNat ++ (Bt.vint h.snap.toNat ++ (Bt.vint h.log.length ++ encL h.log))) := rfl
  have e1 : r1 (bs (enc h)) = (h.gen.toNat, 0 + Bt.vlen h.gen.toNat, 0) := vr_put _ _ _ _ _ h0 (by omega) (by omega)
  have h1 := drop_put _ _ _ _ h0
  have e2 : r2 (bs (enc h)) = (h.base.toNat, 0 + Bt.vlen h.gen.toNat + Bt.vlen h.base.toNat, 0) := by unfold r2; rw [e1]; exact vr_put _ _ _ _ _ h1 (by omega) (by omega)
  have h2 := drop_put _ _ _ _ h1
  have e3 : r3 (bs (enc h)) = (h.snap.toNat, 0 + Bt.vlen h.gen.toNat + Bt.vlen h.base.toNat + Bt.vlen h.snap.toNat, 0) := by unfold r3; rw [e2]; exact vr_put _ _ _ _ _ h2 (by omega) (by omega)
  have h3 := drop_put _ _ _ _ h2
  have e4 : r4 (bs (enc h)) = (h.log.length, 0 + Bt.vlen h.gen.toNat + Bt.vlen h.base.toNat + Bt.vlen h.snap.toNat + Bt.vlen h.log.length, 0) := by unfold r4; rw [e3]; exact vr_put _ _ _ _ _ h3 (by omega) (by omega)
  have h4 := drop_put _ _ _ _ h3
  have e5 := (vrs_put _ h.log ok.mem _ h4 h.log.length (Nat.le_refl _)).1
  rw [List.take_length] at e5
  have e5' : r5 (bs (enc h)) = (h.log.map Int.toNat, 0 + Bt.vlen h.gen.toNat + Bt.vlen h.base.toNat + Bt.vlen h.snap.toNat + Bt.vlen h.log.length + (encL h.log).length, 0) := by unfold r5; rw [e4]; exact e5
  have hz : (bs (enc h)).size = 0 + Bt.vlen h.gen.toNat + Bt.vlen h.base.toNat + Bt.vlen h.snap.toNat + Bt.vlen h.log.length + (encL h.log).length := by
    rw [bs_size]; unfold enc; simp only [List.length_append, Bt.vint_length]; omega
  have hE : rdE (bs (enc h)) = 0 := by unfold rdE endE; rw [e5', if_neg (by simp), if_neg (by simp only [hz]; omega)]
  have hH : rdH (bs (enc h)) = h := by
    unfold rdH
    rw [e1, e2, e3, e5']
    dsimp only
    rw [nat2_toNat ok.mem]
    rw [Int.toNat_of_nonneg (show 0 ≤ h.gen by omega), Int.toNat_of_nonneg b1, Int.toNat_of_nonneg s1]
  unfold dcR
  rw [hE, if_neg (by simp), hH, hm, if_pos rfl]
theorem of_whl {h : He} (hm : mayB h = true) : ofB (whl h) = (h, true) := by
  have hok : Fr.Ok 3 (enc h) := ⟨by decide, by have := enc_len (mayB_ok hm); omega⟩
  have hg : Fr.er (Fr.frm 3 (enc h)) = 0 := by
    have := Fr.er_good.2 (Fr.good_of 3 (enc h) [] hok)
    rwa [List.append_nil] at this
  have hk : Fr.kd (Fr.frm 3 (enc h)) = 3 := by
    have := Fr.kd_frm 3 (enc h) []
    rwa [List.append_nil] at this
  have hp : Fr.pl (Fr.frm 3 (enc h)) = enc h := by
    have := Fr.pl_frm 3 (enc h) [] hok.2
    rwa [List.append_nil] at this
  unfold ofB whl
  rw [bs_data, if_neg (by rw [hg]; simp), if_neg (by rw [hk]; decide), hp, dec_enc hm]
  rfl
/-- What is read has no more bytes when it is written. -/
theorem rd_lt : ∀ (l : List UInt8) (i acc : Nat), acc < 128 ^ i → (Bt.rd l i acc).2.2 = 0 → (Bt.rd l i acc).1 < 128 ^ (Bt.rd l i acc).2.1 ∧ 1 ≤ (Bt.rd l i acc).2.1
  | [], i, acc, _, h => by simp [Bt.rd] at h
  | b :: r, i, acc, ha, h => by
    by_cases h1 : i = 9 ∧ 1 < b.toNat
    · rw [Bt.rd, if_pos h1] at h; simp at h
    · by_cases h2 : b.toNat < 128
      · rw [Bt.rd_end r i acc h1 h2]
        refine ⟨?_, by show 1 ≤ i + 1; omega⟩
        show acc + b.toNat * 128 ^ i < 128 ^ (i + 1)
        rw [Nat.pow_succ]
        have : b.toNat * 128 ^ i ≤ 127 * 128 ^ i := Nat.mul_le_mul_right _ (by omega)
        omega
      · rw [Bt.rd_more r i acc h1 (by omega)] at h ⊢
        refine rd_lt r (i + 1) _ ?_ h
        rw [Nat.pow_succ]
        have hb := b.toNat_lt
        have : (b.toNat - 128) * 128 ^ i ≤ 127 * 128 ^ i := Nat.mul_le_mul_right _ (by omega)
        omega
theorem vr_len (s : ByteArray) (most a e : Nat) (h : (vr s most a e).2.2 = 0) : e = 0 ∧ a + Bt.vlen (vr s most a e).1 ≤ (vr s most a e).2.1 := by
  unfold vr at *
  by_cases he : e ≠ 0
  · rw [if_pos he] at h; exact absurd h he
  rw [if_neg he] at h ⊢
  refine ⟨by omega, ?_⟩
  by_cases hK : (Bt.rd (s.data.toList.drop a) 0 0).2.2 ≠ 0
  · rw [if_pos hK] at h; exact absurd h hK
  rw [if_neg hK] at h ⊢
  by_cases hm : most < (Bt.rd (s.data.toList.drop a) 0 0).1
  · rw [if_pos hm] at h; simp at h
  rw [if_neg hm]
  obtain ⟨h1, h2⟩ := rd_lt (s.data.toList.drop a) 0 0 (by simp) (by omega)
  have h3 := Bt.vlen_le ((Bt.rd (s.data.toList.drop a) 0 0).2.1 - 1) _ (by rw [Nat.sub_add_cancel h2]; exact h1)
  show a + Bt.vlen (Bt.rd (s.data.toList.drop a) 0 0).1 ≤ a + (Bt.rd (s.data.toList.drop a) 0 0).2.1
  omega
theorem encL_nat_snoc (l : List Nat) (t : Nat) : (encL (nat2 (l ++ [t]))).length = (encL (nat2 l)).length + Bt.vlen t := by
  have : nat2 (l ++ [t]) = nat2 l ++ [(t : Int)] := by unfold nat2; simp
  rw [this, encL_snoc, List.length_append, Bt.vint_length]
  rfl
theorem vrs_len (s : ByteArray) : ∀ (k a e : Nat), (vrs s k a e).2.2 = 0 → e = 0 ∧ a + (encL (nat2 (vrs s k a e).1)).length ≤ (vrs s k a e).2.1
  | 0, a, e, h => ⟨h, by simp [vrs, nat2, encL]⟩
  | k + 1, a, e, h => by
    obtain ⟨h1, h2⟩ := vr_len s 31 (vrs s k a e).2.1 (vrs s k a e).2.2 h
    obtain ⟨h3, h4⟩ := vrs_len s k a e h1
    refine ⟨h3, ?_⟩
    show a + (encL (nat2 ((vrs s k a e).1 ++ [(vr s 31 (vrs s k a e).2.1 (vrs s k a e).2.2).1]))).length ≤ (vr s 31 (vrs s k a e).2.1 (vrs s k a e).2.2).2.1
    rw [encL_nat_snoc]
    omega
theorem dec_good {s : ByteArray} (h : (dcR s).2 = 0) : mayB (dcR s).1 = true ∧ (enc (dcR s).1).length ≤ s.size := by
  unfold dcR at *
  by_cases hE : rdE s ≠ 0
  · rw [if_pos hE] at h; exact absurd h hE
  rw [if_neg hE] at h ⊢
  cases hm : mayB (rdH s)
  · rw [hm, if_neg (by simp)] at h; simp at h
  rw [if_pos rfl]
  refine ⟨hm, ?_⟩
  dsimp only
  have h5 : (r5 s).2.2 = 0 := by
    unfold rdE endE at hE
    by_cases h : (r5 s).2.2 ≠ 0
    · rw [if_pos h] at hE; omega
    · omega
  have f1 := vr_facts s 1099511627776 0 0 (Nat.zero_le _)
  have f2 := vr_facts s 1099511627776 (r1 s).2.1 (r1 s).2.2 f1.2.1
  have f3 := vr_facts s 31 (r2 s).2.1 (r2 s).2.2 f2.2.1
  have f4 := vr_facts s 31 (r3 s).2.1 (r3 s).2.2 f3.2.1
  have f5 := vrs_facts s (r4 s).1 (r4 s).2.1 (r4 s).2.2 f4.2.1
  obtain ⟨e4, l5⟩ := vrs_len s (r4 s).1 (r4 s).2.1 (r4 s).2.2 h5
  obtain ⟨e3, l4⟩ := vr_len s 31 (r3 s).2.1 (r3 s).2.2 e4
  obtain ⟨e2, l3⟩ := vr_len s 31 (r2 s).2.1 (r2 s).2.2 e3
  obtain ⟨e1, l2⟩ := vr_len s 1099511627776 (r1 s).2.1 (r1 s).2.2 e2
  obtain ⟨_, l1⟩ := vr_len s 1099511627776 0 0 e1
  have hlen : (rdH s).log.length = (r4 s).1 := by show (nat2 (r5 s).1).length = _; unfold nat2; rw [List.length_map]; exact f5.1
  have hsz : (r5 s).2.1 ≤ s.size := f5.2.1
  have l5' : (r4 s).2.1 + (encL (rdH s).log).length ≤ (r5 s).2.1 := l5
  have l4' : (r3 s).2.1 + Bt.vlen (r4 s).1 ≤ (r4 s).2.1 := l4
  have l3' : (r2 s).2.1 + Bt.vlen (r3 s).1 ≤ (r3 s).2.1 := l3
  have l2' : (r1 s).2.1 + Bt.vlen (r2 s).1 ≤ (r2 s).2.1 := l2
  have l1' : 0 + Bt.vlen (r1 s).1 ≤ (r1 s).2.1 := l1
  have k1 : (rdH s).gen.toNat = (r1 s).1 := rfl
  have k2 : (rdH s).base.toNat = (r2 s).1 := rfl
  have k3 : (rdH s).snap.toNat = (r3 s).1 := rfl
  unfold enc
  rw [k1, k2, k3, hlen]
  simp only [List.length_append, Bt.vint_length]
  omega
theorem dec_bad {s : ByteArray} (h : (dcR s).2 ≠ 0) : (dcR s).1 = he0 := by
  unfold dcR at *
  by_cases hE : rdE s ≠ 0
  · rw [if_pos hE]
  rw [if_neg hE] at h ⊢
  cases hm : mayB (rdH s)
  · rw [if_neg (by simp)]
  · rw [hm, if_pos rfl] at h; exact absurd rfl h
end Go.Proofs.YtieemdcoomilaaaGreatDoor
