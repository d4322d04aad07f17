/- Open. -/
import Derived.Test.YtieemdcoomilaaaGreatDoorWq
import Derived.Test.YtieemdcoomilaaaGreatDoorWi
import Derived.Test.YtieemdcoomilaaaGreatDoorOx
set_option linter.unusedVariables false
set_option linter.unusedSimpArgs false
namespace Go.Proofs.YtieemdcoomilaaaGreatDoor
open Go Go.RowKit Go.Sort
set_option maxRecDepth 100000
def foundV (has : Bool) (sn : ByteArray) (rv : Value) : Value := .agg #[.bool has, .string sn, rv]
/-- What Open tells, and leaves. -/
def OpE (w : World) (B mo : Nat) (x : OpR) (e : Ending) (w' : World) : Prop :=
  w.grownBy w' (some B) ∧ DAt w' B x.1.1 ∧ x.1.1.ok ∧
  ((x.1.2 ≠ 0 ∧ e = .returned (.tuple #[.pointer none, foundV false ⟨#[]⟩ (.slice none 0 0), .int .i64 (x.1.2 : Int)])) ∨
   (x.1.2 = 0 ∧ ∃ V rv, e = .returned (.tuple #[.pointer (some ⟨V, 0, none⟩), foundV x.2.2.1.isSome (x.2.2.1.getD ⟨#[]⟩) rv, .int .i64 0]) ∧ w.heap.size ≤ V ∧ VSt w' V B mo (x.1.1, x.2.1, x.2.2.2.length) ∧ mayB x.2.1 = true ∧ Own w' w.heap.size rv (strs x.2.2.2) ∧ (∀ q, rv.ownBlock = some q → q ≠ V) ∧ x.2.2.2.length ≤ 100000000))
theorem results_mid {fn : Func} {p u v : Tmp} {ty : TypeId} (h : fn.results = #[.tmp u, .cell p ty, .tmp v]) (tmps : Array Value) (P : Program) (w : World) :
    (results fn tmps).run P w =
      ((asAddr (tmps.getD p undef)).run P w).andThen fun a w₁ => ((loadVar ty a).run P w₁).andThen fun x w₂ => .ok (.tuple #[tmps.getD u undef, x, tmps.getD v undef]) w₂ := by
  simp only [results, h]
  simp [Sem.run_bind, Result.andThen]
theorem tri26 : Tri 26 := ⟨⟨_, Tryz.underlying26⟩, by kernel_rfl⟩
theorem retm {fn : Func} {R : Ending → World → Prop} {a : Act} {w : World} {x y z r e : Value} (hr : fn.results = #[.tmp 4, .cell 5 26, .tmp 6]) (B : Nat) (h2 : a.tmps.getD 5 undef = .pointer (some ⟨B, 0, none⟩)) (h3 : a.tmps.getD 4 undef = r) (h4 : a.tmps.getD 6 undef = e) (hd : a.defers = [])
    (hB : w.heap[B]? = some (.cells #[x, y, z] 26 (0, 0))) (hR : R (.returned (.tuple #[r, .agg #[x, y, z], e])) w) : bodyPost Tryz.prog fn R .ret a w :=
  bodyPost_ret (by
    obtain ⟨fs, hu⟩ := tri26.hu
    have hl := run_loadVar_row (P := Tryz.prog) w B 26 26 #[x, y, z] (0, 0) _ hB hu rfl (by rw [tri26.hi]; rfl)
    rw [results_mid hr, h2, h3, h4]
    simp [asAddr, hl, Result.andThen]) hd hR
theorem VAt.setN {w : World} {V B mo : Nat} {h : He} {n0 : Nat} {v : Value} (a : VAt w V B mo h n0 v) (n : Nat) : VAt (w.setCell ⟨V, 6, none⟩ (.int .i64 (n : Int))) V B mo h n v := by
  have s := set_at (.int .i64 (n : Int)) a.n
  refine ⟨(s 0).trans ((if_neg (by decide)).trans a.on), (s 1).trans ((if_neg (by decide)).trans a.mo), (s 2).trans ((if_neg (by decide)).trans a.g), (s 3).trans ((if_neg (by decide)).trans a.b), (s 4).trans ((if_neg (by decide)).trans a.s), (s 5).trans ((if_neg (by decide)).trans a.l), (s 6).trans (if_pos rfl), fun j => by rw [World.frozen?_setCell]; exact a.fz j, a.k.same fun g hg e => Below.heap_setCell w _ _ g (a.ow g e).2, a.len, a.ow⟩
theorem g3_end {w W0 w1 : World} {B V F : Nat} (h : G3 W0 w1 B V F) (hb : Below w.heap.size w W0) (h1 : w.heap.size ≤ V) (h2 : w.heap.size ≤ F) : w.grownBy w1 (some B) :=
  ⟨h.os.trans hb.os, h.tape.trans hb.tape, h.output.trans hb.output, Nat.le_trans hb.size h.size, fun k hk hn => (h.block k (Nat.lt_of_lt_of_le hk hb.size) (fun e => hn (by rw [e])) (by omega) (by omega)).trans (hb.block k hk)⟩
theorem grown_setn {w w' : World} {B : Nat} (h : w.grownBy w' (some B)) {n : Nat} (hn : w.heap.size ≤ n) (j : Nat) (u : Value) : w.grownBy (w'.setCell ⟨n, j, none⟩ u) (some B) :=
  ⟨h.os, h.tape, h.output, by simp [World.setCell]; exact h.size, fun k hk hne => (Below.heap_setCell w' _ _ k (by show k ≠ n; omega)).trans (h.block k hk hne)⟩
theorem kat_box3 {W : World} {F : Nat} {v : Value} {l : List Int} {b : Bool} {s : ByteArray} {a : Option Addr} {n c : Nat} (hbx : Box3 W F 26 (.bool b) (.string s) (.slice a n c)) (hk : KAt W v l) (hne : l ≠ []) : ∀ q, v.ownBlock = some q → q ≠ F := fun q hq e => by
  obtain ⟨g', o, c', hg', -⟩ := hk.pos hne
  rw [hg'] at hq hk
  have e1 : g' = q := Option.some.inj hq
  have hp : 0 < l.length := List.length_pos_iff.2 hne
  have hc := hk.at 0 hp
  rw [e1, e] at hc
  have hbx' : W.heap[F]? = some (.cells #[.bool b, .string s, .slice a n c] 26 (0, 0)) := hbx
  simp only [World.cell?, hbx'] at hc
  match o, hc with
  | 0, hc => simp at hc
  | 1, hc => simp at hc
  | 2, hc => simp at hc
  | o + 3, hc => simp at hc
theorem heap_keep {w : World} {k : Nat} {x : Obj} (h : w.heap[k]? = some x) (o : Obj) : (w.alloc o).heap[k]? = some x := (Below.heap_alloc w o k (Array.getElem?_eq_some_iff.1 h).1).trans h
theorem five (w : World) (a b c d e : Obj) : (((((w.alloc a).alloc b).alloc c).alloc d).alloc e).heap[w.heap.size]? = some a ∧ (((((w.alloc a).alloc b).alloc c).alloc d).alloc e).heap[w.heap.size + 1]? = some b ∧ (((((w.alloc a).alloc b).alloc c).alloc d).alloc e).heap[w.heap.size + 1 + 1]? = some c ∧
    (((((w.alloc a).alloc b).alloc c).alloc d).alloc e).heap[w.heap.size + 1 + 1 + 1]? = some d ∧ (((((w.alloc a).alloc b).alloc c).alloc d).alloc e).heap[w.heap.size + 1 + 1 + 1 + 1]? = some e ∧ (((((w.alloc a).alloc b).alloc c).alloc d).alloc e).heap.size = w.heap.size + 5 ∧ Below w.heap.size w (((((w.alloc a).alloc b).alloc c).alloc d).alloc e) := by
  have h1 := heap_alloc_new w a
  have h2 := heap_alloc_new (w.alloc a) b
  have h3 := heap_alloc_new ((w.alloc a).alloc b) c
  have h4 := heap_alloc_new (((w.alloc a).alloc b).alloc c) d
  have h5 := heap_alloc_new ((((w.alloc a).alloc b).alloc c).alloc d) e
  simp only [World.size_alloc] at h2 h3 h4 h5
  refine ⟨heap_keep (heap_keep (heap_keep (heap_keep h1 _) _) _) _, heap_keep (heap_keep (heap_keep h2 _) _) _, heap_keep (heap_keep h3 _) _, heap_keep h4 _, h5, by simp only [World.size_alloc], ?_⟩
  exact ((((below_one w a).alloc (by simp only [World.size_alloc]; omega) b).alloc (by simp only [World.size_alloc]; omega) c).alloc (by simp only [World.size_alloc]; omega) d).alloc (by simp only [World.size_alloc]; omega) e
set_option maxHeartbeats 2000000 in
theorem open_any (B mo : Nat) (d : Dk) (w : World) (hm1 : 1 ≤ mo) (hm2 : mo ≤ 1048576) (hd : DAt w B d) (hok : d.ok) (hT : Tab w) (hB0 : B ≠ 0) : Calls Tryz.prog 9 #[.pointer (some ⟨B, 0, none⟩), .int .i64 (mo : Int)] w (OpE w B mo (Vt.opD d)) := by
  rw [← opP_eq]
  have HD := Lib.hid hd
  have HT := Lib.hid hT
  have hw0 := hT.1
  have hlt := hd.lt
  have hmf : ∀ (fn : Fn) (first cap : Array Value) (w : World), (Instr.makeFunc fn first cap).run Tryz.prog w = .ok (.func fn first cap) w := fun _ _ _ _ => rfl
  have g1 : decide ((mo : Int) < 1) = false := decide_eq_false (by omega)
  have g2 : decide ((mo : Int) > 1048576) = false := decide_eq_false (by omega)
  clear hd hT
  go_enter Tryz.func9, Tryz.ntmps9
  go_wp2_with fail
  obtain ⟨f0, f1, f2, f3, f4, fz, fb⟩ := five w (.cells #[.bool false, .string ⟨#[]⟩, .slice none 0 0] 26) (.cells #[.pointer (some ⟨B, 0, none⟩), .int .i64 (mo : Int), .int .i64 0, .int .i64 0, .int .i64 0, .slice none 0 0, .int .i64 0] 75) (.cells #[.pointer (some ⟨w.heap.size + 1, 0, none⟩)] 23) (.cells #[.bool false, .string ⟨#[]⟩, .slice none 0 0] 26)
    (.cells #[.func (.func 42) #[] #[.pointer (some ⟨w.heap.size + 1 + 1, 0, none⟩)], .func (.func 44) #[.pointer (some ⟨w.heap.size + 1, 0, none⟩)] #[], .func (.func 45) #[.pointer (some ⟨w.heap.size + 1, 0, none⟩)] #[], .func (.func 46) #[] #[.pointer (some ⟨w.heap.size + 1 + 1, 0, none⟩), .pointer (some ⟨w.heap.size + 1 + 1 + 1, 0, none⟩)], .func (.func 48) #[] #[.pointer (some ⟨w.heap.size + 1 + 1, 0, none⟩), .pointer (some ⟨w.heap.size + 1 + 1 + 1, 0, none⟩)], .func (.func 50) #[] #[.pointer (some ⟨w.heap.size + 1 + 1, 0, none⟩)]] 84)
  generalize hW0 : ((((w.alloc (.cells #[.bool false, .string ⟨#[]⟩, .slice none 0 0] 26)).alloc (.cells #[.pointer (some ⟨B, 0, none⟩), .int .i64 (mo : Int), .int .i64 0, .int .i64 0, .int .i64 0, .slice none 0 0, .int .i64 0] 75)).alloc (.cells #[.pointer (some ⟨w.heap.size + 1, 0, none⟩)] 23)).alloc (.cells #[.bool false, .string ⟨#[]⟩, .slice none 0 0] 26)).alloc
    (.cells #[.func (.func 42) #[] #[.pointer (some ⟨w.heap.size + 1 + 1, 0, none⟩)], .func (.func 44) #[.pointer (some ⟨w.heap.size + 1, 0, none⟩)] #[], .func (.func 45) #[.pointer (some ⟨w.heap.size + 1, 0, none⟩)] #[], .func (.func 46) #[] #[.pointer (some ⟨w.heap.size + 1 + 1, 0, none⟩), .pointer (some ⟨w.heap.size + 1 + 1 + 1, 0, none⟩)], .func (.func 48) #[] #[.pointer (some ⟨w.heap.size + 1 + 1, 0, none⟩), .pointer (some ⟨w.heap.size + 1 + 1 + 1, 0, none⟩)], .func (.func 50) #[] #[.pointer (some ⟨w.heap.size + 1 + 1, 0, none⟩)]] 84) = W0 at *
  have hv0 : VAt W0 (w.heap.size + 1) B mo he0 0 (.slice none 0 0) := by
    have e : ∀ j, W0.cell? ⟨w.heap.size + 1, j, none⟩ = (#[.pointer (some ⟨B, 0, none⟩), .int .i64 (mo : Int), .int .i64 0, .int .i64 0, .int .i64 0, .slice none 0 0, .int .i64 0] : Array Value)[j]? := fun j => by simp [World.cell?, f1]
    exact ⟨e 0, e 1, e 2, e 3, e 4, e 5, e 6, fun j => by simp [World.frozen?, f1], KAt.nil _, by decide, fun q hq => by cases hq⟩
  have hob : OpB W0 (w.heap.size + 1) B (w.heap.size + 1 + 1 + 1) mo (w.heap.size + 1 + 1) (w.heap.size + 1 + 1 + 1 + 1) d := ⟨by omega, by omega, by omega, ⟨by omega, by omega, by omega⟩, ⟨by omega, by omega, by omega⟩, hB0, by omega, by omega, ⟨by omega, by omega, by omega⟩, one_cell f2, ⟨HD.out.below fb hlt, hok, ⟨_, hv0⟩, by omega, HT.out.below fb, hB0, by omega⟩, f3, f4⟩
  have HF0 : Hid (Box3 W0 w.heap.size 26 (.bool false) (.string ⟨#[]⟩) (.slice none 0 0)) := Lib.hid f0
  have HF2 := Lib.hid (one_cell f2)
  have HFB := Lib.hid fb
  have HFZ := Lib.hid fz
  have HTU := Lib.hid (open_turn hob)
  clear f0 f1 f2 f3 f4 fz fb hW0 hv0 hob
  refine HTU.out.mono ?_
  rintro e w1 ⟨r, rfl, h1, h2⟩
  have H1 := Lib.hid h1
  have H2 := Lib.hid h2
  clear h1 h2
  by_cases hr : r = 0
  · have hr2 : (r != 0) = false := by rw [hr]; rfl
    obtain ⟨k4, d1, h, S, R, rv, k1, hm, k2, k3, k5, k6⟩ := H1.out hr
    have hbk := k4.block w.heap.size (by have := HFZ.out; omega) (by omega) (by omega) (by omega)
    have HF1 : Hid (Box3 w1 w.heap.size 26 (.bool false) (.string ⟨#[]⟩) (.slice none 0 0)) := Lib.hid (hbk.trans HF0.out)
    have cv := k4.cell HF2.out (by omega) (by omega) (by omega)
    have hvlt : w.heap.size + 1 < w1.heap.size := k1.lt
    have hflt : w.heap.size + 1 + 1 + 1 < w1.heap.size := k3.lt
    obtain ⟨vv, hvv⟩ := k1.v
    obtain ⟨ra, rc, hrv⟩ := k5.shape
    have hRl : (strs R).length = R.length := by unfold strs; rw [List.length_map]
    rw [hRl] at hrv
    have n6 := hvv.n; have zz6 := hvv.fz 6
    obtain ⟨NR, hNR⟩ : ∃ NR, R.length = NR := ⟨_, rfl⟩
    rw [hNR] at hrv
    subst hrv
    have HNR := Lib.hid hNR
    have fr := k3.r; have fh := k3.h; have fs := k3.s
    have HVn := Lib.hid (hvv.setN NR)
    have hFV : w.heap.size + 1 + 1 + 1 ≠ w.heap.size + 1 := by omega
    have hnV : w.heap.size ≠ w.heap.size + 1 := by omega
    have htV : w.heap.size + 1 + 1 ≠ w.heap.size + 1 := by omega
    have HVV := Lib.hid (kat_box3 HF1.out hvv.k (mayB_ok hm).ne)
    have e0 : (w1.setCell ⟨w.heap.size + 1, 6, none⟩ (.int .i64 (NR : Int))).heap[w.heap.size]? = w1.heap[w.heap.size]? := Below.heap_setCell w1 _ _ _ hnV
    have HF3 : Hid (Box3 (w1.setCell ⟨w.heap.size + 1, 6, none⟩ (.int .i64 (NR : Int))) w.heap.size 26 (.bool false) (.string ⟨#[]⟩) (.slice none 0 0)) := Lib.hid (e0.trans HF1.out)
    have c0 := HF3.out.c0; have c1 := HF3.out.c1; have c2 := HF3.out.c2
    have z0 := HF3.out.free 0; have z1 := HF3.out.free 1; have z2 := HF3.out.free 2
    have k3' := k3.congr (w' := w1.setCell ⟨w.heap.size + 1, 6, none⟩ (.int .i64 (NR : Int))) (Below.heap_setCell w1 _ _ _ hFV)
    have fr' := k3'.r; have fh' := k3'.h; have fs' := k3'.s
    have cv' := (World.cell?_of_block (a := ⟨w.heap.size + 1 + 1, 0, none⟩) (Below.heap_setCell w1 ⟨w.heap.size + 1, 6, none⟩ (.int .i64 (NR : Int)) _ htV)).trans cv
    have K1 := Lib.hid k1; have K2 := Lib.hid k2; have K4 := Lib.hid k4; have K5 := Lib.hid k5; have K6 := Lib.hid k6; have HM := Lib.hid hm
    clear k1 k2 k3 k4 k5 k6 hm hbk hr H1 H2 hvv hRl hNR k3' e0
    generalize hHs : S.isSome = hs at *
    have HHs := Lib.hid hHs
    clear hHs
    generalize hSn : S.getD ⟨#[]⟩ = sn at *
    have HSn := Lib.hid hSn
    clear hSn
    go_wp2_with fail
    go_region
    go_wp2
    refine retm Tryz.results9 w.heap.size rfl rfl rfl rfl (set3 _ _ _ HF3.out) ?_
    have hg0 := grown_setn (g3_end K4.out HFB.out (by omega) (by omega)) (show w.heap.size ≤ w.heap.size + 1 by omega) 6 (.int .i64 (NR : Int))
    have hg := grown_setn (grown_setn (grown_setn hg0 (Nat.le_refl _) 0 (.bool hs)) (Nat.le_refl _) 1 (.string sn)) (Nat.le_refl _) 2 (.slice ra NR rc)
    have hnB : B ≠ w.heap.size := by omega
    have hVB : B ≠ w.heap.size + 1 := by omega
    have hd2 := ((((K1.out.d.apart (a := ⟨w.heap.size + 1, 6, none⟩) hVB (.int .i64 (NR : Int))).apart (a := ⟨w.heap.size, 0, none⟩) hnB (.bool hs)).apart (a := ⟨w.heap.size, 1, none⟩) hnB (.string sn)).apart (a := ⟨w.heap.size, 2, none⟩) hnB (.slice ra NR rc)).drew
    have hn1 : w.heap.size + 1 ≠ w.heap.size := by omega
    have hvb : ∀ g, g ≠ w.heap.size → ((((w1.setCell ⟨w.heap.size + 1, 6, none⟩ (.int .i64 (NR : Int))).setCell ⟨w.heap.size, 0, none⟩ (.bool hs)).setCell ⟨w.heap.size, 1, none⟩ (.string sn)).setCell ⟨w.heap.size, 2, none⟩ (.slice ra NR rc)).drew.heap[g]? = (w1.setCell ⟨w.heap.size + 1, 6, none⟩ (.int .i64 (NR : Int))).heap[g]? := fun g hg =>
      (Below.heap_setCell _ ⟨w.heap.size, 2, none⟩ _ g hg).trans ((Below.heap_setCell _ ⟨w.heap.size, 1, none⟩ _ g hg).trans (Below.heap_setCell _ ⟨w.heap.size, 0, none⟩ _ g hg))
    have hva := HVn.out.congr (hvb _ hn1) (fun g _ e => hvb g (HVV.out g e))
    have HZ := HFZ.out
    have hown : ∀ q, (Value.slice ra NR rc).ownBlock = some q → W0.heap.size ≤ q := fun q hq => (K5.out.lt q hq).1
    have ho2 := (((((K5.out.kept (grown_setCell w1 (w.heap.size + 1) 6 (.int .i64 (NR : Int))) (Or.inr (fun e => by have := hown _ e; omega))).kept (grown_setCell _ w.heap.size 0 (.bool hs)) (Or.inr (fun e => by have := hown _ e; omega))).kept (grown_setCell _ w.heap.size 1 (.string sn)) (Or.inr (fun e => by have := hown _ e; omega))).kept (grown_setCell _ w.heap.size 2 (.slice ra NR rc)) (Or.inr (fun e => by have := hown _ e; omega))).drew).mono (show w.heap.size ≤ W0.heap.size by omega)
    have hgd : w.grownBy ((((w1.setCell ⟨w.heap.size + 1, 6, none⟩ (.int .i64 (NR : Int))).setCell ⟨w.heap.size, 0, none⟩ (.bool hs)).setCell ⟨w.heap.size, 1, none⟩ (.string sn)).setCell ⟨w.heap.size, 2, none⟩ (.slice ra NR rc)).drew (some B) := ⟨hg.os, hg.tape, hg.output, hg.size, hg.block⟩
    unfold OpE
    rw [K2.out]
    refine ⟨hgd, hd2, K1.out.ok, .inr ⟨rfl, w.heap.size + 1, .slice ra NR rc, by rw [← HSn.out, ← HHs.out]; rfl, by omega, ⟨hd2, K1.out.ok, ⟨_, by rw [HNR.out]; exact hva⟩, K1.out.ne, ⟨Nat.lt_of_lt_of_le HT.out.1 hgd.size, fun i hi => ?_⟩, K1.out.b0, K1.out.v0⟩, HM.out, ho2, fun q hq e => by have := hown q hq; omega, K6.out⟩⟩
    have hb0 := hgd.block 0 HT.out.1 (fun e => hB0 (by cases e; rfl))
    exact (World.cell?_of_block (a := ⟨0, i, none⟩) hb0).trans (HT.out.2 i hi)
  · have hr2 : (r != 0) = true := bne_iff_ne.2 hr
    obtain ⟨k1, k2, k3, k4⟩ := H2.out hr
    have hbk := k4.block w.heap.size (by have := HFZ.out; omega) (by omega) (by omega) (by omega)
    have HF1 : Hid (Box3 w1 w.heap.size 26 (.bool false) (.string ⟨#[]⟩) (.slice none 0 0)) := Lib.hid (hbk.trans HF0.out)
    have c0 := HF1.out.c0; have c1 := HF1.out.c1; have c2 := HF1.out.c2
    have z0 := HF1.out.free 0; have z1 := HF1.out.free 1; have z2 := HF1.out.free 2
    have K1 := Lib.hid k1; have K2 := Lib.hid k2; have K3 := Lib.hid k3; have K4 := Lib.hid k4; have HR := Lib.hid hr
    clear k1 k2 k3 k4 hbk hr H1 H2
    go_wp2
    refine retm Tryz.results9 w.heap.size rfl rfl rfl rfl (set3 _ _ _ HF1.out) ?_
    have hg := grown_setn (grown_setn (grown_setn (g3_end K4.out HFB.out (by omega) (by omega)) (Nat.le_refl _) 0 (.bool false)) (Nat.le_refl _) 1 (.string ⟨#[]⟩)) (Nat.le_refl _) 2 (.slice none 0 0)
    have hnB : B ≠ w.heap.size := by omega
    refine ⟨hg, ((K2.out.apart (a := ⟨w.heap.size, 0, none⟩) hnB _).apart (a := ⟨w.heap.size, 1, none⟩) hnB _).apart (a := ⟨w.heap.size, 2, none⟩) hnB _, K3.out, .inl ⟨?_, ?_⟩⟩
    · have := HR.out; have := K1.out; omega
    · rw [K1.out]; rfl
end Go.Proofs.YtieemdcoomilaaaGreatDoor
namespace Go.Proofs.YtieemdcoomilaaaGreatDoor
open Go Go.RowKit Go.Sort
set_option maxRecDepth 100000
/-- A head told in new memory. -/
def HRet (w : World) (h : He) (e : Ending) (w' : World) : Prop := ∃ u, e = .returned (hval h u) ∧ Own w' w.heap.size u (h.log.map iv) ∧ Below w.heap.size w w'
set_option maxHeartbeats 1000000 in
theorem head_any (V B mo : Nat) (h : He) (n : Nat) (v : Value) (w : World) (a : VAt w V B mo h n v) (hne : h.log ≠ []) (hl : h.log.length ≤ 1000) : Calls Tryz.prog 17 #[.pointer (some ⟨V, 0, none⟩)] w (HRet w h) := by
  have X0 := Lib.hid (Box4.new w (.int .i64 0) (.int .i64 0) (.int .i64 0) (.slice none 0 0))
  have B0 := below_one w (.cells #[.int .i64 0, .int .i64 0, .int .i64 0, .slice none 0 0] 40)
  have a1 := a.below B0 (Nat.le_refl _)
  have H := Lib.hid (opened_any V B mo h n v _ a1)
  obtain ⟨va, vc, hv⟩ := a.k.slice
  obtain ⟨L, hL⟩ : ∃ L, h.log.length = L := ⟨_, rfl⟩
  rw [hL] at hv hl
  have hlt := a.lt
  have HK := a.k
  have b2 := a1.g; have b3 := a1.b; have b4 := a1.s; have b5 := a1.l
  rw [hv] at b5 HK
  have HC := Lib.hid (fun W (hW : Below w.heap.size w W) => clone_any h.log (.slice va L vc) W (HK.below hW (Nat.le_refl _)) hne (by rw [hL]; exact hl))
  have hs1 : (w.alloc (.cells #[.int .i64 0, .int .i64 0, .int .i64 0, .slice none 0 0] 40)).heap.size = w.heap.size + 1 := World.size_alloc _ _
  have Y0 : Hid (Box4 ((w.alloc (.cells #[.int .i64 0, .int .i64 0, .int .i64 0, .slice none 0 0] 40)).alloc (.cells #[.int .i64 h.gen, .int .i64 h.base, .int .i64 h.snap, .slice va L vc] 40)) (w.heap.size + 1) (.int .i64 h.gen) (.int .i64 h.base) (.int .i64 h.snap) (.slice va L vc)) := Lib.hid (by
    have := Box4.new (w.alloc (.cells #[.int .i64 0, .int .i64 0, .int .i64 0, .slice none 0 0] 40)) (.int .i64 h.gen) (.int .i64 h.base) (.int .i64 h.snap) (.slice va L vc)
    rw [World.size_alloc] at this; exact this)
  have X1 := Lib.hid (X0.out.alloc (.cells #[.int .i64 h.gen, .int .i64 h.base, .int .i64 h.snap, .slice va L vc] 40))
  have HB1 := Lib.hid (below_two w (.cells #[.int .i64 0, .int .i64 0, .int .i64 0, .slice none 0 0] 40) (.cells #[.int .i64 h.gen, .int .i64 h.base, .int .i64 h.snap, .slice va L vc] 40))
  have HLL := Lib.hid hL
  clear a a1 hne hv hL B0 X0 HK
  go_enter Tryz.func17, Tryz.ntmps17
  go_wp2_with fail
  refine H.out.mono ?_
  rintro e w' ⟨rfl, rfl⟩
  go_wp2_with fail
  have y3 := Y0.out.c3
  go_wp2_with fail
  refine (HC.out _ HB1.out).mono ?_
  rintro e w2 ⟨u, rfl, ho, hb⟩
  obtain ⟨ua, uc, hu⟩ := ho.shape
  rw [List.length_map, HLL.out] at hu
  subst hu
  have HB2 := Lib.hid (below_trans' HB1.out hb)
  have hz2 : ((w.alloc (.cells #[.int .i64 0, .int .i64 0, .int .i64 0, .slice none 0 0] 40)).alloc (.cells #[.int .i64 h.gen, .int .i64 h.base, .int .i64 h.snap, .slice va L vc] 40)).heap.size = w.heap.size + 2 := by rw [World.size_alloc, World.size_alloc]
  have HO := Lib.hid (ho.mono (show w.heap.size + 2 ≤ _ by omega))
  have X2 := Lib.hid (X1.out.below hb X1.out.lt)
  have Y2 := Lib.hid (Y0.out.below hb Y0.out.lt)
  have a0 := X2.out.c0; have a1 := X2.out.c1; have a2 := X2.out.c2; have a3 := X2.out.c3
  have z0 := X2.out.free 0; have z1 := X2.out.free 1; have z2 := X2.out.free 2; have z3 := X2.out.free 3
  have c0 := Y2.out.c0; have c1 := Y2.out.c1; have c2 := Y2.out.c2; have c3 := Y2.out.c3
  have d3 := Y2.out.free 3
  have Y3 := Lib.hid (Y2.out.set3 (.slice ua L uc))
  have e0 := Y3.out.c0; have e1 := Y3.out.c1; have e2 := Y3.out.c2; have e3 := Y3.out.c3
  have hne : w.heap.size + 1 ≠ w.heap.size := by omega
  clear ho hb hz2
  go_wp2
  exact ret4one Tryz.results17 w.heap.size rfl rfl ((X2.out.apart (a := ⟨w.heap.size + 1, 3, none⟩) (by show w.heap.size ≠ w.heap.size + 1; omega) (.slice ua L uc)).setAll _ _ _ _) ⟨_, rfl, ((HO.out.kept (grown_setCell w2 (w.heap.size + 1) 3 (.slice ua L uc)) (Or.inr (fun e => by have := (HO.out.lt _ e).1; omega))).set4 (by omega) _ _ _ _).mono (by omega), below_set4 (below_setD HB2.out (by omega) _ _) (Nat.le_refl _) _ _ _ _⟩
end Go.Proofs.YtieemdcoomilaaaGreatDoor
namespace Go.Proofs.YtieemdcoomilaaaGreatDoor
open Go Go.RowKit
set_option maxRecDepth 100000
namespace Rf9
/-- All tapes of a row, marked. -/
def marks (S : Nat → Bool) : List Int → Nat → Bool
  | [] => S
  | t :: r => marks (mark S t.toNat) r
theorem marks_at : ∀ (l : List Int) (S : Nat → Bool) (j : Nat), (∀ t ∈ l, 2 ≤ t) → marks S l j = (S j || decide ((j : Int) ∈ l))
  | [], S, j, _ => by show S j = _; simp
  | t :: r, S, j, h => by
    show marks (mark S t.toNat) r j = _
    rw [marks_at r _ j (fun u hu => h u (by simp [hu]))]
    have ht := h t (by simp)
    have e : mark S t.toNat j = (S j || decide ((j : Int) = t)) := by
      unfold mark
      by_cases e : j = t.toNat
      · rw [if_pos e, decide_eq_true (show (j : Int) = t by omega), Bool.or_true]
      · rw [if_neg e, decide_eq_false (show ¬ (j : Int) = t by omega), Bool.or_false]
    have e2 : decide ((j : Int) ∈ t :: r) = (decide ((j : Int) = t) || decide ((j : Int) ∈ r)) := by
      rw [decide_eq_decide.2 List.mem_cons, Bool.decide_or]
    rw [e, e2, Bool.or_assoc]
theorem marks_append : ∀ (a b : List Int) (S : Nat → Bool), marks S (a ++ b) = marks (marks S a) b
  | [], _, _ => rfl
  | t :: r, b, S => by show marks (mark S t.toNat) (r ++ b) = _; rw [marks_append r b]; rfl
theorem dis_append : ∀ (a b : List Int) (S : Nat → Bool), dis S (a ++ b) = (dis S a && dis (marks S a) b)
  | [], _, _ => rfl
  | t :: r, b, S => by
    show (if ad S t = true then dis (mark S t.toNat) (r ++ b) else false) = ((if ad S t = true then dis (mark S t.toNat) r else false) && _)
    cases ad S t
    · rfl
    · rw [if_pos rfl, if_pos rfl, dis_append r b]; rfl
/-- The set that the snapshot's tape makes. -/
def sn (s : Int) : Nat → Bool := if s = 0 then no32 else mark no32 s.toNat
theorem fr_sn (s : Int) : fr (sn s) 32 ≤ 30 := by
  unfold sn
  split
  · rw [fr_no32]; exact Nat.le_refl _
  · have h : ∀ n, fr (mark no32 s.toNat) n ≤ fr no32 n := fun n => by
      induction n with
      | zero => exact Nat.le_refl _
      | succ n ih =>
        unfold fr
        have : (if 2 ≤ n ∧ mark no32 s.toNat n = false then 1 else 0) ≤ (if 2 ≤ n ∧ no32 n = false then 1 else 0) := by
          split
          · rename_i h
            rw [if_pos ⟨h.1, rfl⟩]; exact Nat.le_refl _
          · exact Nat.zero_le _
        omega
    have := h 32
    rw [fr_no32] at this
    exact this
theorem sn_at {s t : Int} (hs : s = 0 ∨ 2 ≤ s) (ht : 2 ≤ t) : sn s t.toNat = decide (t = s) := by
  unfold sn
  by_cases h : s = 0
  · rw [if_pos h, decide_eq_false (by omega)]; rfl
  · rw [if_neg h]
    unfold mark
    by_cases e : t.toNat = s.toNat
    · rw [if_pos e, decide_eq_true (by omega)]
    · rw [if_neg e, decide_eq_false (by omega)]; rfl
/-- How the loop stands at place i. -/
structure At (s : Int) (l : List Int) (i : Nat) : Prop where
  d : dis (sn s) (l.take i) = true
  r : dis (marks (sn s) (l.take i)) (l.drop i) = dis (sn s) l
theorem At.zero (s : Int) (l : List Int) : At s l 0 := ⟨rfl, rfl⟩
theorem At.lt {s : Int} {l : List Int} {i : Nat} (h : At s l i) (hi : i ≤ l.length) : i ≤ 30 := by
  have := dis_len _ _ h.d
  rw [List.length_take] at this
  have := fr_sn s
  omega
theorem At.ad {s : Int} {l : List Int} {i : Nat} (h : At s l i) (hs : s = 0 ∨ 2 ≤ s) (hi : i < l.length) : ad (marks (sn s) (l.take i)) l[i] = (decide (2 ≤ l[i] ∧ l[i] < 32) && !(decide (l[i] = s) || decide (l[i] ∈ l.take i))) := by
  unfold Go.Proofs.YtieemdcoomilaaaGreatDoor.ad
  by_cases ht : 2 ≤ l[i] ∧ l[i] < 32
  · rw [marks_at _ _ _ (fun t ht => (dis_mem _ _ h.d t ht).1.1), sn_at hs ht.1, Int.toNat_of_nonneg (by omega)]
  · rw [decide_eq_false ht]; rfl
theorem At.bad {s : Int} {l : List Int} {i : Nat} (h : At s l i) (hs : s = 0 ∨ 2 ≤ s) (hi : i < l.length) (hb : ¬ (2 ≤ l[i] ∧ l[i] < 32) ∨ l[i] = s ∨ l[i] ∈ l.take i) : dis (sn s) l = false := by
  have e : Go.Proofs.YtieemdcoomilaaaGreatDoor.ad (marks (sn s) (l.take i)) l[i] = false := by
    rw [h.ad hs hi]
    rcases hb with hb | hb | hb
    · rw [decide_eq_false hb]; rfl
    · rw [decide_eq_true hb]; simp
    · rw [decide_eq_true hb]; simp
  rw [← h.r, dis_drop _ hi, e]; rfl
theorem At.next {s : Int} {l : List Int} {i : Nat} (h : At s l i) (hs : s = 0 ∨ 2 ≤ s) (hi : i < l.length) (h1 : 2 ≤ l[i] ∧ l[i] < 32) (h2 : ¬ l[i] = s) (h3 : ¬ l[i] ∈ l.take i) : At s l (i + 1) := by
  have e : Go.Proofs.YtieemdcoomilaaaGreatDoor.ad (marks (sn s) (l.take i)) l[i] = true := by
    rw [h.ad hs hi, decide_eq_true h1, decide_eq_false h2, decide_eq_false h3]; rfl
  have et : l.take (i + 1) = l.take i ++ [l[i]] := List.take_succ_eq_append_getElem hi
  refine ⟨?_, ?_⟩
  · rw [et, dis_append, h.d]
    show (true && (if Go.Proofs.YtieemdcoomilaaaGreatDoor.ad (marks (sn s) (l.take i)) l[i] = true then true else false)) = true
    rw [e]; rfl
  · rw [← h.r, dis_drop _ hi, e, if_pos rfl, et, marks_append]; rfl
theorem At.fin {s : Int} {l : List Int} (h : At s l l.length) : dis (sn s) l = true := by have := h.d; rwa [List.take_length] at this
/-- mayB, told by the snapshot's set. -/
theorem mayB_sn {g b s : Int} {l : List Int} (h1 : 1 ≤ g) (h2 : g ≤ 1099511627776) (h3 : 0 ≤ b) (h4 : b ≤ 1099511627776) (h5 : s = 0 → b = 0) (h6 : s ≠ 0 → 2 ≤ s ∧ s < 32) (h7 : l ≠ []) : mayB ⟨g, b, s, l⟩ = dis (sn s) l := by
  unfold mayB gtop sn
  dsimp only
  rw [if_neg (by omega), if_neg (by omega), if_neg (by omega), if_neg (by omega), if_neg h7]
  by_cases h : s = 0
  · rw [if_pos h, if_pos h, if_neg (fun e => e (h5 h))]
  · rw [if_neg h, if_neg h, if_pos (ad_iff.2 ⟨h6 h, rfl⟩)]
end Rf9
end Go.Proofs.YtieemdcoomilaaaGreatDoor
