/- Open's six steps, done one behind the other. -/
import Derived.Test.YtieemdcoomilaaaGreatDoorWp
set_option linter.unusedVariables false
set_option linter.unusedSimpArgs false
namespace Go.Proofs.YtieemdcoomilaaaGreatDoor
open Go Go.RowKit Go.Sort
set_option maxRecDepth 100000
/-- Nothing has turned but three blocks, and new ones. -/
structure G3 (w w' : World) (B V F : Nat) : Prop where
  os : w'.os = w.os
  tape : w'.tape = w.tape
  output : w'.output = w.output
  size : w.heap.size ≤ w'.heap.size
  block : ∀ k, k < w.heap.size → k ≠ B → k ≠ V → k ≠ F → w'.heap[k]? = w.heap[k]?
namespace G3
variable {w w' w'' : World} {B V F : Nat}
theorem refl (w : World) (B V F : Nat) : G3 w w B V F := ⟨rfl, rfl, rfl, Nat.le_refl _, fun _ _ _ _ _ => rfl⟩
theorem gv (h : G3 w w' B V F) (k : Gv w' w'' B V) : G3 w w'' B V F := ⟨k.os.trans h.os, k.tape.trans h.tape, k.output.trans h.output, Nat.le_trans h.size k.size, fun j hj h1 h2 h3 => (k.block j (Nat.lt_of_lt_of_le hj h.size) h1 h2).trans (h.block j hj h1 h2 h3)⟩
theorem gf (h : G3 w w' B V F) (k : Gv w' w'' B F) : G3 w w'' B V F := ⟨k.os.trans h.os, k.tape.trans h.tape, k.output.trans h.output, Nat.le_trans h.size k.size, fun j hj h1 h2 h3 => (k.block j (Nat.lt_of_lt_of_le hj h.size) h1 h3).trans (h.block j hj h1 h2 h3)⟩
theorem cell (h : G3 w w' B V F) {g o : Nat} {u : Value} (hc : w.cell? ⟨g, o, none⟩ = some u) (h1 : g ≠ B) (h2 : g ≠ V) (h3 : g ≠ F) : w'.cell? ⟨g, o, none⟩ = some u :=
  (World.cell?_of_block (a := ⟨g, o, none⟩) (h.block g (World.block_lt_of_cell? w _ hc) h1 h2 h3)).trans hc
end G3
/-- What stands fast while it is opened. -/
structure OpB (w0 : World) (V B F mo bt g : Nat) (d : Dk) : Prop where
  vb : V ≠ B
  vf : V ≠ F
  bf : B ≠ F
  tb : bt ≠ B ∧ bt ≠ V ∧ bt ≠ F
  gb : g ≠ B ∧ g ≠ V ∧ g ≠ F
  b0 : B ≠ 0
  v0 : V ≠ 0
  f0 : F ≠ 0
  lt : B < w0.heap.size ∧ V < w0.heap.size ∧ F < w0.heap.size
  t : w0.cell? ⟨bt, 0, none⟩ = some (.pointer (some ⟨V, 0, none⟩))
  s : VSt w0 V B mo (d, he0, 0)
  f : Box3 w0 F 26 (.bool false) (.string ⟨#[]⟩) (.slice none 0 0)
  row : w0.heap[g]? = some (.cells #[.func (.func 42) #[] #[.pointer (some ⟨bt, 0, none⟩)], .func (.func 44) #[.pointer (some ⟨V, 0, none⟩)] #[], .func (.func 45) #[.pointer (some ⟨V, 0, none⟩)] #[], .func (.func 46) #[] #[.pointer (some ⟨bt, 0, none⟩), .pointer (some ⟨F, 0, none⟩)], .func (.func 48) #[] #[.pointer (some ⟨bt, 0, none⟩), .pointer (some ⟨F, 0, none⟩)], .func (.func 50) #[] #[.pointer (some ⟨bt, 0, none⟩)]] 84 (0, 0))
def oC (bt V F : Nat) : Nat → Clo
  | 0 => ⟨42, #[], #[.pointer (some ⟨bt, 0, none⟩)]⟩
  | 1 => ⟨44, #[.pointer (some ⟨V, 0, none⟩)], #[]⟩
  | 2 => ⟨45, #[.pointer (some ⟨V, 0, none⟩)], #[]⟩
  | 3 => ⟨46, #[], #[.pointer (some ⟨bt, 0, none⟩), .pointer (some ⟨F, 0, none⟩)]⟩
  | 4 => ⟨48, #[], #[.pointer (some ⟨bt, 0, none⟩), .pointer (some ⟨F, 0, none⟩)]⟩
  | _ => ⟨50, #[], #[.pointer (some ⟨bt, 0, none⟩)]⟩
/-- How far it has come. -/
def oP (w0 : World) (V B F mo : Nat) (d : Dk) (k : Nat) (W : World) : Prop := G3 w0 W B V F ∧ match k with
  | 0 => VSt W V B mo (d, he0, 0) ∧ W.heap[F]? = w0.heap[F]?
  | 1 => ∃ d1, VSt W V B mo (d1, he0, 0) ∧ opP d = q1 d1 ∧ W.heap[F]? = w0.heap[F]?
  | 2 => ∃ d1 h, VSt W V B mo (d1, h, 0) ∧ mayB h = true ∧ opP d = q2 d1 h ∧ W.heap[F]? = w0.heap[F]?
  | 3 => ∃ d1 h, VSt W V B mo (d1, h, 0) ∧ mayB h = true ∧ opP d = q3 d1 h ∧ W.heap[F]? = w0.heap[F]?
  | 4 => ∃ d1 h S v, VSt W V B mo (d1, h, 0) ∧ mayB h = true ∧ opP d = q4 d1 h S ∧ FAt W F S.isSome (S.getD ⟨#[]⟩) (.slice none 0 0) ∧ VAt W V B mo h 0 v ∧ ∀ q, v.ownBlock = some q → q ≠ F
  | 5 => ∃ d1 h S R rv, VSt W V B mo (d1, h, 0) ∧ mayB h = true ∧ opP d = q5 d1 h S R ∧ FAt W F S.isSome (S.getD ⟨#[]⟩) rv ∧ Own W w0.heap.size rv (strs R) ∧ R.length ≤ 100000000
  | _ => ∃ d1 h S R rv, VSt W V B mo (d1, h, 0) ∧ mayB h = true ∧ opP d = ((d1, 0), h, S, R) ∧ FAt W F S.isSome (S.getD ⟨#[]⟩) rv ∧ Own W w0.heap.size rv (strs R) ∧ R.length ≤ 100000000
def oQ (w0 : World) (V B F : Nat) (d : Dk) (r : Int) (W : World) : Prop := r = ((opP d).1.2 : Int) ∧ DAt W B (opP d).1.1 ∧ (opP d).1.1.ok ∧ G3 w0 W B V F
theorem fhS_may (x : VS) (h : (fhS x).2 = 0) (hn : x.2.2 = 0) : mayB (fhS x).1.2.1 = true ∧ (fhS x).1.2.2 = 0 := by
  unfold fhS at h ⊢
  by_cases hc : (ldR x.1).2.2.2 = 0 ∧ (ldR x.1).2.2.1 = false
  · rw [if_pos hc] at h ⊢
    have r1 : runS [wiSt 2, puSt Vt.hNew 0] x = if (doD x.1 2 false wi).2 ≠ 0 then (((doD x.1 2 false wi).1, x.2), (doD x.1 2 false wi).2) else if (putR (doD x.1 2 false wi).1 Vt.hNew).2 ≠ 0 then puSt Vt.hNew 0 ((doD x.1 2 false wi).1, x.2) else ((puSt Vt.hNew 0 ((doD x.1 2 false wi).1, x.2)).1, 0) := rfl
    rw [r1] at h ⊢
    by_cases e1 : (doD x.1 2 false wi).2 ≠ 0
    · rw [if_pos e1] at h; exact absurd h e1
    · rw [if_neg e1] at h ⊢
      by_cases e2 : (putR (doD x.1 2 false wi).1 Vt.hNew).2 ≠ 0
      · rw [if_pos e2] at h; exact absurd h e2
      · rw [if_neg e2]
        have e3 : (puSt Vt.hNew 0 ((doD x.1 2 false wi).1, x.2)).1.2 = (Vt.hNew, 0) := if_pos (show (putR (doD x.1 2 false wi).1 Vt.hNew).2 = 0 by omega)
        rw [e3]; exact ⟨Vt.hNew_may, rfl⟩
  · rw [if_neg hc] at h ⊢
    have h0 : (ldR x.1).2.2.2 = 0 := h
    have hi : (ldR x.1).2.2.1 = true := by
      cases hb : (ldR x.1).2.2.1 with
      | true => rfl
      | false => exact absurd ⟨h0, hb⟩ hc
    have hdn : ¬ x.1.dn = true := fun e => by unfold ldR at h0; rw [if_pos e] at h0; cases h0
    have hl : ldR x.1 = (ldH x.1, ldT x.1, ldI x.1, 0) := by unfold ldR; rw [if_neg hdn]
    rw [hl] at hi
    refine ⟨?_, hn⟩
    show mayB (ldR x.1).1 = true
    rw [hl]
    exact Vt.head_may _ _ hi
theorem VSt.eq {w : World} {V B mo : Nat} {x : VS} {h : He} {n : Nat} (a : VSt w V B mo x) (e : x.2 = (h, n)) : VSt w V B mo (x.1, h, n) := by
  have : x = (x.1, h, n) := Prod.ext rfl e
  rw [← this]; exact a
theorem oC_cells {w0 : World} {V B F mo bt g : Nat} {d : Dk} (hb : OpB w0 V B F mo bt g d) : ∀ k, k < 6 → w0.cell? ⟨g, k, none⟩ = some (oC bt V F k).v := fun k hk => by
  have := hb.row
  match k, hk with
  | 0, _ => simp [World.cell?, this]; rfl
  | 1, _ => simp [World.cell?, this]; rfl
  | 2, _ => simp [World.cell?, this]; rfl
  | 3, _ => simp [World.cell?, this]; rfl
  | 4, _ => simp [World.cell?, this]; rfl
  | 5, _ => simp [World.cell?, this]; rfl
theorem app_nil_array (c : Array Value) : c ++ (#[] : Array Value) = c := by simp
set_option maxHeartbeats 1000000 in
theorem open_s0 {w0 : World} {V B F mo bt g : Nat} {d : Dk} (hb : OpB w0 V B F mo bt g d) (W : World) (hW : oP w0 V B F mo d 0 W) : Calls Tryz.prog 42 #[.pointer (some ⟨bt, 0, none⟩)] W (StRet (oP w0 V B F mo d 1) (oQ w0 V B F d)) := by
  have ct := hW.1.cell hb.t hb.tb.1 hb.tb.2.1 hb.tb.2.2
  have gF : ∀ W', Gv W W' B V → W'.heap[F]? = W.heap[F]? := fun W' hg => hg.block F (Nat.lt_of_lt_of_le hb.lt.2.2 hW.1.size) (fun e => hb.bf e.symm) (fun e => hb.vf e.symm)
  obtain ⟨hg, hs, hF⟩ := hW
  refine (open1_any bt V B mo _ W ct hs).mono ?_
  rintro e W2 ⟨rfl, h2, g2⟩
  have hn := hdL_hn d [0, 1] (d, he0, 0)
  have hP : opP d = if (runS (hdL d [0, 1]) (d, he0, 0)).2 ≠ 0 then (((runS (hdL d [0, 1]) (d, he0, 0)).1.1, (runS (hdL d [0, 1]) (d, he0, 0)).2), he0, none, []) else q1 (runS (hdL d [0, 1]) (d, he0, 0)).1.1 := rfl
  refine ⟨_, rfl, fun h0 => ⟨hg.gv g2, _, h2.eq hn, ?_, (gF _ g2).trans hF⟩, fun h0 => ?_⟩
  · rw [hP, if_neg (show ¬ (runS (hdL d [0, 1]) (d, he0, 0)).2 ≠ 0 by first | omega | (simp only at h0; omega))]
  · have e1 : opP d = _ := hP.trans (if_pos (show (runS (hdL d [0, 1]) (d, he0, 0)).2 ≠ 0 by first | omega | (simp only at h0; omega)))
    unfold oQ
    rw [e1]
    exact ⟨rfl, h2.d, h2.ok, hg.gv g2⟩
set_option maxHeartbeats 1000000 in
theorem open_s1 {w0 : World} {V B F mo bt g : Nat} {d : Dk} (hb : OpB w0 V B F mo bt g d) (W : World) (hW : oP w0 V B F mo d 1 W) : Calls Tryz.prog 44 #[.pointer (some ⟨V, 0, none⟩)] W (StRet (oP w0 V B F mo d 2) (oQ w0 V B F d)) := by
  have ct := hW.1.cell hb.t hb.tb.1 hb.tb.2.1 hb.tb.2.2
  have gF : ∀ W', Gv W W' B V → W'.heap[F]? = W.heap[F]? := fun W' hg => hg.block F (Nat.lt_of_lt_of_le hb.lt.2.2 hW.1.size) (fun e => hb.bf e.symm) (fun e => hb.vf e.symm)
  obtain ⟨hg, d1, hs, he, hF⟩ := hW
  refine (findHead_any V B mo _ W hs).mono ?_
  rintro e W2 ⟨rfl, h2, g2⟩
  have hP : q1 d1 = if (fhS (d1, he0, 0)).2 ≠ 0 then (((fhS (d1, he0, 0)).1.1, (fhS (d1, he0, 0)).2), he0, none, []) else q2 (fhS (d1, he0, 0)).1.1 (fhS (d1, he0, 0)).1.2.1 := rfl
  refine ⟨_, rfl, fun h0 => ?_, fun h0 => ?_⟩
  · have h0' : (fhS (d1, he0, 0)).2 = 0 := by first | omega | (simp only at h0; omega)
    obtain ⟨m1, m2⟩ := fhS_may (d1, he0, 0) h0' rfl
    refine ⟨hg.gv g2, (fhS (d1, he0, 0)).1.1, (fhS (d1, he0, 0)).1.2.1, h2.eq (Prod.ext rfl m2), m1, ?_, (gF _ g2).trans hF⟩
    rw [he, hP, if_neg (by omega)]
  · have e1 : opP d = _ := he.trans (hP.trans (if_pos (show (fhS (d1, he0, 0)).2 ≠ 0 by first | omega | (simp only at h0; omega))))
    unfold oQ
    rw [e1]
    exact ⟨rfl, h2.d, h2.ok, hg.gv g2⟩
set_option maxHeartbeats 1000000 in
theorem open_s2 {w0 : World} {V B F mo bt g : Nat} {d : Dk} (hb : OpB w0 V B F mo bt g d) (W : World) (hW : oP w0 V B F mo d 2 W) : Calls Tryz.prog 45 #[.pointer (some ⟨V, 0, none⟩)] W (StRet (oP w0 V B F mo d 3) (oQ w0 V B F d)) := by
  have ct := hW.1.cell hb.t hb.tb.1 hb.tb.2.1 hb.tb.2.2
  have gF : ∀ W', Gv W W' B V → W'.heap[F]? = W.heap[F]? := fun W' hg => hg.block F (Nat.lt_of_lt_of_le hb.lt.2.2 hW.1.size) (fun e => hb.bf e.symm) (fun e => hb.vf e.symm)
  obtain ⟨hg, d1, h, hs, hm, he, hF⟩ := hW
  refine (wipeOthers_any V B mo _ W hs).mono ?_
  rintro e W2 ⟨rfl, h2, g2⟩
  have hn := woL_hn d1 (frL h 32) (d1, h, 0)
  have hP : q2 d1 h = if (runS (woL d1 (frL h 32)) (d1, h, 0)).2 ≠ 0 then (((runS (woL d1 (frL h 32)) (d1, h, 0)).1.1, (runS (woL d1 (frL h 32)) (d1, h, 0)).2), he0, none, []) else q3 (runS (woL d1 (frL h 32)) (d1, h, 0)).1.1 h := rfl
  refine ⟨_, rfl, fun h0 => ?_, fun h0 => ?_⟩
  · have h0' : (runS (woL d1 (frL h 32)) (d1, h, 0)).2 = 0 := by first | omega | (simp only at h0; omega)
    refine ⟨hg.gv g2, _, h, h2.eq hn, hm, ?_, (gF _ g2).trans hF⟩
    rw [he, hP, if_neg (by omega)]
  · have e1 : opP d = _ := he.trans (hP.trans (if_pos (show (runS (woL d1 (frL h 32)) (d1, h, 0)).2 ≠ 0 by first | omega | (simp only at h0; omega))))
    unfold oQ
    rw [e1]
    exact ⟨rfl, h2.d, h2.ok, hg.gv g2⟩
set_option maxHeartbeats 1000000 in
theorem open_s3 {w0 : World} {V B F mo bt g : Nat} {d : Dk} (hb : OpB w0 V B F mo bt g d) (W : World) (hW : oP w0 V B F mo d 3 W) : Calls Tryz.prog 46 #[.pointer (some ⟨bt, 0, none⟩), .pointer (some ⟨F, 0, none⟩)] W (StRet (oP w0 V B F mo d 4) (oQ w0 V B F d)) := by
  have ct := hW.1.cell hb.t hb.tb.1 hb.tb.2.1 hb.tb.2.2
  have gF : ∀ W', Gv W W' B V → W'.heap[F]? = W.heap[F]? := fun W' hg => hg.block F (Nat.lt_of_lt_of_le hb.lt.2.2 hW.1.size) (fun e => hb.bf e.symm) (fun e => hb.vf e.symm)
  obtain ⟨hg, d1, h, hs, hm, he, hF⟩ := hW
  have hbx : Box3 W F 26 (.bool false) (.string ⟨#[]⟩) (.slice none 0 0) := hF.trans hb.f
  have hf : FAt W F false ⟨#[]⟩ (.slice none 0 0) := ⟨hbx.c0, hbx.c1, hbx.c2, hbx.free⟩
  have kk := mayB_ok hm
  obtain ⟨v, hv⟩ := hs.v
  have hvF : ∀ q, v.ownBlock = some q → q ≠ F := fun q hq e => by
    obtain ⟨g', o, c, hg', -⟩ := hv.k.pos kk.ne
    rw [hg'] at hq
    have e1 : g' = q := Option.some.inj hq
    have hk := hv.k
    rw [hg'] at hk
    have hp : 0 < h.log.length := List.length_pos_iff.2 kk.ne
    have hc := hk.at 0 hp
    rw [e1, e] at hc
    have hbx' : W.heap[F]? = some (.cells #[.bool false, .string ⟨#[]⟩, .slice none 0 0] 26 (0, 0)) := hbx
    simp only [World.cell?, hbx'] at hc
    match o, hc with
    | 0, hc => simp at hc
    | 1, hc => simp at hc
    | 2, hc => simp at hc
    | o + 3, hc => simp at hc
  refine open2_any bt _ _ W (fun r w' => (r = 0 → oP w0 V B F mo d 4 w') ∧ (r ≠ 0 → oQ w0 V B F d r w')) ct ((readSnapshot_any W V B F mo h 0 v d1 false ⟨#[]⟩ _ hv hs.d hs.ok hs.t hf ⟨kk.s1, kk.s2⟩).mono ?_)
  rintro e W2 ⟨rfl, g2, k2⟩
  have hgF : Gv W W2 B F := Gv.of_V g2 B
  have hP : q3 d1 h = if (snR h d1).2 ≠ 0 then ((d1, (snR h d1).2), he0, none, []) else q4 d1 h (snR h d1).1 := rfl
  have hd2 := hs.d.grown g2 (fun e => hb.bf (by cases e; rfl))
  have hv2 : VAt W2 V B mo h 0 v := hv.congr (hgF.block V hv.lt hb.vb hb.vf) fun q hq e => hgF.block q hq (hv.ow q e).1 (hvF q e)
  have hs2 : VSt W2 V B mo (d1, h, 0) := ⟨hd2, hs.ok, ⟨v, hv2⟩, hs.ne, hgF.tab hs.t hb.b0 hb.f0, hb.b0, hb.v0⟩
  refine ⟨_, rfl, fun h0 => ?_, fun h0 => ?_⟩
  · have h0' : (snR h d1).2 = 0 := by first | omega | (simp only at h0; omega)
    have hf2 := k2 h0'
    refine ⟨hg.gf hgF, d1, h, (snR h d1).1, v, hs2, hm, ?_, ?_, hv2, hvF⟩
    · rw [he, hP, if_neg (by omega)]
    · by_cases hsn : h.snap = 0
      · rw [if_pos hsn, if_pos hsn] at hf2
        have e1 : snR h d1 = (none, 0) := if_pos hsn
        rw [e1]; exact hf2
      · rw [if_neg hsn, if_neg hsn] at hf2; exact hf2
  · have e1 : opP d = _ := he.trans (hP.trans (if_pos (show (snR h d1).2 ≠ 0 by first | omega | (simp only at h0; omega))))
    unfold oQ
    rw [e1]
    exact ⟨rfl, hd2, hs.ok, hg.gf hgF⟩
set_option maxHeartbeats 1000000 in
theorem open_s4 {w0 : World} {V B F mo bt g : Nat} {d : Dk} (hb : OpB w0 V B F mo bt g d) (W : World) (hW : oP w0 V B F mo d 4 W) : Calls Tryz.prog 48 #[.pointer (some ⟨bt, 0, none⟩), .pointer (some ⟨F, 0, none⟩)] W (StRet (oP w0 V B F mo d 5) (oQ w0 V B F d)) := by
  have ct := hW.1.cell hb.t hb.tb.1 hb.tb.2.1 hb.tb.2.2
  have gF : ∀ W', Gv W W' B V → W'.heap[F]? = W.heap[F]? := fun W' hg => hg.block F (Nat.lt_of_lt_of_le hb.lt.2.2 hW.1.size) (fun e => hb.bf e.symm) (fun e => hb.vf e.symm)
  obtain ⟨hg, d1, h, S, v, hs, hm, he, hf, hv, hvF⟩ := hW
  have hrb : RtB W V B F mo h 0 v := ⟨hv, hs.t, hb.vb, hb.vf, hb.bf, hb.b0, hb.f0, hvF, hs.d.lt, hf.lt⟩
  refine open3_any bt _ _ W (fun r w' => (r = 0 → oP w0 V B F mo d 5 w') ∧ (r ≠ 0 → oQ w0 V B F d r w')) ct ((readLog_any W V B F mo h 0 v d1 _ _ hrb hs.d hs.ok hf hm).mono ?_)
  rintro e W2 ⟨rfl, g2, d2, o2, k2⟩
  have hP : q4 d1 h S = if (Vt.lgD h.log d1).1.2 ≠ 0 then ((Vt.lgD h.log d1).1, he0, none, []) else q5 (Vt.lgD h.log d1).1.1 h S (Vt.lgD h.log d1).2 := rfl
  refine ⟨_, rfl, fun h0 => ?_, fun h0 => ?_⟩
  · have h0' : (Vt.lgD h.log d1).1.2 = 0 := by first | omega | (simp only at h0; omega)
    obtain ⟨k3, rv, k4, k5⟩ := k2 h0'
    refine ⟨hg.gf g2, _, h, S, _, rv, ⟨d2, o2, ⟨v, hrb.vat g2⟩, hs.ne, hrb.tab g2, hb.b0, hb.v0⟩, hm, ?_, k4, k5.mono hg.size, k3⟩
    rw [he, hP, if_neg (by omega)]
  · have e1 : opP d = _ := he.trans (hP.trans (if_pos (show (Vt.lgD h.log d1).1.2 ≠ 0 by first | omega | (simp only at h0; omega))))
    unfold oQ
    rw [e1]
    exact ⟨rfl, d2, o2, hg.gf g2⟩
set_option maxHeartbeats 1000000 in
theorem open_s5 {w0 : World} {V B F mo bt g : Nat} {d : Dk} (hb : OpB w0 V B F mo bt g d) (W : World) (hW : oP w0 V B F mo d 5 W) : Calls Tryz.prog 50 #[.pointer (some ⟨bt, 0, none⟩)] W (StRet (oP w0 V B F mo d 6) (oQ w0 V B F d)) := by
  have ct := hW.1.cell hb.t hb.tb.1 hb.tb.2.1 hb.tb.2.2
  have gF : ∀ W', Gv W W' B V → W'.heap[F]? = W.heap[F]? := fun W' hg => hg.block F (Nat.lt_of_lt_of_le hb.lt.2.2 hW.1.size) (fun e => hb.bf e.symm) (fun e => hb.vf e.symm)
  obtain ⟨hg, d1, h, S, R, rv, hs, hm, he, hf, ho, hr⟩ := hW
  refine (open4_any bt V B mo _ W ct hm hs).mono ?_
  rintro e W2 ⟨rfl, h2, g2⟩
  have hn := hdL_hn d1 (nmS h) (d1, h, 0)
  have hP : q5 d1 h S R = if (runS (hdL d1 (nmS h)) (d1, h, 0)).2 ≠ 0 then (((runS (hdL d1 (nmS h)) (d1, h, 0)).1.1, (runS (hdL d1 (nmS h)) (d1, h, 0)).2), he0, none, []) else (((runS (hdL d1 (nmS h)) (d1, h, 0)).1.1, 0), h, S, R) := rfl
  refine ⟨_, rfl, fun h0 => ?_, fun h0 => ?_⟩
  · have h0' : (runS (hdL d1 (nmS h)) (d1, h, 0)).2 = 0 := by first | omega | (simp only at h0; omega)
    refine ⟨hg.gv g2, _, h, S, R, rv, h2.eq hn, hm, ?_, hf.congr (gF _ g2), g2.own ho (fun q hq => by have := (ho.lt q hq).1; have := hb.lt; omega), hr⟩
    rw [he, hP, if_neg (by omega)]
  · have e1 : opP d = _ := he.trans (hP.trans (if_pos (show (runS (hdL d1 (nmS h)) (d1, h, 0)).2 ≠ 0 by first | omega | (simp only at h0; omega))))
    unfold oQ
    rw [e1]
    exact ⟨rfl, h2.d, h2.ok, hg.gv g2⟩
theorem open_turn {w0 : World} {V B F mo bt g : Nat} {d : Dk} (hb : OpB w0 V B F mo bt g d) : Calls Tryz.prog 41 #[.slice (some ⟨g, 0, none⟩) 6 6] w0 (StRet (oP w0 V B F mo d 6) (oQ w0 V B F d)) := by
  refine vturn_any 6 (oC bt V F) (some ⟨g, 0, none⟩) 6 w0 (oP w0 V B F mo d) (oQ w0 V B F d) (by decide) ⟨G3.refl _ _ _ _, hb.s, rfl⟩ ?_ ?_ ?_
  · intro _
    refine ⟨g, 0, rfl, fun k hk W hW => ?_⟩
    rw [Nat.zero_add]
    exact hW.1.cell (oC_cells hb k hk) hb.gb.1 hb.gb.2.1 hb.gb.2.2
  · intro k hk args W
    match k, hk with
    | 0, _ => show (callFunc 42 args).run Tryz.prog W = .ok (.enter 42 args) W; kernel_rfl
    | 1, _ => show (callFunc 44 args).run Tryz.prog W = .ok (.enter 44 args) W; kernel_rfl
    | 2, _ => show (callFunc 45 args).run Tryz.prog W = .ok (.enter 45 args) W; kernel_rfl
    | 3, _ => show (callFunc 46 args).run Tryz.prog W = .ok (.enter 46 args) W; kernel_rfl
    | 4, _ => show (callFunc 48 args).run Tryz.prog W = .ok (.enter 48 args) W; kernel_rfl
    | 5, _ => show (callFunc 50 args).run Tryz.prog W = .ok (.enter 50 args) W; kernel_rfl
  · intro k hk W hW
    have e0 := array_nil_app #[Value.pointer (some ⟨bt, 0, none⟩)]
    have e1 := app_nil_array #[Value.pointer (some ⟨V, 0, none⟩)]
    have e2 := array_nil_app #[Value.pointer (some ⟨bt, 0, none⟩), Value.pointer (some ⟨F, 0, none⟩)]
    have c0 : k = 0 ∨ k = 1 ∨ k = 2 ∨ k = 3 ∨ k = 4 ∨ k = 5 := by omega
    rcases c0 with rfl | rfl | rfl | rfl | rfl | rfl
    · show Calls Tryz.prog 42 (#[] ++ #[Value.pointer (some ⟨bt, 0, none⟩)]) W _; rw [e0]; exact open_s0 hb W hW
    · show Calls Tryz.prog 44 (#[Value.pointer (some ⟨V, 0, none⟩)] ++ #[]) W _; rw [e1]; exact open_s1 hb W hW
    · show Calls Tryz.prog 45 (#[Value.pointer (some ⟨V, 0, none⟩)] ++ #[]) W _; rw [e1]; exact open_s2 hb W hW
    · show Calls Tryz.prog 46 (#[] ++ #[Value.pointer (some ⟨bt, 0, none⟩), Value.pointer (some ⟨F, 0, none⟩)]) W _; rw [e2]; exact open_s3 hb W hW
    · show Calls Tryz.prog 48 (#[] ++ #[Value.pointer (some ⟨bt, 0, none⟩), Value.pointer (some ⟨F, 0, none⟩)]) W _; rw [e2]; exact open_s4 hb W hW
    · show Calls Tryz.prog 50 (#[] ++ #[Value.pointer (some ⟨bt, 0, none⟩)]) W _; rw [e0]; exact open_s5 hb W hW
end Go.Proofs.YtieemdcoomilaaaGreatDoor
