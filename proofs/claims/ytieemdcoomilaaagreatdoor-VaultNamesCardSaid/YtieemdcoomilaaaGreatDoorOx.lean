/- A head that is handed in, opened; heads. -/
import Derived.Test.YtieemdcoomilaaaGreatDoorHr
set_option linter.unusedVariables false
set_option linter.unusedSimpArgs false
namespace Go.Proofs.YtieemdcoomilaaaGreatDoor
open Go Go.RowKit Go.Deep Go.ChangeShapes Go.WideShapes
set_option maxRecDepth 100000
/-- A head that is handed in: its log lies there; its numbers are of their kinds. -/
structure HFit (w : World) (h : He) (v : Value) : Prop where
  k : KAt w v h.log
  l : h.log.length ≤ 9223372036854775807
  g : (Lit.int .i64 h.gen).wf = true
  b : (Lit.int .i64 h.base).wf = true
  s : (Lit.int .i64 h.snap).wf = true
section
variable {H : Type} {enc : TypeId × Value → H} {w : World} {base b0 : Nat} {spare : Nat → Bool} {held : Bool}
theorem open_head' {fuel : Nat} {cs : List Value} {x : DataW H × List MemPlace} (h : DataW.trod enc Tryz.prog w base spare held fuel 40 cs = some x) : ∃ (a : He) (v : Value), cs = [.int .i64 a.gen, .int .i64 a.base, .int .i64 a.snap, v] ∧ HFit w a v := by
  obtain ⟨xs, n, -, hx, hl, hxl, hf⟩ := DataW.trod_struct Tryz.underlying40 h
  rw [show Tryz.prog.cellsOf 40 = 4 by kernel_rfl] at hl
  match cs, hl, xs, hxl with
  | [v0, v1, v2, v3], _, [y0, y1, y2, y3], _ =>
    have g0 := hf 0 _ rfl
    have g1 := hf 1 _ rfl
    have g2 := hf 2 _ rfl
    have g3 := hf 3 _ rfl
    change DataW.trod enc Tryz.prog w base spare held n 2 ((([v0, v1, v2, v3] : List Value).drop 0).take (Tryz.prog.cellsOf 2)) = some y0 at g0
    rw [show Tryz.prog.cellsOf 2 = 1 by kernel_rfl] at g0
    change DataW.trod enc Tryz.prog w base spare held n 2 [v0] = some y0 at g0
    change DataW.trod enc Tryz.prog w base spare held n 2 ((([v0, v1, v2, v3] : List Value).drop 1).take (Tryz.prog.cellsOf 2)) = some y1 at g1
    rw [show Tryz.prog.cellsOf 2 = 1 by kernel_rfl] at g1
    change DataW.trod enc Tryz.prog w base spare held n 2 [v1] = some y1 at g1
    change DataW.trod enc Tryz.prog w base spare held n 3 ((([v0, v1, v2, v3] : List Value).drop 2).take (Tryz.prog.cellsOf 3)) = some y2 at g2
    rw [show Tryz.prog.cellsOf 3 = 1 by kernel_rfl] at g2
    change DataW.trod enc Tryz.prog w base spare held n 3 [v2] = some y2 at g2
    change DataW.trod enc Tryz.prog w base spare held n 38 ((([v0, v1, v2, v3] : List Value).drop 3).take (Tryz.prog.cellsOf 38)) = some y3 at g3
    rw [show Tryz.prog.cellsOf 38 = 1 by kernel_rfl] at g3
    change DataW.trod enc Tryz.prog w base spare held n 38 [v3] = some y3 at g3
    obtain ⟨z0, k0, _, f0⟩ := DataW.trod_int Tryz.underlying2 g0
    obtain ⟨z1, k1, _, f1⟩ := DataW.trod_int Tryz.underlying2 g1
    obtain ⟨z2, k2, _, f2⟩ := DataW.trod_int Tryz.underlying3 g2
    obtain ⟨ks, hk, hkl⟩ := open_nums' g3
    simp only [List.cons.injEq, and_true] at k0 k1 k2
    subst k0 k1 k2
    exact ⟨⟨z0, z1, z2, ks⟩, v3, rfl, ⟨hk, hkl, f0, f1, f2⟩⟩
theorem open_head {r : Reach} {v : Value} {d : DataW H} {p : List MemPlace} (hv : Value.okWide Tryz.prog w r b0 40 v) (h : DataW.Trod enc Tryz.prog w base spare held 40 v d p) : ∃ (a : He) (u : Value), v = hval a u ∧ HFit w a u := by
  obtain ⟨cs, rfl, hc⟩ := okWide_struct Tryz.underlying40 hv
  obtain ⟨fuel, hf⟩ := h
  obtain ⟨l⟩ := cs
  obtain ⟨a, u, he, hfit⟩ := open_head' (cs := l) hf
  subst he
  exact ⟨a, u, rfl, hfit⟩
/-- A row of heads that is handed in. -/
structure Hrow (w : World) (v : Value) (l : List (He × Value)) : Prop where
  at' : (l = [] ∧ ∃ a c, v = .slice a 0 c) ∨ ∃ g o c, v = .slice (some ⟨g, o, none⟩) l.length c ∧ l.length ≤ c ∧ ∀ j (h : j < l.length),
    w.cell? ⟨g, o + j * 4, none⟩ = some (.int .i64 l[j].1.gen) ∧ w.cell? ⟨g, o + j * 4 + 1, none⟩ = some (.int .i64 l[j].1.base) ∧ w.cell? ⟨g, o + j * 4 + 2, none⟩ = some (.int .i64 l[j].1.snap) ∧ w.cell? ⟨g, o + j * 4 + 3, none⟩ = some l[j].2
  len : l.length ≤ 9223372036854775807
  fit : ∀ x ∈ l, HFit w x.1 x.2
instance : Inhabited He := ⟨he0⟩
end
end Go.Proofs.YtieemdcoomilaaaGreatDoor
namespace Go.Proofs.YtieemdcoomilaaaGreatDoor
open Go Go.RowKit
set_option maxRecDepth 100000
theorem At2.at2 {w : World} {g o c n : Nat} {l : List Pv} (h : At2 w (.slice (some ⟨g, o, none⟩) n c) l) (j : Nat) (hj : j < l.length) : w.cell? ⟨g, o + j * 2, none⟩ = some l[j].1 ∧ w.cell? ⟨g, o + j * 2 + 1, none⟩ = some l[j].2 := by
  rcases h with ⟨rfl, _⟩ | ⟨g', o', c', e, h⟩
  · simp at hj
  · cases e
    exact h j hj
theorem At2.pos {w : World} {v : Value} {l : List Pv} (h : At2 w v l) (hl : l ≠ []) : ∃ g o c, v = .slice (some ⟨g, o, none⟩) l.length c := by
  rcases h with ⟨rfl, _⟩ | ⟨g', o', c', e, _⟩
  · exact absurd rfl hl
  · exact ⟨g', o', c', e⟩
end Go.Proofs.YtieemdcoomilaaaGreatDoor
namespace Go.Proofs.YtieemdcoomilaaaGreatDoor
open Go Go.RowKit
set_option maxRecDepth 100000
/-- Nothing is loose. -/
def firmD (d : Dk) : Prop := ∀ j < 32, (d.T j).f = (d.T j).s.size
theorem back_firm (d : Dk) (ks : List Int) {j : Nat} (hj : j < 32) (hf : (d.T j).f = (d.T j).s.size) : (backD d ks).T j = d.T j := by
  rcases (bkT_at d.T ks 32 j).1 hj with ⟨_, e⟩ | ⟨h0, _⟩
  · exact e
  · rw [hf] at h0; omega
/-- What is found behind a Put, wherever it failed, and a Back. -/
structure Sw (d0 : Dk) (h : He) (P : Dk × Nat) (d3 : Dk) : Prop where
  up : P.1.dn = decide (P.2 = 45)
  form : P.2 = 4 → mayB h = false
  load : (ldR d3).1 = h ∧ (ldR d3).2.2.1 = true ∧ P.2 ≠ 4 ∨ P.2 ≠ 0 ∧ (ldR d3).1 = ldH d0 ∧ (ldR d3).2.2.1 = ldI d0
  err : (ldR d3).2.2.2 = 0
  tapes : ∀ j < 32, j ≠ ptT d0 → d3.T j = d0.T j
  loose : ∀ j < 32, (d3.T j).f = (d3.T j).s.size
theorem ldR_T01 {d d' : Dk} (h : d.dn = false) (h' : d'.dn = false) (e0 : (d'.T 0).s = (d.T 0).s) (e1 : (d'.T 1).s = (d.T 1).s) : ldR d' = ldR d := by
  rw [ld_up h, ld_up h']; unfold ldH ldT ldI; rw [e0, e1]
theorem swaps {d0 d1 : Dk} (hok : d1.ok) (h0 : d0.dn = false) (h1 : d1.dn = false) (hT : d1.T = d0.T) (hf : firmD d0) (h : He) (hg : ldI d0 = true → (ldH d0).gen < h.gen) (ks : List Int) : Sw d0 h (putR d1 h) (backD (putR d1 h).1 ks) := by
  have hl : ldR d1 = ldR d0 := ldR_T h0 h1 hT
  have hp : ptT d1 = ptT d0 := by unfold ptT; rw [hl]
  have hI : ldI d1 = ldI d0 := by have := ld_up h1; rw [hl, ld_up h0] at this; exact (congrArg (fun x => x.2.2.1) this).symm
  have hH : ldH d1 = ldH d0 := by have := ld_up h1; rw [hl, ld_up h0] at this; exact (congrArg (fun x => x.1) this).symm
  have ht : ptT d0 ≤ 1 := ptT_le d0
  have hpok := putR_ok hok h
  have hb : ∀ j < 32, ((backD (putR d1 h).1 ks).T j).f = ((backD (putR d1 h).1 ks).T j).s.size := fun j hj => (back_at hpok ks j hj).2.2.1
  have hu : (backD (putR d1 h).1 ks).dn = false := rfl
  cases hm : mayB h
  · have e : putR d1 h = (d1, 4) := by unfold putR; rw [hm, if_neg (by simp)]
    rw [e] at hb ⊢
    have hk : ∀ j < 32, (backD d1 ks).T j = d0.T j := fun j hj => by rw [back_firm d1 ks hj (by rw [hT]; exact hf j hj), hT]
    have hld : ldR (backD d1 ks) = ldR d0 := ldR_T01 h0 rfl (by rw [hk 0 (by decide)]) (by rw [hk 1 (by decide)])
    exact ⟨by rw [show ((d1, 4) : Dk × Nat).1.dn = false from h1]; rfl, fun _ => hm, .inr ⟨by simp, by show (ldR (backD d1 ks)).1 = _; rw [hld, ld_up h0], by show (ldR (backD d1 ks)).2.2.1 = _; rw [hld, ld_up h0]⟩, by show (ldR (backD d1 ks)).2.2.2 = _; rw [hld, ld_up h0], fun j hj _ => hk j hj, hb⟩
  · have hz : (whl h).size ≤ 1048576 := by rw [whl_size]; have := enc_len (mayB_ok hm); omega
    have hs := stP_st h1 (show ptT d1 < 32 by omega) hz
    have e : putR d1 h = stP d1 (ptT d1) (whl h) := by unfold putR; rw [hm, if_pos rfl, ld_up h1, if_neg (by simp)]
    rw [← e] at hs
    generalize putR d1 h = P at *
    have ho : ∀ j < 32, j ≠ ptT d0 → (backD P.1 ks).T j = d0.T j := fun j hj hn => by
      have e1 : P.1.T j = d0.T j := by rw [hs.oth j (by rw [hp]; exact hn), hT]
      rw [back_firm P.1 ks hj (by rw [e1]; exact hf j hj), e1]
    have ho' : ∀ j, j ≤ 1 → j ≠ ptT d1 → (backD P.1 ks).T j = d1.T j := fun j hj hn => by rw [ho j (by omega) (by rw [← hp]; exact hn), hT]
    have new : ((backD P.1 ks).T (ptT d1)).s = whl h → (ldR (backD P.1 ks)).1 = h ∧ (ldR (backD P.1 ks)).2.2.1 = true ∧ (ldR (backD P.1 ks)).2.2.2 = 0 := fun hw => by
      rw [load_new h1 hu h hm ho' hw (by rw [hI, hH]; exact hg)]; exact ⟨rfl, rfl, rfl⟩
    have old : (ofB ((backD P.1 ks).T (ptT d1)).s).1 = he0 → (ldR (backD P.1 ks)).1 = ldH d0 ∧ (ldR (backD P.1 ks)).2.2.1 = ldI d0 ∧ (ldR (backD P.1 ks)).2.2.2 = 0 := fun hw => by
      rw [load_old h1 hu (fun j hj hn => by rw [ho' j hj hn]) hw, hI, hH]; exact ⟨rfl, rfl, rfl⟩
    rcases hs.how with ⟨k1, k2, k3⟩ | ⟨k1, k2, k3, _⟩ | ⟨k1, k2, -, -, k3, -⟩
    · obtain ⟨n1, n2, n3⟩ := new (by rw [back_firm P.1 ks (by omega) (by rw [k3]), k3])
      exact ⟨by rw [k2, k1]; rfl, fun h4 => (by rw [k1] at h4; cases h4), .inl ⟨n1, n2, by rw [k1]; decide⟩, n3, ho, hb⟩
    · obtain ⟨n1, n2, n3⟩ := old (by rw [back_firm P.1 ks (by omega) (by rw [k3]; rfl), k3]; rfl)
      exact ⟨by rw [k2, k1]; rfl, fun h4 => (by rw [k1] at h4; cases h4), .inr ⟨by rw [k1]; decide, n1, n2⟩, n3, ho, hb⟩
    · have fin : ((ldR (backD P.1 ks)).1 = h ∧ (ldR (backD P.1 ks)).2.2.1 = true ∧ (ldR (backD P.1 ks)).2.2.2 = 0) ∨ ((ldR (backD P.1 ks)).1 = ldH d0 ∧ (ldR (backD P.1 ks)).2.2.1 = ldI d0 ∧ (ldR (backD P.1 ks)).2.2.2 = 0) := by
        rcases k3 with k3 | k3 | k3
        · refine .inr ?_
          have ek : (backD P.1 ks).T (ptT d1) = d0.T (ptT d1) := by rw [back_firm P.1 ks (by omega) (by rw [k3, hT]; exact hf _ (by omega)), k3, hT]
          have hall : ∀ j, j ≤ 1 → (backD P.1 ks).T j = d0.T j := fun j hj => by
            by_cases hj2 : j = ptT d1
            · subst hj2; exact ek
            · rw [ho' j hj hj2, hT]
          rw [ldR_T01 h0 hu (by rw [hall 0 (by omega)]) (by rw [hall 1 (by omega)]), ld_up h0]
          exact ⟨rfl, rfl, rfl⟩
        · exact .inr (old (by rw [back_firm P.1 ks (by omega) (by rw [k3]; rfl), k3]; rfl))
        · obtain ⟨b1, b2, b3, b4, k, b5, b6⟩ := back_at hpok ks (ptT d1) (by omega)
          rw [k3] at b5 b6
          by_cases hk : k < (whl h).size
          · exact .inr (old (by rw [b6]; exact of_torn hm hk))
          · have : k = (whl h).size := by have : k ≤ (whl h).size := b5; omega
            subst this
            exact .inl (new (by rw [b6]; exact ByteArray.extract_zero_size))
      rcases fin with ⟨n1, n2, n3⟩ | ⟨n1, n2, n3⟩
      · exact ⟨by rw [k2, k1]; rfl, fun h4 => (by rw [k1] at h4; cases h4), .inl ⟨n1, n2, by rw [k1]; decide⟩, n3, ho, hb⟩
      · exact ⟨by rw [k2, k1]; rfl, fun h4 => (by rw [k1] at h4; cases h4), .inr ⟨by rw [k1]; decide, n1, n2⟩, n3, ho, hb⟩
end Go.Proofs.YtieemdcoomilaaaGreatDoor
namespace Go.Proofs.YtieemdcoomilaaaGreatDoor.Vt
open Go Go.RowKit
set_option maxRecDepth 100000
abbrev Fr1 := UInt8 × List UInt8
def kp (l : List Fr.Fm) : List Fr1 := l.map fun x => (x.k, x.p)
/-- What is scanned of any bytes: frames, and bytes behind that begin by none. -/
theorem scn_split : ∀ (n : Nat) (l : List UInt8) (a : Nat), l.length ≤ n → ∃ t, l = Fr.row (kp (Fr.scn l a).1) ++ t ∧ Fr.er t ≠ 0 ∧ (Fr.scn l a).2 = a + (Fr.row (kp (Fr.scn l a).1)).length ∧ ∀ x ∈ kp (Fr.scn l a).1, Fr.Ok x.1 x.2
  | n, l, a, hl => by
    by_cases h : Fr.er l = 0
    · have hg := Fr.er_good.1 h
      have hn := hg.nine
      have hw := hg.whole
      rw [Fr.scn_good a h]
      match n with
      | 0 => omega
      | n + 1 =>
        obtain ⟨t, h1, h2, h3, h4⟩ := scn_split n (l.drop (9 + Fr.ln l)) (a + 9 + Fr.ln l) (by rw [List.length_drop]; omega)
        refine ⟨t, ?_, h2, ?_, ?_⟩
        · show l = Fr.frm (Fr.kd l) (Fr.pl l) ++ Fr.row (kp (Fr.scn (l.drop (9 + Fr.ln l)) (a + 9 + Fr.ln l)).1) ++ t
          rw [List.append_assoc, ← h1]
          exact Fr.good_split hg
        · show (Fr.scn (l.drop (9 + Fr.ln l)) (a + 9 + Fr.ln l)).2 = a + (Fr.frm (Fr.kd l) (Fr.pl l) ++ Fr.row (kp (Fr.scn (l.drop (9 + Fr.ln l)) (a + 9 + Fr.ln l)).1)).length
          rw [h3, List.length_append, Fr.frm_length, Fr.pl_length hg]
          omega
        · intro x hx
          rcases List.mem_cons.1 hx with e | e
          · subst e; exact Fr.good_ok hg
          · exact h4 x e
    · rw [Fr.scn_bad a h]
      exact ⟨l, rfl, h, rfl, fun x hx => by cases hx⟩
theorem kp_wnt : ∀ (l : List Fr1) (a : Nat), kp (Fr.wnt l a) = l
  | [], _ => rfl
  | x :: l, a => by show (x.1, x.2) :: kp (Fr.wnt l _) = _; rw [kp_wnt l]
/-- Frames of bytes. -/
def fs (l : List UInt8) : List Fr1 := kp (Fr.scn l 0).1
def en (l : List UInt8) : Nat := (Fr.scn l 0).2
theorem fs_split (l : List UInt8) : ∃ t, l = Fr.row (fs l) ++ t ∧ Fr.er t ≠ 0 ∧ en l = (Fr.row (fs l)).length ∧ ∀ x ∈ fs l, Fr.Ok x.1 x.2 := by
  obtain ⟨t, h1, h2, h3, h4⟩ := scn_split l.length l 0 (Nat.le_refl _)
  exact ⟨t, h1, h2, by rw [Nat.zero_add] at h3; exact h3, h4⟩
theorem fs_row (l : List Fr1) (t : List UInt8) (h : ∀ x ∈ l, Fr.Ok x.1 x.2) (ht : Fr.er t ≠ 0) : fs (Fr.row l ++ t) = l ∧ en (Fr.row l ++ t) = (Fr.row l).length := by
  unfold fs en
  rw [Fr.scn_row_end l t 0 h ht]
  exact ⟨kp_wnt l 0, Nat.zero_add _⟩
theorem er_nil : Fr.er [] ≠ 0 := by decide
theorem fs_row0 (l : List Fr1) (h : ∀ x ∈ l, Fr.Ok x.1 x.2) : fs (Fr.row l) = l ∧ en (Fr.row l) = (Fr.row l).length := by
  have := fs_row l [] h er_nil
  rw [List.append_nil] at this
  exact this
/-- Records as frames. -/
def rw1 (R : List ByteArray) : List Fr1 := R.map fun r => (1, r.data.toList)
def small (R : List ByteArray) : Prop := ∀ r ∈ R, r.size ≤ 262144
theorem small_app {A B : List ByteArray} : small (A ++ B) ↔ small A ∧ small B := by
  unfold small
  exact ⟨fun h => ⟨fun r hr => h r (List.mem_append.2 (.inl hr)), fun r hr => h r (List.mem_append.2 (.inr hr))⟩, fun h r hr => (List.mem_append.1 hr).elim (h.1 r) (h.2 r)⟩
theorem small_take {A : List ByteArray} (h : small A) (k : Nat) : small (A.take k) := fun r hr => h r (List.mem_of_mem_take hr)
theorem rw1_app (A B : List ByteArray) : rw1 (A ++ B) = rw1 A ++ rw1 B := List.map_append
theorem rw1_ok {R : List ByteArray} (h : small R) : ∀ x ∈ rw1 R, Fr.Ok x.1 x.2 := fun x hx => by
  obtain ⟨r, hr, rfl⟩ := List.mem_map.1 hx
  exact ⟨show 1 ≤ (1 : UInt8).toNat ∧ (1 : UInt8).toNat ≤ 3 by decide, by have := h r hr; simpa using this⟩
/-- The bytes of records, each in its frame. -/
def rb (R : List ByteArray) : List UInt8 := Fr.row (rw1 R)
theorem rb_app (A B : List ByteArray) : rb (A ++ B) = rb A ++ rb B := by unfold rb; rw [rw1_app, Fr.row_append]
theorem rb_nil : rb [] = [] := rfl
theorem rb_cons (r : ByteArray) (R : List ByteArray) : rb (r :: R) = Fr.frm 1 r.data.toList ++ rb R := rfl
theorem rb_one (r : ByteArray) : rb [r] = Fr.frm 1 r.data.toList := by rw [rb_cons, rb_nil, List.append_nil]
theorem rb_len_one (r : ByteArray) : (rb [r]).length = 9 + r.size := by rw [rb_one, Fr.frm_length]; simp
/-- A beginning of records' bytes: whole ones, and a part of one, or nothing. -/
theorem rb_take : ∀ (B : List ByteArray) (m : Nat), small B → ∃ k j, k ≤ B.length ∧ (rb B).take m = rb (B.take k) ++ j ∧ Fr.er j ≠ 0
  | [], m, _ => ⟨0, [], Nat.le_refl _, by rw [rb_nil, List.take_nil]; rfl, er_nil⟩
  | b :: B, m, h => by
    have hb : b.data.toList.length ≤ 262144 := by have := h b (by simp); simpa using this
    rw [rb_cons]
    by_cases hm : m < 9 + b.data.toList.length
    · refine ⟨0, (Fr.frm 1 b.data.toList).take m, Nat.zero_le _, ?_, Fr.er_part 1 _ m hb hm⟩
      rw [List.take_append_of_le_length (by rw [Fr.frm_length]; omega)]; rfl
    · obtain ⟨k, j, hk, e, hj⟩ := rb_take B (m - (9 + b.data.toList.length)) (fun r hr => h r (by simp [hr]))
      refine ⟨k + 1, j, by simp; omega, ?_, hj⟩
      rw [List.take_append, List.take_of_length_le (by rw [Fr.frm_length]; omega), Fr.frm_length, e, List.take_succ_cons, rb_cons, List.append_assoc]
/-- A tape's bytes. -/
def tl (t : Tp) : List UInt8 := t.s.data.toList
theorem tl_len (t : Tp) : (tl t).length = t.s.size := by unfold tl; simp
theorem tl_inj {t : Tp} {s : ByteArray} (h : tl t = s.data.toList) : t.s = s := by have := bs_toData t.s _ h; exact this
/-- Nothing of it is loose. -/
def fm (t : Tp) : Prop := t.f = t.s.size
/-- The log's tapes, in their row: records that are firm, and behind them others, on the last one, that may be loose. -/
inductive Lg (T : Nat → Tp) : List Int → List ByteArray → List ByteArray → Prop
  | last (t : Int) (A B : List ByteArray) : small (A ++ B) → tl (T t.toNat) = rb (A ++ B) → (rb A).length ≤ (T t.toNat).f → Lg T [t] A B
  | cons (t : Int) (r : List Int) (X E B : List ByteArray) : small X → tl (T t.toNat) = rb X → fm (T t.toNat) → Lg T r E B → Lg T (t :: r) (X ++ E) B
/-- Likewise, all firm, with bytes behind the last one's that begin by no frame. -/
inductive Lj (T : Nat → Tp) : List Int → List ByteArray → Prop
  | last (t : Int) (R : List ByteArray) (j : List UInt8) : small R → tl (T t.toNat) = rb R ++ j → Fr.er j ≠ 0 → fm (T t.toNat) → Lj T [t] R
  | cons (t : Int) (r : List Int) (X E : List ByteArray) : small X → tl (T t.toNat) = rb X → fm (T t.toNat) → Lj T r E → Lj T (t :: r) (X ++ E)
theorem Lg.ne {T : Nat → Tp} {l : List Int} {E B : List ByteArray} (h : Lg T l E B) : l ≠ [] := by cases h <;> simp
theorem Lj.ne {T : Nat → Tp} {l : List Int} {E : List ByteArray} (h : Lj T l E) : l ≠ [] := by cases h <;> simp
theorem Lg.small {T : Nat → Tp} {l : List Int} {E B : List ByteArray} (h : Lg T l E B) : small (E ++ B) := by
  induction h with
  | last t A B h1 _ _ => exact h1
  | cons t r X E B h1 _ _ _ ih => rw [List.append_assoc]; exact small_app.2 ⟨h1, ih⟩
theorem Lg.congr {T T' : Nat → Tp} {l : List Int} {E B : List ByteArray} (h : Lg T l E B) (e : ∀ t ∈ l, T' t.toNat = T t.toNat) : Lg T' l E B := by
  induction h with
  | last t A B h1 h2 h3 =>
    have := e t (by simp)
    exact .last t A B h1 (by rw [this]; exact h2) (by rw [this]; exact h3)
  | cons t r X E B h1 h2 h3 _ ih =>
    have := e t (by simp)
    exact .cons t r X E B h1 (by rw [this]; exact h2) (by rw [this]; exact h3) (ih fun u hu => e u (by simp [hu]))
/-- What may stay of tapes behind a failure: of each what is firm, and a beginning of the rest. -/
def Beg (T T' : Nat → Tp) : Prop := ∀ j < 32, fm (T' j) ∧ (T j).f ≤ (T' j).s.size ∧ (T' j).s.size ≤ (T j).s.size ∧ tl (T' j) = (tl (T j)).take (T' j).s.size
theorem beg_back {d : Dk} (h : d.ok) (ks : List Int) : Beg d.T (backD d ks).T := fun j hj => by
  obtain ⟨h1, h2, h3, h4, k, hk, he⟩ := back_at h ks j hj
  refine ⟨h3, by rw [← h3]; exact h4, h2, ?_⟩
  have e : tl ((backD d ks).T j) = (tl (d.T j)).take k := by
    unfold tl; rw [he, ext_toList]; simp
  have e2 := congrArg List.length e
  rw [tl_len, List.length_take, tl_len, Nat.min_eq_left hk] at e2
  rw [e2]; exact e
theorem Beg.same {T T' : Nat → Tp} (h : Beg T T') {j : Nat} (hj : j < 32) (hf : fm (T j)) : T' j = T j := by
  obtain ⟨h1, h2, h3, h4⟩ := h j hj
  have hs : (T' j).s.size = (T j).s.size := by unfold fm at hf; omega
  have e : (T' j).s = (T j).s := tl_inj (by rw [h4, hs, ← tl_len, List.take_length]; rfl)
  have e2 : (T' j).f = (T j).f := by unfold fm at *; omega
  cases hT : T' j; cases hU : T j; rw [hT] at e e2; rw [hU] at e e2; dsimp only at e e2; rw [e, e2]
/-- A log behind a failure. -/
theorem Lg.beg {T T' : Nat → Tp} {l : List Int} {E B : List ByteArray} (h : Lg T l E B) (hl : ∀ t ∈ l, t.toNat < 32) (hb : Beg T T') : ∃ k, k ≤ B.length ∧ Lj T' l (E ++ B.take k) := by
  induction h with
  | last t A B h1 h2 h3 =>
    obtain ⟨b1, b2, b3, b4⟩ := hb t.toNat (hl t (by simp))
    obtain ⟨k, j, hk, e, hj⟩ := rb_take B ((T' t.toNat).s.size - (rb A).length) (small_app.1 h1).2
    refine ⟨k, hk, .last t _ j (small_app.2 ⟨(small_app.1 h1).1, small_take (small_app.1 h1).2 k⟩) ?_ hj b1⟩
    rw [b4, h2, rb_app, rb_app, List.take_append, List.take_of_length_le (by omega), e, List.append_assoc]
  | cons t r X E B h1 h2 h3 _ ih =>
    have ht : t.toNat < 32 := hl t (by simp)
    obtain ⟨k, hk, hr⟩ := ih fun u hu => hl u (by simp [hu])
    refine ⟨k, hk, ?_⟩
    rw [List.append_assoc]
    refine .cons t r X _ h1 ?_ ?_ hr
    · rw [hb.same ht h3]; exact h2
    · rw [hb.same ht h3]; exact h3
end Go.Proofs.YtieemdcoomilaaaGreatDoor.Vt
namespace Go.Proofs.YtieemdcoomilaaaGreatDoor.Vt
open Go Go.RowKit
set_option maxRecDepth 100000
/-- A thing was done. -/
structure Okd (d : Dk) (T : Nat → Tp) (P : Dk × Nat) : Prop where
  e : P.2 = 0
  dn : P.1.dn = false
  T : P.1.T = T
  cap : P.1.cap = d.cap
  ok : P.1.ok
  dm : d.dm = false → P.1.dm = false
/-- The disk failed. -/
structure Bad (d : Dk) (Q : (Nat → Tp) → Prop) (P : Dk × Nat) : Prop where
  e : P.2 = 45
  dn : P.1.dn = true
  ok : P.1.ok
  dm : d.dm = true
  q : Q P.1.T
theorem do_eq {d : Dk} (hdn : d.dn = false) {t : Nat} (ht : t < 32) (torn : Bool) (g : Tp → Tp × Nat) (hg : (g (d.T t)).2 = 0) :
    doD d t torn g = if d.dm = true ∧ d.left = 0 then (if torn = true then { fallen d with T := upd d.T t (g (d.T t)).1 } else fallen d, 45) else ({ d with T := upd d.T t (g (d.T t)).1, left := lf d }, 0) := by
  unfold doD
  rw [res_in d t ht, hdn, if_neg (by simp), hg, Int.toNat_natCast]
  by_cases h : d.dm = true ∧ d.left = 0
  · rw [if_pos h, if_pos h]
    cases torn <;> simp
  · rw [if_neg h, if_neg h, if_neg (by simp)]; rfl
theorem do_step {d : Dk} (hdn : d.dn = false) (hok : d.ok) {t : Nat} (ht : t < 32) (torn : Bool) (g : Tp → Tp × Nat) (hf : Fine d g) (hg : (g (d.T t)).2 = 0) :
    Okd d (upd d.T t (g (d.T t)).1) (doD d t torn g) ∨ Bad d (fun T => T = if torn = true then upd d.T t (g (d.T t)).1 else d.T) (doD d t torn g) := by
  have ho := doD_ok hok t torn hf
  rw [do_eq hdn ht torn g hg] at ho ⊢
  by_cases h : d.dm = true ∧ d.left = 0
  · rw [if_pos h] at ho ⊢
    refine .inr ⟨rfl, ?_, ho, h.1, ?_⟩
    · dsimp only; split <;> rfl
    · dsimp only; split <;> rfl
  · rw [if_neg h] at ho ⊢
    exact .inl ⟨rfl, hdn, rfl, rfl, ho, fun e => e⟩
def fmT (t : Tp) : Tp := ⟨t.s, t.s.size⟩
theorem sy_step {d : Dk} (hdn : d.dn = false) (hok : d.ok) {t : Nat} (ht : t < 32) : Okd d (upd d.T t (fmT (d.T t))) (doD d t false sy) ∨ Bad d (fun T => T = d.T) (doD d t false sy) := do_step hdn hok ht false sy (fine_sy hok) rfl
theorem wi_step {d : Dk} (hdn : d.dn = false) (hok : d.ok) {t : Nat} (ht : t < 32) : Okd d (upd d.T t t0) (doD d t false wi) ∨ Bad d (fun T => T = d.T) (doD d t false wi) := do_step hdn hok ht false wi (fine_wi hok) rfl
theorem wr_step {d : Dk} (hdn : d.dn = false) (hok : d.ok) {t : Nat} (ht : t < 32) (x : ByteArray) (h1 : x.size + (d.T t).s.size ≤ 1048576) (h2 : x.size + d.used ≤ d.cap) :
    Okd d (upd d.T t ⟨(d.T t).s ++ x, (d.T t).f⟩) (doD d t true (wf d x)) ∨ Bad d (fun T => T = upd d.T t ⟨(d.T t).s ++ x, (d.T t).f⟩) (doD d t true (wf d x)) := by
  have e : wf d x (d.T t) = (⟨(d.T t).s ++ x, (d.T t).f⟩, 0) := by
    unfold wf wr
    rw [if_neg (by omega), if_neg (by simp; omega)]
  have := do_step hdn hok ht true (wf d x) (fine_wf hok x) (by rw [e])
  rw [e] at this
  exact this
theorem tr_step {d : Dk} (hdn : d.dn = false) (hok : d.ok) {t : Nat} (ht : t < 32) (n : Nat) (h1 : n ≤ (d.T t).s.size) :
    Okd d (upd d.T t ⟨(d.T t).s.extract 0 n, n⟩) (doD d t false (tr n)) ∨ Bad d (fun T => T = d.T) (doD d t false (tr n)) := by
  have e : tr n (d.T t) = (⟨(d.T t).s.extract 0 n, n⟩, 0) := by
    unfold tr
    rw [if_pos ⟨by omega, by omega⟩, Int.toNat_natCast]
  have := do_step hdn hok ht false (tr n) (fine_tr hok n) (by rw [e])
  rw [e] at this
  exact this
theorem put_step {d : Dk} (hdn : d.dn = false) (hok : d.ok) {h : He} (hm : mayB h = true) (hr : room d (ptT d) (whl h)) :
    Okd d (upd d.T (ptT d) ⟨whl h, (whl h).size⟩) (putR d h) ∨ Bad d (fun T => ∃ x, T = upd d.T (ptT d) x ∧ (x = d.T (ptT d) ∨ x = t0 ∨ x = ⟨whl h, 0⟩)) (putR d h) := by
  have hz : (whl h).size ≤ 1048576 := by rw [whl_size]; have := enc_len (mayB_ok hm); omega
  have hs := stP_st hdn (show ptT d < 32 by have := ptT_le d; omega) hz
  have e : putR d h = stP d (ptT d) (whl h) := by unfold putR; rw [hm, if_pos rfl, ld_up hdn, if_neg (by simp)]
  have ho := putR_ok hok h
  rw [← e] at hs
  have hT : ∀ x, (putR d h).1.T (ptT d) = x → (putR d h).1.T = upd d.T (ptT d) x := fun x hx => by
    funext j
    by_cases hj : j = ptT d
    · subst hj; rw [upd_same]; exact hx
    · rw [upd_other _ _ hj]; exact hs.oth j hj
  rcases hs.how with ⟨k1, k2, k3⟩ | ⟨_, _, _, k4⟩ | ⟨k1, k2, k3, _, k5, _⟩
  · refine .inl ⟨k1, k2, hT _ k3, hs.cap, ho, fun h0 => ?_⟩
    rw [hs.calm h0 hr]; exact h0
  · exact absurd hr k4
  · exact .inr ⟨k1, k2, ho, k3, _, hT _ rfl, k5⟩
/-- One thing behind another, up to the first one that fails. -/
def thn (x : Dk × Nat) (g : Dk → Dk × Nat) : Dk × Nat := if x.2 ≠ 0 then x else g x.1
theorem thn_ok {x : Dk × Nat} (g : Dk → Dk × Nat) (h : x.2 = 0) : thn x g = g x.1 := if_neg (by omega)
theorem thn_bad {x : Dk × Nat} (g : Dk → Dk × Nat) (h : x.2 = 45) : thn x g = x := if_pos (by omega)
def over (g : Dk → Nat → Dk × Nat) : List Nat → Dk → Dk × Nat
  | [], d => (d, 0)
  | t :: r, d => thn (g d t) (over g r)
theorem over_ind {g : Dk → Nat → Dk × Nat} (P : List Nat → Dk → Prop) (F : Dk → Prop)
    (h : ∀ t r d, P (t :: r) d → ((g d t).2 = 0 ∧ P r (g d t).1) ∨ ((g d t).2 = 45 ∧ F (g d t).1)) :
    ∀ l d, P l d → ((over g l d).2 = 0 ∧ P [] (over g l d).1) ∨ ((over g l d).2 = 45 ∧ F (over g l d).1)
  | [], d, hp => .inl ⟨rfl, hp⟩
  | t :: r, d, hp => by
    rcases h t r d hp with ⟨e, h1⟩ | ⟨e, h1⟩
    · rw [over, thn_ok _ e]
      exact over_ind P F h r _ h1
    · rw [over, thn_bad _ e]
      exact .inr ⟨e, h1⟩
/-- A tape is synced, if it has loose bytes. -/
def sl (d : Dk) (t : Nat) : Dk × Nat := if (d.T t).f < (d.T t).s.size then doD d t false sy else (d, 0)
theorem sl_firm {d : Dk} {t : Nat} (h : fm (d.T t)) : sl d t = (d, 0) := if_neg (by unfold fm at h; omega)
/-- The tapes from 2 on. -/
def tps : List Nat := List.range' 2 30
theorem mem_tps {t : Nat} : t ∈ tps ↔ 2 ≤ t ∧ t < 32 := by unfold tps; rw [List.mem_range'_1]
def wo (h : He) (d : Dk) (t : Nat) : Dk × Nat := if usB h t = true ∨ (d.T t).s.size = 0 then (d, 0) else doD d t false wi
def wu (h : He) (d : Dk) (t : Nat) : Dk × Nat := if usB h t = true then doD d t false wi else (d, 0)
def su (h : He) (d : Dk) (t : Nat) : Dk × Nat := if usB h t = true then sl d t else (d, 0)
def hNew : He := ⟨1, 0, 0, [2]⟩
/-- The head that counts, or a new one. -/
def bgH (d : Dk) : (Dk × Nat) × He :=
  if (ldR d).2.2.2 ≠ 0 then ((d, (ldR d).2.2.2), he0)
  else if (ldR d).2.2.1 = true then ((d, 0), (ldR d).1)
  else (thn (doD d 2 false wi) (fun d => putR d hNew), hNew)
/-- How a vault is opened: its head, and no bytes on other tapes. -/
def bg (d : Dk) : (Dk × Nat) × He :=
  let x := thn (sl d 0) (fun d => sl d 1)
  if x.2 ≠ 0 then (x, he0) else
  let y := bgH x.1
  if y.1.2 ≠ 0 then (y.1, he0) else (over (wo y.2) tps y.1.1, y.2)
/-- The records of a log's tape. -/
def tpD (d : Dk) (t : Nat) (last : Bool) : (Dk × Nat) × List ByteArray :=
  if d.dn = true then ((d, 45), [])
  else if (fs (tl (d.T t))).all (fun x => x.1 == 1) = false then ((d, 4), [])
  else if en (tl (d.T t)) < (d.T t).s.size then (if last = false then ((d, 42), []) else (doD d t false (tr (en (tl (d.T t)))), (fs (tl (d.T t))).map (fun x => bs x.2)))
  else ((d, 0), (fs (tl (d.T t))).map (fun x => bs x.2))
/-- Of all of them. -/
def lgD : List Int → Dk → (Dk × Nat) × List ByteArray
  | [], d => ((d, 0), [])
  | t :: r, d =>
    let x := tpD d t.toNat r.isEmpty
    if x.1.2 ≠ 0 then (x.1, []) else
    let y := lgD r x.1.1
    if y.1.2 ≠ 0 then (y.1, []) else (y.1, x.2 ++ y.2)
/-- A tape that has one frame of kind 2, and no more: its payload. -/
def one2 (l : List UInt8) : Option ByteArray := if Fr.er l = 0 ∧ Fr.kd l = 2 ∧ 9 + Fr.ln l = l.length then some (bs (Fr.pl l)) else none
/-- What is found. -/
def fdD (h : He) (d : Dk) : (Dk × Nat) × Option ByteArray × List ByteArray :=
  if h.snap ≠ 0 ∧ d.dn = true then ((d, 45), none, [])
  else if h.snap ≠ 0 ∧ (one2 (tl (d.T h.snap.toNat))).isNone then ((d, 4), none, [])
  else
    let x := lgD h.log d
    if x.1.2 ≠ 0 then (x.1, none, []) else
    let y := over (su h) tps x.1.1
    if y.2 ≠ 0 then (y, none, []) else (y, if h.snap ≠ 0 then one2 (tl (d.T h.snap.toNat)) else none, x.2)
/-- How a vault is opened. -/
def opD (d : Dk) : (Dk × Nat) × He × Option ByteArray × List ByteArray :=
  let x := bg d
  if x.1.2 ≠ 0 then (x.1, he0, none, []) else
  let y := fdD x.2 x.1.1
  if y.1.2 ≠ 0 then (y.1, he0, none, []) else (y.1, x.2, y.2.1, y.2.2)
end Go.Proofs.YtieemdcoomilaaaGreatDoor.Vt
