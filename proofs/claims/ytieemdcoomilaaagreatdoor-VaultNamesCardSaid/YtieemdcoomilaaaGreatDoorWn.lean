/- readLog. -/
import Derived.Test.YtieemdcoomilaaaGreatDoorWl
import Derived.Test.YtieemdcoomilaaaGreatDoorDx
import Derived.Test.YtieemdcoomilaaaGreatDoorVd
set_option linter.unusedVariables false
set_option linter.unusedSimpArgs false
namespace Go.Proofs.YtieemdcoomilaaaGreatDoor
open Go Go.RowKit Go.Sort
set_option maxRecDepth 100000
theorem tpD_ok {d : Dk} (h : d.ok) (t : Nat) (b : Bool) : (Vt.tpD d t b).1.1.ok := by
  unfold Vt.tpD
  split
  · exact h
  · split
    · exact h
    · split
      · split
        · exact h
        · exact doD_ok h _ _ (fine_tr h _)
      · exact h
theorem tpD_len {d : Dk} (h : d.ok) {t : Nat} (ht : t < 32) (b : Bool) : (Vt.tpD d t b).2.length ≤ 1048576 := by
  have h1 := (scq_fs (d.T t).s).1
  have h2 := scq_len (d.T t).s _ 0 (Nat.le_refl _)
  have h3 := (h.t t ht).2
  have h4 : ((Vt.fs (Vt.tl (d.T t))).map (fun x => bs x.2)).length ≤ 1048576 := by
    show ((Vt.fs (d.T t).s.data.toList).map (fun x => bs x.2)).length ≤ _
    rw [← h1, List.length_map]; omega
  unfold Vt.tpD
  split
  · exact Nat.zero_le _
  · split
    · exact Nat.zero_le _
    · split
      · split
        · exact Nat.zero_le _
        · exact h4
      · exact h4
def cmb (acc : List ByteArray) (y : (Dk × Nat) × List ByteArray) : (Dk × Nat) × List ByteArray := if y.1.2 ≠ 0 then (y.1, []) else (y.1, acc ++ y.2)
theorem lgD_cons (t : Int) (r : List Int) (d : Dk) : Vt.lgD (t :: r) d = if (Vt.tpD d t.toNat r.isEmpty).1.2 ≠ 0 then ((Vt.tpD d t.toNat r.isEmpty).1, []) else cmb (Vt.tpD d t.toNat r.isEmpty).2 (Vt.lgD r (Vt.tpD d t.toNat r.isEmpty).1.1) := rfl
theorem cmb_cmb (a b : List ByteArray) (y : (Dk × Nat) × List ByteArray) : cmb a (cmb b y) = cmb (a ++ b) y := by
  unfold cmb
  by_cases h : y.1.2 ≠ 0
  · rw [if_pos h, if_pos h]; dsimp only; rw [if_pos h]
  · rw [if_neg h, if_neg h]; dsimp only; rw [if_neg h, List.append_assoc]
theorem last_here {l : List Int} (hn : l.Nodup) {k : Nat} (hk : k < l.length) : decide (l[k] = Vt.lz l) = (l.drop (k + 1)).isEmpty := by
  have hne : l ≠ [] := fun e => by rw [e] at hk; simp at hk
  have hz := lz_get hne
  rw [List.getElem?_eq_getElem (show l.length - 1 < l.length by omega)] at hz
  have hz := Option.some.inj hz
  by_cases h : k + 1 = l.length
  · have e1 : (l.drop (k + 1)).isEmpty = true := by rw [List.drop_eq_nil_of_le (by omega)]; rfl
    rw [e1]
    refine decide_eq_true ?_
    rw [← hz]
    congr 1
    omega
  · have e1 : (l.drop (k + 1)).isEmpty = false := by
      rw [List.drop_eq_getElem_cons (by omega)]; rfl
    rw [e1]
    refine decide_eq_false fun e => ?_
    rw [← hz] at e
    have := (List.getElem_inj hn).1 e
    omega
/-- A step of readLog's. -/
def rdC (bv bt bf : Nat) : Clo := ⟨87, #[], #[.pointer (some ⟨bv, 0, none⟩), .pointer (some ⟨bt, 0, none⟩), .pointer (some ⟨bf, 0, none⟩)]⟩
set_option maxHeartbeats 400000 in
theorem readLog1_any (bv bt bf : Nat) (pv pf : Value) (t : Int) (w : World) (Q : Int → World → Prop) (c1 : w.cell? ⟨bv, 0, none⟩ = some pv) (c2 : w.cell? ⟨bt, 0, none⟩ = some (.int .i64 t)) (c3 : w.cell? ⟨bf, 0, none⟩ = some pf)
    (H : Calls Tryz.prog 88 #[pv, .int .i64 t, pf] w fun e w' => ∃ r : Int, e = .returned (.int .i64 r) ∧ Q r w') :
    Calls Tryz.prog 87 #[.pointer (some ⟨bv, 0, none⟩), .pointer (some ⟨bt, 0, none⟩), .pointer (some ⟨bf, 0, none⟩)] w fun e w' => ∃ r : Int, e = .returned (.int .i64 r) ∧ Q r w' := by
  have HH := Lib.hid H
  clear H
  go_enter Tryz.func87, Tryz.ntmps87
  go_wp2_with fail
  refine HH.out.mono ?_
  rintro e w' ⟨r, rfl, hr⟩
  have HR := Lib.hid hr
  clear hr
  go_wp2
  go_ret
  exact ⟨r, rfl, HR.out⟩
/-- What readLog tells. -/
def RlE (w : World) (B F : Nat) (has : Bool) (sn : ByteArray) (x : (Dk × Nat) × List ByteArray) (e : Ending) (w' : World) : Prop :=
  e = .returned (.int .i64 (x.1.2 : Int)) ∧ Gv w w' B F ∧ DAt w' B x.1.1 ∧ x.1.1.ok ∧ (x.1.2 = 0 → x.2.length ≤ 100000000 ∧ ∃ rv, FAt w' F has sn rv ∧ Own w' w.heap.size rv (strs x.2))
def RlP (w0 : World) (V B F mo : Nat) (h : He) (n : Nat) (d : Dk) (has : Bool) (sn : ByteArray) (k : Nat) (W : World) : Prop := ∃ (d' : Dk) (rv : Value) (acc : List ByteArray), RtP w0 W V B F mo h n d' has sn rv acc ∧ d'.ok ∧ acc.length ≤ k * 1048576 ∧ Vt.lgD h.log d = cmb acc (Vt.lgD (h.log.drop k) d')
def RlQ (w0 : World) (B F : Nat) (h : He) (d : Dk) (r : Int) (W : World) : Prop := r = ((Vt.lgD h.log d).1.2 : Int) ∧ Gv w0 W B F ∧ DAt W B (Vt.lgD h.log d).1.1 ∧ (Vt.lgD h.log d).1.1.ok
theorem lgD_bad : ∀ (l : List Int) (d : Dk), (Vt.lgD l d).1.2 ≠ 0 → Vt.lgD l d = ((Vt.lgD l d).1, [])
  | [], _, h => absurd rfl h
  | t :: r, d, e => by
    rw [lgD_cons] at e ⊢
    by_cases e2 : (Vt.tpD d t.toNat r.isEmpty).1.2 ≠ 0
    · rw [if_pos e2]
    · rw [if_neg e2] at e ⊢
      unfold cmb at e ⊢
      by_cases e3 : (Vt.lgD r (Vt.tpD d t.toNat r.isEmpty).1.1).1.2 ≠ 0
      · rw [if_pos e3]
      · rw [if_neg e3] at e; exact absurd (by simpa using e3) e
/-- The steps, done. -/
theorem readLog_turn {w0 : World} {V B F mo : Nat} {h : He} {n : Nat} {v : Value} {d : Dk} {has : Bool} {sn : ByteArray} {bv bf base : Nat} {u : Value} {bts : List Nat} (hb : RtB w0 V B F mo h n v) (hd : DAt w0 B d) (hok : d.ok) (hf : FAt w0 F has sn (.slice none 0 0)) (hm : mayB h = true)
    (ho : Own w0 base u (bts.map fun b => (rdC bv b bf).v)) (hbase : B < base ∧ F < base) (hlen : bts.length = h.log.length)
    (c1 : w0.cell? ⟨bv, 0, none⟩ = some (.pointer (some ⟨V, 0, none⟩))) (c3 : w0.cell? ⟨bf, 0, none⟩ = some (.pointer (some ⟨F, 0, none⟩))) (n1 : bv ≠ B ∧ bv ≠ F) (n3 : bf ≠ B ∧ bf ≠ F)
    (c2 : ∀ j (hj : j < bts.length) (hj2 : j < h.log.length), w0.cell? ⟨bts[j], 0, none⟩ = some (.int .i64 h.log[j]) ∧ bts[j] ≠ B ∧ bts[j] ≠ F) :
    Calls Tryz.prog 41 #[u] w0 (RlE w0 B F has sn (Vt.lgD h.log d)) := by
  have kk := mayB_ok hm
  have mm := Vt.mayB_more hm
  obtain ⟨a, c, hv⟩ := ho.shape
  rw [List.length_map] at hv
  subst hv
  have hat : ∀ k (hk : k < bts.length), bts[k]?.getD 0 = bts[k] := fun k hk => by rw [List.getElem?_eq_getElem hk]; rfl
  refine (vturn_any bts.length (fun k => rdC bv (bts[k]?.getD 0) bf) a c w0
    (RlP w0 V B F mo h n d has sn) (RlQ w0 B F h d) (by rw [hlen]; have := kk.len; omega) ⟨d, _, [], ⟨Gv.refl _ _ _, hd, hf, Own.nil _ _⟩, hok, Nat.zero_le _, ?_⟩ ?_ ?_ ?_).mono ?_
  · rw [List.drop_zero]; unfold cmb
    by_cases e : (Vt.lgD h.log d).1.2 ≠ 0
    · rw [if_pos e]; exact lgD_bad _ _ e
    · rw [if_neg e]; rfl
  · intro hp
    rcases ho with ⟨e, e2⟩ | ⟨g, cap, e, hg, hlt, h1, h2, h4, h5⟩
    · have := congrArg List.length e2; simp at this; subst this; simp at hp
    · injection e with e1
      refine ⟨g, 0, e1, fun k hk W hW => ?_⟩
      obtain ⟨d', rv, acc, hP, _⟩ := hW
      rw [hat k hk, Nat.zero_add]
      refine hP.g.cell ?_ (by omega) (by omega)
      rw [h5 k (by rw [List.length_map]; exact hk), List.getElem?_map, List.getElem?_eq_getElem hk]
      rfl
  · intro k hk args W
    show (callFunc 87 args).run Tryz.prog W = .ok (.enter 87 args) W
    kernel_rfl
  · intro k hk W hW
    obtain ⟨d', rv, acc, hP, hok', hacc, heq⟩ := hW
    have hkl : k < h.log.length := by rw [← hlen]; exact hk
    have hmem := kk.mem _ (List.getElem_mem hkl)
    obtain ⟨x2, x3, x4⟩ := c2 k hk hkl
    rw [hat k hk]
    suffices key : Calls Tryz.prog 87 #[.pointer (some ⟨bv, 0, none⟩), .pointer (some ⟨bts[k], 0, none⟩), .pointer (some ⟨bf, 0, none⟩)] W (StRet (RlP w0 V B F mo h n d has sn (k + 1)) (RlQ w0 B F h d)) by
      have e : (rdC bv bts[k] bf).first ++ (rdC bv bts[k] bf).cap = #[.pointer (some ⟨bv, 0, none⟩), .pointer (some ⟨bts[k], 0, none⟩), .pointer (some ⟨bf, 0, none⟩)] := array_nil_app _
      rw [e]; exact key
    have hT : ((h.log[k].toNat : Nat) : Int) = h.log[k] := by omega
    have ht32 : h.log[k].toNat < 32 := by omega
    have hrt := readTape_any w0 W V B F mo h n v d' has sn rv acc h.log[k].toNat ht32 hb hP hok' kk.ne (by have := kk.len; omega)
    rw [hT, last_here mm.nd hkl] at hrt
    rw [List.drop_eq_getElem_cons hkl, lgD_cons] at heq
    refine readLog1_any bv bts[k] bf _ _ _ W (fun r w' => (r = 0 → RlP w0 V B F mo h n d has sn (k + 1) w') ∧ (r ≠ 0 → RlQ w0 B F h d r w')) (hP.g.cell c1 n1.1 n1.2) (hP.g.cell x2 x3 x4) (hP.g.cell c3 n3.1 n3.2) (hrt.mono ?_)
    rintro e W2 ⟨rfl, g2, d2, k2⟩
    have htl := tpD_len hok' ht32 (h.log.drop (k + 1)).isEmpty
    have hto := tpD_ok hok' h.log[k].toNat (h.log.drop (k + 1)).isEmpty
    generalize Vt.tpD d' h.log[k].toNat (h.log.drop (k + 1)).isEmpty = X at *
    refine ⟨_, rfl, fun h0 => ?_, fun h0 => ?_⟩
    · have h0' : X.1.2 = 0 := by omega
      obtain ⟨rv', f2, o2⟩ := k2 h0'
      refine ⟨X.1.1, rv', acc ++ X.2, ⟨g2, d2, f2, o2⟩, hto, by rw [List.length_append]; omega, ?_⟩
      rw [heq, if_neg (by omega), cmb_cmb]
    · have h0' : X.1.2 ≠ 0 := by omega
      have e1 : Vt.lgD h.log d = (X.1, []) := by rw [heq, if_pos h0']; unfold cmb; rw [if_pos h0']
      unfold RlQ
      rw [e1]
      exact ⟨rfl, g2, d2, hto⟩
  · rintro en W ⟨r, rfl, h1, h2⟩
    by_cases hr : r = 0
    · obtain ⟨d', rv, acc, hP, hok', hacc, heq⟩ := h1 hr
      rw [hlen, List.drop_length] at heq
      have e1 : Vt.lgD h.log d = ((d', 0), acc) := by rw [heq]; show cmb acc ((d', 0), []) = _; unfold cmb; rw [if_neg (by simp)]; rw [List.append_nil]
      rw [e1, hr]
      exact ⟨rfl, hP.g, hP.d, hok', fun _ => ⟨by rw [hlen] at hacc; have := kk.len; show acc.length ≤ _; omega, rv, hP.f, hP.o⟩⟩
    · obtain ⟨e, g2, d2, o2⟩ := h2 hr
      refine ⟨by rw [e], g2, d2, o2, fun e0 => ?_⟩
      omega
/-- Steps of readLog's, in a row. -/
structure Rds (w : World) (V F bv bf base : Nat) (u : Value) (bts : List Nat) (l : List Int) : Prop where
  o : Own w base u (bts.map fun b => (rdC bv b bf).v)
  n : bts.length = l.length
  c : ∀ j (hj : j < bts.length) (hj2 : j < l.length), w.cell? ⟨bts[j], 0, none⟩ = some (.int .i64 l[j]) ∧ base ≤ bts[j] ∧ u.ownBlock ≠ some bts[j]
theorem Rds.nil (w : World) (V F bv bf base : Nat) : Rds w V F bv bf base (.slice none 0 0) [] [] := ⟨Own.nil _ _, rfl, fun j hj => by simp at hj⟩
theorem Rds.snoc {w w' : World} {V F bv bf base : Nat} {u u' : Value} {bts : List Nat} {l : List Int} {t : Int} {b : Nat} (h : Rds w V F bv bf base u bts l) (hw : Below w.heap.size w w') (hb : w.heap.size ≤ b) (hc : w'.cell? ⟨b, 0, none⟩ = some (.int .i64 t)) (hbase : base ≤ w.heap.size) {w2 : World}
    (ho : Own w2 base u' ((bts.map fun b => (rdC bv b bf).v) ++ [(rdC bv b bf).v])) (hg : w'.grownBy w2 u.ownBlock) (ho2 : u'.ownBlock = u.ownBlock ∨ ∀ k, u'.ownBlock = some k → w'.heap.size ≤ k) : Rds w2 V F bv bf base u' (bts ++ [b]) (l ++ [t]) := by
  have hbl : b < w'.heap.size := World.block_lt_of_cell? w' _ hc
  refine ⟨by simpa using ho, by simp [h.n], fun j hj hj2 => ?_⟩
  have hn := h.n
  have key : ∀ b t, w'.cell? ⟨b, 0, none⟩ = some (.int .i64 t) → base ≤ b → u.ownBlock ≠ some b → w2.cell? ⟨b, 0, none⟩ = some (.int .i64 t) ∧ base ≤ b ∧ u'.ownBlock ≠ some b := fun b t c1 c2 c3 => by
    have hlt := World.block_lt_of_cell? w' _ c1
    refine ⟨(World.cell?_of_block (a := ⟨b, 0, none⟩) (hg.block b hlt (fun e => c3 e.symm))).trans c1, c2, fun e => ?_⟩
    rcases ho2 with e1 | e1
    · rw [e1] at e; exact c3 e
    · have := e1 b e
      have h4 : b < w'.heap.size := hlt
      omega
  by_cases hjl : j < bts.length
  · have hjl2 : j < l.length := by omega
    rw [List.getElem_append_left hjl, List.getElem_append_left hjl2]
    obtain ⟨c1, c2, c3⟩ := h.c j hjl hjl2
    have hlt := World.block_lt_of_cell? w _ c1
    exact key _ _ ((World.cell?_of_block (a := ⟨bts[j], 0, none⟩) (hw.block _ hlt)).trans c1) c2 c3
  · rw [List.length_append] at hj hj2
    simp only [List.length_cons, List.length_nil] at hj hj2
    have e1 : j = bts.length := by omega
    subst e1
    rw [List.getElem_append_right (Nat.le_refl _), List.getElem_append_right (by omega)]
    simp only [Nat.sub_self, hn, List.getElem_cons_zero]
    refine key b t hc (Nat.le_trans hbase hb) (fun e => ?_)
    have := (h.o.lt b e).2
    omega
set_option maxHeartbeats 1000000 in
theorem readLog_any (w : World) (V B F mo : Nat) (h : He) (n : Nat) (v : Value) (d : Dk) (has : Bool) (sn : ByteArray) (hb : RtB w V B F mo h n v) (hd : DAt w B d) (hok : d.ok) (hf : FAt w F has sn (.slice none 0 0)) (hm : mayB h = true) :
    Calls Tryz.prog 49 #[.pointer (some ⟨V, 0, none⟩), .pointer (some ⟨F, 0, none⟩)] w (RlE w B F has sn (Vt.lgD h.log d)) := by
  have kk := mayB_ok hm
  have hll := kk.len
  obtain ⟨g, o, c, hvv, -⟩ := hb.at0.k.pos kk.ne
  obtain ⟨L, hL⟩ : ∃ L, h.log.length = L := ⟨_, rfl⟩
  rw [hL] at hvv hll
  have hB2 := below_two w (.cells #[.pointer (some ⟨V, 0, none⟩)] 23) (.cells #[.pointer (some ⟨F, 0, none⟩)] 79)
  have con : ((w.alloc (.cells #[.pointer (some ⟨V, 0, none⟩)] 23)).alloc (.cells #[.pointer (some ⟨F, 0, none⟩)] 79)).cell? ⟨V, 5, none⟩ = some (.slice (some ⟨g, o, none⟩) L c) := by
    have := (hb.at0.below hB2 (Nat.le_refl _)).l
    rw [hvv] at this; exact this
  obtain ⟨c1, c2⟩ := cell_two (w := w) (x := .pointer (some ⟨V, 0, none⟩)) (y := .pointer (some ⟨F, 0, none⟩)) (s := 23) (t := 79)
  have hz2 : ((w.alloc (.cells #[.pointer (some ⟨V, 0, none⟩)] 23)).alloc (.cells #[.pointer (some ⟨F, 0, none⟩)] 79)).heap.size = w.heap.size + 2 := by rw [World.size_alloc, World.size_alloc]
  have HC1 := Lib.hid c1
  have HC2 := Lib.hid c2
  have HZ2 := Lib.hid hz2
  have HB := Lib.hid hb
  have HD := Lib.hid hd
  have HF := Lib.hid hf
  have HK := Lib.hid (show KAt w (.slice (some ⟨g, o, none⟩) L c) h.log by rw [← hvv]; exact hb.at0.k)
  have HL := Lib.hid hL
  have HB2 := Lib.hid hB2
  have lV := hb.at0.lt
  have lB := hb.lB
  have lF := hb.lF
  obtain ⟨i0, hi, hz0, hz1, hz2'⟩ := info_parts info84
  have hmf : ∀ (fn : Fn) (first cap : Array Value) (w : World), (Instr.makeFunc fn first cap).run Tryz.prog w = .ok (.func fn first cap) w := fun _ _ _ _ => rfl
  clear hb hd hf hvv hL hB2 c2 hz2
  generalize hW : (w.alloc (.cells #[.pointer (some ⟨V, 0, none⟩)] 23)).alloc (.cells #[.pointer (some ⟨F, 0, none⟩)] 79) = W0 at *
  have HW := Lib.hid hW
  go_enter Tryz.func49, Tryz.ntmps49
  go_wp2_with fail
  clear hW
  go_loopw [5, 14] (fun s i wl => ∃ (k : Nat) (bts : List Nat), i = .int .i64 (k : Int) ∧ k ≤ L ∧ Hid (Below w.heap.size w wl) ∧ Hid (Below W0.heap.size W0 wl) ∧ Hid (Rds wl V F w.heap.size (w.heap.size + 1) (w.heap.size + 2) s bts (h.log.take k))) (fun _ i _ => L - (intOf i).toNat)
  case atStart => exact ⟨0, [], rfl, by omega, HB2, Lib.hid (Below.refl _ _), Lib.hid (Rds.nil _ _ _ _ _ _)⟩
  case round =>
    obtain ⟨k, bts, rfl, hk, HBw, HBW, HR⟩ := hrel
    by_cases hlt : k < L
    · have hkl : k < h.log.length := by rw [HL.out]; exact hlt
      have hc := (HK.out.below HBw.out (Nat.le_refl _)).at k hkl
      have HE : Hid (h.log.take (k + 1) = h.log.take k ++ [h.log[k]]) := Lib.hid (List.take_succ_eq_append_getElem hkl)
      generalize h.log[k] = t at *
      have hsz := HBW.out.size
      have hz2 := HZ2.out
      have hln := HR.out.n
      have hA : Below wr.heap.size wr ((wr.alloc (.cells #[.int .i64 t] 3)).alloc (.cells #[(rdC w.heap.size wr.heap.size (w.heap.size + 1)).v] 84)) := below_two _ _ _
      have hA1 : Below wr.heap.size wr (wr.alloc (.cells #[.int .i64 t] 3)) := below_one _ _
      have hO := HR.out.o
      have HO1 := Lib.hid ((hO.alloc (.cells #[.int .i64 t] 3)).alloc (.cells #[(rdC w.heap.size wr.heap.size (w.heap.size + 1)).v] 84))
      have HSB : Hid (Src Tryz.prog 1 90 (.slice (some ⟨wr.heap.size + 1, 0, none⟩) 1 1) 1 [(rdC w.heap.size wr.heap.size (w.heap.size + 1)).v] ((wr.alloc (.cells #[.int .i64 t] 3)).alloc (.cells #[(rdC w.heap.size wr.heap.size (w.heap.size + 1)).v] 84))) := Lib.hid (src_at Tryz.underlying90 (by
        refine one_cell (t := 84) ?_
        have := heap_alloc_new (wr.alloc (.cells #[.int .i64 t] 3)) (.cells #[(rdC w.heap.size wr.heap.size (w.heap.size + 1)).v] 84)
        rwa [World.size_alloc] at this) rfl)
      have hbt : ((wr.alloc (.cells #[.int .i64 t] 3)).alloc (.cells #[(rdC w.heap.size wr.heap.size (w.heap.size + 1)).v] 84)).cell? ⟨wr.heap.size, 0, none⟩ = some (.int .i64 t) := one_cell (t := 3) ((Below.heap_alloc _ _ _ (by rw [World.size_alloc]; omega)).trans (heap_alloc_new _ _))
      have HBT := Lib.hid hbt
      have HA := Lib.hid hA
      have HLEN : Hid ((bts.map fun b => (rdC w.heap.size b (w.heap.size + 1)).v).length ≤ 100) := Lib.hid (by rw [List.length_map, hln, List.length_take]; omega)
      clear hO hA hA1 hbt hln
      unfold rdC Clo.v at HSB
      generalize hLv : (bts.map fun b => (rdC w.heap.size b (w.heap.size + 1)).v) = LV at *
      have HLV := Lib.hid hLv
      clear hLv
      unfold rdC Clo.v at HO1 HA HBT
      go_wp2_with (at_builtin; refine wpList_append_Own _ rfl (.tmp 18) (.tmp 20) 90 90 rfl (w.heap.size + 2) 84 i0 .nilFunc 8 Tryz.underlying90 hi hz0 hz1 hz2' rfl _ LV rfl HO1.out _ 1 _ rfl HSB.out ?c1 ?c2 ?c3 ?_; rotate_right; intro v' w3 hown1 hgr hwh; have HO2 := Lib.hid hown1; have HG := Lib.hid hgr; have HH := Lib.hid hwh; clear hown1 hgr hwh)
      case c1 => have := HLEN.out; omega
      case c2 => have := HLEN.out; omega
      case c3 => first | omega | (rw [World.size_alloc, World.size_alloc]; omega)
      have HRN : Hid (Rds w3 V F w.heap.size (w.heap.size + 1) (w.heap.size + 2) v' (bts ++ [wr.heap.size]) (h.log.take (k + 1))) := Lib.hid (by
        rw [HE.out]
        exact HR.out.snoc HA.out (Nat.le_refl _) HBT.out (by omega) (by rw [HLV.out]; exact HO2.out) HG.out HH.out)
      have HBn := Lib.hid ((HBw.out.trans (HA.out.mono HBw.out.size)).grown HG.out (Nat.le_trans HBw.out.size HA.out.size) (fun q hq => by have := (HR.out.o.lt q hq).1; omega))
      have HWn := Lib.hid ((HBW.out.trans (HA.out.mono HBW.out.size)).grown HG.out (Nat.le_trans HBW.out.size HA.out.size) (fun q hq => by have := (HR.out.o.lt q hq).1; omega))
      go_wp2
      go_roundw
      case rel => exact ⟨k + 1, bts ++ [wr.heap.size], by go_num, by omega, HBn, HWn, HRN⟩
      case measure => simp [intOf]; omega
    · obtain rfl : k = L := by omega
      have e2 : h.log.take k = h.log := by rw [← HL.out, List.take_length]
      rw [e2] at HR
      have hb2 := HB.out
      have hbw := HBw.out
      have hrb : RtB wr V B F mo h n v := ⟨hb2.at0.below hbw (Nat.le_refl _), hb2.t.below hbw, hb2.nVB, hb2.nVF, hb2.nBF, hb2.b0, hb2.f0, hb2.vF, Nat.lt_of_lt_of_le lB hbw.size, Nat.lt_of_lt_of_le lF hbw.size⟩
      have hw0 := HZ2.out
      have HT := Lib.hid (readLog_turn hrb (HD.out.below hbw lB) hok (HF.out.below hbw lF) hm HR.out.o ⟨by omega, by omega⟩ HR.out.n
        ((World.cell?_of_block (a := ⟨w.heap.size, 0, none⟩) (HBW.out.block w.heap.size (by omega))).trans HC1.out) ((World.cell?_of_block (a := ⟨w.heap.size + 1, 0, none⟩) (HBW.out.block (w.heap.size + 1) (by omega))).trans HC2.out) ⟨by omega, by omega⟩ ⟨by omega, by omega⟩ (fun j hj hj2 => by
          obtain ⟨c1, c2, c3⟩ := HR.out.c j hj hj2
          exact ⟨c1, by omega, by omega⟩))
      clear e2 hb2 hbw hrb
      go_wp2_with fail
      refine HT.out.mono ?_
      rintro e w4 ⟨rfl, g4, d4, o4, k4⟩
      have G4 := Lib.hid g4
      have D4 := Lib.hid d4
      have O4 := Lib.hid o4
      have K4 := Lib.hid k4
      clear g4 d4 o4 k4
      go_wp2
      go_ret
      refine ⟨rfl, (Gv.of_below HBw.out B F).trans G4.out, D4.out, O4.out, fun e0 => ?_⟩
      obtain ⟨z1, rv, z2, z3⟩ := K4.out e0
      exact ⟨z1, rv, z2, z3.mono HBw.out.size⟩
end Go.Proofs.YtieemdcoomilaaaGreatDoor
