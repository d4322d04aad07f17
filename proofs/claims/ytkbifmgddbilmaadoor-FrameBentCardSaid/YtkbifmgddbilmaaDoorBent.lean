/- FrameBent: for any parts, any place and any bits the law answers true. Condition: the table of package sum reads as its initialiser lays it (tied to the program's text by the card). -/
import Derived.Test.YtkbifmgddbilmaaDoorCards
import Derived.Test.YtkbifmgddbilmaaDoorTie
import Derived.Test.YtkbifmgddbilmaaDoorSf
import Derived.Test.YtkbifmgddbilmaaDoorRo
import Derived.Test.YtkbifmgddbilmaaDoorBn
import Derived.Deep.QuietTactic
import Derived.SevenTiedAt
namespace Go.Proofs.YtkbifmgddbilmaaDoor.frameBent
open Go Go.ChangeShapes Go.WideShapes Go.ChangeAt Go.RowKit
open Go.ChangeMaps (open_string shut_string)
set_option linter.unusedVariables false
open Go.Sort
set_option maxRecDepth 100000
theorem pq_take (l : List Prt) (j : Nat) : pq (l.take j) = (pq l).take j := by unfold pq; rw [List.map_take]
theorem pq_len (l : List Prt) (h : Nat) (h1 : h < (pq l).length) (h2 : h < l.length) : (pq l)[h].2.length = l[h].p.size := by
  have e : (pq l)[h] = pq1 l[h] := by simp [pq]
  rw [e]
  simp [pq1]
theorem want_take (l : List Prt) (j : Nat) : want (l.take j) = (want l).take j := by
  unfold want
  rw [pq_take, ← List.map_take]
  congr 1
  rcases Nat.lt_or_ge j (pq l).length with h | h
  · have e := Fr.wnt_append ((pq l).take j) ((pq l).drop j) 0
    rw [List.take_append_drop] at e
    rw [e, List.take_left' (by rw [Fr.wnt_length, List.length_take]; omega)]
  · rw [List.take_of_length_le h, List.take_of_length_le (by rw [Fr.wnt_length]; exact h)]
theorem At3.take {w : World} {a : Option Addr} {L c j : Nat} {l : List Fq} (h : At3 w (.slice a L c) l) (hL : l.length = L) (hj : j ≤ L) (c' : Nat) : At3 w (.slice a j c') (l.take j) := by
  subst hL
  rcases h with ⟨rfl, b, d, e⟩ | ⟨g, o, d, e, h⟩
  · simp at hj
    subst hj
    exact .inl ⟨rfl, _, _, rfl⟩
  · injection e with e1 _ _
    subst e1
    refine .inr ⟨g, o, c', by rw [List.length_take, Nat.min_eq_left hj], fun i hi => ?_⟩
    rw [List.length_take] at hi
    rw [List.getElem_take]
    exact h i (by omega)
theorem want_at (l : List Prt) (j : Nat) (h : j < l.length) (h2 : j < (want l).length) : (want l)[j].p = l[j].p ∧ (want l)[j].a = ((Fr.row (pq (l.take j))).length : Int) := by
  have e := want_take1 l j h
  rw [want_take, want_take] at e
  rw [List.take_succ_eq_append_getElem h2] at e
  have e2 := List.append_cancel_left e
  injection e2 with e3 _
  rw [e3]
  exact ⟨rfl, rfl⟩
/-- Where the frame stands that has the byte. -/
structure Hit (l : List Prt) (k h : Nat) : Prop where
  lt : h < l.length
  le : (Fr.row (pq (l.take h))).length ≤ k
  hi : k < (Fr.row (pq (l.take h))).length + (9 + (l[h]'lt).p.size)
theorem bent_scan (l : List Prt) (h6 : lgn l < 6000) (k h : Nat) (H : Hit l k h) (c : UInt8) (hk : k < (Fr.row (pq l)).length) (T : ByteArray) (hT : T = bs ((Fr.row (pq l)).set k ((Fr.row (pq l))[k] ^^^ c))) :
    (∃ more, scq T 0 = (want l).take h ++ more) ∧ (Fr.row (pq (l.take h))).length ≤ sce T 0 := by
  have hlt : h < (pq l).length := by unfold pq; rw [List.length_map]; exact H.lt
  obtain ⟨i, hi⟩ : ∃ i, k = (Fr.row ((pq l).take h)).length + i := ⟨k - (Fr.row ((pq l).take h)).length, by have := H.le; rw [pq_take] at this; omega⟩
  have hp : (pq l)[h].2.length = (l[h]'H.lt).p.size := pq_len l h hlt H.lt
  have hi9 : i < 9 + (pq l)[h].2.length := by have := H.hi; rw [pq_take] at this; rw [hp]; omega
  subst hi
  have e := Fr.row_bent (pq l) h hlt i hi9 c hk
  have eb : bh T 0 = Fr.row ((pq l).take h) ++ ((Fr.frm (pq l)[h].1 (pq l)[h].2).set i ((Fr.frm (pq l)[h].1 (pq l)[h].2)[i]'(by rw [Fr.frm_length]; exact hi9) ^^^ c) ++ Fr.row ((pq l).drop (h + 1))) := by
    rw [hT]; exact e
  have hok := pq_ok l h6
  unfold scq sce
  rw [eb, Fr.scn_row ((pq l).take h) _ 0 (fun x hx => hok x (List.mem_of_mem_take hx)), List.map_append]
  refine ⟨⟨List.map qf (Fr.scn ((Fr.frm (pq l)[h].1 (pq l)[h].2).set i ((Fr.frm (pq l)[h].1 (pq l)[h].2)[i]'(by rw [Fr.frm_length]; exact hi9) ^^^ c) ++ Fr.row ((pq l).drop (h + 1))) (0 + (Fr.row ((pq l).take h)).length)).1, ?_⟩, ?_⟩
  · rw [← want_take]
    unfold want
    rw [pq_take]
  · rw [pq_take]
    dsimp only
    have := Fr.scn_on _ ((Fr.frm (pq l)[h].1 (pq l)[h].2).set i ((Fr.frm (pq l)[h].1 (pq l)[h].2)[i]'(by rw [Fr.frm_length]; exact hi9) ^^^ c) ++ Fr.row ((pq l).drop (h + 1))) (0 + (Fr.row ((pq l).take h)).length) (Nat.le_refl _)
    omega
theorem bent_read (l : List Prt) (h6 : lgn l < 6000) (k h : Nat) (H : Hit l k h) (c : UInt8) (hc : c ≠ 0) (hk : k < (Fr.row (pq l)).length) (T : ByteArray) (hT : T = bs ((Fr.row (pq l)).set k ((Fr.row (pq l))[k] ^^^ c)))
    (hg : Fr.Good (bh T (Fr.row (pq (l.take h))).length)) : Fr.ln (bh T (Fr.row (pq (l.take h))).length) ≠ (l[h]'H.lt).p.size ∧ k < (Fr.row (pq (l.take h))).length + 4 := by
  have hlt : h < (pq l).length := by unfold pq; rw [List.length_map]; exact H.lt
  obtain ⟨i, hi⟩ : ∃ i, k = (Fr.row ((pq l).take h)).length + i := ⟨k - (Fr.row ((pq l).take h)).length, by have := H.le; rw [pq_take] at this; omega⟩
  have hp : (pq l)[h].2.length = (l[h]'H.lt).p.size := pq_len l h hlt H.lt
  have hi9 : i < 9 + (pq l)[h].2.length := by have := H.hi; rw [pq_take] at this; rw [hp]; omega
  subst hi
  have e := Fr.row_bent (pq l) h hlt i hi9 c hk
  have hok := pq_ok l h6 _ (List.getElem_mem hlt)
  rw [pq_take] at hg ⊢
  have eb : bh T (Fr.row ((pq l).take h)).length = (Fr.frm (pq l)[h].1 (pq l)[h].2).set i ((Fr.frm (pq l)[h].1 (pq l)[h].2)[i]'(by rw [Fr.frm_length]; exact hi9) ^^^ c) ++ Fr.row ((pq l).drop (h + 1)) := by
    unfold bh
    rw [hT, bs_data, e, List.drop_left' rfl]
  rw [eb] at hg ⊢
  have hb := Fr.bent _ _ _ hok.2 i (by rw [Fr.frm_length]; exact hi9) c hc hg
  rw [← hp]
  exact ⟨hb.1, by omega⟩
theorem xor8 (a b : UInt8) : bits .xor .u8 (a.toNat : Int) (b.toNat : Int) = ((a ^^^ b).toNat : Int) := by
  rw [u8_xor_nat _ _ a.toNat_lt b.toNat_lt, UInt8.toNat_xor]
theorem own_cell {w : World} {base g n cap : Nat} {xs : List UInt8} (h : Own w base (.slice (some ⟨g, 0, none⟩) n cap) (xs.map bv)) (i : Nat) (hi : i < xs.length) :
    w.cell? ⟨g, i, none⟩ = some (.int .u8 (xs[i].toNat)) ∧ w.frozen? ⟨g, i, none⟩ = false := by
  obtain ⟨g', cap', e, _, _, _, h5⟩ := h.pos (by rw [List.length_map]; omega)
  injection e with e1 _ _
  injection e1 with e2
  injection e2 with e3
  subst e3
  have := h5 i (by rw [List.length_map]; exact hi)
  refine ⟨?_, this.2⟩
  rw [this.1, List.getElem?_map, List.getElem?_eq_getElem hi]; rfl
theorem own_set {w : World} {base g n cap : Nat} {xs : List UInt8} (h : Own w base (.slice (some ⟨g, 0, none⟩) n cap) (xs.map bv)) (i : Nat) (hi : i < xs.length) (b : UInt8) :
    Own (w.setCell ⟨g, i, none⟩ (.int .u8 (b.toNat : Int))) base (.slice (some ⟨g, 0, none⟩) n cap) ((xs.set i b).map bv) := by
  rw [List.map_set]
  exact h.stored' i (by rw [List.length_map]; exact hi) _
theorem prt_len {w : World} {v : Value} {l : List Prt} (h : PAt w v l) : ∃ a c, v = .slice a l.length c := by
  rcases h with ⟨rfl, a, c, rfl⟩ | ⟨g, o, c, rfl, _⟩
  · exact ⟨_, _, rfl⟩
  · exact ⟨_, _, rfl⟩
theorem longA (l : List Prt) (v : Value) (n b : Int) (w : World) (h : Arg w v l) (hl : 6000 ≤ lgn l ∨ (lgn l < 6000 ∧ (l.length = 0 ∨ b = 0))) (hT : Hid (Tab w)) : Calls Tryd.prog 9 #[v, .int .i64 n, .int .u8 b] w (Ret w (.bool true)) := by
  have C := long_any l v w h
  obtain ⟨va, vc, rfl⟩ := prt_len h.at'
  rcases hl with hl | ⟨hl, hl2⟩
  · rw [decide_eq_true hl] at C
    have HC := Lib.hid C
    clear C h hl
    generalize l.length = L at *
    go_enter Tryd.func9, Tryd.ntmps9
    go_wp2_with fail
    refine HC.out.mono ?_
    rintro e w' ⟨rfl, rfl⟩
    go_wp2_with fail
    refine (awake_any _ hT).mono ?_
    rintro e w1 ⟨rfl, hb1⟩
    have HB1 := Lib.hid hb1
    clear hb1
    go_wp2
    go_ret
    exact ⟨rfl, HB1.out⟩
  · rw [decide_eq_false (by omega)] at C
    generalize l.length = L at *
    by_cases hL : L = 0
    · have hz : ((L : Int) == 0) = true := by rw [beq_iff_eq]; omega
      have HC := Lib.hid C
      clear C h hl hl2 hL
      go_enter Tryd.func9, Tryd.ntmps9
      go_wp2_with fail
      refine HC.out.mono ?_
      rintro e w' ⟨rfl, rfl⟩
      go_wp2_with fail
      refine (awake_any _ hT).mono ?_
      rintro e w1 ⟨rfl, hb1⟩
      have HB1 := Lib.hid hb1
      clear hb1
      go_wp2
      go_ret
      exact ⟨rfl, HB1.out⟩
    · have hz : ((L : Int) == 0) = false := by rw [beq_eq_false_iff_ne]; omega
      have hb : b = 0 := by omega
      subst hb
      have HC := Lib.hid C
      clear C h hl hl2 hL
      go_enter Tryd.func9, Tryd.ntmps9
      go_wp2_with fail
      refine HC.out.mono ?_
      rintro e w' ⟨rfl, rfl⟩
      go_wp2_with fail
      refine (awake_any _ hT).mono ?_
      rintro e w1 ⟨rfl, hb1⟩
      have HB1 := Lib.hid hb1
      clear hb1
      go_wp2
      go_ret
      exact ⟨rfl, HB1.out⟩
set_option maxHeartbeats 4000000 in
theorem main (l : List Prt) (v : Value) (n : Int) (c : UInt8) (w : World) (h : Arg w v l) (hl : lgn l < 6000) (hl1 : 0 < l.length) (hc : c ≠ 0) (hT : Hid (Tab w)) : Calls Tryd.prog 9 #[v, .int .i64 n, .int .u8 (c.toNat : Int)] w (Ret w (.bool true)) := by
  have C := long_any l v w h
  rw [decide_eq_false (by omega)] at C
  have HC := Lib.hid C
  have hrows := fun W (hW : Tab W) (hA : PAt W v l) => rows_any l hl v W hA (Lib.hid hW)
  have hrl := row_len l hl
  obtain ⟨R, hR⟩ : ∃ R, Fr.row (pq l) = R := ⟨_, rfl⟩
  obtain ⟨S, hS⟩ : ∃ S, bs R = S := ⟨_, rfl⟩
  have hSz : S.size = R.length := by rw [← hS, bs_size]
  have hR0 : 0 < R.length := by
    rw [← hR]
    obtain ⟨x, r, hx⟩ : ∃ x r, l = x :: r := by
      cases l with
      | nil => simp at hl1
      | cons x r => exact ⟨x, r, rfl⟩
    rw [hx]
    show 0 < (Fr.frm (kdd x.k) x.p.data.toList ++ Fr.row (pq r)).length
    rw [List.length_append, Fr.frm_length]; omega
  have hS6 : S.size ≤ 6000 := by rw [hSz, ← hR]; omega
  have hS0 : 0 < S.size := by omega
  obtain ⟨N, hN⟩ := Int.eq_ofNat_of_zero_le (a := IntKind.u64.wrap n) (by rw [IntKind.wrap_u64]; omega)
  obtain ⟨k, hk⟩ : ∃ k : Nat, (N : Int) % (S.size : Int) = (k : Int) := Int.eq_ofNat_of_zero_le (Int.emod_nonneg _ (by omega))
  have hk2 : k < S.size := by have := Int.emod_lt_of_pos (N : Int) (show (0 : Int) < (S.size : Int) by omega); omega
  have hkR : k < R.length := by omega
  obtain ⟨T, hTd⟩ : ∃ T, bs (R.set k (R[k] ^^^ c)) = T := ⟨_, rfl⟩
  have hTz : T.size ≤ 6000 := by rw [← hTd, bs_size, List.length_set]; omega
  have hsc : ∀ h, Hit l k h → ∃ more, scq T 0 = (want l).take h ++ more ∧ (Fr.row (pq (l.take h))).length ≤ sce T 0 := fun h H => by
    subst hR
    obtain ⟨⟨more, e⟩, e2⟩ := bent_scan l hl k h H c hkR T hTd.symm
    exact ⟨more, e, e2⟩
  have hrd : ∀ h (H : Hit l k h), Fr.Good (bh T (Fr.row (pq (l.take h))).length) → Fr.ln (bh T (Fr.row (pq (l.take h))).length) ≠ (l[h]'H.lt).p.size ∧ k < (Fr.row (pq (l.take h))).length + 4 := fun h H hg => by
    subst hR
    exact bent_read l hl k h H c hc hkR T hTd.symm hg
  have hscan := fun (W : World) (hW : Tab W) => scan_any T 0 (by omega) W (by omega) (Lib.hid hW)
  have hscl : (scq T 0).length ≤ 6000 := by have := scq_len T _ 0 (Nat.le_refl _); omega
  obtain ⟨vb, wb, hcv, hO, hSt⟩ : True ∧ True ∧ True ∧ True ∧ True := ⟨trivial, trivial, trivial, trivial, trivial⟩
  unfold Rows at hrows
  rw [hR, hS] at hrows
  have hcnt := lgn_count l
  have hwl := want_len l
  have hlen : l.length ≤ 150 := by omega
  have hstep : Hid (∀ j (h : j < l.length) (h2 : j < (want l).length), (Fr.row (pq (l.take (j + 1)))).length = (Fr.row (pq (l.take j))).length + (9 + l[j].p.size) ∧ (want l)[j].p = l[j].p ∧ (want l)[j].a = ((Fr.row (pq (l.take j))).length : Int) ∧ l[j].p.size ≤ 6000 ∧ (Fr.row (pq (l.take j))).length ≤ 6000) := by
    refine Lib.hid fun j hj hj2 => ?_
    have e := row_take1 l j hj
    have e1 := congrArg List.length e
    rw [List.length_append, Fr.frm_length] at e1
    have hp : l[j].p.data.toList.length = l[j].p.size := by simp
    rw [hp] at e1
    have h3 := row_len (l.take (j + 1)) (by have := lgn_take_le l (j + 1); omega)
    have h4 := lgn_take_le l (j + 1)
    exact ⟨e1, (want_at l j hj hj2).1, (want_at l j hj hj2).2, by omega, by omega⟩
  have hend : (Fr.row (pq (l.take l.length))).length = S.size := by rw [List.take_length, hR, hSz]
  have HALL : Hid (∀ j v v' W, At3 W v ((want l).take j) → At3 W v' ((want l).take j) → Calls Tryd.prog 17 #[v, v'] W (Ret W (.bool true))) := Lib.hid fun j v v' W h1 h2 => all_true _ (by rw [List.length_take]; omega) v v' W h1 h2
  have HP := Lib.hid h.at'
  have HRW := Lib.hid hrows
  have HSC := Lib.hid hsc
  have HRD := Lib.hid hrd
  have HSN := Lib.hid hscan
  have HSL := Lib.hid hscl
  have HTD := Lib.hid hTd
  have HSD := Lib.hid hS
  have HSZ := Lib.hid hSz
  have HTS : Hid (T.size = S.size) := Lib.hid (by rw [← hTd, bs_size, List.length_set, hSz])
  have HK := Lib.hid hk
  obtain ⟨va, vc, hv0⟩ := prt_len h.at'
  obtain ⟨L, hL⟩ : ∃ L, l.length = L := ⟨_, rfl⟩
  have HL := Lib.hid hL
  rw [hL] at hwl hlen hl1 hv0 hend
  have HEND := Lib.hid hend
  have HWL := Lib.hid hwl
  have HLGN := Lib.hid hl
  have hLz : ((L : Int) == 0) = false := by rw [beq_eq_false_iff_ne]; omega
  have hcz : ((c.toNat : Int) == 0) = false := by
    rw [beq_eq_false_iff_ne]
    intro e
    exact hc (UInt8.toNat.inj (by rw [show (0 : UInt8).toNat = 0 from rfl]; omega))
  have hc8 := c.toNat_lt
  subst hv0
  clear C h hrows hrl hR hS hSz hcnt hwl hL hl hsc hrd hscan hscl hTd hend hc vb wb hcv hO hSt hR0
  go_enter Tryd.func9, Tryd.ntmps9
  go_wp2_with fail
  refine HC.out.mono ?_
  rintro e w' ⟨rfl, rfl⟩
  go_wp2_with fail
  refine (awake_any _ hT).mono ?_
  rintro e w1 ⟨rfl, hb1⟩
  have HB1 := Lib.hid hb1
  clear hb1
  go_wp2_with fail
  refine (HRW.out _ (hT.out.below HB1.out) (HP.out.below HB1.out (Nat.le_refl _))).mono ?_
  rintro e w2 ⟨v2, rfl, ho2, hb2⟩
  have HB2 := Lib.hid (below_chain HB1.out hb2)
  have ho := ho2.at
  have hvc : ∃ va vc, v2 = .slice va L vc ∧ L ≤ vc ∧ vc ≤ 9223372036854775807 := by
    have h := ho2
    unfold O3 at h
    rw [HWL.out] at h
    rcases h.2 with ⟨e, h0⟩ | ⟨g, cap, cur, e, hg, hh, hcap, hm, _⟩
    · exact ⟨_, _, by rw [e, h0], by omega, by omega⟩
    · exact ⟨_, _, e, hcap, by unfold maxLen at hm; omega⟩
  obtain ⟨va2, vc2, hv, hvc1, hvc2⟩ := hvc
  subst hv
  have HO2 := Lib.hid ho
  have hshape : ∃ g o, va2 = some ⟨g, o, none⟩ ∧ g < w2.heap.size ∧
      Hid (∀ j (h : j < (want l).length), w2.cell? ⟨g, o + j * 3, none⟩ = some (.int .u8 (want l)[j].k) ∧ w2.cell? ⟨g, o + j * 3 + 1, none⟩ = some (.string (want l)[j].p) ∧ w2.cell? ⟨g, o + j * 3 + 2, none⟩ = some (.int .i64 (want l)[j].a)) := by
    rcases ho with ⟨h0, b, c, hv⟩ | ⟨g, o, c, hv, h⟩
    · exfalso
      have := HWL.out
      rw [h0] at this
      simp at this; omega
    · injection hv with e1 _ _
      exact ⟨g, o, e1, World.block_lt_of_cell? w2 ⟨g, _, none⟩ (h 0 (by rw [HWL.out]; exact hl1)).1, Lib.hid h⟩
  obtain ⟨g2, o2, rfl, hg2, HCW⟩ := hshape
  clear hb2 ho2 ho
  obtain ⟨v3, w3, hcv, hO, hSt⟩ := run_bytes (P := Tryd.prog) w2 w2.heap.size 9 46 5 S Tryd.underlying9 Tryd.underlying46 Tryd.underlying5 (Nat.le_refl _) (by omega)
  have hB3 := hSt.below (B := w2.heap.size) (Nat.le_refl _) (fun k hk => by cases hk)
  obtain ⟨g3, cap3, rfl, hg3, hg31, hcap3, hcell3⟩ := hO.pos (by simp; exact hS0)
  have hlS : (S.data.toList.map bv).length = S.size := by simp
  rw [hlS] at hO hcv
  have hkl : k < S.data.toList.length := by simpa using hk2
  obtain ⟨hcl, hfr⟩ := own_cell hO k hkl
  have hx8 := xor8 S.data.toList[k] c
  have hset := own_set hO k hkl (S.data.toList[k] ^^^ c)
  have hTl : S.data.toList.set k (S.data.toList[k] ^^^ c) = T.data.toList := by
    rw [← HTD.out, bs_data]
    simp only [← HSD.out, bs_data]
  rw [hTl] at hset
  have hxl := S.data.toList[k].toNat_lt
  generalize (S.data.toList[k] ^^^ c).toNat = y at *
  generalize S.data.toList[k].toNat = x at *
  obtain ⟨w4, hw4⟩ : ∃ w4, w3.setCell ⟨g3, k, none⟩ (.int .u8 (y : Int)) = w4 := ⟨_, rfl⟩
  rw [hw4] at hset
  have hB4 : Below w2.heap.size w2 w4 := by rw [← hw4]; exact hB3.setCell hg3 _
  have HW4 := Lib.hid hw4
  have HB4 := Lib.hid (below_chain HB2.out hB4)
  have HO4 := Lib.hid hset
  have HB24 := Lib.hid hB4
  clear hB3 hB4 hO hSt hlS hcell3 hTl hset hw4
  go_wp2_with fail
  rw [HW4.out]
  go_loop [11] (fun z => ∃ j : Nat, j < L ∧ z = .int .i64 (j : Int) ∧ Hid ((Fr.row (pq (l.take j))).length ≤ k)) (fun z => L - (intOf z).toNat)
  case atStart => exact ⟨0, hl1, rfl, Lib.hid (by simp [pq, Fr.row])⟩
  case round =>
    clear HK hcl hfr hcv
    obtain ⟨j, hj, rfl, HJ⟩ := hrel
    by_cases hlt : j + 1 < L
    · have hjw : j + 1 < (want l).length := by rw [HWL.out]; exact hlt
      have hjl : j + 1 < l.length := by rw [HL.out]; exact hlt
      obtain ⟨_, _, c2⟩ := HCW.out (j + 1) hjw
      obtain ⟨_, _, e3, _, e5⟩ := hstep.out (j + 1) hjl hjw
      rw [e3] at c2
      have c2 := (HB24.out.cell (p := ⟨g2, o2 + (j + 1) * 3 + 2, none⟩) hg2).trans c2
      obtain ⟨A, hA⟩ : ∃ A, (Fr.row (pq (l.take (j + 1)))).length = A := ⟨_, rfl⟩
      rw [hA] at c2 e5
      have HA := Lib.hid hA
      clear e3 hA
      by_cases hle : A ≤ k
      · go_wp2
        go_round
        case rel => exact ⟨j + 1, hlt, by go_num, Lib.hid (by rw [HA.out]; exact hle)⟩
        case measure => simp [intOf]; omega
      · have HIT : Hid (Hit l k j) := Lib.hid ⟨by rw [HL.out]; omega, HJ.out, by
          obtain ⟨e1, _⟩ := hstep.out j (by rw [HL.out]; omega) (by rw [HWL.out]; omega)
          rw [← e1, HA.out]; omega⟩
        clear HJ
        obtain ⟨more, q1, q2⟩ := HSC.out j HIT.out
        have hjw : j < (want l).length := by rw [HWL.out]; omega
        have hjl : j < l.length := HIT.out.lt
        obtain ⟨_, e2, e3, e4, e5⟩ := hstep.out j hjl hjw
        obtain ⟨x0, x1, x2⟩ := HCW.out j hjw
        rw [e2] at x1
        rw [e3] at x2
        have hrdj := HRD.out j HIT.out
        obtain ⟨A, hA⟩ : ∃ A, (Fr.row (pq (l.take j))).length = A := ⟨_, rfl⟩
        have hAk := HIT.out.le
        rw [hA] at x2 e5 q2 hrdj hAk
        obtain ⟨P, hP⟩ : ∃ P, l[j].p = P := ⟨_, rfl⟩
        rw [hP] at x1 e4 hrdj
        have hMl : j ≤ (scq T 0).length := by rw [q1, List.length_append, List.length_take]; omega
        have hMt : (scq T 0).take j = (want l).take j := by rw [q1, List.take_left' (by rw [List.length_take]; omega)]
        have hM6 := HSL.out
        have hscan := HSN.out
        generalize scq T 0 = M at *
        generalize sce T 0 = G at *
        obtain ⟨m, hm⟩ : ∃ m, M.length = m := ⟨_, rfl⟩
        rw [hm] at hMl hM6
        have HM := Lib.hid hm
        have HMT := Lib.hid hMt
        have HSJ := Lib.hid hscan
        have HRJ := Lib.hid hrdj
        have hx1 := (HB24.out.cell (p := ⟨g2, o2 + j * 3 + 1, none⟩) hg2).trans x1
        have hx2 := (HB24.out.cell (p := ⟨g2, o2 + j * 3 + 2, none⟩) hg2).trans x2
        have HX1 := Lib.hid hx1
        have HX2 := Lib.hid hx2
        have hr4 := run_string_Own w4 w2.heap.size 46 9 5 _ T.data.toList HO4.out Tryd.underlying46 Tryd.underlying5 Tryd.underlying9
        have hr4 : Sem.run Tryd.prog (convert 46 9 (.slice (some ⟨g3, 0, none⟩) S.size cap3)) w4 = .ok (.string T) w4 := hr4
        clear q1 e2 e3 x0 x1 x2 hrdj hA hP hMt hscan hm hx1 hx2
        go_wp2_with fail
        refine (HSJ.out _ (hT.out.below HB4.out)).mono ?_
        rintro e w5 ⟨v5, rfl, ho5, hb5⟩
        have HB5 := Lib.hid (below_chain HB4.out hb5)
        have hvc : ∃ va vc, v5 = .slice va m vc ∧ m ≤ vc ∧ vc ≤ 9223372036854775807 := by
          have h := ho5
          unfold O3 at h
          rw [HM.out] at h
          rcases h.2 with ⟨e, h0⟩ | ⟨g, cap, cur, e, hg, hh, hcap, hm, _⟩
          · exact ⟨_, _, by rw [e, h0], by omega, by omega⟩
          · exact ⟨_, _, e, hcap, by unfold maxLen at hm; omega⟩
        obtain ⟨va5, vc5, hv5, hvc51, hvc52⟩ := hvc
        subst hv5
        have hmt := At3.take ho5.at HM.out hMl vc5
        rw [HMT.out] at hmt
        have hwt := (At3.take (HO2.out.below HB24.out (Nat.le_refl _)) HWL.out (show j ≤ L by omega) vc2).below hb5 (Nat.le_refl _)
        have hx1 := (hb5.cell (p := ⟨g2, o2 + j * 3 + 1, none⟩) (Nat.lt_of_lt_of_le hg2 HB24.out.size)).trans HX1.out
        have hx2 := (hb5.cell (p := ⟨g2, o2 + j * 3 + 2, none⟩) (Nat.lt_of_lt_of_le hg2 HB24.out.size)).trans HX2.out
        have HO5 := Lib.hid (HO4.out.below hb5 (fun k hk => (HO4.out.lt k hk).2))
        have HG5 := Lib.hid (Nat.lt_of_lt_of_le hg2 (Nat.le_trans HB24.out.size hb5.size))
        have HMT5 := Lib.hid hmt
        have HWT5 := Lib.hid hwt
        have HY1 := Lib.hid hx1
        have HY2 := Lib.hid hx2
        clear hb5 ho5 hmt hwt hx1 hr4
        have hjv2 : j ≤ vc2 := by omega
        have hd1 : decide (m < j) = false := decide_eq_false (by omega)
        have hd2 : decide ((m : Int) < (j : Int)) = false := decide_eq_false (by omega)
        have hd3 : decide (G < A) = false := decide_eq_false (by omega)
        have hd4 : decide ((G : Int) < (A : Int)) = false := decide_eq_false (by omega)
        have hjv5 : j ≤ vc5 := by omega
        go_wp2_with fail
        have k2 := fun d os => cell_regrown HY2.out d os
        have HCA := Lib.hid (fun d os => Calls.regrown_of (w := w5) (d := d) (os := os) (HALL.out j _ _ _ (HMT5.out.below (below_regrown w5 d os) (Nat.le_refl _)) (HWT5.out.below (below_regrown w5 d os) (Nat.le_refl _))))
        clear hx2
        refine wp_region_quiet_below (by kernel_rfl) (by kernel_rfl) ?_
        iterate 20 (go_big_quiet_step (fail))
        go_big_quiet_step (first | (go_at_call 17; exact HCA.out _ _))
        iterate 2 (go_big_quiet_step (fail))
        refine wpQuiet_nil ?_
        intro w6 hw6
        have hb6 : Below w5.heap.size w5 w6 := by obtain ⟨q, rfl⟩ := hw6; exact below_regrown _ _ _
        have HB6 := Lib.hid (below_chain HB5.out hb6)
        have HZ1 := Lib.hid ((hb6.cell (p := ⟨g2, o2 + j * 3 + 1, none⟩) HG5.out).trans HY1.out)
        have HZ2 := Lib.hid ((hb6.cell (p := ⟨g2, o2 + j * 3 + 2, none⟩) HG5.out).trans HY2.out)
        have HG6 := Lib.hid (Nat.lt_of_lt_of_le HG5.out hb6.size)
        have HO6 := Lib.hid (HO5.out.below hb6 (fun k hk => (HO5.out.lt k hk).2))
        clear hw6 hb6 k2
        go_wp2_with fail
        have hread : ∃ (K : Int) (P' : ByteArray) (Z X E : Int), (∀ W, Tab W → Calls Tryd.prog 12 #[.string T, .int .i64 (A : Int)] W (Ret W (.tuple #[fv K P' Z, .int .i64 X, .int .i64 E]))) ∧ ((E != 0) = true ∨ ((E != 0) = false ∧ ((P'.size : Int) != (P.size : Int)) = true ∧ k < A + 4)) := by
          have hts := HTS.out
          by_cases he : Fr.er (bh T A) = 0
          · have hg := Fr.er_good.1 he
            obtain ⟨h1, h2⟩ := HRJ.out hg
            refine ⟨_, _, _, _, _, fun W hW => read_ok T A hg W (by omega) (Lib.hid hW), .inr ⟨rfl, ?_, h2⟩⟩
            rw [bne_iff_ne, bs_size, Fr.pl_length hg]
            omega
          · refine ⟨_, _, _, _, _, fun W hW => read_bad T A _ (er1_at T A (by omega)) he W (by omega) (Lib.hid hW), .inl ?_⟩
            rw [bne_iff_ne]; omega
        obtain ⟨K, P', Z, X, E, hrc, hway⟩ := hread
        have HRC := Lib.hid hrc
        have hr6 : Sem.run Tryd.prog (convert 46 9 (.slice (some ⟨g3, 0, none⟩) S.size cap3)) w6.drew = .ok (.string T) w6.drew := run_string_Own w6.drew w2.heap.size 46 9 5 _ T.data.toList HO6.out Tryd.underlying46 Tryd.underlying5 Tryd.underlying9
        have hr7 : Sem.run Tryd.prog (convert 46 9 (.slice (some ⟨g3, 0, none⟩) S.size cap3)) (w6.drew.alloc (.cells #[.int .u8 0, .string ⟨#[]⟩, .int .i64 0] 24)) = .ok (.string T) (w6.drew.alloc (.cells #[.int .u8 0, .string ⟨#[]⟩, .int .i64 0] 24)) := run_string_Own (w6.drew.alloc (.cells #[.int .u8 0, .string ⟨#[]⟩, .int .i64 0] 24)) w2.heap.size 46 9 5 _ T.data.toList ((HO6.out.drew).alloc _) Tryd.underlying46 Tryd.underlying5 Tryd.underlying9
        have HBd : Hid (Below w.heap.size w w6.drew) := Lib.hid (Below.drew HB6.out)
        have HBa : Hid (Below w.heap.size w (w6.drew.alloc (.cells #[.int .u8 0, .string ⟨#[]⟩, .int .i64 0] 24))) := Lib.hid (below_more _ HBd.out)
        have hg6 : g2 < w6.heap.size := HG6.out
        have k0 : w6.drew.cell? ⟨g2, o2 + j * 3 + 2, none⟩ = some (.int .i64 (A : Int)) := HZ2.out
        have k1 : (w6.drew.alloc (.cells #[.int .u8 0, .string ⟨#[]⟩, .int .i64 0] 24)).cell? ⟨g2, o2 + j * 3 + 2, none⟩ = some (.int .i64 (A : Int)) := ((World.cell?_of_block (a := ⟨g2, o2 + j * 3 + 2, none⟩) (heap_alloc_old w6.drew _ hg6))).trans k0
        have k0 := And.intro k0 hr6
        have k1 := And.intro k1 hr7
        have HA7 : Hid (∀ w7, Below w6.drew.heap.size w6.drew w7 → w7.cell? ⟨g2, o2 + j * 3 + 2, none⟩ = some (.int .i64 (A : Int)) ∧ Sem.run Tryd.prog (convert 46 9 (.slice (some ⟨g3, 0, none⟩) S.size cap3)) w7 = .ok (.string T) w7) := Lib.hid fun w7 hb7 =>
          ⟨(hb7.cell (p := ⟨g2, o2 + j * 3 + 2, none⟩) hg6).trans k0.1, run_string_Own w7 w2.heap.size 46 9 5 _ T.data.toList ((HO6.out.drew).below hb7 (fun k hk => (HO6.out.lt k hk).2)) Tryd.underlying46 Tryd.underlying5 Tryd.underlying9⟩
        have HC7 : Hid (∀ w7, Below (w6.drew.alloc (.cells #[.int .u8 0, .string ⟨#[]⟩, .int .i64 0] 24)).heap.size (w6.drew.alloc (.cells #[.int .u8 0, .string ⟨#[]⟩, .int .i64 0] 24)) w7 → (w7.cell? ⟨g2, o2 + j * 3 + 2, none⟩ = some (.int .i64 (A : Int)) ∧ Sem.run Tryd.prog (convert 46 9 (.slice (some ⟨g3, 0, none⟩) S.size cap3)) w7 = .ok (.string T) w7) ∧ Box3 w7 w6.heap.size 24 (.int .u8 0) (.string ⟨#[]⟩) (.int .i64 0)) := Lib.hid fun w7 hb7 =>
          ⟨⟨(hb7.cell (p := ⟨g2, o2 + j * 3 + 2, none⟩) (by rw [World.size_alloc]; exact Nat.lt_succ_of_lt hg6)).trans k1.1, run_string_Own w7 w2.heap.size 46 9 5 _ T.data.toList (((HO6.out.drew).alloc _).below hb7 (fun k hk => by rw [World.size_alloc]; exact Nat.lt_succ_of_lt (HO6.out.lt k hk).2)) Tryd.underlying46 Tryd.underlying5 Tryd.underlying9⟩,
            (hb7.block w6.heap.size (by rw [World.size_alloc]; exact Nat.lt_succ_self _)).trans (heap_alloc_new w6.drew _)⟩
        have HT1 := Lib.hid (HRC.out w6.drew (hT.out.below HBd.out))
        have HT2 := Lib.hid (HRC.out (w6.drew.alloc (.cells #[.int .u8 0, .string ⟨#[]⟩, .int .i64 0] 24)) (hT.out.below HBa.out))
        clear hrc hr6 hr7
        go_region_held3 (fun w' => w'.cell? ⟨g2, o2 + j * 3 + 2, none⟩ = some (.int .i64 (A : Int)) ∧ Sem.run Tryd.prog (convert 46 9 (.slice (some ⟨g3, 0, none⟩) S.size cap3)) w' = .ok (.string T) w') (first | exact k0 | exact k1 | exact k2 | exact k3 | exact k4) (first
          | (go_at_call 12; refine HT1.out.mono ?_; rintro e w7 ⟨rfl, hb7⟩; have HB7 := Lib.hid hb7; have k2 := HA7.out w7 hb7; have k3 := HA7.out _ (hb7.alloc hb7.size (.cells #[.int .u8 0, .string ⟨#[]⟩, .int .i64 0] 24)); have k4 := HA7.out _ (hb7.alloc hb7.size (.cells #[.int .u8 K, .string P', .int .i64 Z] 24)); clear hb7)
          | (go_at_call 12; refine HT2.out.mono ?_; rintro e w7 ⟨rfl, hb7⟩; have HB7 := Lib.hid hb7; obtain ⟨k2, hx7⟩ := HC7.out w7 hb7; have y0 := hx7.c0; have y1 := hx7.c1; have y2 := hx7.c2; have y3 := hx7.free 0; have y4 := hx7.free 1; have y5 := hx7.free 2; have HX7 := Lib.hid hx7; have k4 := HA7.out _ (below_set3 ((below_one w6.drew (.cells #[.int .u8 0, .string ⟨#[]⟩, .int .i64 0] 24)).trans (hb7.mono (below_one w6.drew (.cells #[.int .u8 0, .string ⟨#[]⟩, .int .i64 0] 24)).size)) (Nat.le_refl _) (.int .u8 K) (.string P') (.int .i64 Z)); clear hb7 hx7))
        · skip
          have hb8 : Below w6.drew.heap.size w6.drew (w7.alloc (.cells #[.int .u8 K, .string P', .int .i64 Z] 24)) := HB7.out.alloc HB7.out.size _
          have c1 := (Box3.new w7 24 (.int .u8 K) (.string P') (.int .i64 Z)).c1
          have x2 := (hb8.cell (p := ⟨g2, o2 + j * 3 + 2, none⟩) hg6).trans HZ2.out
          have x1 := (hb8.cell (p := ⟨g2, o2 + j * 3 + 1, none⟩) hg6).trans HZ1.out
          have HB8 := Lib.hid (HBd.out.trans (hb8.mono HBd.out.size))
          clear k0 k1 k2 k3 k4 hb8
          generalize w7.alloc (.cells #[.int .u8 K, .string P', .int .i64 Z] 24) = W8 at *
          go_wp2_with fail
          have k1 := fun d os => cell_regrown c1 d os
          have k2 := fun d os => cell_regrown x1 d os
          have k3 := fun d os => cell_regrown x2 d os
          clear c1 x1 x2
          rcases hway with hE | ⟨hE, hne, h4⟩
          · refine wp_region_quiet_below (by kernel_rfl) (by kernel_rfl) ?_
            repeat (go_big_quiet_step (fail))
            refine wpQuiet_nil ?_
            intro w9 hw9
            have HB9 : Hid (Below w.heap.size w w9) := Lib.hid (below_chain HB8.out (by obtain ⟨q, rfl⟩ := hw9; exact below_regrown _ _ _))
            clear hw9 k1 k2 k3
            go_wp2
            go_ret
            exact ⟨rfl, HB9.out⟩
          · have hs4 : decide ((k : Int) - (A : Int) < 4) = true := decide_eq_true (by omega)
            refine wp_region_quiet_below (by kernel_rfl) (by kernel_rfl) ?_
            repeat (go_big_quiet_step (fail))
            refine wpQuiet_nil ?_
            intro w9 hw9
            have HB9 : Hid (Below w.heap.size w w9) := Lib.hid (below_chain HB8.out (by obtain ⟨q, rfl⟩ := hw9; exact below_regrown _ _ _))
            clear hw9 k1 k2 k3
            go_wp2
            go_ret
            exact ⟨rfl, HB9.out⟩
        · skip
          have hb8 : Below w6.drew.heap.size w6.drew (((w7.setCell ⟨w6.heap.size, 0, none⟩ (.int .u8 K)).setCell ⟨w6.heap.size, 1, none⟩ (.string P')).setCell ⟨w6.heap.size, 2, none⟩ (.int .i64 Z)) := below_set3 ((below_one w6.drew (.cells #[.int .u8 0, .string ⟨#[]⟩, .int .i64 0] 24)).trans (HB7.out.mono (below_one w6.drew (.cells #[.int .u8 0, .string ⟨#[]⟩, .int .i64 0] 24)).size)) (Nat.le_refl _) _ _ _
          have c1 := (HX7.out.set (.int .u8 K) (.string P') (.int .i64 Z)).c1
          have x2 := (hb8.cell (p := ⟨g2, o2 + j * 3 + 2, none⟩) hg6).trans HZ2.out
          have x1 := (hb8.cell (p := ⟨g2, o2 + j * 3 + 1, none⟩) hg6).trans HZ1.out
          have HB8 := Lib.hid (HBd.out.trans (hb8.mono HBd.out.size))
          clear k0 k1 k2 k4 hb8 y0 y1 y2 y3 y4 y5
          generalize ((w7.setCell ⟨w6.heap.size, 0, none⟩ (.int .u8 K)).setCell ⟨w6.heap.size, 1, none⟩ (.string P')).setCell ⟨w6.heap.size, 2, none⟩ (.int .i64 Z) = W8 at *
          go_wp2_with fail
          have k1 := fun d os => cell_regrown c1 d os
          have k2 := fun d os => cell_regrown x1 d os
          have k3 := fun d os => cell_regrown x2 d os
          clear c1 x1 x2
          rcases hway with hE | ⟨hE, hne, h4⟩
          · refine wp_region_quiet_below (by kernel_rfl) (by kernel_rfl) ?_
            repeat (go_big_quiet_step (fail))
            refine wpQuiet_nil ?_
            intro w9 hw9
            have HB9 : Hid (Below w.heap.size w w9) := Lib.hid (below_chain HB8.out (by obtain ⟨q, rfl⟩ := hw9; exact below_regrown _ _ _))
            clear hw9 k1 k2 k3
            go_wp2
            go_ret
            exact ⟨rfl, HB9.out⟩
          · have hs4 : decide ((k : Int) - (A : Int) < 4) = true := decide_eq_true (by omega)
            refine wp_region_quiet_below (by kernel_rfl) (by kernel_rfl) ?_
            repeat (go_big_quiet_step (fail))
            refine wpQuiet_nil ?_
            intro w9 hw9
            have HB9 : Hid (Below w.heap.size w w9) := Lib.hid (below_chain HB8.out (by obtain ⟨q, rfl⟩ := hw9; exact below_regrown _ _ _))
            clear hw9 k1 k2 k3
            go_wp2
            go_ret
            exact ⟨rfl, HB9.out⟩
    · have HIT : Hid (Hit l k j) := Lib.hid ⟨by rw [HL.out]; omega, HJ.out, by
        obtain ⟨e1, _⟩ := hstep.out j (by rw [HL.out]; omega) (by rw [HWL.out]; omega)
        rw [← e1, show j + 1 = L by omega, HEND.out]; exact hk2⟩
      clear HJ
      obtain ⟨more, q1, q2⟩ := HSC.out j HIT.out
      have hjw : j < (want l).length := by rw [HWL.out]; omega
      have hjl : j < l.length := HIT.out.lt
      obtain ⟨_, e2, e3, e4, e5⟩ := hstep.out j hjl hjw
      obtain ⟨x0, x1, x2⟩ := HCW.out j hjw
      rw [e2] at x1
      rw [e3] at x2
      have hrdj := HRD.out j HIT.out
      obtain ⟨A, hA⟩ : ∃ A, (Fr.row (pq (l.take j))).length = A := ⟨_, rfl⟩
      have hAk := HIT.out.le
      rw [hA] at x2 e5 q2 hrdj hAk
      obtain ⟨P, hP⟩ : ∃ P, l[j].p = P := ⟨_, rfl⟩
      rw [hP] at x1 e4 hrdj
      have hMl : j ≤ (scq T 0).length := by rw [q1, List.length_append, List.length_take]; omega
      have hMt : (scq T 0).take j = (want l).take j := by rw [q1, List.take_left' (by rw [List.length_take]; omega)]
      have hM6 := HSL.out
      have hscan := HSN.out
      generalize scq T 0 = M at *
      generalize sce T 0 = G at *
      obtain ⟨m, hm⟩ : ∃ m, M.length = m := ⟨_, rfl⟩
      rw [hm] at hMl hM6
      have HM := Lib.hid hm
      have HMT := Lib.hid hMt
      have HSJ := Lib.hid hscan
      have HRJ := Lib.hid hrdj
      have hx1 := (HB24.out.cell (p := ⟨g2, o2 + j * 3 + 1, none⟩) hg2).trans x1
      have hx2 := (HB24.out.cell (p := ⟨g2, o2 + j * 3 + 2, none⟩) hg2).trans x2
      have HX1 := Lib.hid hx1
      have HX2 := Lib.hid hx2
      have hr4 := run_string_Own w4 w2.heap.size 46 9 5 _ T.data.toList HO4.out Tryd.underlying46 Tryd.underlying5 Tryd.underlying9
      have hr4 : Sem.run Tryd.prog (convert 46 9 (.slice (some ⟨g3, 0, none⟩) S.size cap3)) w4 = .ok (.string T) w4 := hr4
      clear q1 e2 e3 x0 x1 x2 hrdj hA hP hMt hscan hm hx1 hx2
      go_wp2_with fail
      refine (HSJ.out _ (hT.out.below HB4.out)).mono ?_
      rintro e w5 ⟨v5, rfl, ho5, hb5⟩
      have HB5 := Lib.hid (below_chain HB4.out hb5)
      have hvc : ∃ va vc, v5 = .slice va m vc ∧ m ≤ vc ∧ vc ≤ 9223372036854775807 := by
        have h := ho5
        unfold O3 at h
        rw [HM.out] at h
        rcases h.2 with ⟨e, h0⟩ | ⟨g, cap, cur, e, hg, hh, hcap, hm, _⟩
        · exact ⟨_, _, by rw [e, h0], by omega, by omega⟩
        · exact ⟨_, _, e, hcap, by unfold maxLen at hm; omega⟩
      obtain ⟨va5, vc5, hv5, hvc51, hvc52⟩ := hvc
      subst hv5
      have hmt := At3.take ho5.at HM.out hMl vc5
      rw [HMT.out] at hmt
      have hwt := (At3.take (HO2.out.below HB24.out (Nat.le_refl _)) HWL.out (show j ≤ L by omega) vc2).below hb5 (Nat.le_refl _)
      have hx1 := (hb5.cell (p := ⟨g2, o2 + j * 3 + 1, none⟩) (Nat.lt_of_lt_of_le hg2 HB24.out.size)).trans HX1.out
      have hx2 := (hb5.cell (p := ⟨g2, o2 + j * 3 + 2, none⟩) (Nat.lt_of_lt_of_le hg2 HB24.out.size)).trans HX2.out
      have HO5 := Lib.hid (HO4.out.below hb5 (fun k hk => (HO4.out.lt k hk).2))
      have HG5 := Lib.hid (Nat.lt_of_lt_of_le hg2 (Nat.le_trans HB24.out.size hb5.size))
      have HMT5 := Lib.hid hmt
      have HWT5 := Lib.hid hwt
      have HY1 := Lib.hid hx1
      have HY2 := Lib.hid hx2
      clear hb5 ho5 hmt hwt hx1 hr4
      have hjv2 : j ≤ vc2 := by omega
      have hd1 : decide (m < j) = false := decide_eq_false (by omega)
      have hd2 : decide ((m : Int) < (j : Int)) = false := decide_eq_false (by omega)
      have hd3 : decide (G < A) = false := decide_eq_false (by omega)
      have hd4 : decide ((G : Int) < (A : Int)) = false := decide_eq_false (by omega)
      have hjv5 : j ≤ vc5 := by omega
      go_wp2_with fail
      have k2 := fun d os => cell_regrown HY2.out d os
      have HCA := Lib.hid (fun d os => Calls.regrown_of (w := w5) (d := d) (os := os) (HALL.out j _ _ _ (HMT5.out.below (below_regrown w5 d os) (Nat.le_refl _)) (HWT5.out.below (below_regrown w5 d os) (Nat.le_refl _))))
      clear hx2
      refine wp_region_quiet_below (by kernel_rfl) (by kernel_rfl) ?_
      iterate 20 (go_big_quiet_step (fail))
      go_big_quiet_step (first | (go_at_call 17; exact HCA.out _ _))
      iterate 2 (go_big_quiet_step (fail))
      refine wpQuiet_nil ?_
      intro w6 hw6
      have hb6 : Below w5.heap.size w5 w6 := by obtain ⟨q, rfl⟩ := hw6; exact below_regrown _ _ _
      have HB6 := Lib.hid (below_chain HB5.out hb6)
      have HZ1 := Lib.hid ((hb6.cell (p := ⟨g2, o2 + j * 3 + 1, none⟩) HG5.out).trans HY1.out)
      have HZ2 := Lib.hid ((hb6.cell (p := ⟨g2, o2 + j * 3 + 2, none⟩) HG5.out).trans HY2.out)
      have HG6 := Lib.hid (Nat.lt_of_lt_of_le HG5.out hb6.size)
      have HO6 := Lib.hid (HO5.out.below hb6 (fun k hk => (HO5.out.lt k hk).2))
      clear hw6 hb6 k2
      go_wp2_with fail
      have hread : ∃ (K : Int) (P' : ByteArray) (Z X E : Int), (∀ W, Tab W → Calls Tryd.prog 12 #[.string T, .int .i64 (A : Int)] W (Ret W (.tuple #[fv K P' Z, .int .i64 X, .int .i64 E]))) ∧ ((E != 0) = true ∨ ((E != 0) = false ∧ ((P'.size : Int) != (P.size : Int)) = true ∧ k < A + 4)) := by
        have hts := HTS.out
        by_cases he : Fr.er (bh T A) = 0
        · have hg := Fr.er_good.1 he
          obtain ⟨h1, h2⟩ := HRJ.out hg
          refine ⟨_, _, _, _, _, fun W hW => read_ok T A hg W (by omega) (Lib.hid hW), .inr ⟨rfl, ?_, h2⟩⟩
          rw [bne_iff_ne, bs_size, Fr.pl_length hg]
          omega
        · refine ⟨_, _, _, _, _, fun W hW => read_bad T A _ (er1_at T A (by omega)) he W (by omega) (Lib.hid hW), .inl ?_⟩
          rw [bne_iff_ne]; omega
      obtain ⟨K, P', Z, X, E, hrc, hway⟩ := hread
      have HRC := Lib.hid hrc
      have hr6 : Sem.run Tryd.prog (convert 46 9 (.slice (some ⟨g3, 0, none⟩) S.size cap3)) w6.drew = .ok (.string T) w6.drew := run_string_Own w6.drew w2.heap.size 46 9 5 _ T.data.toList HO6.out Tryd.underlying46 Tryd.underlying5 Tryd.underlying9
      have hr7 : Sem.run Tryd.prog (convert 46 9 (.slice (some ⟨g3, 0, none⟩) S.size cap3)) (w6.drew.alloc (.cells #[.int .u8 0, .string ⟨#[]⟩, .int .i64 0] 24)) = .ok (.string T) (w6.drew.alloc (.cells #[.int .u8 0, .string ⟨#[]⟩, .int .i64 0] 24)) := run_string_Own (w6.drew.alloc (.cells #[.int .u8 0, .string ⟨#[]⟩, .int .i64 0] 24)) w2.heap.size 46 9 5 _ T.data.toList ((HO6.out.drew).alloc _) Tryd.underlying46 Tryd.underlying5 Tryd.underlying9
      have HBd : Hid (Below w.heap.size w w6.drew) := Lib.hid (Below.drew HB6.out)
      have HBa : Hid (Below w.heap.size w (w6.drew.alloc (.cells #[.int .u8 0, .string ⟨#[]⟩, .int .i64 0] 24))) := Lib.hid (below_more _ HBd.out)
      have hg6 : g2 < w6.heap.size := HG6.out
      have k0 : w6.drew.cell? ⟨g2, o2 + j * 3 + 2, none⟩ = some (.int .i64 (A : Int)) := HZ2.out
      have k1 : (w6.drew.alloc (.cells #[.int .u8 0, .string ⟨#[]⟩, .int .i64 0] 24)).cell? ⟨g2, o2 + j * 3 + 2, none⟩ = some (.int .i64 (A : Int)) := ((World.cell?_of_block (a := ⟨g2, o2 + j * 3 + 2, none⟩) (heap_alloc_old w6.drew _ hg6))).trans k0
      have k0 := And.intro k0 hr6
      have k1 := And.intro k1 hr7
      have HA7 : Hid (∀ w7, Below w6.drew.heap.size w6.drew w7 → w7.cell? ⟨g2, o2 + j * 3 + 2, none⟩ = some (.int .i64 (A : Int)) ∧ Sem.run Tryd.prog (convert 46 9 (.slice (some ⟨g3, 0, none⟩) S.size cap3)) w7 = .ok (.string T) w7) := Lib.hid fun w7 hb7 =>
        ⟨(hb7.cell (p := ⟨g2, o2 + j * 3 + 2, none⟩) hg6).trans k0.1, run_string_Own w7 w2.heap.size 46 9 5 _ T.data.toList ((HO6.out.drew).below hb7 (fun k hk => (HO6.out.lt k hk).2)) Tryd.underlying46 Tryd.underlying5 Tryd.underlying9⟩
      have HC7 : Hid (∀ w7, Below (w6.drew.alloc (.cells #[.int .u8 0, .string ⟨#[]⟩, .int .i64 0] 24)).heap.size (w6.drew.alloc (.cells #[.int .u8 0, .string ⟨#[]⟩, .int .i64 0] 24)) w7 → (w7.cell? ⟨g2, o2 + j * 3 + 2, none⟩ = some (.int .i64 (A : Int)) ∧ Sem.run Tryd.prog (convert 46 9 (.slice (some ⟨g3, 0, none⟩) S.size cap3)) w7 = .ok (.string T) w7) ∧ Box3 w7 w6.heap.size 24 (.int .u8 0) (.string ⟨#[]⟩) (.int .i64 0)) := Lib.hid fun w7 hb7 =>
        ⟨⟨(hb7.cell (p := ⟨g2, o2 + j * 3 + 2, none⟩) (by rw [World.size_alloc]; exact Nat.lt_succ_of_lt hg6)).trans k1.1, run_string_Own w7 w2.heap.size 46 9 5 _ T.data.toList (((HO6.out.drew).alloc _).below hb7 (fun k hk => by rw [World.size_alloc]; exact Nat.lt_succ_of_lt (HO6.out.lt k hk).2)) Tryd.underlying46 Tryd.underlying5 Tryd.underlying9⟩,
          (hb7.block w6.heap.size (by rw [World.size_alloc]; exact Nat.lt_succ_self _)).trans (heap_alloc_new w6.drew _)⟩
      have HT1 := Lib.hid (HRC.out w6.drew (hT.out.below HBd.out))
      have HT2 := Lib.hid (HRC.out (w6.drew.alloc (.cells #[.int .u8 0, .string ⟨#[]⟩, .int .i64 0] 24)) (hT.out.below HBa.out))
      clear hrc hr6 hr7
      go_region_held3 (fun w' => w'.cell? ⟨g2, o2 + j * 3 + 2, none⟩ = some (.int .i64 (A : Int)) ∧ Sem.run Tryd.prog (convert 46 9 (.slice (some ⟨g3, 0, none⟩) S.size cap3)) w' = .ok (.string T) w') (first | exact k0 | exact k1 | exact k2 | exact k3 | exact k4) (first
        | (go_at_call 12; refine HT1.out.mono ?_; rintro e w7 ⟨rfl, hb7⟩; have HB7 := Lib.hid hb7; have k2 := HA7.out w7 hb7; have k3 := HA7.out _ (hb7.alloc hb7.size (.cells #[.int .u8 0, .string ⟨#[]⟩, .int .i64 0] 24)); have k4 := HA7.out _ (hb7.alloc hb7.size (.cells #[.int .u8 K, .string P', .int .i64 Z] 24)); clear hb7)
        | (go_at_call 12; refine HT2.out.mono ?_; rintro e w7 ⟨rfl, hb7⟩; have HB7 := Lib.hid hb7; obtain ⟨k2, hx7⟩ := HC7.out w7 hb7; have y0 := hx7.c0; have y1 := hx7.c1; have y2 := hx7.c2; have y3 := hx7.free 0; have y4 := hx7.free 1; have y5 := hx7.free 2; have HX7 := Lib.hid hx7; have k4 := HA7.out _ (below_set3 ((below_one w6.drew (.cells #[.int .u8 0, .string ⟨#[]⟩, .int .i64 0] 24)).trans (hb7.mono (below_one w6.drew (.cells #[.int .u8 0, .string ⟨#[]⟩, .int .i64 0] 24)).size)) (Nat.le_refl _) (.int .u8 K) (.string P') (.int .i64 Z)); clear hb7 hx7))
      · skip
        have hb8 : Below w6.drew.heap.size w6.drew (w7.alloc (.cells #[.int .u8 K, .string P', .int .i64 Z] 24)) := HB7.out.alloc HB7.out.size _
        have c1 := (Box3.new w7 24 (.int .u8 K) (.string P') (.int .i64 Z)).c1
        have x2 := (hb8.cell (p := ⟨g2, o2 + j * 3 + 2, none⟩) hg6).trans HZ2.out
        have x1 := (hb8.cell (p := ⟨g2, o2 + j * 3 + 1, none⟩) hg6).trans HZ1.out
        have HB8 := Lib.hid (HBd.out.trans (hb8.mono HBd.out.size))
        clear k0 k1 k2 k3 k4 hb8
        generalize w7.alloc (.cells #[.int .u8 K, .string P', .int .i64 Z] 24) = W8 at *
        go_wp2_with fail
        have k1 := fun d os => cell_regrown c1 d os
        have k2 := fun d os => cell_regrown x1 d os
        have k3 := fun d os => cell_regrown x2 d os
        clear c1 x1 x2
        rcases hway with hE | ⟨hE, hne, h4⟩
        · refine wp_region_quiet_below (by kernel_rfl) (by kernel_rfl) ?_
          repeat (go_big_quiet_step (fail))
          refine wpQuiet_nil ?_
          intro w9 hw9
          have HB9 : Hid (Below w.heap.size w w9) := Lib.hid (below_chain HB8.out (by obtain ⟨q, rfl⟩ := hw9; exact below_regrown _ _ _))
          clear hw9 k1 k2 k3
          go_wp2
          go_ret
          exact ⟨rfl, HB9.out⟩
        · have hs4 : decide ((k : Int) - (A : Int) < 4) = true := decide_eq_true (by omega)
          refine wp_region_quiet_below (by kernel_rfl) (by kernel_rfl) ?_
          repeat (go_big_quiet_step (fail))
          refine wpQuiet_nil ?_
          intro w9 hw9
          have HB9 : Hid (Below w.heap.size w w9) := Lib.hid (below_chain HB8.out (by obtain ⟨q, rfl⟩ := hw9; exact below_regrown _ _ _))
          clear hw9 k1 k2 k3
          go_wp2
          go_ret
          exact ⟨rfl, HB9.out⟩
      · skip
        have hb8 : Below w6.drew.heap.size w6.drew (((w7.setCell ⟨w6.heap.size, 0, none⟩ (.int .u8 K)).setCell ⟨w6.heap.size, 1, none⟩ (.string P')).setCell ⟨w6.heap.size, 2, none⟩ (.int .i64 Z)) := below_set3 ((below_one w6.drew (.cells #[.int .u8 0, .string ⟨#[]⟩, .int .i64 0] 24)).trans (HB7.out.mono (below_one w6.drew (.cells #[.int .u8 0, .string ⟨#[]⟩, .int .i64 0] 24)).size)) (Nat.le_refl _) _ _ _
        have c1 := (HX7.out.set (.int .u8 K) (.string P') (.int .i64 Z)).c1
        have x2 := (hb8.cell (p := ⟨g2, o2 + j * 3 + 2, none⟩) hg6).trans HZ2.out
        have x1 := (hb8.cell (p := ⟨g2, o2 + j * 3 + 1, none⟩) hg6).trans HZ1.out
        have HB8 := Lib.hid (HBd.out.trans (hb8.mono HBd.out.size))
        clear k0 k1 k2 k4 hb8 y0 y1 y2 y3 y4 y5
        generalize ((w7.setCell ⟨w6.heap.size, 0, none⟩ (.int .u8 K)).setCell ⟨w6.heap.size, 1, none⟩ (.string P')).setCell ⟨w6.heap.size, 2, none⟩ (.int .i64 Z) = W8 at *
        go_wp2_with fail
        have k1 := fun d os => cell_regrown c1 d os
        have k2 := fun d os => cell_regrown x1 d os
        have k3 := fun d os => cell_regrown x2 d os
        clear c1 x1 x2
        rcases hway with hE | ⟨hE, hne, h4⟩
        · refine wp_region_quiet_below (by kernel_rfl) (by kernel_rfl) ?_
          repeat (go_big_quiet_step (fail))
          refine wpQuiet_nil ?_
          intro w9 hw9
          have HB9 : Hid (Below w.heap.size w w9) := Lib.hid (below_chain HB8.out (by obtain ⟨q, rfl⟩ := hw9; exact below_regrown _ _ _))
          clear hw9 k1 k2 k3
          go_wp2
          go_ret
          exact ⟨rfl, HB9.out⟩
        · have hs4 : decide ((k : Int) - (A : Int) < 4) = true := decide_eq_true (by omega)
          refine wp_region_quiet_below (by kernel_rfl) (by kernel_rfl) ?_
          repeat (go_big_quiet_step (fail))
          refine wpQuiet_nil ?_
          intro w9 hw9
          have HB9 : Hid (Below w.heap.size w w9) := Lib.hid (below_chain HB8.out (by obtain ⟨q, rfl⟩ := hw9; exact below_regrown _ _ _))
          clear hw9 k1 k2 k3
          go_wp2
          go_ret
          exact ⟨rfl, HB9.out⟩
theorem core (v : Value) (l : List Prt) (n b : Int) (w : World) (h : Arg w v l) (w1 : (Lit.int .i64 n).wf = true) (w2 : (Lit.int .u8 b).wf = true) (hT : Hid (Tab w)) :
    Calls Tryd.prog 9 #[v, .int .i64 n, .int .u8 b] w fun e w' => e = .returned (.bool true) ∧ Below w.heap.size w w' := by
  obtain ⟨n0, n1⟩ := bounds_u8 w2
  by_cases hl : 6000 ≤ lgn l
  · exact longA l v n b w h (.inl hl) hT
  · by_cases hb : l.length = 0 ∨ b = 0
    · exact longA l v n b w h (.inr ⟨by omega, hb⟩) hT
    · have hc : UInt8.ofNat b.toNat ≠ 0 := fun e => by
        have h2 := congrArg UInt8.toNat e
        rw [show (0 : UInt8).toNat = 0 from rfl] at h2
        simp at h2
        omega
      have h2 := main l v n (UInt8.ofNat b.toNat) w h (by omega) (by omega) hc hT
      rw [Bt.ofNat_toNat (by omega), Int.toNat_of_nonneg n0] at h2
      exact h2
set_option maxRecDepth 100000 in
theorem lifted (os : Os) (started : os.Started) (H : Type) (enc : TypeId × Value → H) :
    ReturnsInHanded {} Tryd.checked os 9 .any (fun w args => (Rows.frameBentSpec.pre enc Tryd.prog Tryd.f9 [] false w args ∧ laidMetH Tryd.prog laid w) ∧ sizedMet enc Tryd.prog Tryd.f9 (OpenSpec.ofChange Rows.frameBentSpec) false w args)
      (Rows.frameBentSpec.post enc Tryd.prog Tryd.f9 false true false false) := by
  refine returnsInHanded_of_change_and (C := Tryd.checked) (X := fun w _ => laidMetH Tryd.prog laid w) (fun _ _ _ hh h => h.of_heap hh) own started (by kernel_rfl) Tryd.func9
    (ChangeSpec.witness_shaped (enc := enc) (C := Tryd.checked) (os := os) (X := fun w _ => laidMetH Tryd.prog laid w) false (World.doorLaid Tryd.prog doorSteps os) #[.slice none 0 0, .int .i64 0, .int .u8 0] 8 rfl (World.shaped_of_RefB (by kernel_rfl) (by kernel_rfl)) (by kernel_rfl) (by kernel_rfl) (by kernel_rfl) (door_met os _)) ?_
  intro W base args ds gs before hval0 hW hcnd _ hL _
  have hval : ∀ (j : Nat) t v, Tryd.f9.params[j]? = some t → args[j]? = some v → Value.okWide Tryd.prog W .any base t v := hval0
  have hW' := hW
  obtain ⟨p, q, hA0, hV, rfl, hfz, hnd⟩ := hW
  have hA : DataW.TrodAll enc Tryd.prog W 0 (fun _ => true) true Tryd.f9.params.toList args.toList ds p := hA0
  rw [Tryd.params9] at hA hval
  obtain ⟨v0, vs0, d0, ds0, p0, q0, hargs, rfl, rfl, h0, r0⟩ := trodAll_cons hA
  obtain ⟨v1, vs1, d1, ds1, p1, q1, rfl, rfl, rfl, h1, r1⟩ := trodAll_cons r0
  obtain ⟨v2, vs2, d2, ds2, p2, q2, rfl, rfl, rfl, h2, r2⟩ := trodAll_cons r1
  obtain ⟨rfl, rfl, rfl⟩ := trodAll_nil r2
  obtain rfl : args = #[v0, v1, v2] := by cases args; simp_all
  obtain ⟨rfl, rfl⟩ := trodVars_none hV
  have k0 := h0
  have lt0 : ∀ x ∈ p0, x.block < W.heap.size := by obtain ⟨m, hm⟩ := k0; exact DataW.trod_lt m _ _ _ hm
  have k1 := h1
  have lt1 : ∀ x ∈ p1, x.block < W.heap.size := by obtain ⟨m, hm⟩ := k1; exact DataW.trod_lt m _ _ _ hm
  have k2 := h2
  have lt2 : ∀ x ∈ p2, x.block < W.heap.size := by obtain ⟨m, hm⟩ := k2; exact DataW.trod_lt m _ _ _ hm
  obtain ⟨a0, w0⟩ := open_parts (hval 0 50 v0 rfl rfl) h0
  obtain ⟨a1, rfl, rfl, rfl, w1⟩ := open_int Tryd.underlying3 (hval 1 3 v1 rfl rfl) h1
  obtain ⟨a2, rfl, rfl, rfl, w2⟩ := open_int Tryd.underlying5 (hval 2 5 v2 rfl rfl) h2
  clear hA0 hval0
  refine (core v0 a0 a1 a2 W w0 w1 w2 (Lib.hid (of_laid hL))).mono fun e W' ⟨he, bel⟩ => ?_
  subst he
  exact ⟨_, rfl, _, _, _, [], _, [], hW', trodAll_mk1 (shut_bool Tryd.underlying4 _), (trodAll_cons_mk (Below.trod laidOut (by kernel_rfl) (of_decide_eq_true (by kernel_rfl)) k0 bel lt0) (trodAll_cons_mk (Below.trod laidOut (by kernel_rfl) (of_decide_eq_true (by kernel_rfl)) k1 bel lt1) (trodAll_cons_mk (Below.trod laidOut (by kernel_rfl) (of_decide_eq_true (by kernel_rfl)) k2 bel lt2) trodAll_mk0))), rfl, bel.frame _, fun h => by cases h⟩
theorem over : Rows.frameBentRow.holds Tryd.pinned (OpenSpec.ofChange Rows.frameBentSpec) :=
  OpenClaim.holds_of_wide 9 Tryd.f9 rfl rfl rfl rfl rfl rfl rfl ⟨rfl, rfl, rfl, rfl, rfl⟩ rfl rfl rfl rfl rfl (by kernel_rfl) Tryd.func9 (by kernel_rfl)
    (of_decide_eq_true (by kernel_rfl)) (by unfold Func.isWrapper; first | (rw [if_pos (by decide +kernel)]; kernel_rfl) | (rw [if_neg (by decide +kernel)]; exact ⟨rfl, rfl⟩))
    (fun os started H enc _ => lifted os started H enc)
theorem proved : Rows.FrameBentCardSaid :=
  Claim7.holds_tied_plain_at .later [] [.data] true (true, "528f451f71a3945e035b345f81124441f1a1f31a8451669a6375411dc09c6830") false
    over (fun _ h => by cases h) (by kernel_rfl) (fun _ h => by cases h) frameBent_row_tie rfl ⟨rfl, rfl⟩ (by kernel_rfl) rfl
    (fun f fn hf hfn => by
      obtain rfl : f = 9 := Option.some.inj ((show Tryd.prog.funcNamed "baton/batonlaw08.FrameBent" = some 9 by kernel_rfl).symm.trans hf) |>.symm
      obtain rfl : fn = Tryd.f9 := (Option.some.inj (Tryd.func9.symm.trans hfn)).symm
      exact ⟨by kernel_rfl, fun j t ht => by
        rw [Tryd.params9] at ht
        have hm : t ∈ [50, 3, 5] := by simpa using Array.mem_of_getElem? ht
        have hall : ([50, 3, 5].all fun u => !Tryd.prog.wantsStandIn u) = true := by kernel_rfl
        exact (show Tryd.prog.wantsStandIn t = false by simpa using List.all_eq_true.1 hall t hm)⟩)
    (by kernel_rfl)
end Go.Proofs.YtkbifmgddbilmaaDoor.frameBent
