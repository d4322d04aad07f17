/- FrameRow: for any parts and any bytes behind the law answers true. Condition: the table of package sum reads as its initialiser lays it (tied to the program's text by the card). -/
import Derived.Test.YtkbifmgddbilmaaDoorCards
import Derived.Test.YtkbifmgddbilmaaDoorTie
import Derived.Test.YtkbifmgddbilmaaDoorSf
import Derived.Test.YtkbifmgddbilmaaDoorRo
import Derived.SevenTiedAt
namespace Go.Proofs.YtkbifmgddbilmaaDoor.frameRow
open Go Go.ChangeShapes Go.WideShapes Go.ChangeAt Go.RowKit
open Go.ChangeMaps (open_string shut_string)
set_option linter.unusedVariables false
set_option maxRecDepth 100000
theorem shift_wnt : ∀ (l : List (UInt8 × List UInt8)) (a d : Nat), (Fr.wnt l (a + d)).map qf = ((Fr.wnt l a).map qf).map (fun q => (⟨q.k, q.p, q.a + (d : Int)⟩ : Fq))
  | [], _, _ => rfl
  | x :: r, a, d => by
    rw [Fr.wnt, Fr.wnt, List.map_cons, List.map_cons, List.map_cons, show a + d + 9 + x.2.length = (a + 9 + x.2.length) + d by omega, shift_wnt r]
    congr 1
theorem wnt_le : ∀ (l : List (UInt8 × List UInt8)) (a : Nat), ∀ x ∈ Fr.wnt l a, x.a ≤ a + (Fr.row l).length
  | [], _, x, hx => by cases hx
  | y :: r, a, x, hx => by
    rw [Fr.wnt] at hx
    rw [Fr.row, List.length_append, Fr.frm_length]
    rcases List.mem_cons.1 hx with rfl | hx
    · dsimp only; omega
    · have := wnt_le r _ x hx
      omega
theorem want_le (l : List Prt) (h6 : lgn l < 6000) : ∀ q ∈ want l, 0 ≤ q.a ∧ q.a ≤ 6000 := by
  intro q hq
  obtain ⟨x, hx, rfl⟩ := List.mem_map.1 hq
  have h1 := wnt_le _ _ x hx
  have h2 := row_len l h6
  unfold qf
  dsimp only
  omega
def shf (d : Int) (q : Fq) : Fq := ⟨q.k, q.p, q.a + d⟩
theorem scan_front (l : List Prt) (h6 : lgn l < 6000) (t : ByteArray) (ht : Fr.er t.data.toList ≠ 0) (S : ByteArray) (hS : S = bs (Fr.row (pq l))) : scq (S ++ t) 0 = want l ∧ sce (S ++ t) 0 = S.size := by
  have h := scq_row (pq l) t.data.toList (pq_ok l h6) ht
  have e : S ++ t = bs (Fr.row (pq l) ++ t.data.toList) := by rw [hS, ← bs_append, bs_of]
  rw [e, hS, bs_size]
  exact h
theorem scan_behind (l : List Prt) (h6 : lgn l < 6000) (t S : ByteArray) (hS : S = bs (Fr.row (pq l))) : scq (t ++ S) t.size = (want l).map (shf (t.size : Int)) ∧ sce (t ++ S) t.size = S.size + t.size := by
  have e : bh (t ++ S) t.size = Fr.row (pq l) ++ [] := by
    unfold bh
    rw [hS, List.append_nil]
    have e2 : (t ++ bs (Fr.row (pq l))).data.toList = t.data.toList ++ Fr.row (pq l) := by simp [bs]
    rw [e2]
    exact List.drop_left' (by simp)
  unfold scq sce
  rw [e, Fr.scn_row_end (pq l) [] t.size (pq_ok l h6) (by decide)]
  refine ⟨?_, by rw [hS, bs_size]; dsimp only; omega⟩
  have := shift_wnt (pq l) 0 t.size
  rw [Nat.zero_add] at this
  exact this
/-- A row whose places are taken back, one by one. -/
structure Mx (W : World) (g : Nat) (l : List Fq) (d : Int) (i : Nat) (A : World) : Prop where
  row : ∀ j (h : j < l.length), A.cell? ⟨g, j * 3, none⟩ = some (.int .u8 l[j].k) ∧ A.cell? ⟨g, j * 3 + 1, none⟩ = some (.string l[j].p) ∧ A.cell? ⟨g, j * 3 + 2, none⟩ = some (.int .i64 (if j < i then l[j].a else l[j].a + d))
  free : ∀ j, A.frozen? ⟨g, j, none⟩ = false
  kept : W.grownBy A (some g)
theorem Mx.step {W A : World} {g : Nat} {l : List Fq} {d : Int} {i : Nat} (h : Mx W g l d i A) (hi : i < l.length) (x : Int) (hx : l[i].a = x) : Mx W g l d (i + 1) (A.setCell ⟨g, i * 3 + 2, none⟩ (.int .i64 x)) := by
  subst hx
  refine ⟨fun j hj => ?_, fun j => by rw [World.frozen?_setCell]; exact h.free j, ?_⟩
  · obtain ⟨c0, c1, c2⟩ := h.row j hj
    refine ⟨?_, ?_, ?_⟩
    · rw [World.cell?_setCell_other _ _ _ _ (fun e => by injection e with _ e _; omega)]; exact c0
    · rw [World.cell?_setCell_other _ _ _ _ (fun e => by injection e with _ e _; omega)]; exact c1
    · by_cases hji : j = i
      · subst hji
        rw [World.cell?_setCell_same _ _ _ c2, if_pos (by omega)]
      · rw [World.cell?_setCell_other _ _ _ _ (fun e => by injection e with _ e _; omega), c2]
        by_cases h2 : j < i
        · rw [if_pos h2, if_pos (by omega)]
        · rw [if_neg h2, if_neg (by omega)]
  · refine ⟨h.kept.os, h.kept.tape, h.kept.output, by simpa using h.kept.size, fun b hb hne => ?_⟩
    have hne' : b ≠ g := fun e => hne (by rw [e])
    rw [Below.heap_setCell _ _ _ _ (by simpa using hne')]
    exact h.kept.block b hb hne
theorem Mx.of {w : World} {base : Nat} {g c : Nat} {l : List Fq} {d : Int} (h : O3 24 w base (.slice (some ⟨g, 0, none⟩) (l.map (shf d)).length c) (l.map (shf d))) : Mx w g l d 0 w := by
  refine ⟨fun j hj => ?_, fun j => ?_, World.grownBy.refl _ _⟩
  · rcases h.at with ⟨h0, _⟩ | ⟨g', o, c', e, hc⟩
    · exfalso
      rw [List.map_eq_nil_iff.1 h0] at hj
      simp at hj
    · injection e with e1 _ _
      injection e1 with e1
      injection e1 with e1 e2 _
      subst e1; subst e2
      obtain ⟨c0, c1, c2⟩ := hc j (by rw [List.length_map]; exact hj)
      simp only [Nat.zero_add] at c0 c1 c2
      rw [List.getElem_map] at c0 c1 c2
      rw [if_neg (by omega)]
      exact ⟨c0, c1, c2⟩
  · rcases h.2 with ⟨e, _⟩ | ⟨g', cap, cur, e, hb, hh, _⟩
    · cases e
    · injection e with e1 _ _
      injection e1 with e1
      injection e1 with e1
      subst e1
      simp [World.frozen?, hh]
theorem Mx.at {W A : World} {g c L : Nat} {l : List Fq} {d : Int} (h : Mx W g l d L A) (hL : l.length = L) : At3 A (.slice (some ⟨g, 0, none⟩) L c) l := by
  subst hL
  refine .inr ⟨g, 0, c, rfl, fun j hj => ?_⟩
  simp only [Nat.zero_add]
  obtain ⟨c0, c1, c2⟩ := h.row j hj
  rw [if_pos hj] at c2
  exact ⟨c0, c1, c2⟩
theorem longA (l : List Prt) (v : Value) (t : ByteArray) (w : World) (h : Arg w v l) (hl : 6000 ≤ lgn l) (hT : Hid (Tab w)) : Calls Tryd.prog 7 #[v, .string t] w (Ret w (.bool true)) := by
  have C := long_any l v w h
  rw [decide_eq_true hl] at C
  have HC := Lib.hid C
  clear C h hl
  go_enter Tryd.func7, Tryd.ntmps7
  go_wp2_with fail
  refine HC.out.mono ?_
  rintro e w' ⟨rfl, rfl⟩
  go_wp2_with fail
  refine (awake_any _ hT).mono ?_
  rintro e w1 ⟨rfl, hb1⟩
  have HB1 := Lib.hid hb1
  clear hb1
  go_wp2
  go_ret
  exact ⟨rfl, HB1.out⟩
theorem longB (l : List Prt) (v : Value) (t : ByteArray) (w : World) (h : Arg w v l) (hl : lgn l < 6000) (ht : 3000 < t.size) (ht2 : t.size ≤ 9223372036854775807) (hT : Hid (Tab w)) : Calls Tryd.prog 7 #[v, .string t] w (Ret w (.bool true)) := by
  have C := long_any l v w h
  rw [decide_eq_false (by omega)] at C
  have HC := Lib.hid C
  clear C h hl
  go_enter Tryd.func7, Tryd.ntmps7
  go_wp2_with fail
  refine HC.out.mono ?_
  rintro e w' ⟨rfl, rfl⟩
  go_wp2_with fail
  refine (awake_any _ hT).mono ?_
  rintro e w1 ⟨rfl, hb1⟩
  have HB1 := Lib.hid hb1
  clear hb1
  go_wp2
  go_ret
  exact ⟨rfl, HB1.out⟩
set_option maxHeartbeats 2000000 in
theorem begins (l : List Prt) (v : Value) (t : ByteArray) (w : World) (h : Arg w v l) (hl : lgn l < 6000) (ht : t.size ≤ 3000) (he : Fr.er t.data.toList = 0) (hT : Hid (Tab w)) : Calls Tryd.prog 7 #[v, .string t] w (Ret w (.bool true)) := by
  have C := long_any l v w h
  rw [decide_eq_false (by omega)] at C
  have HC := Lib.hid C
  have hR := fun W (hW : Tab W) => read_ok t 0 (Fr.er_good.1 he) W (by omega) (Lib.hid hW)
  generalize bs (Fr.pl (bh t 0)) = P at *
  generalize ((Fr.kd (bh t 0)).toNat : Int) = K at *
  generalize 0 + 9 + Fr.ln (bh t 0) = X at *
  have HR := Lib.hid hR
  clear C h hl he hR
  go_enter Tryd.func7, Tryd.ntmps7
  go_wp2_with fail
  refine HC.out.mono ?_
  rintro e w' ⟨rfl, rfl⟩
  go_wp2_with fail
  refine (awake_any _ hT).mono ?_
  rintro e w1 ⟨rfl, hb1⟩
  have HB1 := Lib.hid hb1
  clear hb1
  go_wp2_with fail
  refine (HR.out _ (hT.out.below HB1.out)).mono ?_
  rintro e w2 ⟨rfl, hb2⟩
  have HB2 := Lib.hid (below_more (.cells #[.int .u8 K, .string P, .int .i64 ((0 : Nat) : Int)] 24) (below_chain HB1.out hb2))
  clear hb2
  go_wp2
  go_ret
  exact ⟨rfl, HB2.out⟩
set_option maxHeartbeats 2000000 in
theorem main (l : List Prt) (v : Value) (t : ByteArray) (w : World) (h : Arg w v l) (hl : lgn l < 6000) (ht : t.size ≤ 3000) (he : Fr.er t.data.toList ≠ 0) (hT : Hid (Tab w)) : Calls Tryd.prog 7 #[v, .string t] w (Ret w (.bool true)) := by
  have C := long_any l v w h
  rw [decide_eq_false (by omega)] at C
  have HC := Lib.hid C
  have hR := fun W (hW : Tab W) => read_bad t 0 _ (er1_zero t) he W (by omega) (Lib.hid hW)
  have hE : ((Fr.er t.data.toList : Int) == 0) = false := by rw [beq_eq_false_iff_ne]; omega
  have hrows := fun W (hW : Tab W) (hA : PAt W v l) => rows_any l hl v W hA (Lib.hid hW)
  have hrl := row_len l hl
  obtain ⟨S, hS⟩ : ∃ S, bs (Fr.row (pq l)) = S := ⟨_, rfl⟩
  have hS6 : S.size ≤ 6000 := by rw [← hS, bs_size]; omega
  obtain ⟨A, hA⟩ : ∃ A, S ++ t = A := ⟨_, rfl⟩
  obtain ⟨B, hB⟩ : ∃ B, t ++ S = B := ⟨_, rfl⟩
  have hAz : A.size = S.size + t.size := by rw [← hA, ByteArray.size_append]
  have hBz : B.size = t.size + S.size := by rw [← hB, ByteArray.size_append]
  obtain ⟨q1, q2⟩ := scan_front l hl t he S hS.symm
  obtain ⟨q3, q4⟩ := scan_behind l hl t S hS.symm
  rw [hA] at q1 q2
  rw [hB] at q3 q4
  have s1 := fun W (hW : Tab W) => scan_lit A 0 (by omega) (by omega) _ _ q1 q2 W hW
  have s2 := fun W (hW : Tab W) => scan_lit B t.size (by omega) (by omega) _ _ q3 q4 W hW
  unfold Rows at hrows
  rw [hS] at hrows
  have hcnt := lgn_count l
  have hwl := want_len l
  have hpos := want_le l hl
  generalize want l = Q at *
  have hQ : Q.length ≤ 150 := by omega
  have HALL := Lib.hid (fun v v' W => all_true Q (by omega) v v' W)
  have HP := Lib.hid h.at'
  have HPOS := Lib.hid hpos
  have H1 := Lib.hid s1
  have H2 := Lib.hid s2
  have HRW := Lib.hid hrows
  generalize Fr.er t.data.toList = E at *
  have HR := Lib.hid hR
  have hgood : ((S.size : Int) == (S.size : Int)) = true := by simp
  have halso : (((S.size + t.size : Nat) : Int) == (S.size : Int) + (t.size : Int)) = true := by rw [beq_iff_eq]; omega
  obtain ⟨L, hL⟩ : ∃ L, Q.length = L := ⟨_, rfl⟩
  have HL := Lib.hid hL
  rw [hL] at hQ
  clear C h hR he hrows hrl hS q1 q2 q3 q4 s1 s2 hcnt hwl hL hl hpos
  go_enter Tryd.func7, Tryd.ntmps7
  go_wp2_with fail
  refine HC.out.mono ?_
  rintro e w' ⟨rfl, rfl⟩
  go_wp2_with fail
  refine (awake_any _ hT).mono ?_
  rintro e w1 ⟨rfl, hb1⟩
  have HB1 := Lib.hid hb1
  clear hb1
  go_wp2_with fail
  refine (HR.out _ (hT.out.below HB1.out)).mono ?_
  rintro e w2 ⟨rfl, hb2⟩
  have HB2 := Lib.hid (below_more (.cells #[.int .u8 0, .string ⟨#[]⟩, .int .i64 0] 24) (below_chain HB1.out hb2))
  clear hb2
  go_wp2_with fail
  refine (HRW.out _ (hT.out.below HB2.out) (HP.out.below HB2.out (Nat.le_refl _))).mono ?_
  rintro e w3 ⟨v3, rfl, ho3, hb3⟩
  have HB3 := Lib.hid (below_chain HB2.out hb3)
  have HO3 := Lib.hid ho3.at
  clear hb3 ho3
  go_wp2_with fail
  refine (H1.out _ (hT.out.below HB3.out)).mono ?_
  rintro e w4 ⟨v4, rfl, ho4, hb4⟩
  have HB4 := Lib.hid (below_chain HB3.out hb4)
  have HO34 := Lib.hid (HO3.out.below hb4 (Nat.le_refl _))
  have HO4 := Lib.hid ho4.at
  clear hb4 ho4
  go_wp2_with fail
  refine (H2.out _ (hT.out.below HB4.out)).mono ?_
  rintro e w5 ⟨v5, rfl, ho5, hb5⟩
  have HB5 := Lib.hid (below_chain HB4.out hb5)
  have HO35 := Lib.hid (HO34.out.below hb5 (Nat.le_refl _))
  have HO45 := Lib.hid (HO4.out.below hb5 (Nat.le_refl _))
  have HW5 := Lib.hid hb5
  have HO5 := Lib.hid ho5
  have hsh : Hid ((L = 0 ∧ v5 = .slice none 0 0) ∨ ∃ g c, v5 = .slice (some ⟨g, 0, none⟩) L c ∧ w4.heap.size ≤ g ∧ g < w5.heap.size) := by
    have h := ho5
    unfold O3 at h
    rw [List.length_map, HL.out] at h
    refine Lib.hid ?_
    rcases h.2 with ⟨e, h0⟩ | ⟨g, cap, cur, e, hg, hh, _⟩
    · exact .inl ⟨h0, e⟩
    · exact .inr ⟨g, cap, e, hg, (Array.getElem?_eq_some_iff.1 hh).1⟩
  clear hb5 ho5
  rcases hsh.out with ⟨h0, rfl⟩ | ⟨g, c, rfl, hg1, hg2⟩
  · have hQn : Q = [] := List.eq_nil_of_length_eq_zero (by rw [HL.out]; exact h0)
    have HON : Hid (At3 w5 (.slice none 0 0) Q) := Lib.hid (by rw [hQn]; exact At3.nil _)
    clear h0 hQn hsh
    go_wp2_with fail
    go_loopw [14] (fun x wr => x = .int .i64 0 ∧ wr = w5) (fun _ _ => 0)
    case atStart => exact ⟨rfl, rfl⟩
    case round =>
      obtain ⟨rfl, rfl⟩ := hrel
      go_wp2_with fail
      refine (HALL.out _ _ _ HO45.out HO35.out).mono ?_
      rintro e w6 ⟨rfl, hb6⟩
      have HB6 := Lib.hid (below_chain HB5.out hb6)
      have HO36 := Lib.hid (HO35.out.below hb6 (Nat.le_refl _))
      have HON6 := Lib.hid (HON.out.below hb6 (Nat.le_refl _))
      clear hb6
      go_wp2_with fail
      refine (HALL.out _ _ _ HON6.out HO36.out).mono ?_
      rintro e w7 ⟨rfl, hb7⟩
      have HB7 := Lib.hid (below_chain HB6.out hb7)
      clear hb7
      go_wp2
      go_ret
      exact ⟨rfl, HB7.out⟩
  · have hm := HO5.out
    rw [show L = (Q.map (shf (t.size : Int))).length by rw [List.length_map, HL.out]] at hm
    have HM5 := Lib.hid (Mx.of hm)
    have hg : Hid (w4.heap.size ≤ g ∧ g < w5.heap.size) := Lib.hid ⟨hg1, hg2⟩
    clear hm hg1 hg2 hsh
    go_wp2_with fail
    go_loopw [14] (fun x wr => ∃ i : Nat, i ≤ L ∧ x = .int .i64 (i : Int) ∧ Hid (Mx w5 g Q (t.size : Int) i wr)) (fun x _ => L - (intOf x).toNat)
    case atStart => exact ⟨0, by omega, rfl, HM5⟩
    case round =>
      clear HM5
      obtain ⟨i, hi, rfl, HM⟩ := hrel
      by_cases hil : i < L
      · have hiq : i < Q.length := by rw [HL.out]; exact hil
        obtain ⟨_, _, c2⟩ := HM.out.row i hiq
        rw [if_neg (by omega)] at c2
        have f2 := HM.out.free (i * 3 + 2)
        have HST := Lib.hid (HM.out.step hiq _ rfl)
        obtain ⟨p0, p1⟩ := HPOS.out _ (List.getElem_mem hiq)
        generalize Q[i].a = a at *
        have hsub : a + (t.size : Int) - (t.size : Int) = a := by omega
        go_wp2
        go_roundw
        case rel => exact ⟨i + 1, by omega, by go_num, by first | exact HST | (rw [hsub]; exact HST)⟩
        case measure => simp [intOf]; omega
      · obtain rfl : i = L := by omega
        have HBn : Hid (Below w.heap.size w wr) := Lib.hid (HB5.out.grown HM.out.kept HB5.out.size (fun k e => by cases e; have := HB4.out.size; have := hg.out.1; omega))
        have hold : ∀ q, q < w4.heap.size → wr.heap[q]? = w4.heap[q]? := fun q hq => (HM.out.kept.block q (Nat.lt_of_lt_of_le hq HW5.out.size) (fun e => by have := Option.some.inj e; have := hg.out.1; omega)).trans (HW5.out.block q hq)
        have HO46 := Lib.hid (HO4.out.same (fun q hq _ => hold q hq))
        have HO36 := Lib.hid (HO34.out.same (fun q hq _ => hold q hq))
        have HON := Lib.hid (HM.out.at (c := c) HL.out)
        clear hold
        go_wp2_with fail
        refine (HALL.out _ _ _ HO46.out HO36.out).mono ?_
        rintro e w6 ⟨rfl, hb6⟩
        have HB6 := Lib.hid (below_chain HBn.out hb6)
        have HO37 := Lib.hid (HO36.out.below hb6 (Nat.le_refl _))
        have HON6 := Lib.hid (HON.out.below hb6 (Nat.le_refl _))
        clear hb6
        go_wp2_with fail
        refine (HALL.out _ _ _ HON6.out HO37.out).mono ?_
        rintro e w7 ⟨rfl, hb7⟩
        have HB7 := Lib.hid (below_chain HB6.out hb7)
        clear hb7
        go_wp2
        go_ret
        exact ⟨rfl, HB7.out⟩
theorem core (v : Value) (l : List Prt) (t : ByteArray) (w : World) (h : Arg w v l) (w1 : t.size ≤ maxLen) (hT : Hid (Tab w)) :
    Calls Tryd.prog 7 #[v, .string t] w fun e w' => e = .returned (.bool true) ∧ Below w.heap.size w w' := by
  unfold maxLen at w1
  by_cases hl : 6000 ≤ lgn l
  · exact longA l v t w h hl hT
  · by_cases ht : 3000 < t.size
    · exact longB l v t w h (by omega) ht (by omega) hT
    · by_cases he : Fr.er t.data.toList = 0
      · exact begins l v t w h (by omega) (by omega) he hT
      · exact main l v t w h (by omega) (by omega) he hT
set_option maxRecDepth 100000 in
theorem lifted (os : Os) (started : os.Started) (H : Type) (enc : TypeId × Value → H) :
    ReturnsInHanded {} Tryd.checked os 7 .any (fun w args => (Rows.frameRowSpec.pre enc Tryd.prog Tryd.f7 [] false w args ∧ laidMetH Tryd.prog laid w) ∧ sizedMet enc Tryd.prog Tryd.f7 (OpenSpec.ofChange Rows.frameRowSpec) false w args)
      (Rows.frameRowSpec.post enc Tryd.prog Tryd.f7 false true false false) := by
  refine returnsInHanded_of_change_and (C := Tryd.checked) (X := fun w _ => laidMetH Tryd.prog laid w) (fun _ _ _ hh h => h.of_heap hh) own started (by kernel_rfl) Tryd.func7
    (ChangeSpec.witness_shaped (enc := enc) (C := Tryd.checked) (os := os) (X := fun w _ => laidMetH Tryd.prog laid w) false (World.doorLaid Tryd.prog doorSteps os) #[.slice none 0 0, .string ByteArray.empty] 8 rfl (World.shaped_of_RefB (by kernel_rfl) (by kernel_rfl)) (by kernel_rfl) (by kernel_rfl) (by kernel_rfl) (door_met os _)) ?_
  intro W base args ds gs before hval0 hW hcnd _ hL _
  have hval : ∀ (j : Nat) t v, Tryd.f7.params[j]? = some t → args[j]? = some v → Value.okWide Tryd.prog W .any base t v := hval0
  have hW' := hW
  obtain ⟨p, q, hA0, hV, rfl, hfz, hnd⟩ := hW
  have hA : DataW.TrodAll enc Tryd.prog W 0 (fun _ => true) true Tryd.f7.params.toList args.toList ds p := hA0
  rw [Tryd.params7] at hA hval
  obtain ⟨v0, vs0, d0, ds0, p0, q0, hargs, rfl, rfl, h0, r0⟩ := trodAll_cons hA
  obtain ⟨v1, vs1, d1, ds1, p1, q1, rfl, rfl, rfl, h1, r1⟩ := trodAll_cons r0
  obtain ⟨rfl, rfl, rfl⟩ := trodAll_nil r1
  obtain rfl : args = #[v0, v1] := by cases args; simp_all
  obtain ⟨rfl, rfl⟩ := trodVars_none hV
  have k0 := h0
  have lt0 : ∀ x ∈ p0, x.block < W.heap.size := by obtain ⟨m, hm⟩ := k0; exact DataW.trod_lt m _ _ _ hm
  have k1 := h1
  have lt1 : ∀ x ∈ p1, x.block < W.heap.size := by obtain ⟨m, hm⟩ := k1; exact DataW.trod_lt m _ _ _ hm
  obtain ⟨a0, w0⟩ := open_parts (hval 0 50 v0 rfl rfl) h0
  obtain ⟨a1, rfl, rfl, rfl, w1⟩ := open_string Tryd.underlying9 (hval 1 9 v1 rfl rfl) h1
  clear hA0 hval0
  refine (core v0 a0 a1 W w0 w1 (Lib.hid (of_laid hL))).mono fun e W' ⟨he, bel⟩ => ?_
  subst he
  exact ⟨_, rfl, _, _, _, [], _, [], hW', trodAll_mk1 (shut_bool Tryd.underlying4 _), (trodAll_cons_mk (Below.trod laidOut (by kernel_rfl) (of_decide_eq_true (by kernel_rfl)) k0 bel lt0) (trodAll_cons_mk (Below.trod laidOut (by kernel_rfl) (of_decide_eq_true (by kernel_rfl)) k1 bel lt1) trodAll_mk0)), rfl, bel.frame _, fun h => by cases h⟩
theorem over : Rows.frameRowRow.holds Tryd.pinned (OpenSpec.ofChange Rows.frameRowSpec) :=
  OpenClaim.holds_of_wide 7 Tryd.f7 rfl rfl rfl rfl rfl rfl rfl ⟨rfl, rfl, rfl, rfl, rfl⟩ rfl rfl rfl rfl rfl (by kernel_rfl) Tryd.func7 (by kernel_rfl)
    (of_decide_eq_true (by kernel_rfl)) (by unfold Func.isWrapper; first | (rw [if_pos (by decide +kernel)]; kernel_rfl) | (rw [if_neg (by decide +kernel)]; exact ⟨rfl, rfl⟩))
    (fun os started H enc _ => lifted os started H enc)
theorem proved : Rows.FrameRowCardSaid :=
  Claim7.holds_tied_plain_at .later [] [.data] true (true, "528f451f71a3945e035b345f81124441f1a1f31a8451669a6375411dc09c6830") false
    over (fun _ h => by cases h) (by kernel_rfl) (fun _ h => by cases h) frameRow_row_tie rfl ⟨rfl, rfl⟩ (by kernel_rfl) rfl
    (fun f fn hf hfn => by
      obtain rfl : f = 7 := Option.some.inj ((show Tryd.prog.funcNamed "baton/batonlaw08.FrameRow" = some 7 by kernel_rfl).symm.trans hf) |>.symm
      obtain rfl : fn = Tryd.f7 := (Option.some.inj (Tryd.func7.symm.trans hfn)).symm
      exact ⟨by kernel_rfl, fun j t ht => by
        rw [Tryd.params7] at ht
        have hm : t ∈ [50, 9] := by simpa using Array.mem_of_getElem? ht
        have hall : ([50, 9].all fun u => !Tryd.prog.wantsStandIn u) = true := by kernel_rfl
        exact (show Tryd.prog.wantsStandIn t = false by simpa using List.all_eq_true.1 hall t hm)⟩)
    (by kernel_rfl)
end Go.Proofs.YtkbifmgddbilmaaDoor.frameRow
