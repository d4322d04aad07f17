/- Plain mathematics: a frame of which one byte is another one. -/
import Derived.Test.YtkbifmgddbilmaaDoorFm
namespace Go.Proofs.YtkbifmgddbilmaaDoor.Fr
open Go Go.RowKit
theorem fv_inj {l r : List UInt8} (h : l.length = r.length) (e : Bt.fv l = Bt.fv r) : l = r := by
  rw [← fx_fv l, ← fx_fv r, h, e]
theorem xor_ne (x c : UInt8) (h : c ≠ 0) : x ^^^ c ≠ x := by
  intro e
  apply h
  have e2 : x ^^^ (x ^^^ c) = x ^^^ x := by rw [e]
  rw [← UInt8.xor_assoc, UInt8.xor_self, UInt8.zero_xor] at e2
  exact e2
theorem set_ne (l : List UInt8) (i : Nat) (h : i < l.length) (c : UInt8) (hc : c ≠ 0) : l.set i (l[i] ^^^ c) ≠ l := by
  intro e
  have e2 : (l.set i (l[i] ^^^ c))[i]'(by rw [List.length_set]; exact h) = l[i] := by simp only [e]
  rw [List.getElem_set_self] at e2
  exact xor_ne _ _ hc e2
section
variable (X Y q r : List UInt8) (z : UInt8)
theorem parts_ln (hX : X.length = 4) : ln (X ++ (Y ++ (z :: q)) ++ r) = Bt.fv X := by
  unfold ln Bt.fat
  rw [List.drop_zero, List.append_assoc, List.take_left' hX]
theorem parts_cs (hX : X.length = 4) (hY : Y.length = 4) : cs (X ++ (Y ++ (z :: q)) ++ r) = Bt.fv Y := by
  unfold cs Bt.fat
  rw [List.append_assoc, List.drop_left' hX, List.append_assoc, List.take_left' hY]
theorem parts_drop8 (hX : X.length = 4) (hY : Y.length = 4) : (X ++ (Y ++ (z :: q)) ++ r).drop 8 = z :: (q ++ r) := by
  rw [show 8 = 4 + 4 from rfl, ← List.drop_drop, List.append_assoc, List.drop_left' hX, List.append_assoc, List.drop_left' hY]; rfl
theorem parts_kd (hX : X.length = 4) (hY : Y.length = 4) : kd (X ++ (Y ++ (z :: q)) ++ r) = z := by
  have h := kd_drop (l := X ++ (Y ++ (z :: q)) ++ r) (by simp; omega)
  rw [parts_drop8 X Y q r z hX hY] at h
  exact (List.cons.inj h).1.symm
theorem parts_pl (hX : X.length = 4) (hY : Y.length = 4) : pl (X ++ (Y ++ (z :: q)) ++ r) = (q ++ r).take (Bt.fv X) := by
  have h := kd_drop (l := X ++ (Y ++ (z :: q)) ++ r) (by simp; omega)
  rw [parts_drop8 X Y q r z hX hY] at h
  unfold pl
  rw [(List.cons.inj h).2.symm, parts_ln X Y q r z hX]
end
/-- One byte of a text is another one: so is its checksum. -/
theorem ck_set (l : List UInt8) (i : Nat) (h : i < l.length) (c : UInt8) (hc : c ≠ 0) : ck (l.set i (l[i] ^^^ c)) ≠ ck l := by
  intro e
  unfold ck at e
  have e2 := (Sm.mask_inj _ _ (Sm.add_lt (by omega) _) (Sm.add_lt (by omega) _)).1 e
  have hb := Sm.burst_end (l.set i (l[i] ^^^ c)) l (8 * i) c.toNat (by rw [List.length_set]) (by omega) (by have := c.toNat_lt; omega) (Sm.num_set l i h c)
  exact set_ne l i h c hc (hb.1 e2)
theorem fv_fx4 (n : Nat) (h : n < 4294967296) : Bt.fv (Bt.fx 4 n) = n := by
  rw [fv_fx]
  exact Nat.mod_eq_of_lt (by rw [show (256 : Nat) ^ 4 = 4294967296 from by decide]; exact h)
/-- A frame with one byte another one: none, or one of another length. -/
theorem bent (k : UInt8) (p r : List UInt8) (hp : p.length ≤ 262144) (i : Nat) (hi : i < (frm k p).length) (c : UInt8) (hc : c ≠ 0) (hg : Good ((frm k p).set i ((frm k p)[i] ^^^ c) ++ r)) :
    ln ((frm k p).set i ((frm k p)[i] ^^^ c) ++ r) ≠ p.length ∧ i < 4 := by
  obtain ⟨v, hv⟩ : ∃ v, (frm k p)[i] = v := ⟨_, rfl⟩
  have hX : (Bt.fx 4 p.length).length = 4 := Bt.fx_length 4 _
  have hY : (Bt.fx 4 (ck (k :: p))).length = 4 := Bt.fx_length 4 _
  have hfX : Bt.fv (Bt.fx 4 p.length) = p.length := fv_fx4 _ (by omega)
  have hfY : Bt.fv (Bt.fx 4 (ck (k :: p))) = ck (k :: p) := fv_fx4 _ (ck_lt _)
  rw [frm_length] at hi
  by_cases h4 : i < 4
  · refine ⟨?_, h4⟩
    have hvx : (Bt.fx 4 p.length)[i]'(by omega) = (frm k p)[i]'(by rw [frm_length]; omega) := by
      unfold frm
      rw [List.getElem_append_left (by omega)]
    have e : (frm k p).set i ((frm k p)[i] ^^^ c) = (Bt.fx 4 p.length).set i ((Bt.fx 4 p.length)[i]'(by omega) ^^^ c) ++ (Bt.fx 4 (ck (k :: p)) ++ (k :: p)) := by
      rw [hvx]
      generalize (frm k p)[i]'(by rw [frm_length]; omega) = u
      unfold frm
      rw [List.set_append_left _ _ (by omega)]
    rw [e, parts_ln _ _ _ _ _ (by rw [List.length_set]; exact hX)]
    intro h
    exact set_ne _ i (by omega) c hc (fv_inj (by rw [List.length_set]) (h.trans hfX.symm))
  · exfalso
    by_cases h8 : i < 8
    · have hvx : (Bt.fx 4 (ck (k :: p)))[i - 4]'(by omega) = (frm k p)[i]'(by rw [frm_length]; omega) := by
        unfold frm
        rw [List.getElem_append_right (by omega), List.getElem_append_left (by omega)]
        simp only [hX]
      have e : (frm k p).set i ((frm k p)[i] ^^^ c) = Bt.fx 4 p.length ++ ((Bt.fx 4 (ck (k :: p))).set (i - 4) ((Bt.fx 4 (ck (k :: p)))[i - 4]'(by omega) ^^^ c) ++ (k :: p)) := by
        rw [hvx]
        generalize (frm k p)[i]'(by rw [frm_length]; omega) = u
        unfold frm
        rw [List.set_append_right _ _ (by omega), hX, List.set_append_left _ _ (by omega)]
      rw [e] at hg
      have hs := hg.sum
      have hY' : ((Bt.fx 4 (ck (k :: p))).set (i - 4) ((Bt.fx 4 (ck (k :: p)))[i - 4]'(by omega) ^^^ c)).length = 4 := by rw [List.length_set]; exact hY
      rw [parts_cs _ _ _ _ _ hX hY', parts_kd _ _ _ _ _ hX hY', parts_pl _ _ _ _ _ hX hY', hfX, List.take_left' rfl] at hs
      exact set_ne _ (i - 4) (by omega) c hc (fv_inj (by rw [List.length_set]) (hs.trans hfY.symm))
    · have hvx : (k :: p)[i - 8]'(by simp; omega) = (frm k p)[i]'(by rw [frm_length]; omega) := by
        unfold frm
        rw [List.getElem_append_right (by omega), List.getElem_append_right (by omega)]
        simp only [hX, hY, Nat.sub_sub]
      have e : (frm k p).set i ((frm k p)[i] ^^^ c) = Bt.fx 4 p.length ++ (Bt.fx 4 (ck (k :: p)) ++ (k :: p).set (i - 8) ((k :: p)[i - 8]'(by simp; omega) ^^^ c)) := by
        rw [hvx]
        generalize (frm k p)[i]'(by rw [frm_length]; omega) = u
        unfold frm
        rw [List.set_append_right _ _ (by omega), hX, List.set_append_right _ _ (by omega), hY, Nat.sub_sub]
      obtain ⟨z, q, hzq⟩ : ∃ z q, (k :: p).set (i - 8) ((k :: p)[i - 8]'(by simp; omega) ^^^ c) = z :: q := by
        cases hh : (k :: p).set (i - 8) ((k :: p)[i - 8]'(by simp; omega) ^^^ c) with
        | nil => have := congrArg List.length hh; simp at this
        | cons z q => exact ⟨z, q, rfl⟩
      have hql : q.length = p.length := by
        have := congrArg List.length hzq
        simp at this
        omega
      rw [e, hzq] at hg
      have hs := hg.sum
      rw [parts_cs _ _ _ _ _ hX hY, parts_kd _ _ _ _ _ hX hY, parts_pl _ _ _ _ _ hX hY, hfX, hfY, List.take_left' hql, ← hzq] at hs
      exact ck_set (k :: p) (i - 8) (by simp; omega) c hc hs.symm
/-- Scanning goes on, not back. -/
theorem scn_on : ∀ (n : Nat) (l : List UInt8) (a : Nat), l.length ≤ n → a ≤ (scn l a).2
  | 0, l, a, h => by
    rw [scn_bad a (fun e => by have := (er_good.1 e).nine; omega)]; exact Nat.le_refl _
  | n + 1, l, a, h => by
    by_cases he : er l = 0
    · rw [scn_good a he]
      have := (er_good.1 he).nine
      have h2 := scn_on n (l.drop (9 + ln l)) (a + 9 + ln l) (by rw [List.length_drop]; omega)
      dsimp only
      omega
    · rw [scn_bad a he]; exact Nat.le_refl _
/-- Frames, one byte of which is another one. -/
theorem row_bent (l : List (UInt8 × List UInt8)) (h : Nat) (hh : h < l.length) (i : Nat) (hi : i < 9 + l[h].2.length) (c : UInt8) (hk : (row (l.take h)).length + i < (row l).length) :
    (row l).set ((row (l.take h)).length + i) ((row l)[(row (l.take h)).length + i] ^^^ c) =
      row (l.take h) ++ ((frm l[h].1 l[h].2).set i ((frm l[h].1 l[h].2)[i]'(by rw [frm_length]; exact hi) ^^^ c) ++ row (l.drop (h + 1))) := by
  have e : l = l.take h ++ (l[h] :: l.drop (h + 1)) := by rw [List.getElem_cons_drop, List.take_append_drop]
  have er : row l = row (l.take h) ++ (frm l[h].1 l[h].2 ++ row (l.drop (h + 1))) := by
    conv => lhs; rw [e]
    rw [row_append, row]
  have ev : (row l)[(row (l.take h)).length + i] = (frm l[h].1 l[h].2)[i]'(by rw [frm_length]; exact hi) := by
    simp only [er]
    rw [List.getElem_append_right (by omega)]
    simp only [Nat.add_sub_cancel_left]
    rw [List.getElem_append_left (by rw [frm_length]; exact hi)]
  rw [ev]
  generalize (frm l[h].1 l[h].2)[i]'(by rw [frm_length]; exact hi) = u
  rw [er, List.set_append_right _ _ (by omega), Nat.add_sub_cancel_left, List.set_append_left _ _ (by rw [frm_length]; exact hi)]
end Go.Proofs.YtkbifmgddbilmaaDoor.Fr
