/- Add and Sync are the document's, plainly. -/
import Derived.Test.YtieemdcoomilaaaGreatDoorWt
import Derived.Test.YtieemdcoomilaaaGreatDoorWp
import Derived.Test.YtieemdcoomilaaaGreatDoorVo
import Derived.Test.YtieemdcoomilaaaGreatDoorWu
set_option linter.unusedVariables false
set_option linter.unusedSimpArgs false
namespace Go.Proofs.YtieemdcoomilaaaGreatDoor
open Go Go.RowKit Go.Sort
set_option maxRecDepth 100000
/-- The plain answer, as a step's. -/
def vs3 (P : (Dk × Nat) × He × Nat) : VS × Nat := ((P.1.1, P.2.1, P.2.2), P.1.2)
theorem doD_nat {t : Int} (h : 0 ≤ t) (d : Dk) (b : Bool) (k : Tp → Tp × Nat) : doD d (t.toNat : Int) b k = doD d t b k := by rw [Int.toNat_of_nonneg h]
theorem readD_up {d : Dk} (hdn : d.dn = false) {t : Int} (h0 : 0 ≤ t) (h1 : t < 32) : (readD d t).1 = (d.T t.toNat).s := by
  unfold readD
  rw [hdn, if_neg (by simp), if_pos ⟨h0, h1⟩]
theorem sync_eq {d : Dk} {h : He} {n : Nat} (hm : mayB h = true) : sySt (Vt.lz h.log) (d, h, n) = (((Vt.syD d h).1, h, n), (Vt.syD d h).2) := by
  have hl := (mayB_ok hm).mem _ (Vt.lz_mem (mayB_ok hm).ne)
  unfold sySt Vt.syD
  rw [doD_nat (by omega)]
theorem roomB_eq {d : Dk} (hdn : d.dn = false) (n : Nat) : roomB d (n : Int) [] = decide (¬ d.cap < d.used + n) := by
  unfold roomB szs
  exact decide_eq_decide.2 (by omega)
theorem roomB2 {d : Dk} (hdn : d.dn = false) (n : Nat) {a b : Int} (a0 : 0 ≤ a) (a1 : a < 32) (b0 : 0 ≤ b) (b1 : b < 32) : roomB d (n : Int) [a, b] = decide (¬ d.cap + (d.T a.toNat).s.size + (d.T b.toNat).s.size < d.used + n) := by
  unfold roomB szs szs szs
  rw [readD_up hdn a0 a1, readD_up hdn b0 b1]
  exact decide_eq_decide.2 (by omega)
theorem add_run (d : Dk) (h : He) (n : Nat) (r : ByteArray) (z : Int) :
    (if (runS [sySt (Vt.lz h.log), wiSt z, puSt (Vt.nxH h z) n, wrSt z (Vt.fr1 r)] (d, h, n)).2 = 0 then
      (((runS [sySt (Vt.lz h.log), wiSt z, puSt (Vt.nxH h z) n, wrSt z (Vt.fr1 r)] (d, h, n)).1.1, (runS [sySt (Vt.lz h.log), wiSt z, puSt (Vt.nxH h z) n, wrSt z (Vt.fr1 r)] (d, h, n)).1.2.1, (runS [sySt (Vt.lz h.log), wiSt z, puSt (Vt.nxH h z) n, wrSt z (Vt.fr1 r)] (d, h, n)).1.2.2 + 1), 0)
      else runS [sySt (Vt.lz h.log), wiSt z, puSt (Vt.nxH h z) n, wrSt z (Vt.fr1 r)] (d, h, n)) =
    vs3 (if (Vt.thn (Vt.thn (doD d (Vt.lz h.log) false sy) (fun d => doD d z false wi)) (fun d => putR d (Vt.nxH h z))).2 ≠ 0 then (Vt.thn (Vt.thn (doD d (Vt.lz h.log) false sy) (fun d => doD d z false wi)) (fun d => putR d (Vt.nxH h z)), h, n)
      else (doD (Vt.thn (Vt.thn (doD d (Vt.lz h.log) false sy) (fun d => doD d z false wi)) (fun d => putR d (Vt.nxH h z))).1 z true (wf (Vt.thn (Vt.thn (doD d (Vt.lz h.log) false sy) (fun d => doD d z false wi)) (fun d => putR d (Vt.nxH h z))).1 (Vt.fr1 r)), Vt.nxH h z,
        if (doD (Vt.thn (Vt.thn (doD d (Vt.lz h.log) false sy) (fun d => doD d z false wi)) (fun d => putR d (Vt.nxH h z))).1 z true (wf (Vt.thn (Vt.thn (doD d (Vt.lz h.log) false sy) (fun d => doD d z false wi)) (fun d => putR d (Vt.nxH h z))).1 (Vt.fr1 r))).2 = 0 then n + 1 else n)) := by
  rcases hA : doD d (Vt.lz h.log) false sy with ⟨D1, c1⟩
  have a1 : sySt (Vt.lz h.log) (d, h, n) = ((D1, h, n), c1) := by unfold sySt; rw [hA]
  simp only [runS, a1]
  by_cases z1 : c1 ≠ 0
  · rw [show Vt.thn (D1, c1) (fun d => doD d z false wi) = (D1, c1) from if_pos z1, show Vt.thn (D1, c1) (fun d => putR d (Vt.nxH h z)) = (D1, c1) from if_pos z1]
    simp [z1, vs3]
  obtain rfl : c1 = 0 := by omega
  rw [Vt.thn_ok _ (show ((D1, 0) : Dk × Nat).2 = 0 from rfl)]
  rcases hB : doD D1 z false wi with ⟨D2, c2⟩
  have a2 : wiSt z (D1, h, n) = ((D2, h, n), c2) := by unfold wiSt; rw [hB]
  simp only [ne_eq, not_true_eq_false, if_false, a2]
  by_cases z2 : c2 ≠ 0
  · rw [show Vt.thn (D2, c2) (fun d => putR d (Vt.nxH h z)) = (D2, c2) from if_pos z2]
    simp [z2, vs3]
  obtain rfl : c2 = 0 := by omega
  rw [Vt.thn_ok _ (show ((D2, 0) : Dk × Nat).2 = 0 from rfl)]
  rcases hC : putR D2 (Vt.nxH h z) with ⟨D3, c3⟩
  have a3 : puSt (Vt.nxH h z) n (D2, h, n) = ((D3, if c3 = 0 then (Vt.nxH h z, n) else (h, n)), c3) := by unfold puSt; rw [hC]
  simp only [not_true_eq_false, if_false, a3]
  by_cases z3 : c3 ≠ 0
  · simp [z3, vs3]
  obtain rfl : c3 = 0 := by omega
  rcases hD : doD D3 z true (wf D3 (Vt.fr1 r)) with ⟨D4, c4⟩
  have a4 : wrSt z (Vt.fr1 r) (D3, Vt.nxH h z, n) = ((D4, Vt.nxH h z, n), c4) := by unfold wrSt; rw [hD]
  simp only [not_true_eq_false, if_false, if_true, a4]
  by_cases z4 : c4 = 0
  · subst z4; simp [vs3]
  · simp [z4, vs3]
theorem addS_eq {d : Dk} {h : He} {n mo : Nat} (hm : mayB h = true) (hp : ptT d < 32) (r : ByteArray) : AddS r mo (d, h, n) = vs3 (Vt.addD d h n mo r) := by
  have hl := (mayB_ok hm).mem _ (Vt.lz_mem (mayB_ok hm).ne)
  unfold AddS Vt.addD
  dsimp only
  by_cases h1 : 262144 < r.size ∨ 1099511627776 ≤ h.base + (n : Int)
  · rw [if_pos h1, if_pos h1]; rfl
  rw [if_neg h1, if_neg h1]
  by_cases hdn : d.dn = true
  · rw [if_pos hdn, if_pos hdn]; rfl
  rw [if_neg hdn, if_neg hdn]
  have hdn' : d.dn = false := by simpa using hdn
  have hA : adS (Vt.fr1 r) mo (d, h, n) = if 0 < (d.T (Vt.lz h.log).toNat).s.size ∧ mo < (d.T (Vt.lz h.log).toNat).s.size + (r.size + 9) then goS (Vt.fr1 r) (d, h, n) else if d.cap < d.used + (r.size + 9) then ((d, h, n), 44) else wrSt (Vt.lz h.log) (Vt.fr1 r) (d, h, n) := by
    unfold adS
    dsimp only
    rw [readD_up hdn' (by omega) (by omega), Vt.fr1_size, roomB_eq hdn']
    congr 1
    by_cases h2 : d.cap < d.used + (r.size + 9)
    · rw [if_pos h2, if_neg (by simp [h2])]
    · rw [if_neg h2, if_pos (by simp [h2])]
  rw [hA]
  by_cases h3 : 0 < (d.T (Vt.lz h.log).toNat).s.size ∧ mo < (d.T (Vt.lz h.log).toNat).s.size + (r.size + 9)
  · simp only [if_pos h3]
    unfold goS
    dsimp only
    by_cases h4 : 1099511627776 ≤ h.gen
    · simp only [if_pos h4]; rfl
    simp only [if_neg h4]
    cases hf : frL h 32 with
    | nil => rfl
    | cons z zs =>
      have hz := Vt.frL_mem h 32 z (by rw [hf]; simp)
      dsimp only
      have hR := roomB2 (d := d) hdn' (r.size + 9 + sizR (Vt.nxH h z)) (a := z) (b := (ptT d : Int)) (by omega) (by omega) (by omega) (by omega)
      rw [Int.toNat_natCast] at hR
      rw [Vt.fr1_size]
      by_cases h5 : d.cap + (d.T z.toNat).s.size + (d.T (ptT d)).s.size < d.used + (r.size + 9) + sizR (Vt.nxH h z)
      · rw [decide_eq_false (by omega)] at hR
        simp only [hR, if_pos h5]
        rfl
      · rw [decide_eq_true (by omega)] at hR
        simp only [hR, if_neg h5]
        unfold Vt.syD
        simp only [doD_nat (show 0 ≤ z by omega), doD_nat (show 0 ≤ Vt.lz h.log by omega)]
        exact add_run d h n r z
  · simp only [if_neg h3]
    by_cases h6 : d.cap < d.used + (r.size + 9)
    · simp only [if_pos h6]; rfl
    · simp only [if_neg h6]
      simp only [doD_nat (show 0 ≤ Vt.lz h.log by omega)]
      unfold wrSt vs3
      dsimp only
      by_cases h7 : (doD d (Vt.lz h.log) true (wf d (Vt.fr1 r))).2 = 0
      · rw [if_pos h7, if_pos h7, h7]
      · rw [if_neg h7, if_neg h7]
end Go.Proofs.YtieemdcoomilaaaGreatDoor
namespace Go.Proofs.YtieemdcoomilaaaGreatDoor
open Go Go.RowKit Go.Sort
set_option maxRecDepth 100000
theorem runS_app : ∀ (L M : List SF) (x : VS), runS (L ++ M) x = if (runS L x).2 ≠ 0 then runS L x else runS M (runS L x).1
  | [], M, x => by simp [runS]
  | f :: L, M, x => by
    simp only [List.cons_append, runS]
    by_cases h : (f x).2 ≠ 0
    · simp [h]
    · simp only [h, if_false]
      exact runS_app L M (f x).1
theorem wipes_eq (d : Dk) (h : He) (hn : He × Nat) : runS ((nmS h).map wiSt) (d, hn) = (((Vt.over (Vt.wu h) Vt.tps d).1, hn), (Vt.over (Vt.wu h) Vt.tps d).2) := by
  have := chain_eq wi (fun t : Nat => usB h (t : Int)) (Vt.wu h) d hn Vt.tps d (by unfold Vt.tps; exact List.nodup_range') (fun t ht => (Vt.mem_tps.1 ht).2) (fun _ _ => rfl) rfl (fun d'' t _ _ _ => rfl)
  rw [← this]
  unfold nmS
  rw [List.map_map]
  rfl
theorem lay_run (d : Dk) (h : He) (n : Nat) (s : ByteArray) (a b : Int) (ha : 0 ≤ a) (hb : 0 ≤ b) (hl : 0 ≤ Vt.lz h.log) :
    runS (lyL s a b (d, h, n)) (d, h, n) = (((Vt.lyX d h a.toNat b.toNat s (Vt.lyH h n a b)).1, if (Vt.lyX d h a.toNat b.toNat s (Vt.lyH h n a b)).2 = 0 then (Vt.lyH h n a b, 0) else (h, n)), (Vt.lyX d h a.toNat b.toNat s (Vt.lyH h n a b)).2) := by
  unfold lyL Vt.lyX Vt.syD
  simp only [doD_nat ha, doD_nat hb, doD_nat hl]
  rcases hA : doD d (Vt.lz h.log) false sy with ⟨D1, c1⟩
  have a1 : sySt (Vt.lz h.log) (d, h, n) = ((D1, h, n), c1) := by unfold sySt; rw [hA]
  simp only [runS, a1]
  by_cases z1 : c1 ≠ 0
  · simp [Vt.thn, z1]
  obtain rfl : c1 = 0 := by omega
  rw [Vt.thn_ok _ (show ((D1, 0) : Dk × Nat).2 = 0 from rfl)]
  rcases hB : doD D1 a false wi with ⟨D2, c2⟩
  have a2 : wiSt a (D1, h, n) = ((D2, h, n), c2) := by unfold wiSt; rw [hB]
  simp only [ne_eq, not_true_eq_false, if_false, a2]
  by_cases z2 : c2 ≠ 0
  · simp [Vt.thn, z2]
  obtain rfl : c2 = 0 := by omega
  rw [Vt.thn_ok _ (show ((D2, 0) : Dk × Nat).2 = 0 from rfl)]
  rcases hC : doD D2 a true (wf D2 (Vt.fr2 s)) with ⟨D3, c3⟩
  have a3 : wrSt a (Vt.fr2 s) (D2, h, n) = ((D3, h, n), c3) := by unfold wrSt; rw [hC]
  simp only [not_true_eq_false, if_false, a3]
  by_cases z3 : c3 ≠ 0
  · simp [Vt.thn, z3]
  obtain rfl : c3 = 0 := by omega
  rw [Vt.thn_ok _ (show ((D3, 0) : Dk × Nat).2 = 0 from rfl)]
  rcases hD : doD D3 a false sy with ⟨D4, c4⟩
  have a4 : sySt a (D3, h, n) = ((D4, h, n), c4) := by unfold sySt; rw [hD]
  simp only [not_true_eq_false, if_false, a4]
  by_cases z4 : c4 ≠ 0
  · simp [Vt.thn, z4]
  obtain rfl : c4 = 0 := by omega
  rw [Vt.thn_ok _ (show ((D4, 0) : Dk × Nat).2 = 0 from rfl)]
  rcases hE : doD D4 b false wi with ⟨D5, c5⟩
  have a5 : wiSt b (D4, h, n) = ((D5, h, n), c5) := by unfold wiSt; rw [hE]
  simp only [not_true_eq_false, if_false, a5]
  by_cases z5 : c5 ≠ 0
  · simp [Vt.thn, z5]
  obtain rfl : c5 = 0 := by omega
  rw [Vt.thn_ok _ (show ((D5, 0) : Dk × Nat).2 = 0 from rfl)]
  rcases hF : putR D5 (Vt.lyH h n a b) with ⟨D6, c6⟩
  have a6 : puSt (Vt.lyH h n a b) 0 (D5, h, n) = ((D6, if c6 = 0 then (Vt.lyH h n a b, 0) else (h, n)), c6) := by unfold puSt; rw [hF]
  simp only [not_true_eq_false, if_false, a6]
  by_cases z6 : c6 = 0
  · subst z6; simp
  · simp [z6]
theorem roomB1 {d : Dk} (hdn : d.dn = false) (n : Nat) {a : Int} (a0 : 0 ≤ a) (a1 : a < 32) : roomB d (n : Int) [a] = decide (¬ d.cap + (d.T a.toNat).s.size < d.used + n) := by
  unfold roomB szs szs
  rw [readD_up hdn a0 a1]
  exact decide_eq_decide.2 (by omega)
theorem roomB3 {d : Dk} (hdn : d.dn = false) (n : Nat) {a b c : Int} (a0 : 0 ≤ a) (a1 : a < 32) (b0 : 0 ≤ b) (b1 : b < 32) (c0 : 0 ≤ c) (c1 : c < 32) : roomB d (n : Int) [a, b, c] = decide (¬ d.cap + (d.T a.toNat).s.size + (d.T b.toNat).s.size + (d.T c.toNat).s.size < d.used + n) := by
  unfold roomB szs szs szs szs
  rw [readD_up hdn a0 a1, readD_up hdn b0 b1, readD_up hdn c0 c1]
  exact decide_eq_decide.2 (by omega)
theorem layS_eq {d : Dk} {h : He} {n : Nat} (hm : mayB h = true) (hp : ptT d < 32) (s : ByteArray) : LayS s (d, h, n) = vs3 (Vt.layD d h n s) := by
  have hl := (mayB_ok hm).mem _ (Vt.lz_mem (mayB_ok hm).ne)
  unfold LayS Vt.layD
  dsimp only
  by_cases h1 : 262144 < s.size ∨ 1099511627776 < h.base + (n : Int)
  · rw [if_pos h1, if_pos h1]; rfl
  rw [if_neg h1, if_neg h1]
  by_cases hdn : d.dn = true
  · rw [if_pos hdn, if_pos hdn]; rfl
  rw [if_neg hdn, if_neg hdn]
  have hdn' : d.dn = false := by simpa using hdn
  by_cases h4 : 1099511627776 ≤ h.gen
  · rw [if_pos h4, if_pos h4]; rfl
  rw [if_neg h4, if_neg h4]
  match hf : frL h 32 with
  | [] => rfl
  | [_] => rfl
  | a :: b :: zs =>
    have ha := Vt.frL_mem h 32 a (by rw [hf]; simp)
    have hb := Vt.frL_mem h 32 b (by rw [hf]; simp)
    have hR1 := roomB1 (d := d) hdn' (s.size + 9) (a := a) (by omega) (by omega)
    have hR2 := roomB3 (d := d) hdn' (s.size + 9 + sizR (Vt.lyH h n a b)) (a := a) (b := (ptT d : Int)) (c := b) (by omega) (by omega) (by omega) (by omega) (by omega) (by omega)
    rw [Int.toNat_natCast] at hR2
    show layC s a b (d, h, n) = _
    unfold layC
    dsimp only
    by_cases h5 : d.cap + (d.T a.toNat).s.size < d.used + (s.size + 9) ∨ d.cap + (d.T a.toNat).s.size + (d.T b.toNat).s.size + (d.T (ptT d)).s.size < d.used + (s.size + 9) + sizR (Vt.lyH h n a b)
    · rw [if_pos h5, if_neg (by
        rw [hR1, hR2]
        rintro ⟨e1, e2⟩
        have e1 := of_decide_eq_true e1
        have e2 := of_decide_eq_true e2
        omega)]
      rfl
    · rw [if_neg h5, if_pos (by
        rw [hR1, hR2]
        exact ⟨decide_eq_true (by omega), decide_eq_true (by omega)⟩)]
      rw [runS_app, lay_run d h n s a b (by omega) (by omega) (by omega)]
      by_cases h6 : (Vt.lyX d h a.toNat b.toNat s (Vt.lyH h n a b)).2 = 0
      · simp only [h6, ne_eq, not_true_eq_false, if_false, if_true]
        rw [wipes_eq]
        rfl
      · simp only [ne_eq, h6, not_false_eq_true, if_true, if_false]
        simp [vs3]
end Go.Proofs.YtieemdcoomilaaaGreatDoor
namespace Go.Proofs.YtieemdcoomilaaaGreatDoor
open Go Go.RowKit Go.Sort
set_option maxRecDepth 100000
theorem vadd_eq {V B mo : Nat} {d : Dk} {h : He} {n : Nat} {W : World} (r : ByteArray) (hr : r.size ≤ 9223372036854775807) (hn : n ≤ 1099511627776) (hx : VSt W V B mo (d, h, n)) (hm : mayB h = true) :
    Calls Tryz.prog 11 #[.pointer (some ⟨V, 0, none⟩), .string r] W fun e w' => e = .returned (.int .i64 ((Vt.addD d h n mo r).1.2 : Int)) ∧ VSt w' V B mo ((Vt.addD d h n mo r).1.1, (Vt.addD d h n mo r).2) ∧ Gv W w' B V := by
  have k := vAdd_any V B mo (d, h, n) r W hr hn hx hm
  rw [addS_eq hm (Nat.lt_of_le_of_lt (ptT_le d) (by omega)) r] at k
  exact k
theorem vlay_eq {V B mo : Nat} {d : Dk} {h : He} {n : Nat} {W : World} (s : ByteArray) (hs : s.size ≤ 9223372036854775807) (hn : n ≤ 1099511627776) (hx : VSt W V B mo (d, h, n)) (hm : mayB h = true) :
    Calls Tryz.prog 13 #[.pointer (some ⟨V, 0, none⟩), .string s] W fun e w' => e = .returned (.int .i64 ((Vt.layD d h n s).1.2 : Int)) ∧ VSt w' V B mo ((Vt.layD d h n s).1.1, (Vt.layD d h n s).2) ∧ Gv W w' B V := by
  have k := vLay_any V B mo (d, h, n) s W hs hn hx hm
  rw [layS_eq hm (Nat.lt_of_le_of_lt (ptT_le d) (by omega)) s] at k
  exact k
theorem vsync_eq {V B mo : Nat} {d : Dk} {h : He} {n : Nat} {W : World} (hx : VSt W V B mo (d, h, n)) (hm : mayB h = true) :
    Calls Tryz.prog 12 #[.pointer (some ⟨V, 0, none⟩)] W fun e w' => e = .returned (.int .i64 ((Vt.syD d h).2 : Int)) ∧ VSt w' V B mo ((Vt.syD d h).1, h, n) ∧ Gv W w' B V := by
  have k := vsync_any V B mo (d, h, n) W hx (mayB_ok hm).ne
  rw [sync_eq hm] at k
  exact k
/-- The vault, by its tapes' sizes. -/
def VZ (W : World) (V B mo : Nat) (z : Vt.Zs) : Prop := ∃ d, VSt W V B mo (d, z.h, z.L.length) ∧ Vt.InvZ d z mo
theorem InvZ.may {d : Dk} {z : Vt.Zs} {mo : Nat} (i : Vt.InvZ d z mo) : mayB z.h = true := by
  obtain ⟨E, B, hs, -⟩ := i.st
  exact hs.hd.may
def RZ (W : World) (V B mo : Nat) (z : Vt.Zs) (r : Int) (e : Ending) (w' : World) : Prop := e = .returned (.int .i64 r) ∧ VZ w' V B mo z ∧ Gv W w' B V
theorem vz_add {W : World} {V B mo : Nat} {z z' : Vt.Zs} (hmo : mo ≤ 1048576) (r : ByteArray) (hr : r.size ≤ 9223372036854775807) (hn : z.L.length ≤ 1099511627776) (hz : Vt.addZ z mo r r.size = (some z', 0)) (h : VZ W V B mo z) :
    Calls Tryz.prog 11 #[.pointer (some ⟨V, 0, none⟩), .string r] W (RZ W V B mo z' 0) := by
  obtain ⟨d, hx, i⟩ := h
  refine (vadd_eq r hr hn hx (InvZ.may i)).mono ?_
  rintro e w' ⟨rfl, h1, h2⟩
  obtain ⟨a1, a2, a3⟩ := Vt.addZ_ok i hmo r hz
  rw [a1]
  rw [a2] at h1
  exact ⟨rfl, ⟨_, h1, a3⟩, h2⟩
theorem vz_add_no {W : World} {V B mo : Nat} {z : Vt.Zs} {er : Nat} (hmo : mo ≤ 1048576) (r : ByteArray) (hr : r.size ≤ 9223372036854775807) (hn : z.L.length ≤ 1099511627776) (hz : Vt.addZ z mo r r.size = (none, er)) (he : er ≠ 1) (h : VZ W V B mo z) :
    Calls Tryz.prog 11 #[.pointer (some ⟨V, 0, none⟩), .string r] W (RZ W V B mo z (er : Int)) := by
  obtain ⟨d, hx, i⟩ := h
  refine (vadd_eq r hr hn hx (InvZ.may i)).mono ?_
  rintro e w' ⟨rfl, h1, h2⟩
  rw [Vt.addZ_no i hmo r hz he] at h1 ⊢
  exact ⟨rfl, ⟨_, h1, i⟩, h2⟩
theorem vz_lay {W : World} {V B mo : Nat} {z z' : Vt.Zs} (r : ByteArray) (hr : r.size ≤ 9223372036854775807) (hn : z.L.length ≤ 1099511627776) (hz : Vt.layZ z r r.size = (some z', 0)) (h : VZ W V B mo z) :
    Calls Tryz.prog 13 #[.pointer (some ⟨V, 0, none⟩), .string r] W (RZ W V B mo z' 0) := by
  obtain ⟨d, hx, i⟩ := h
  refine (vlay_eq r hr hn hx (InvZ.may i)).mono ?_
  rintro e w' ⟨rfl, h1, h2⟩
  obtain ⟨a1, a2, a4, a3⟩ := Vt.layZ_ok i r hz
  rw [a1]
  rw [a2] at h1
  refine ⟨rfl, ⟨_, ?_, a3⟩, h2⟩
  rw [a4]
  exact h1
theorem vz_lay_no {W : World} {V B mo : Nat} {z : Vt.Zs} {er : Nat} (r : ByteArray) (hr : r.size ≤ 9223372036854775807) (hn : z.L.length ≤ 1099511627776) (hz : Vt.layZ z r r.size = (none, er)) (he : er ≠ 1) (h : VZ W V B mo z) :
    Calls Tryz.prog 13 #[.pointer (some ⟨V, 0, none⟩), .string r] W (RZ W V B mo z (er : Int)) := by
  obtain ⟨d, hx, i⟩ := h
  refine (vlay_eq r hr hn hx (InvZ.may i)).mono ?_
  rintro e w' ⟨rfl, h1, h2⟩
  rw [Vt.layZ_no i r hz he] at h1 ⊢
  exact ⟨rfl, ⟨_, h1, i⟩, h2⟩
theorem vz_sync {W : World} {V B mo : Nat} {z : Vt.Zs} (h : VZ W V B mo z) : Calls Tryz.prog 12 #[.pointer (some ⟨V, 0, none⟩)] W (RZ W V B mo z 0) := by
  obtain ⟨d, hx, i⟩ := h
  refine (vsync_eq hx (InvZ.may i)).mono ?_
  rintro e w' ⟨rfl, h1, h2⟩
  obtain ⟨a1, a2⟩ := Vt.syncZ i
  rw [a1]
  exact ⟨rfl, ⟨_, h1, a2⟩, h2⟩
theorem VZ.below {W W' : World} {V B mo : Nat} {z : Vt.Zs} (h : VZ W V B mo z) (hb : Below W.heap.size W W') : VZ W' V B mo z := by
  obtain ⟨d, hx, i⟩ := h
  exact ⟨d, hx.below hb (Nat.le_refl _), i⟩
theorem vz_finds {W : World} {V B mo : Nat} {z : Vt.Zs} {v : Value} (hm1 : 1 ≤ mo) (hm2 : mo ≤ 1048576) (h : VZ W V B mo z) (hv : SAt W v z.L) (hvB : ∀ q, v.ownBlock = some q → q ≠ B) (hR : z.L.length ≤ 1000000) :
    Calls Tryz.prog 20 #[.pointer (some ⟨B, 0, none⟩), .int .i64 (mo : Int), .bool z.S.isSome, .string (z.S.getD ⟨#[]⟩), v] W fun e w' => e = .returned (.bool true) ∧ VZ w' V B mo z ∧ W.grownBy w' (some B) := by
  obtain ⟨d, hx, i⟩ := h
  obtain ⟨d', ho, i'⟩ := Vt.openZ i
  refine (finds_any B mo d d' z.h z.S z.L v hm1 hm2 W ho hx.d hx.ok hx.t hx.b0 hv (fun _ => hvB) hR).mono ?_
  rintro e w' ⟨rfl, h1, h2, h3⟩
  exact ⟨rfl, ⟨d', hx.regrow h3 h1 h2, i'⟩, h3⟩
theorem vz_is {W : World} {V B mo : Nat} {z : Vt.Zs} {u : Value} {x : He} (h : VZ W V B mo z) (hu : KAt W u x.log) (hx : x.log.length ≤ 1000) (he : sameB z.h x = true) :
    Calls Tryz.prog 19 #[.pointer (some ⟨V, 0, none⟩), .int .i64 x.gen, .int .i64 x.base, .int .i64 x.snap, u] W (Ret W (.bool true)) := by
  obtain ⟨d, hx2, i⟩ := h
  obtain ⟨v, hv⟩ := hx2.v
  have kk := mayB_ok (InvZ.may i)
  have := vis_any V B mo z.h z.L.length v x u W hv kk.ne (by have := kk.len; omega) hu hx
  rw [he] at this
  exact this
theorem vz_since {W : World} {V B mo : Nat} {z : Vt.Zs} (h : VZ W V B mo z) : Calls Tryz.prog 15 #[.pointer (some ⟨V, 0, none⟩)] W fun e w' => e = .returned (.int .i64 (z.L.length : Int)) ∧ W = w' := by
  obtain ⟨d, hx2, i⟩ := h
  obtain ⟨v, hv⟩ := hx2.v
  exact since_any V B mo z.h z.L.length v W hv
theorem vz_count {W : World} {V B mo : Nat} {z : Vt.Zs} (h : VZ W V B mo z) (hn : z.L.length ≤ 1099511627776) : Calls Tryz.prog 14 #[.pointer (some ⟨V, 0, none⟩)] W (Ret W (.int .i64 (z.h.base + (z.L.length : Int)))) := by
  obtain ⟨d, hx2, i⟩ := h
  obtain ⟨v, hv⟩ := hx2.v
  have kk := mayB_ok (InvZ.may i)
  exact count_any V B mo z.h z.L.length v W hv kk.b1 kk.b2 hn
theorem vz_on (c mo : Nat) (hc : 14 ≤ c) (hc2 : c ≤ 1000000000) (hm1 : 1 ≤ mo) (hm2 : mo ≤ 1048576) (w : World) (hT : Tab w) :
    Calls Tryz.prog 10 #[.int .i64 (c : Int), .int .i64 (mo : Int)] w fun e w' => ∃ B V, e = .returned (.tuple #[.pointer (some ⟨B, 0, none⟩), .pointer (some ⟨V, 0, none⟩)]) ∧ w.heap.size ≤ B ∧ w.heap.size ≤ V ∧ VZ w' V B mo (Vt.newZ c) ∧ Below w.heap.size w w' := by
  refine (on_any c mo hc hc2 hm1 hm2 w hT).mono ?_
  rintro e w' ⟨B, V, rfl, hB, hV, hok, hx, hb⟩
  obtain ⟨d', ho, i⟩ := Vt.newZ_ok (most := mo) hc hok
  rw [ho] at hx
  exact ⟨B, V, rfl, hB, hV, ⟨d', hx, i⟩, hb⟩
end Go.Proofs.YtieemdcoomilaaaGreatDoor
namespace Go.Proofs.YtieemdcoomilaaaGreatDoor
open Go Go.RowKit Go.Sort
set_option maxRecDepth 100000
theorem below_gv {m : Nat} {w W W' : World} {B V : Nat} (h : Below m w W) (hg : Gv W W' B V) (hm : m ≤ W.heap.size) (hB : m ≤ B) (hV : m ≤ V) : Below m w W' :=
  ⟨hg.os.trans h.os, hg.tape.trans h.tape, hg.output.trans h.output, Nat.le_trans h.size hg.size, fun k hk => (hg.block k (Nat.lt_of_lt_of_le hk hm) (by omega) (by omega)).trans (h.block k hk)⟩
theorem vz_finds' {W : World} {V B mo : Nat} {z : Vt.Zs} {v : Value} (hs : Bool) (sn : ByteArray) (l : List ByteArray) (e1 : z.S.isSome = hs) (e2 : z.S.getD ⟨#[]⟩ = sn) (e3 : z.L = l) (hm1 : 1 ≤ mo) (hm2 : mo ≤ 1048576) (h : VZ W V B mo z) (hv : SAt W v l) (hvB : ∀ q, v.ownBlock = some q → q ≠ B) (hR : l.length ≤ 1000000) :
    Calls Tryz.prog 20 #[.pointer (some ⟨B, 0, none⟩), .int .i64 (mo : Int), .bool hs, .string sn, v] W fun e w' => e = .returned (.bool true) ∧ VZ w' V B mo z ∧ W.grownBy w' (some B) := by
  subst e1 e2 e3
  exact vz_finds hm1 hm2 h hv hvB hR
theorem kat_one (W : World) (n : Int) : KAt (W.alloc (.cells #[.int .i64 n] 3)) (.slice (some ⟨W.heap.size, 0, none⟩) 1 1) [n] :=
  .inr ⟨_, _, _, rfl, Nat.le_refl _, fun j hj => by
    have : j = 0 := by simpa using hj
    subst this
    rw [Nat.zero_add, World.cell?_alloc_new]; rfl⟩
theorem below_gr {m : Nat} {w W W' : World} {B : Nat} (h : Below m w W) (hg : W.grownBy W' (some B)) (hm : m ≤ W.heap.size) (hB : m ≤ B) : Below m w W' := h.grown hg hm (fun k hk => by cases hk; exact hB)
def zK1 : Vt.Zs := (Vt.addZ (Vt.newZ 10000) 100 ⟨#[97]⟩ 1).1.getD (Vt.newZ 0)
def zK2 : Vt.Zs := (Vt.addZ zK1 100 ⟨#[98]⟩ 1).1.getD (Vt.newZ 0)
def zK3 : Vt.Zs := (Vt.layZ zK2 ⟨#[115]⟩ 1).1.getD (Vt.newZ 0)
theorem zk1 : Vt.addZ (Vt.newZ 10000) 100 ⟨#[97]⟩ (⟨#[97]⟩ : ByteArray).size = (some zK1, 0) := by kernel_rfl
theorem zk2 : Vt.addZ zK1 100 ⟨#[98]⟩ (⟨#[98]⟩ : ByteArray).size = (some zK2, 0) := by kernel_rfl
theorem zk3 : Vt.layZ zK2 ⟨#[115]⟩ (⟨#[115]⟩ : ByteArray).size = (some zK3, 0) := by kernel_rfl
theorem zk_l0 : (Vt.newZ 10000).L.length ≤ 1099511627776 := by decide
theorem zk_l1 : zK1.L.length ≤ 1099511627776 := by decide +kernel
theorem zk_l2 : zK2.L.length ≤ 1099511627776 := by decide +kernel
set_option maxHeartbeats 4000000 in
theorem awake_any (w : World) (hT : Tab w) : Calls Tryz.prog 8 #[] w fun e w' => e = .returned (.bool true) ∧ Below w.heap.size w w' := by
  have HON := Lib.hid (by have h := vz_on 10000 100 (by decide) (by decide) (by decide) (by decide) w hT; rw [show ((10000 : Nat) : Int) = 10000 from rfl, show ((100 : Nat) : Int) = 100 from rfl] at h; exact h)
  have A1 := Lib.hid (fun V B W (h : VZ W V B 100 (Vt.newZ 10000)) => vz_add (by decide) ⟨#[97]⟩ (by decide) zk_l0 zk1 h)
  have A2 := Lib.hid (fun V B W (h : VZ W V B 100 zK1) => vz_add (by decide) ⟨#[98]⟩ (by decide) zk_l1 zk2 h)
  have A3 := Lib.hid (fun V B W (h : VZ W V B 100 zK2) => vz_sync h)
  have A4 := Lib.hid (fun V B W v (h : VZ W V B 100 zK2) (hv : SAt W v [⟨#[97]⟩, ⟨#[98]⟩]) (hvB : ∀ q, v.ownBlock = some q → q ≠ B) => vz_finds' false ⟨#[]⟩ _ (by kernel_rfl) (by kernel_rfl) (by kernel_rfl) (by decide) (by decide) h hv hvB (by decide))
  have A5 := Lib.hid (fun V B W (h : VZ W V B 100 zK2) => vz_lay ⟨#[115]⟩ (by decide) zk_l2 zk3 h)
  have A6 := Lib.hid (fun V B W v (h : VZ W V B 100 zK3) (hv : SAt W v []) (hvB : ∀ q, v.ownBlock = some q → q ≠ B) => vz_finds' true ⟨#[115]⟩ [] (by kernel_rfl) (by kernel_rfl) (by kernel_rfl) (by decide) (by decide) h hv hvB (by decide))
  have I1 := Lib.hid (fun V B W u (h : VZ W V B 100 (Vt.newZ 10000)) (hu : KAt W u [2]) => vz_is (x := ⟨1, 0, 0, [2]⟩) h hu (by decide) (by decide +kernel))
  have I2 := Lib.hid (fun V B W u (h : VZ W V B 100 zK3) (hu : KAt W u [4]) => vz_is (x := ⟨2, 2, 3, [4]⟩) h hu (by decide) (by decide +kernel))
  have S1 := Lib.hid (fun V B W (h : VZ W V B 100 zK3) => vz_since h)
  have C1 := Lib.hid (fun V B W (h : VZ W V B 100 zK3) => vz_count h (by decide +kernel))
  rw [show (zK3.L.length : Int) = 0 from by decide +kernel] at S1 C1
  rw [show zK3.h.base + 0 = 2 from by decide +kernel] at C1
  rw [show ((100 : Nat) : Int) = 100 from rfl] at A4 A6
  clear hT
  go_enter Tryz.func8, Tryz.ntmps8
  go_wp2_with fail
  refine HON.out.mono ?_
  rintro e w1 ⟨B, V, rfl, hB, hV, hz, hb⟩
  have HB := Lib.hid hB
  have HV := Lib.hid hV
  have HZ1 := Lib.hid hz
  have HW1 := Lib.hid hb
  clear hB hV hz hb
  go_wp2_with fail
  refine (I1.out _ _ _ _ (HZ1.out.below (below_one _ _)) (kat_one _ _)).mono ?_
  rintro e w2 ⟨rfl, hb⟩
  have HZ2 := Lib.hid ((HZ1.out.below (below_one _ _)).below hb)
  have HW2 := Lib.hid (below_alloc_trans HW1.out hb)
  clear hb
  go_wp2_with fail
  refine (A1.out _ _ _ HZ2.out).mono ?_
  rintro e w3 ⟨rfl, hz, hg⟩
  have HZ3 := Lib.hid hz
  have HW3 := Lib.hid (below_gv HW2.out hg HW2.out.size HB.out HV.out)
  clear hz hg
  go_wp2_with fail
  refine (A2.out _ _ _ HZ3.out).mono ?_
  rintro e w4 ⟨rfl, hz, hg⟩
  have HZ4 := Lib.hid hz
  have HW4 := Lib.hid (below_gv HW3.out hg HW3.out.size HB.out HV.out)
  clear hz hg
  go_wp2_with fail
  refine (A3.out _ _ _ HZ4.out).mono ?_
  rintro e w5 ⟨rfl, hz, hg⟩
  have HZ5 := Lib.hid hz
  have HW5 := Lib.hid (below_gv HW4.out hg HW4.out.size HB.out HV.out)
  have HBl : Hid (B < w5.heap.size) := Lib.hid (by obtain ⟨d, hx, -⟩ := hz; exact hx.d.lt)
  clear hz hg
  go_wp2_with fail
  refine (A4.out _ _ _ _ (HZ5.out.below (below_one _ _)) (sat_new w5 [⟨#[97]⟩, ⟨#[98]⟩] 9 (by decide)) (fun q hq => by cases hq; exact Nat.ne_of_gt HBl.out)).mono ?_
  rintro e w6 ⟨rfl, hz, hg⟩
  have HZ6 := Lib.hid hz
  have HW6 := Lib.hid (below_gr (HW5.out.alloc HW5.out.size _) hg (by rw [World.size_alloc]; exact Nat.le_succ_of_le HW5.out.size) HB.out)
  clear hz hg
  go_wp2_with fail
  refine (A5.out _ _ _ HZ6.out).mono ?_
  rintro e w7 ⟨rfl, hz, hg⟩
  have HZ7 := Lib.hid hz
  have HW7 := Lib.hid (below_gv HW6.out hg HW6.out.size HB.out HV.out)
  clear hz hg
  go_wp2_with fail
  refine (I2.out _ _ _ _ (HZ7.out.below (below_one _ _)) (kat_one _ _)).mono ?_
  rintro e w8 ⟨rfl, hb⟩
  have HZ8 := Lib.hid ((HZ7.out.below (below_one _ _)).below hb)
  have HW8 := Lib.hid (below_alloc_trans HW7.out hb)
  clear hb
  go_wp2_with fail
  refine (S1.out _ _ _ HZ8.out).mono ?_
  rintro e w9 ⟨rfl, rfl⟩
  go_wp2_with fail
  refine (C1.out _ _ _ HZ8.out).mono ?_
  rintro e w9 ⟨rfl, hb⟩
  have HZ9 := Lib.hid (HZ8.out.below hb)
  have HW9 := Lib.hid (below_trans' HW8.out hb)
  clear hb
  go_wp2_with fail
  refine (A6.out _ _ _ _ HZ9.out (SAt.nil _) (fun q hq => by cases hq)).mono ?_
  rintro e w10 ⟨rfl, hz, hg⟩
  have HW10 := Lib.hid (below_gr HW9.out hg HW9.out.size HB.out)
  clear hz hg
  go_wp2
  go_ret
  exact ⟨rfl, HW10.out⟩
end Go.Proofs.YtieemdcoomilaaaGreatDoor
