/- The contracts of May, the program's and the document's. -/
import Derived.Test.YtjhgmlhoefakpaaDoorCd
import Derived.Lib.QuietBelow
import Derived.BigQuiet
import Derived.Deep.QuietTactic
namespace Go.Proofs.YtjhgmlhoefakpaaDoor
open Go.RowKit Go.Sort
set_option maxRecDepth 100000
set_option maxHeartbeats 1000000
def Ret (w : World) (v : Value) (e : Ending) (w' : World) : Prop := e = .returned v ∧ Below w.heap.size w w'
theorem Ret.same {w w' : World} {v : Value} {e : Ending} (h : e = .returned v ∧ w = w') : Ret w v e w' := ⟨h.1, by rw [← h.2]; exact Below.refl _ _⟩
theorem less_tri : ∀ a b : List UInt8, (Op.bytesLess a b || a == b) = !(Op.bytesLess b a)
  | [], [] => by simp [Op.bytesLess]
  | [], b :: y => by simp [Op.bytesLess]
  | a :: x, [] => by simp [Op.bytesLess]
  | a :: x, b :: y => by
    have ih := less_tri x y
    simp only [Op.bytesLess]
    rcases Nat.lt_trichotomy a.toNat b.toNat with h | h | h
    · have h1 : a < b := h
      have h2 : ¬ b < a := fun h3 => by have : b.toNat < a.toNat := h3; omega
      have h3 : ¬ b = a := fun e => by subst e; omega
      simp [h1, h2, h3]
    · have e : a = b := UInt8.toNat_inj.1 h
      subst e
      have h2 : ¬ a < a := fun h3 => by have : a.toNat < a.toNat := h3; omega
      simp [h2] at ih ⊢
      exact ih
    · have h1 : b < a := h
      have h2 : ¬ a < b := fun h3 => by have : a.toNat < b.toNat := h3; omega
      have h3 : ¬ a = b := fun e => by subst e; omega
      simp [h1, h2, h3]
theorem nlt_raw (a b : ByteArray) : Op.bytesLess a.toList b.toList = nlt a b := by
  unfold nlt
  rw [Lib.toList_data, Lib.toList_data]
theorem nlt_raw2 (a b : ByteArray) : (Op.bytesLess b.toList a.toList || b.toList == a.toList) = !(nlt a b) := by
  rw [less_tri, nlt_raw]
def prevN (l : List Lb) : Nat → Option ByteArray
  | 0 => none
  | k + 1 => (l[k]?).map (·.n)
theorem okFrom_step {l : List Lb} {k : Nat} (h : k < l.length) : okFrom (prevN l k) (l.drop k) = (mayN l[k].n.data.toList && mayV l[k].v.data.toList && ahd (prevN l k) l[k].n && okFrom (prevN l (k + 1)) (l.drop (k + 1))) := by
  rw [List.drop_eq_getElem_cons h, okFrom]
  simp [prevN, h]
theorem mayL_short {l : List Lb} (h : l.length = 0 ∨ 16 < l.length) : mayL l = false := by
  unfold mayL
  rw [decide_eq_false (by omega)]; rfl
theorem mayL_mid {l : List Lb} (h : 0 < l.length) (h2 : l.length ≤ 16) : mayL l = okFrom (prevN l 0) (l.drop 0) := by
  unfold mayL
  rw [decide_eq_true (by omega)]; rfl
/-- Labels of a size that can be. -/
def Wide (l : List Lb) : Prop := ∀ p ∈ l, p.n.size ≤ 9223372036854775807 ∧ p.v.size ≤ 9223372036854775807
theorem mayL_any (l : List Lb) (hl : l.length ≤ 9223372036854775807) (hw : Wide l) (v : Value) (w : World) (hv : LAt w v l) (hT : Tab w) : Calls Tryd.prog 16 #[v] w (Ret w (.bool (mayL l))) := by
  have HV := Lib.hid hv
  have HW := Lib.hid hw
  have HT := Lib.hid hT
  clear hT
  obtain ⟨va, vc, hv2⟩ := hv.slice
  clear hv hw
  by_cases h0 : l.length = 0 ∨ 16 < l.length
  · rw [mayL_short h0]
    generalize hL : l.length = L at *
    subst hv2
    rcases h0 with h0 | h0
    · subst h0
      clear hL
      go_enter Tryd.func16, Tryd.ntmps16
      go_wp2
      go_ret
      exact ⟨rfl, Below.refl _ _⟩
    · have h1 : decide ((16 : Int) < (L : Int)) = true := decide_eq_true (by omega)
      have h2 : ((L : Int) == 0) = false := beq_eq_false_iff_ne.2 (by omega)
      have h3 : decide ((L : Int) < 1) = false := decide_eq_false (by omega)
      clear hL
      go_enter Tryd.func16, Tryd.ntmps16
      go_wp2
      go_ret
      exact ⟨rfl, Below.refl _ _⟩
  rw [mayL_mid (by omega) (by omega)]
  generalize hM : okFrom (prevN l 0) (l.drop 0) = M
  have HM := Lib.hid hM
  clear hM
  generalize hL : l.length = L at *
  have HL := Lib.hid hL
  clear hL
  subst hv2
  have h1 : decide ((16 : Int) < (L : Int)) = false := decide_eq_false (by omega)
  have h2 : ((L : Int) == 0) = false := beq_eq_false_iff_ne.2 (by omega)
  have h3 : decide ((L : Int) < 1) = false := decide_eq_false (by omega)
  have hL16 : L ≤ 16 := by omega
  clear h0 hl
  go_enter Tryd.func16, Tryd.ntmps16
  go_wp2
  clear h1 h2 h3
  go_loopw [15] (fun i wr => ∃ k : Nat, i = .int .i64 (k : Int) ∧ k ≤ L ∧ Hid (okFrom (prevN l k) (l.drop k) = M) ∧ Hid (Below w.heap.size w wr)) (fun i _ => L - (intOf i).toNat)
  case atStart => exact ⟨0, rfl, by omega, Lib.hid HM.out, Lib.hid (Below.refl _ _)⟩
  case round =>
    obtain ⟨k, rfl, hk, HE, HB⟩ := hrel
    by_cases hlt : k < L
    · have hkl : k < l.length := by have := HL.out; omega
      rcases (HV.out.below HB.out (Nat.le_refl _)) with ⟨h0, _⟩ | ⟨g, o, c, hg, hcs⟩
      · have := HL.out; rw [h0] at this; simp at this; omega
      obtain ⟨q0, q1⟩ := hcs k hkl
      have hlt2 := World.block_lt_of_cell? wr ⟨g, _, none⟩ q0
      have hrun := HE.out
      rw [okFrom_step hkl] at hrun
      have hsz := HW.out l[k] (List.getElem_mem hkl)
      have HTr := Lib.hid (HT.out.below HB.out (Nat.le_refl _))
      have HMN : Hid (∀ W, Calls Tryd.prog 14 #[.string l[k].n] W (Ret W (.bool (mayN l[k].n.data.toList)))) := Lib.hid (fun W => (mayN_any l[k].n W).mono fun e w' hh => Ret.same hh)
      have HMV : Hid (∀ W, Tab W → Calls Tryd.prog 15 #[.string l[k].v] W (Ret W (.bool (mayV l[k].v.data.toList)))) := Lib.hid (fun W hT => (mayV_any l[k].v W hsz.2 hT))
      obtain ⟨pq, hpq⟩ : ∃ pq : ByteArray, 0 < k → (wr.cell? ⟨g, o + (k - 1) * 2, none⟩ = some (.string pq) ∧ ahd (prevN l k) l[k].n = nlt pq l[k].n) := by
        rcases k with _ | j
        · exact ⟨⟨#[]⟩, fun h => by omega⟩
        · have hj : j < l.length := by omega
          refine ⟨l[j].n, fun _ => ⟨(hcs j hj).1, ?_⟩⟩
          simp [prevN, hj, ahd]
      have HA0 := Lib.hid (show k = 0 → ahd (prevN l k) l[k].n = true from fun h => by subst h; rfl)
      have HPQ := Lib.hid hpq
      clear hcs hpq
      cases hg
      generalize ahd (prevN l k) l[k].n = A at *
      generalize l[k] = x at *
      obtain ⟨xn, xv⟩ := x
      dsimp only at q0 q1 hrun HMN HMV HPQ hsz
      have hge := nlt_raw pq xn
      have hle := nlt_raw2 pq xn
      have HB1 := Lib.hid (HB.out.alloc HB.out.size (.cells #[.string xn, .string xv] 28))
      have HT1 := Lib.hid (fun d os => (HTr.out.below (((Below.refl wr.heap.size wr).alloc (Nat.le_refl _) (.cells #[.string xn, .string xv] 28)).trans ((below_regrown (wr.alloc (.cells #[.string xn, .string xv] 28)) d os).mono (by simp))) (Nat.le_refl _) : Tab («Sort».grow (redrawn (wr.alloc (.cells #[.string xn, .string xv] 28)) d) os)))
      have k0 : ∀ d os, («Sort».grow (redrawn (wr.alloc (.cells #[.string xn, .string xv] 28)) d) os).cell? ⟨wr.heap.size, 0, none⟩ = some (.string xn) := fun d os => cell_regrown (by rw [World.cell?_alloc_mark]; rfl) d os
      have k1 : ∀ d os, («Sort».grow (redrawn (wr.alloc (.cells #[.string xn, .string xv] 28)) d) os).cell? ⟨wr.heap.size, 1, none⟩ = some (.string xv) := fun d os => cell_regrown (by rw [World.cell?_alloc_mark]; rfl) d os
      clear hsz
      generalize mayN xn.data.toList = bn at *
      generalize mayV xv.data.toList = bv at *
      cases bn with
      | false =>
        have HRN := Lib.hid (show false = M by rw [← hrun]; rfl)
        clear hrun
        go_wp2_with fail
        refine wp_region_quiet_below (by kernel_rfl) (by kernel_rfl) ?_
        iterate 2 (go_big_quiet_step (fail))
        go_big_quiet_step (first | (go_at_call 14; exact Calls.regrown_of (HMN.out _)))
        repeat (go_big_quiet_step (fail))
        refine wpQuiet_nil ?_
        intro W2 hw2
        have HB2 : Hid (Below w.heap.size w W2) := Lib.hid (HB1.out.trans ((by obtain ⟨q, rfl⟩ := hw2; exact below_regrown _ _ _ : Below (wr.alloc (.cells #[.string xn, .string xv] 28)).heap.size (wr.alloc (.cells #[.string xn, .string xv] 28)) W2).mono HB1.out.size))
        clear hw2
        go_wp2
        go_ret
        exact ⟨ret_b HRN.out, HB2.out⟩
      | true =>
        cases bv with
        | false =>
          have HRN := Lib.hid (show false = M by rw [← hrun]; rfl)
          clear hrun
          go_wp2_with fail
          refine wp_region_quiet_below (by kernel_rfl) (by kernel_rfl) ?_
          iterate 2 (go_big_quiet_step (fail))
          go_big_quiet_step (first | (go_at_call 14; exact Calls.regrown_of (HMN.out _)))
          iterate 4 (go_big_quiet_step (fail))
          go_big_quiet_step (first | (go_at_call 15; exact Calls.regrown_of (HMV.out _ (HT1.out _ _))))
          repeat (go_big_quiet_step (fail))
          refine wpQuiet_nil ?_
          intro W2 hw2
          have HB2 : Hid (Below w.heap.size w W2) := Lib.hid (HB1.out.trans ((by obtain ⟨q, rfl⟩ := hw2; exact below_regrown _ _ _ : Below (wr.alloc (.cells #[.string xn, .string xv] 28)).heap.size (wr.alloc (.cells #[.string xn, .string xv] 28)) W2).mono HB1.out.size))
          clear hw2
          go_wp2
          go_ret
          exact ⟨ret_b HRN.out, HB2.out⟩
        | true =>
          rcases Nat.eq_zero_or_pos k with h0 | h0
          · have hA := HA0.out h0
            have HRN := Lib.hid (show okFrom (prevN l (k + 1)) (l.drop (k + 1)) = M by rw [← hrun, hA]; rfl)
            have h0z : decide ((0 : Int) < (k : Int)) = false := decide_eq_false (by omega)
            have h0n : decide (0 < k) = false := decide_eq_false (by omega)
            have HK0 := Lib.hid h0
            clear hrun hA h0
            go_wp2_with fail
            refine wp_region_quiet_below (by kernel_rfl) (by kernel_rfl) ?_
            iterate 2 (go_big_quiet_step (fail))
            go_big_quiet_step (first | (go_at_call 14; exact Calls.regrown_of (HMN.out _)))
            iterate 4 (go_big_quiet_step (fail))
            go_big_quiet_step (first | (go_at_call 15; exact Calls.regrown_of (HMV.out _ (HT1.out _ _))))
            repeat (go_big_quiet_step (fail))
            refine wpQuiet_nil ?_
            intro W2 hw2
            have HB2 : Hid (Below w.heap.size w W2) := Lib.hid (HB1.out.trans ((by obtain ⟨q, rfl⟩ := hw2; exact below_regrown _ _ _ : Below (wr.alloc (.cells #[.string xn, .string xv] 28)).heap.size (wr.alloc (.cells #[.string xn, .string xv] 28)) W2).mono HB1.out.size))
            clear hw2
            go_wp2
            go_roundw
            case rel => exact ⟨k + 1, by go_num, by omega, Lib.hid HRN.out, HB2⟩
            case measure => (try simp [intOf]); (try omega)
          · obtain ⟨p0, p1⟩ := HPQ.out h0
            have h0z : decide ((0 : Int) < (k : Int)) = true := decide_eq_true (by omega)
            have h0n : decide (0 < k) = true := decide_eq_true (by omega)
            obtain ⟨j, hj⟩ : ∃ j, k - 1 = j := ⟨_, rfl⟩
            have hjz : (k : Int) - 1 = (j : Int) := by omega
            have hjL : j < _ := Nat.lt_trans (show j < k by omega) hlt
            rw [hj] at p0
            have k2 : ∀ d os, («Sort».grow (redrawn (wr.alloc (.cells #[.string xn, .string xv] 28)) d) os).cell? ⟨g, o + j * 2, none⟩ = some (.string pq) := fun d os => cell_regrown ((World.cell?_of_block (a := ⟨g, o + j * 2, none⟩) (heap_alloc_old wr _ hlt2)).trans p0) d os
            have HJ := Lib.hid hj
            have HP1 := Lib.hid p1
            have HK0 := Lib.hid h0
            clear h0 hj p1
            generalize hlt9 : nlt pq xn = B at *
            have HL9 := Lib.hid hlt9
            clear hlt9
            cases B with
            | false =>
              have HRN := Lib.hid (show false = M by rw [← hrun, HP1.out]; rfl)
              clear hrun
              go_wp2_with fail
              refine wp_region_quiet_below (by kernel_rfl) (by kernel_rfl) ?_
              iterate 2 (go_big_quiet_step (fail))
              go_big_quiet_step (first | (go_at_call 14; exact Calls.regrown_of (HMN.out _)))
              iterate 4 (go_big_quiet_step (fail))
              go_big_quiet_step (first | (go_at_call 15; exact Calls.regrown_of (HMV.out _ (HT1.out _ _))))
              repeat (go_big_quiet_step (fail))
              refine wpQuiet_nil ?_
              intro W2 hw2
              have HB2 : Hid (Below w.heap.size w W2) := Lib.hid (HB1.out.trans ((by obtain ⟨q, rfl⟩ := hw2; exact below_regrown _ _ _ : Below (wr.alloc (.cells #[.string xn, .string xv] 28)).heap.size (wr.alloc (.cells #[.string xn, .string xv] 28)) W2).mono HB1.out.size))
              clear hw2
              go_wp2
              go_ret
              exact ⟨ret_b HRN.out, HB2.out⟩
            | true =>
              have HRN := Lib.hid (show okFrom (prevN l (k + 1)) (l.drop (k + 1)) = M by rw [← hrun, HP1.out]; rfl)
              clear hrun
              go_wp2_with fail
              refine wp_region_quiet_below (by kernel_rfl) (by kernel_rfl) ?_
              iterate 2 (go_big_quiet_step (fail))
              go_big_quiet_step (first | (go_at_call 14; exact Calls.regrown_of (HMN.out _)))
              iterate 4 (go_big_quiet_step (fail))
              go_big_quiet_step (first | (go_at_call 15; exact Calls.regrown_of (HMV.out _ (HT1.out _ _))))
              repeat (go_big_quiet_step (fail))
              refine wpQuiet_nil ?_
              intro W2 hw2
              have HB2 : Hid (Below w.heap.size w W2) := Lib.hid (HB1.out.trans ((by obtain ⟨q, rfl⟩ := hw2; exact below_regrown _ _ _ : Below (wr.alloc (.cells #[.string xn, .string xv] 28)).heap.size (wr.alloc (.cells #[.string xn, .string xv] 28)) W2).mono HB1.out.size))
              clear hw2
              go_wp2
              go_roundw
              case rel => exact ⟨k + 1, by go_num, by omega, Lib.hid HRN.out, HB2⟩
              case measure => (try simp [intOf]); (try omega)
    · obtain rfl : k = L := by omega
      go_wp2
      go_ret
      refine ⟨ret_b ?_, HB.out⟩
      rw [← HE.out]
      have := HL.out
      rw [← this, List.drop_length]; rfl
end Go.Proofs.YtjhgmlhoefakpaaDoor
