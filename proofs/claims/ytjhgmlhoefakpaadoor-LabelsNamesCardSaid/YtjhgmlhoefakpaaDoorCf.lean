/- The contract of the document's May. -/
import Derived.Test.YtjhgmlhoefakpaaDoorCe
namespace Go.Proofs.YtjhgmlhoefakpaaDoor
open Go.RowKit Go.Sort
set_option maxRecDepth 100000
set_option maxHeartbeats 1000000
theorem rmayL_any (l : List Lb) (hl : l.length ≤ 9223372036854775807) (hw : Wide l) (v : Value) (w : World) (hv : LAt w v l) : Calls Tryd.prog 24 #[v] w (Ret w (.bool (mayL l))) := by
  have HV := Lib.hid hv
  have HW := Lib.hid hw
  obtain ⟨va, vc, hv2⟩ := hv.slice
  clear hv hw
  by_cases h0 : l.length = 0 ∨ 16 < l.length
  · rw [mayL_short h0]
    generalize hL : l.length = L at *
    subst hv2
    rcases h0 with h0 | h0
    · subst h0
      clear hL
      go_enter Tryd.func24, Tryd.ntmps24
      go_wp2
      go_ret
      exact ⟨rfl, Below.refl _ _⟩
    · have h1 : decide ((16 : Int) < (L : Int)) = true := decide_eq_true (by omega)
      have h2 : ((L : Int) == 0) = false := beq_eq_false_iff_ne.2 (by omega)
      have h3 : decide ((L : Int) < 1) = false := decide_eq_false (by omega)
      clear hL
      go_enter Tryd.func24, Tryd.ntmps24
      go_wp2
      go_ret
      exact ⟨rfl, Below.refl _ _⟩
  rw [mayL_mid (by omega) (by omega)]
  generalize hM : okFrom (prevN l 0) (l.drop 0) = M
  have HM := Lib.hid hM
  clear hM
  generalize hL : l.length = L at *
  have HL := Lib.hid hL
  clear hL
  subst hv2
  have h1 : decide ((16 : Int) < (L : Int)) = false := decide_eq_false (by omega)
  have h2 : ((L : Int) == 0) = false := beq_eq_false_iff_ne.2 (by omega)
  have h3 : decide ((L : Int) < 1) = false := decide_eq_false (by omega)
  have hL16 : L ≤ 16 := by omega
  clear h0 hl
  go_enter Tryd.func24, Tryd.ntmps24
  go_wp2
  clear h1 h2 h3
  go_loopw [3] (fun i wr => ∃ k : Nat, i = .int .i64 (k : Int) ∧ k ≤ L ∧ Hid (okFrom (prevN l k) (l.drop k) = M) ∧ Hid (Below w.heap.size w wr)) (fun i _ => L - (intOf i).toNat)
  case atStart => exact ⟨0, rfl, by omega, Lib.hid HM.out, Lib.hid (Below.refl _ _)⟩
  case round =>
    obtain ⟨k, rfl, hk, HE, HB⟩ := hrel
    by_cases hlt : k < L
    · have hkl : k < l.length := by have := HL.out; omega
      rcases (HV.out.below HB.out (Nat.le_refl _)) with ⟨h0, _⟩ | ⟨g, o, c, hg, hcs⟩
      · have := HL.out; rw [h0] at this; simp at this; omega
      obtain ⟨q0, q1⟩ := hcs k hkl
      have hlt2 := World.block_lt_of_cell? wr ⟨g, _, none⟩ q0
      have hrun := HE.out
      rw [okFrom_step hkl] at hrun
      have hsz := HW.out l[k] (List.getElem_mem hkl)
      have HMN : Hid (∀ W, Calls Tryd.prog 22 #[.string l[k].n] W (Ret W (.bool (mayN l[k].n.data.toList)))) := Lib.hid (fun W => (rmayN_any l[k].n W).mono fun e w' hh => Ret.same hh)
      have HMV : Hid (∀ W, Calls Tryd.prog 23 #[.string l[k].v] W (Ret W (.bool (mayV l[k].v.data.toList)))) := Lib.hid (fun W => (rmayV_any l[k].v W hsz.2).mono fun e w' hh => Ret.same hh)
      obtain ⟨pq, hpq⟩ : ∃ pq : ByteArray, 0 < k → (wr.cell? ⟨g, o + (k - 1) * 2, none⟩ = some (.string pq) ∧ ahd (prevN l k) l[k].n = nlt pq l[k].n) := by
        rcases k with _ | j
        · exact ⟨⟨#[]⟩, fun h => by omega⟩
        · have hj : j < l.length := by omega
          refine ⟨l[j].n, fun _ => ⟨(hcs j hj).1, ?_⟩⟩
          simp [prevN, hj, ahd]
      have HA0 := Lib.hid (show k = 0 → ahd (prevN l k) l[k].n = true from fun h => by subst h; rfl)
      have HPQ := Lib.hid hpq
      clear hcs hpq
      cases hg
      generalize ahd (prevN l k) l[k].n = A at *
      generalize l[k] = x at *
      obtain ⟨xn, xv⟩ := x
      dsimp only at q0 q1 hrun HMN HMV HPQ hsz
      have hge := nlt_raw pq xn
      have hle := nlt_raw2 pq xn
      have HB1 := Lib.hid HB.out
      have k0 : ∀ d os, («Sort».grow (redrawn wr d) os).cell? ⟨g, o + k * 2, none⟩ = some (.string xn) := fun d os => cell_regrown q0 d os
      have k1 : ∀ d os, («Sort».grow (redrawn wr d) os).cell? ⟨g, o + k * 2 + 1, none⟩ = some (.string xv) := fun d os => cell_regrown q1 d os
      clear hsz
      generalize mayN xn.data.toList = bn at *
      generalize mayV xv.data.toList = bv at *
      cases bn with
      | false =>
        have HRN := Lib.hid (show false = M by rw [← hrun]; rfl)
        clear hrun
        go_wp2_with fail
        refine wp_region_quiet_below (by kernel_rfl) (by kernel_rfl) ?_
        iterate 5 (go_big_quiet_step (fail))
        go_big_quiet_step (first | (go_at_call 22; exact Calls.regrown_of (HMN.out _)))
        repeat (go_big_quiet_step (fail))
        refine wpQuiet_nil ?_
        intro W2 hw2
        have HB2 : Hid (Below w.heap.size w W2) := Lib.hid (HB1.out.trans ((by obtain ⟨q, rfl⟩ := hw2; exact below_regrown _ _ _ : Below wr.heap.size wr W2).mono HB1.out.size))
        clear hw2
        go_wp2
        go_ret
        exact ⟨ret_b HRN.out, HB2.out⟩
      | true =>
        cases bv with
        | false =>
          have HRN := Lib.hid (show false = M by rw [← hrun]; rfl)
          clear hrun
          go_wp2_with fail
          refine wp_region_quiet_below (by kernel_rfl) (by kernel_rfl) ?_
          iterate 5 (go_big_quiet_step (fail))
          go_big_quiet_step (first | (go_at_call 22; exact Calls.regrown_of (HMN.out _)))
          iterate 7 (go_big_quiet_step (fail))
          go_big_quiet_step (first | (go_at_call 23; exact Calls.regrown_of (HMV.out _)))
          repeat (go_big_quiet_step (fail))
          refine wpQuiet_nil ?_
          intro W2 hw2
          have HB2 : Hid (Below w.heap.size w W2) := Lib.hid (HB1.out.trans ((by obtain ⟨q, rfl⟩ := hw2; exact below_regrown _ _ _ : Below wr.heap.size wr W2).mono HB1.out.size))
          clear hw2
          go_wp2
          go_ret
          exact ⟨ret_b HRN.out, HB2.out⟩
        | true =>
          rcases Nat.eq_zero_or_pos k with h0 | h0
          · have hA := HA0.out h0
            have HRN := Lib.hid (show okFrom (prevN l (k + 1)) (l.drop (k + 1)) = M by rw [← hrun, hA]; rfl)
            have h0z : decide ((0 : Int) < (k : Int)) = false := decide_eq_false (by omega)
            have h0n : decide (0 < k) = false := decide_eq_false (by omega)
            have HK0 := Lib.hid h0
            clear hrun hA h0
            go_wp2_with fail
            refine wp_region_quiet_below (by kernel_rfl) (by kernel_rfl) ?_
            iterate 5 (go_big_quiet_step (fail))
            go_big_quiet_step (first | (go_at_call 22; exact Calls.regrown_of (HMN.out _)))
            iterate 7 (go_big_quiet_step (fail))
            go_big_quiet_step (first | (go_at_call 23; exact Calls.regrown_of (HMV.out _)))
            repeat (go_big_quiet_step (fail))
            refine wpQuiet_nil ?_
            intro W2 hw2
            have HB2 : Hid (Below w.heap.size w W2) := Lib.hid (HB1.out.trans ((by obtain ⟨q, rfl⟩ := hw2; exact below_regrown _ _ _ : Below wr.heap.size wr W2).mono HB1.out.size))
            clear hw2
            go_wp2
            go_roundw
            case rel => exact ⟨k + 1, by go_num, by omega, Lib.hid HRN.out, HB2⟩
            case measure => (try simp [intOf]); (try omega)
          · obtain ⟨p0, p1⟩ := HPQ.out h0
            have h0z : decide ((0 : Int) < (k : Int)) = true := decide_eq_true (by omega)
            have h0n : decide (0 < k) = true := decide_eq_true (by omega)
            obtain ⟨j, hj⟩ : ∃ j, k - 1 = j := ⟨_, rfl⟩
            have hjz : (k : Int) - 1 = (j : Int) := by omega
            have hjL : j < _ := Nat.lt_trans (show j < k by omega) hlt
            rw [hj] at p0
            have k2 : ∀ d os, («Sort».grow (redrawn wr d) os).cell? ⟨g, o + j * 2, none⟩ = some (.string pq) := fun d os => cell_regrown p0 d os
            have HJ := Lib.hid hj
            have HP1 := Lib.hid p1
            have HK0 := Lib.hid h0
            clear h0 hj p1
            generalize hlt9 : nlt pq xn = B at *
            have HL9 := Lib.hid hlt9
            clear hlt9
            cases B with
            | false =>
              have HRN := Lib.hid (show false = M by rw [← hrun, HP1.out]; rfl)
              clear hrun
              go_wp2_with fail
              refine wp_region_quiet_below (by kernel_rfl) (by kernel_rfl) ?_
              iterate 5 (go_big_quiet_step (fail))
              go_big_quiet_step (first | (go_at_call 22; exact Calls.regrown_of (HMN.out _)))
              iterate 7 (go_big_quiet_step (fail))
              go_big_quiet_step (first | (go_at_call 23; exact Calls.regrown_of (HMV.out _)))
              repeat (go_big_quiet_step (fail))
              refine wpQuiet_nil ?_
              intro W2 hw2
              have HB2 : Hid (Below w.heap.size w W2) := Lib.hid (HB1.out.trans ((by obtain ⟨q, rfl⟩ := hw2; exact below_regrown _ _ _ : Below wr.heap.size wr W2).mono HB1.out.size))
              clear hw2
              go_wp2
              go_ret
              exact ⟨ret_b HRN.out, HB2.out⟩
            | true =>
              have HRN := Lib.hid (show okFrom (prevN l (k + 1)) (l.drop (k + 1)) = M by rw [← hrun, HP1.out]; rfl)
              clear hrun
              go_wp2_with fail
              refine wp_region_quiet_below (by kernel_rfl) (by kernel_rfl) ?_
              iterate 5 (go_big_quiet_step (fail))
              go_big_quiet_step (first | (go_at_call 22; exact Calls.regrown_of (HMN.out _)))
              iterate 7 (go_big_quiet_step (fail))
              go_big_quiet_step (first | (go_at_call 23; exact Calls.regrown_of (HMV.out _)))
              repeat (go_big_quiet_step (fail))
              refine wpQuiet_nil ?_
              intro W2 hw2
              have HB2 : Hid (Below w.heap.size w W2) := Lib.hid (HB1.out.trans ((by obtain ⟨q, rfl⟩ := hw2; exact below_regrown _ _ _ : Below wr.heap.size wr W2).mono HB1.out.size))
              clear hw2
              go_wp2
              go_roundw
              case rel => exact ⟨k + 1, by go_num, by omega, Lib.hid HRN.out, HB2⟩
              case measure => (try simp [intOf]); (try omega)
    · obtain rfl : k = L := by omega
      go_wp2
      go_ret
      refine ⟨ret_b ?_, HB.out⟩
      rw [← HE.out]
      have := HL.out
      rw [← this, List.drop_length]; rfl
end Go.Proofs.YtjhgmlhoefakpaaDoor
