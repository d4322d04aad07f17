/- The contract of the program's Show. -/
import Derived.Test.YtjhgmlhoefakpaaDoorSv
namespace Go.Proofs.YtjhgmlhoefakpaaDoor
open Go.RowKit
set_option maxRecDepth 100000
set_option maxHeartbeats 1000000
/-- What is shown, and the error. -/
def showE (l : List Lb) : List UInt8 × Nat := if mayL l then (shows l, 0) else ([], 4)
def shV (p : List UInt8 × Nat) : Value := .tuple #[.string (bs p.1), .int .i64 p.2]
theorem showE_yes {l : List Lb} (h : mayL l = true) : showE l = (shows l, 0) := if_pos h
theorem showE_no {l : List Lb} (h : mayL l = false) : showE l = ([], 4) := if_neg (by rw [h]; simp)
theorem showA_cons (a : UInt8) (x : Lb) (r : List Lb) : showA a (x :: r) = a :: (body x ++ showA 44 r) := rfl
theorem showV_flat {rs : List Nat} (h : AllR rs) : showV (flat rs) = rs.flatMap showR := by unfold showV; rw [runes_flat h]
theorem show_any (l : List Lb) (hl : l.length ≤ 9223372036854775807) (hw : Wide l) (v : Value) (w : World) (hv : LAt w v l) (hT : Tab w) :
    Calls Tryd.prog 18 #[v] w (Ret w (shV (showE l))) := by
  have HV := Lib.hid hv
  have HT := Lib.hid hT
  have HM := Lib.hid (mayL_any l hl hw v w hv hT)
  obtain ⟨va, vc, hv2⟩ := hv.slice
  clear hv hT hw
  cases hm : mayL l with
  | false =>
    rw [showE_no hm]
    rw [hm] at HM
    generalize l.length = L at *
    subst hv2
    clear hm
    go_enter Tryd.func18, Tryd.ntmps18
    go_wp2_with (go_at_call 16; refine HM.out.mono ?_; rintro e w1 ⟨rfl, hb1⟩)
    go_ret2
    exact ⟨rfl, hb1⟩
  | true =>
    rw [showE_yes hm]
    rw [hm] at HM
    have HLn := Lib.hid (mayL_len hm)
    have HMm := Lib.hid (mayL_mem hm)
    have hl16 := (mayL_len hm).2
    generalize hL : l.length = L at *
    have HL := Lib.hid hL
    clear hL hm hl
    subst hv2
    go_enter Tryd.func18, Tryd.ntmps18
    go_wp2_with (go_at_call 16; refine HM.out.mono ?_; rintro e w1 ⟨rfl, hb1⟩)
    have HB1 := Lib.hid hb1
    clear hb1 HM
    go_loopw [5, 13] (fun s i wr => ∃ (k : Nat) (a : UInt8) (acc : List UInt8), s = .string (bs [a]) ∧ i = .int .i64 (k : Int) ∧ k ≤ L ∧ Hid (acc ++ showA a (l.drop k) = showA 123 l ∧ acc.length ≤ 1000 * k) ∧ Hid (Bu w1.heap.size w1.heap.size acc wr) ∧ Hid (Below w.heap.size w wr ∧ w1.heap.size < wr.heap.size)) (fun _ i _ => L - (intOf i).toNat)
    case atStart =>
      refine ⟨0, 123, [], rfl, rfl, by omega, Lib.hid ⟨by simp, by simp⟩, Lib.hid (Lib.IsBuilderF.of (Lib.fresh_isBuilder 54 5 w1)), Lib.hid ⟨HB1.out.alloc HB1.out.size _, by simp⟩⟩
    case round =>
      obtain ⟨k, a, acc, rfl, rfl, hk, HE, Hb, Hw⟩ := hrel
      by_cases hlt : k < L
      · have hkl : k < l.length := by have := HL.out; omega
        rcases (HV.out.below Hw.out.1 (Nat.le_refl _)) with ⟨h0, _⟩ | ⟨g, o, c, hg, hcs⟩
        · have := HL.out; rw [h0] at this; simp at this; omega
        obtain ⟨q0, q1⟩ := hcs k hkl
        clear hcs
        have hrun := HE.out
        rw [List.drop_eq_getElem_cons hkl, showA_cons] at hrun
        have hmm := HMm.out l[k] (List.getElem_mem hkl)
        generalize l[k] = x at *
        obtain ⟨xn, xv⟩ := x
        dsimp only at q0 q1 hmm
        obtain ⟨rs, hrs, hall, hok, hr1, hr64⟩ := mayV_iff.1 hmm.2
        have hnl := mayN_len hmm.1
        have hxn : xn.size ≤ 64 := by have := Lib.size_eq xn; omega
        have hbody : body ⟨xn, xv⟩ = xn.data.toList ++ 61 :: 34 :: (rs.flatMap showR ++ [34]) := by
          unfold body
          show xn.data.toList ++ 61 :: 34 :: (showV xv.data.toList ++ [34]) = _
          rw [hrs, showV_flat hall]
        rw [hbody] at hrun
        have HRun := Lib.hid hrun
        have HRs := Lib.hid (show _ ∧ _ ∧ _ from ⟨hrs, hall, hr64⟩)
        clear hrun hbody hmm hrs hall hok hr1 hr64 hnl
        cases hg
        have Hb0 : Hid (Bu w1.heap.size w1.heap.size acc (wr.alloc (.cells #[.string xn, .string xv] 28))) := Lib.hid (Hb.out.alloc _)
        have HW0 : Hid (Below w.heap.size w (wr.alloc (.cells #[.string xn, .string xv] 28)) ∧ w1.heap.size < (wr.alloc (.cells #[.string xn, .string xv] 28)).heap.size) := Lib.hid ⟨Hw.out.1.alloc Hw.out.1.size _, by have := Hw.out.2; simp; omega⟩
        have HS1 : Hid ((bs [a] ++ xn ++ { data := #[61, 34] }).size = xn.size + 3) := Lib.hid (by rw [ByteArray.size_append, ByteArray.size_append, bs_size]; show 1 + xn.size + 2 = _; omega)
        have HD1 : Hid ((bs [a] ++ xn ++ { data := #[61, 34] }).data.toList = a :: (xn.data.toList ++ [61, 34])) := Lib.hid (by simp [bs])
        have hza : (bs [a]).size ≤ 1 := by rw [bs_size]; simp
        have HC1 := Lib.hid (wstr_any w1.heap.size w1.heap.size acc (bs [a] ++ xn ++ { data := #[61, 34] }) _ Hb0.out (by have h1 := HE.out.2; have h2 := HS1.out; omega) (Nat.le_of_lt HW0.out.2))
        have hc0 : (wr.alloc (.cells #[.string xn, .string xv] 28)).heap[wr.heap.size]? = some (.cells #[.string xn, .string xv] 28) := heap_alloc_new wr _
        have HC0 := Lib.hid hc0
        clear hc0
        generalize bs [a] = A at *
        go_wp2_with fail
        refine HC1.out.mono ?_
        rintro e W1 ⟨rfl, hb1, hB1, hk1⟩
        have Hb1 := Lib.hid hb1
        have Hx1 : Hid (W1.heap[wr.heap.size]? = some (.cells #[.string xn, .string xv] 28)) := Lib.hid (hk1 _ _ HC0.out (fun e => by have := Option.some.inj e; have := Hw.out.2; omega) (fun _ _ e => by cases e))
        have HW1 : Hid (Below w.heap.size w W1 ∧ w1.heap.size < W1.heap.size) := Lib.hid ⟨HW0.out.1.trans (hB1.mono HB1.out.size), by have h1 := HW0.out.2; have h2 := hB1.size; omega⟩
        have hc1 : W1.cell? ⟨wr.heap.size, 1, none⟩ = some (.string xv) := by rw [Lib.cell_of_heap Hx1.out]; rfl
        have Hb1' : Hid (Bu w1.heap.size w1.heap.size (acc ++ (a :: (xn.data.toList ++ [61, 34]))) W1) := Lib.hid (by rw [← HD1.out]; exact Hb1.out)
        have HAl : Hid ((acc ++ (a :: (xn.data.toList ++ [61, 34]))).length ≤ 1000 * k + 67) := Lib.hid (by
          have h1 := HE.out.2
          have h2 := Lib.size_eq xn
          rw [List.length_append, List.length_cons, List.length_append, ← h2]
          simp
          omega)
        have HC2 := Lib.hid (showv_any w1.heap.size w1.heap.size _ xv rs HRs.out.1 HRs.out.2.1 (by have := HRs.out.2.2; omega) (by have := HAl.out; omega) W1 Hb1'.out (Nat.le_of_lt HW1.out.2) HW1.out.2 (fun w' hb => HT.out.below (HW1.out.1.trans (hb.mono HB1.out.size)) (Nat.le_refl _)))
        clear hb1 hB1 hk1
        go_wp2_with fail
        refine HC2.out.mono ?_
        rintro e W2 ⟨rfl, hb2, hB2, hk2⟩
        have HW2 : Hid (Below w.heap.size w W2 ∧ w1.heap.size < W2.heap.size) := Lib.hid ⟨HW1.out.1.trans (hB2.mono HB1.out.size), by have h1 := HW1.out.2; have h2 := hB2.size; omega⟩
        have hrl := showR_flat_len rs
        have HAl2 : Hid ((acc ++ (a :: (xn.data.toList ++ [61, 34])) ++ rs.flatMap showR).length ≤ 1000 * k + 707) := Lib.hid (by
          have h1 := HAl.out
          have h2 := HRs.out.2.2
          rw [List.length_append]
          omega)
        have HC3 := Lib.hid (wstr_any w1.heap.size w1.heap.size _ { data := #[34] } W2 hb2 (by have h1 := HAl2.out; show _ + 1 ≤ _; omega) (Nat.le_of_lt HW2.out.2))
        clear hb2 hB2 hk2 hc1 hrl
        go_wp2_with fail
        refine HC3.out.mono ?_
        rintro e W3 ⟨rfl, hb3, hB3, hk3⟩
        have HW3 : Hid (Below w.heap.size w W3 ∧ w1.heap.size < W3.heap.size) := Lib.hid ⟨HW2.out.1.trans (hB3.mono HB1.out.size), by have h1 := HW2.out.2; have h2 := hB3.size; omega⟩
        have Hb3 := Lib.hid hb3
        have HAl3 : Hid ((acc ++ (a :: (xn.data.toList ++ [61, 34])) ++ rs.flatMap showR ++ ({ data := #[34] } : ByteArray).data.toList).length ≤ 1000 * (k + 1)) := Lib.hid (by
          have h1 := HAl2.out
          rw [List.length_append]
          show _ + 1 ≤ _
          omega)
        clear hb3 hB3 hk3
        go_wp2
        go_roundw
        case rel =>
          refine ⟨k + 1, 44, _, rfl, by go_num, by omega, Lib.hid ⟨?_, HAl3.out⟩, Hb3, HW3⟩
          rw [← HRun.out.1]
          show acc ++ _ ++ _ ++ [34] ++ _ = _
          simp [List.append_assoc]
        case measure => (try simp [intOf]); (try omega)
      · obtain rfl : k = L := by omega
        have hd0 : showA a (l.drop k) = [] := by rw [List.drop_of_length_le (by have := HL.out; omega)]; rfl
        have hfin : acc ++ ({ data := #[125] } : ByteArray).data.toList = shows l := by
          have h1 := HE.out.1
          rw [hd0, List.append_nil] at h1
          rw [h1]; rfl
        have HF := Lib.hid hfin
        have HC := Lib.hid (wstr_any w1.heap.size w1.heap.size acc { data := #[125] } wr Hb.out (by have h1 := HE.out.2; show _ + 1 ≤ _; omega) (Nat.le_of_lt Hw.out.2))
        clear hd0 hfin
        go_wp2_with fail
        refine HC.out.mono ?_
        rintro e W1 ⟨rfl, hb1, hB1, hk1⟩
        have HC2 := Lib.hid (str_any w1.heap.size w1.heap.size _ W1 hb1 (by have h1 := Hw.out.2; have h2 := hB1.size; omega))
        have HW1 : Hid (Below w.heap.size w W1) := Lib.hid (Hw.out.1.trans (hB1.mono HB1.out.size))
        clear hb1 hB1 hk1
        go_wp2_with fail
        refine HC2.out.mono ?_
        rintro e W2 ⟨rfl, hb2, hB2, hk2⟩
        have HW2 : Hid (Below w.heap.size w W2) := Lib.hid (HW1.out.trans (hB2.mono HB1.out.size))
        clear hb2 hB2 hk2
        go_wp2
        go_ret2
        refine ⟨?_, HW2.out⟩
        rw [← HF.out]
        rfl
end Go.Proofs.YtjhgmlhoefakpaaDoor
