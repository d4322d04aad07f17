/- The contracts of the document's Expand and Write. -/
import Derived.Test.YtnnogjojoeajnaaRe
import Derived.Test.YtnnogjojoeajnaaRd
namespace Go.Proofs.Ytnnogjojoeajnaa
open Go.RowKit
/-- A box of the document's part. -/
def Box7 (W : World) (B : Nat) (c : Bool) (t : ByteArray) (o l : Int) : Prop := W.heap[B]? = some (.cells #[.bool c, .string t, .int .i64 o, .int .i64 l] 76 (0, 0))
theorem Box7.new (W : World) (c : Bool) (t : ByteArray) (o l : Int) : Box7 (W.alloc (.cells #[.bool c, .string t, .int .i64 o, .int .i64 l] 76)) W.heap.size c t o l := heap_alloc_new W _
theorem Box7.lt {W : World} {B : Nat} {c : Bool} {t : ByteArray} {o l : Int} (h : Box7 W B c t o l) : B < W.heap.size := (Array.getElem?_eq_some_iff.1 h).1
theorem Box7.same {W W' : World} {B : Nat} {c : Bool} {t : ByteArray} {o l : Int} (h : Box7 W B c t o l) (hs : W'.heap[B]? = W.heap[B]?) : Box7 W' B c t o l := hs.trans h
theorem Box7.cells {W : World} {B : Nat} {c : Bool} {t : ByteArray} {o l : Int} (h : Box7 W B c t o l) : W.cell? ⟨B, 0, none⟩ = some (.bool c) ∧ W.cell? ⟨B, 1, none⟩ = some (.string t) ∧ W.cell? ⟨B, 2, none⟩ = some (.int .i64 o) ∧ W.cell? ⟨B, 3, none⟩ = some (.int .i64 l) := by
  have hc : ∀ j, W.cell? ⟨B, j, none⟩ = _ := fun j => cell_of_row W B j _ 76 (0, 0) h
  rw [hc, hc, hc, hc]
  exact ⟨rfl, rfl, rfl, rfl⟩
set_option maxRecDepth 100000 in
set_option maxHeartbeats 4000000 in
theorem rexpand_any (l : List Pt) (hl : l.length ≤ 1000000) (hok : ∀ p ∈ l, p.ok) (most : Int) (hm1 : -9223372036854775808 ≤ most) (hm2 : most ≤ 9223372036854775807) (v : Value) (w : World) (hv : ArgAt w v l) :
    Calls Try.prog 27 #[v, .int .i64 most] w (Told w (expand most l [])) := by
  have HV := Lib.hid hv
  have HOK := Lib.hid hok
  obtain ⟨va, vc, hv2⟩ := hv.slice
  clear hv hok
  generalize hL : l.length = L at *
  have HL := Lib.hid hL
  clear hL
  subst hv2
  go_enter Try.func27, Try.ntmps27
  go_wp2
  go_loopw [6, 7] (fun u i wr => ∃ (k : Nat) (b : List UInt8), u = .string (bs b) ∧ i = .int .i64 (k : Int) ∧ k ≤ L ∧ Hid (b.length ≤ 65536 * k) ∧ Hid (b.length = 0 ∨ (b.length : Int) ≤ most) ∧ Hid (expand most (l.drop k) b = expand most l []) ∧ Hid (Below w.heap.size w wr)) (fun _ i _ => L - (intOf i).toNat)
  case atStart => exact ⟨0, [], rfl, rfl, by omega, Lib.hid (by simp), Lib.hid (.inl rfl), Lib.hid rfl, Lib.hid (Below.refl _ _)⟩
  case round =>
    obtain ⟨k, b, rfl, rfl, hk, HBL, HBM, HE, HB⟩ := hrel
    have hbs : (bs b).size = b.length := rfl
    have hbl : b.length ≤ 70000000000 := by have := HBL.out; omega
    by_cases hlt : k < L
    · have hkl : k < l.length := by have := HL.out; omega
      rcases (HV.out.below HB.out rfl) with ⟨h0, _⟩ | ⟨g, og, cg, hg, hcs⟩
      · have := HL.out; rw [h0] at this; simp at this; omega
      obtain ⟨q0, q1, q2, q3⟩ := hcs k hkl
      clear hcs
      have hdr : l.drop k = l[k] :: l.drop (k + 1) := List.drop_eq_getElem_cons hkl
      have hpok := HOK.out l[k] (List.getElem_mem hkl)
      have hrun := HE.out
      rw [hdr, expand] at hrun
      generalize l[k] = P at *
      have HRN := Lib.hid hrun
      have HMY := Lib.hid (fun W => rmay_any P hpok W)
      clear hdr hrun hpok
      cases hg
      obtain ⟨pc, pt, po, pl⟩ := P
      dsimp only at q0 q1 q2 q3
      have hwlo : -9223372036854775808 ≤ most - (b.length : Int) := by have := HBM.out; omega
      have hwhi : most - (b.length : Int) ≤ 9223372036854775807 := by omega
      have HX := Lib.hid (Box7.new wr pc pt po pl)
      have HB0 : Hid (Below w.heap.size w (wr.alloc (.cells #[.bool pc, .string pt, .int .i64 po, .int .i64 pl] 76))) := Lib.hid (HB.out.alloc HB.out.size _)
      obtain ⟨p0, p1, p2, p3⟩ := HX.out.cells
      go_wp2_with fail
      refine (HMY.out _).mono ?_
      rintro e w2 ⟨rfl, hb2⟩
      have HB2 : Hid (Below w.heap.size w w2) := Lib.hid (HB0.out.trans (hb2.mono HB0.out.size))
      have HX2 := Lib.hid (HX.out.same (hb2.block _ HX.out.lt))
      clear hb2 p0 p1 p2 p3
      obtain ⟨p0, p1, p2, p3⟩ := HX2.out.cells
      cases hmay : may ⟨pc, pt, po, pl⟩ with
      | false =>
        have HR : Hid (([], (4 : Int)) = expand most l []) := Lib.hid (by rw [← HRN.out, hmay]; rfl)
        clear hmay
        go_wp2
        go_ret2
        rw [← HR.out]
        exact ⟨rfl, HB2.out⟩
      | true =>
        have HMM := Lib.hid hmay
        unfold may at hmay
        cases pc with
        | false =>
          simp only [Bool.false_eq_true, if_false, Bool.and_eq_true, decide_eq_true_eq] at hmay
          obtain ⟨⟨m1, m2⟩, m3, m4⟩ := hmay
          subst m3
          subst m4
          have HR : Hid ((if most < (b.length : Int) + (pt.size : Int) then ([], (40 : Int)) else expand most (l.drop (k + 1)) (b ++ pt.data.toList)) = expand most l []) := Lib.hid (by
            have := HRN.out
            rw [HMM.out] at this
            exact this)
          by_cases hbig : most < (b.length : Int) + (pt.size : Int)
          · have HR2 : Hid (([], (40 : Int)) = expand most l []) := Lib.hid (by rw [← HR.out, if_pos hbig])
            have hb1 : most - (b.length : Int) < (pt.size : Int) := by omega
            go_wp2
            go_ret2
            rw [← HR2.out]
            exact ⟨rfl, HB2.out⟩
          · have HR2 : Hid (expand most (l.drop (k + 1)) (b ++ pt.data.toList) = expand most l []) := Lib.hid (by rw [← HR.out, if_neg hbig])
            have hb1 : (pt.size : Int) ≤ most - (b.length : Int) := by omega
            have HE2 : Hid (bs b ++ pt = bs (b ++ pt.data.toList)) := Lib.hid (bs_bytes b pt)
            have hpl : pt.data.toList.length = pt.size := by simp
            have HLE : Hid ((b ++ pt.data.toList).length ≤ 65536 * (k + 1)) := Lib.hid (by have := HBL.out; rw [List.length_append]; omega)
            have HLM : Hid ((b ++ pt.data.toList).length = 0 ∨ ((b ++ pt.data.toList).length : Int) ≤ most) := Lib.hid (by rw [List.length_append]; omega)
            clear hpl
            go_wp2
            go_loopw [6, 9] (fun u i wr2 => u = .string (bs b ++ pt) ∧ i = .int .i64 0 ∧ w2 = wr2) (fun _ _ _ => 0)
            case atStart => exact ⟨rfl, rfl, rfl⟩
            case round =>
              obtain ⟨rfl, rfl, rfl⟩ := hrel
              go_wp2
              go_roundw
              case rel => exact ⟨k + 1, b ++ pt.data.toList, by rw [HE2.out], by go_num, by omega, HLE, HLM, HR2, HB2⟩
              case measure => simp [intOf]; omega
        | true =>
          simp only [if_true, Bool.and_eq_true, decide_eq_true_eq, beq_iff_eq] at hmay
          obtain ⟨m0, m1, m2, m3, m4⟩ := hmay
          obtain rfl : pt = ⟨#[]⟩ := ba_empty m0
          obtain ⟨o, rfl⟩ := Int.eq_ofNat_of_zero_le (show 0 ≤ po by omega)
          obtain ⟨n, rfl⟩ := Int.eq_ofNat_of_zero_le (show 0 ≤ pl by omega)
          have hn64 : n ≤ 64 := by omega
          have hsz0 : (⟨#[]⟩ : ByteArray).size = 0 := rfl
          clear m0
          by_cases hh : o ≤ b.length
          · have hho : (o : Int) ≤ (b.length : Int) := by omega
            have ho1 : 1 ≤ o := by omega
            have HR : Hid ((if most < (b.length : Int) + (n : Int) then ([], (40 : Int)) else expand most (l.drop (k + 1)) (rep b o n)) = expand most l []) := Lib.hid (by
              have := HRN.out
              have hf : here ⟨true, ⟨#[]⟩, (o : Int), (n : Int)⟩ b.length = true := by
                unfold here
                simp
                omega
              have hg : gro b ⟨true, ⟨#[]⟩, (o : Int), (n : Int)⟩ = rep b o n := by
                unfold gro
                rw [if_pos rfl, Int.toNat_natCast, Int.toNat_natCast]
              rw [HMM.out, hf, hg] at this
              exact this)
            clear m1 m2 m3 m4
            by_cases hbig : most < (b.length : Int) + (n : Int)
            · have HR2 : Hid (([], (40 : Int)) = expand most l []) := Lib.hid (by rw [← HR.out, if_pos hbig])
              have hb1 : most - (b.length : Int) < (n : Int) := by omega
              go_wp2
              go_ret2
              rw [← HR2.out]
              exact ⟨rfl, HB2.out⟩
            · have HR2 : Hid (expand most (l.drop (k + 1)) (rep b o n) = expand most l []) := Lib.hid (by rw [← HR.out, if_neg hbig])
              have hb1 : (n : Int) ≤ most - (b.length : Int) := by omega
              have hnil := bs_nil b
              go_wp2
              go_loopw [6, 9, 10] (fun u i _ wr2 => ∃ (j m : Nat) (ys : List UInt8), u = .string (bs ys) ∧ i = .int .i64 (j : Int) ∧ j + m = n ∧ Hid (rep ys o m = rep b o n) ∧ Hid (ys.length = b.length + j) ∧ w2 = wr2) (fun _ i _ _ => n - (intOf i).toNat)
              case atStart => exact ⟨0, n, b, rfl, rfl, by omega, Lib.hid rfl, Lib.hid rfl, rfl⟩
              case round =>
                obtain ⟨j, m, ys, rfl, rfl, hjm, HRP, HYL, rfl⟩ := hrel
                have hys : (bs ys).size = ys.length := rfl
                have hyl := HYL.out
                cases m with
                | zero =>
                  obtain rfl : j = n := by omega
                  have HY : Hid (ys = rep b o j) := Lib.hid HRP.out
                  have HLE : Hid ((rep b o j).length ≤ 65536 * (k + 1)) := Lib.hid (by have := HBL.out; rw [rep_length]; omega)
                  have HLM : Hid ((rep b o j).length = 0 ∨ ((rep b o j).length : Int) ≤ most) := Lib.hid (by rw [rep_length]; omega)
                  clear hyl hys
                  go_wp2
                  go_roundw
                  case rel => exact ⟨k + 1, rep b o j, by rw [HY.out], by go_num, by omega, HLE, HLM, HR2, HB2⟩
                  case measure => simp [intOf]; omega
                | succ m =>
                  have hlt2 : j < n := by omega
                  obtain ⟨J, hJ⟩ : ∃ J, J + o = ys.length := ⟨ys.length - o, by omega⟩
                  have hJi : (ys.length : Int) - (o : Int) = (J : Int) := by omega
                  have hJl : J < ys.length := by omega
                  have hJs : J + 1 ≤ ys.length := by omega
                  have hyN : ys.length ≤ 70000000100 := by omega
                  have HE2 : Hid (bs ys ++ (bs ys).extract J (J + 1) = bs (ys ++ [ys.getD J 0])) := Lib.hid (bs_one ys J hJl)
                  have HRP2 : Hid (rep (ys ++ [ys.getD J 0]) o m = rep b o n) := Lib.hid (by
                    have := HRP.out
                    rw [rep, show ys.length - o = J by omega] at this
                    exact this)
                  have hex : ((bs ys).extract J (J + 1)).size = 1 := by simp [hys]; omega
                  have HJ := Lib.hid hJ
                  clear hJ hyl
                  go_wp2
                  go_roundw
                  case rel => exact ⟨j + 1, m, ys ++ [ys.getD J 0], by rw [HE2.out], by go_num, by omega, HRP2, Lib.hid (by rw [List.length_append, HYL.out]; rfl), trivial⟩
                  case measure => simp [intOf]; omega
          · have hho : (b.length : Int) < (o : Int) := by omega
            have HR : Hid (([], (4 : Int)) = expand most l []) := Lib.hid (by
              have := HRN.out
              have hf : here ⟨true, ⟨#[]⟩, (o : Int), (n : Int)⟩ b.length = false := by
                unfold here
                simp
                omega
              rw [HMM.out, hf] at this
              exact this)
            clear m1 m2 m3 m4
            go_wp2
            go_ret2
            rw [← HR.out]
            exact ⟨rfl, HB2.out⟩
    · obtain rfl : k = L := by omega
      have hrun := HE.out
      rw [List.drop_of_length_le (by have := HL.out; omega), expand] at hrun
      have HRN := Lib.hid hrun
      clear hrun
      go_wp2
      go_ret2
      rw [← HRN.out]
      exact ⟨rfl, HB.out⟩
end Go.Proofs.Ytnnogjojoeajnaa
