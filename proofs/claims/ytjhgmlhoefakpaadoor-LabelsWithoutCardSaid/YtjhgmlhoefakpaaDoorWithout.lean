/- LabelsWithout: the law answers true. Condition: the tables of the library read as their initialisers lay them (tied to the program's text by the card). -/
import Derived.Test.YtjhgmlhoefakpaaDoorCards
import Derived.Test.YtjhgmlhoefakpaaDoorTie
import Derived.Test.YtjhgmlhoefakpaaDoorFi
import Derived.Test.YtjhgmlhoefakpaaDoorAw
import Derived.SevenTiedAt
import Derived.LaidMore
import Derived.Lay
import Derived.WalkKit
import Derived.ProofKit
import Derived.OpenShut
import Derived.ShutString
namespace Go.Proofs.YtjhgmlhoefakpaaDoor.labelsWithout
open Go.ChangeShapes Go.WideShapes Go.ChangeAt Go.RowKit
open Go.ChangeMaps (open_string shut_string)
set_option linter.unusedVariables false
theorem bd {n m : Nat} {w a : World} (h : Below n w a) : Below n w (a.drewN m) := h.trans ⟨rfl, rfl, rfl, Nat.le_refl _, fun _ _ => rfl⟩
theorem getL_not : ∀ (l : List Lb) (n : ByteArray), (∀ x ∈ l, x.n ≠ n) → getL l n = (⟨#[]⟩, false)
  | [], n, _ => rfl
  | x :: r, n, h => by rw [getL, if_neg (h x (by simp)), getL_not r n (fun y hy => h y (by simp [hy]))]
theorem withL_mem {l : List Lb} {n : ByteArray} : ∀ x ∈ withL l n, x.n ≠ n := fun x hx => by
  have := (List.mem_filter.1 hx).2
  simpa using this
theorem withL_twice (l : List Lb) (n : ByteArray) : withL (withL l n) n = withL l n := by
  unfold withL
  rw [List.filter_filter]
  congr 1
  funext x
  simp
theorem withL_may {l : List Lb} {n : ByteArray} (h : mayL l = true) (h0 : withL l n ≠ []) : mayL (withL l n) = true := by
  have hl := mayL_len h
  have h1 := withL_len l n
  have h2 : 1 ≤ (withL l n).length := by
    cases e : withL l n with
    | nil => exact absurd e h0
    | cons => simp
  unfold mayL at h ⊢
  rw [Bool.and_eq_true] at h ⊢
  exact ⟨decide_eq_true ⟨h2, by omega⟩, okFrom_filter _ l none h.2⟩
theorem withL_at {l : List Lb} {n : ByteArray} {k : Nat} (h : k < l.length) (e : l[k].n ≠ n) : (withL l n)[(withL (l.take k) n).length]? = some l[k] := by
  have h1 : withL l n = withL (l.take k) n ++ withL (l.drop k) n := by
    unfold withL
    rw [← List.filter_append, List.take_append_drop]
  have h2 : withL (l.drop k) n = l[k] :: withL (l.drop (k + 1)) n := by
    rw [List.drop_eq_getElem_cons h]
    unfold withL
    rw [List.filter_cons, if_pos (by simpa using e)]
  rw [h1, List.getElem?_append_right (Nat.le_refl _), Nat.sub_self, h2]
  rfl
set_option maxRecDepth 100000 in
set_option maxHeartbeats 4000000 in
theorem core (v : Value) (l : List Lb) (s : ByteArray) (w : World) (wl : Arg w v l) (ws : s.size ≤ maxLen) (hT : Hid (Tab w)) :
    Calls Tryd.prog 12 #[v, .string s] w fun e w' => e = .returned (.bool true) ∧ Below w.heap.size w w' := by
  have hs63 : (s.size : Int) ≤ 9223372036854775807 := by unfold maxLen at ws; omega
  have HV := Lib.hid wl.at'
  obtain ⟨l1, l2⟩ := arg_wide wl
  have HL1 := Lib.hid (fun v W (h : LAt W v l) => long_any l l1 l2 v W h)
  clear wl
  cases hd : decide (5000 ≤ lng l 0) with
  | true =>
    rw [hd] at HL1
    clear hd
    have HB0 : Hid (Below w.heap.size w w) := Lib.hid (Below.refl _ _)
    go_enter Tryd.func12, Tryd.ntmps12
    go_wp2_with fail
    refine (HL1.out _ _ (HV.out.below HB0.out (Nat.le_refl _))).mono ?_
    rintro e w1 ⟨rfl, hb⟩
    have HB1 : Hid (Below w.heap.size w w1) := Lib.hid (below_trans' HB0.out hb)
    clear hb
    go_wp2_with fail
    refine (awake_any _ (tab_of hT HB1)).mono ?_
    rintro e w2 ⟨rfl, hb⟩
    have HB2 : Hid (Below w.heap.size w w2) := Lib.hid (below_trans' HB1.out hb)
    clear hb
    go_wp2
    go_ret
    exact ⟨rfl, HB2.out⟩
  | false =>
    have htl := small_tot hd
    rw [hd] at HL1
    clear hd
    by_cases hb : 3000 < s.size
    · clear htl
      have HB0 : Hid (Below w.heap.size w w) := Lib.hid (Below.refl _ _)
      go_enter Tryd.func12, Tryd.ntmps12
      go_wp2_with fail
      refine (HL1.out _ _ (HV.out.below HB0.out (Nat.le_refl _))).mono ?_
      rintro e w1 ⟨rfl, hb⟩
      have HB1 : Hid (Below w.heap.size w w1) := Lib.hid (below_trans' HB0.out hb)
      clear hb
      go_wp2_with fail
      refine (awake_any _ (tab_of hT HB1)).mono ?_
      rintro e w2 ⟨rfl, hb⟩
      have HB2 : Hid (Below w.heap.size w w2) := Lib.hid (below_trans' HB1.out hb)
      clear hb
      go_wp2
      go_ret
      exact ⟨rfl, HB2.out⟩
    have hll := tot_len l
    have hl9 : l.length ≤ 1000000000 := by omega
    obtain ⟨va, vc, hv2⟩ := HV.out.slice
    have HG1 := Lib.hid (fun v W (h : LAt W v l) => get_any l l1 s v W h)
    have HW1 := Lib.hid (fun v W (h : LAt W v l) => with_any l (by omega) s v W h)
    have HMY := Lib.hid (fun v W (h : LAt W v l) (k : Tab W) => mayL_any l l1 l2 v W h k)
    obtain ⟨R, hR⟩ : ∃ R, withL l s = R := ⟨_, rfl⟩
    have hRl : R.length ≤ 1000000000 := by rw [← hR]; have := withL_len l s; omega
    have hRw : Wide R := fun p hp => l2 p (by rw [← hR] at hp; exact (List.mem_filter.1 hp).1)
    have HGR := Lib.hid (fun v W (h : LAt W v R) => get_any R (by omega) s v W h)
    rw [getL_not R s (fun x hx => withL_mem x (by rw [hR]; exact hx))] at HGR
    have HWR := Lib.hid (fun v W (h : LAt W v R) => with_any R hRl s v W h)
    have htw := withL_twice l s
    rw [hR] at htw
    rw [htw] at HWR
    have HMR := Lib.hid (fun v W (h : LAt W v R) (k : Tab W) => mayL_any R (by omega) hRw v W h k)
    have HSM := Lib.hid (fun v u W (h : LAt W v R) (k : LAt W u R) => same_any R R (by omega) (by omega) v u W h k)
    have hE : sameL R R = true := by simp [sameL]
    rw [hE] at HSM
    have HRM := Lib.hid (show mayL l = true → R.length ≠ 0 → mayL R = true from fun h h0 => by
      rw [← hR]
      exact withL_may h (fun e => h0 (by rw [← hR, e]; rfl)))
    rw [hR] at HW1
    have HRE := Lib.hid hR
    clear hR hRw htw hE htl
    obtain ⟨P, Q, hpq⟩ : ∃ P Q, getL l s = (P, Q) := ⟨_, _, rfl⟩
    have HPQ := Lib.hid hpq
    rw [hpq] at HG1
    clear hpq
    dsimp only at HG1 HGR
    generalize mayL l = B at *
    generalize hL : l.length = L at *
    have HL := Lib.hid hL
    clear hL
    generalize hLR : R.length = LR at *
    have HLR := Lib.hid hLR
    clear hLR
    subst hv2
    have HB0 : Hid (Below w.heap.size w w) := Lib.hid (Below.refl _ _)
    go_enter Tryd.func12, Tryd.ntmps12
    go_wp2_with fail
    refine (HL1.out _ _ (HV.out.below HB0.out (Nat.le_refl _))).mono ?_
    rintro e w1 ⟨rfl, hb⟩
    have HB1 : Hid (Below w.heap.size w w1) := Lib.hid (below_trans' HB0.out hb)
    clear hb
    go_wp2_with fail
    refine (awake_any _ (tab_of hT HB1)).mono ?_
    rintro e w2 ⟨rfl, hb⟩
    have HB2 : Hid (Below w.heap.size w w2) := Lib.hid (below_trans' HB1.out hb)
    clear hb
    go_wp2_with fail
    refine (HW1.out _ _ (HV.out.below HB2.out (Nat.le_refl _))).mono ?_
    rintro e w3 ⟨u, rfl, ho, hb⟩
    have HB3 : Hid (Below w.heap.size w w3) := Lib.hid (below_trans' HB2.out hb)
    have HRo := Lib.hid ho
    have HR_3 := Lib.hid ho.at
    have HRw_3 := Lib.hid ho.wr
    clear ho hb
    obtain ⟨ra, rc, hu⟩ := HRo.out.shape
    rw [HLR.out] at hu
    subst hu
    go_wp2_with fail
    refine (HG1.out _ _ (HV.out.below HB3.out (Nat.le_refl _))).mono ?_
    rintro e w4 ⟨rfl, hb⟩
    have HB4 : Hid (Below w.heap.size w w4) := Lib.hid (below_trans' HB3.out hb)
    have HR_4 := Lib.hid (HR_3.out.below hb (Nat.le_refl _))
    have HRw_4 := Lib.hid (HRw_3.out.below hb (Nat.le_refl _))
    clear hb
    go_wp2
    go_loopw [8, 9, 10] (fun a f i wr => ∃ (K : Nat) (F : Bool) (k : Nat), a = .int .i64 (K : Int) ∧ f = .bool F ∧ i = .int .i64 (k : Int) ∧ k ≤ L ∧ K ≤ k ∧ Hid (K = (withL (l.take k) s).length) ∧ Hid (if F = true then Q = true else getL (l.drop k) s = (P, Q)) ∧ Hid (Below w.heap.size w wr) ∧ Hid (Below w4.heap.size w4 wr)) (fun _ _ i _ => L - (intOf i).toNat)
    case atStart => exact ⟨0, false, 0, rfl, rfl, rfl, by omega, by omega, Lib.hid rfl, Lib.hid (by rw [if_neg (by simp)]; exact HPQ.out), HB4, Lib.hid (Below.refl _ _)⟩
    case round =>
      obtain ⟨K, F, k, rfl, rfl, rfl, hk, hK, HK, HF, HBr, HC⟩ := hrel
      by_cases hlt : k < L
      · have hkl : k < l.length := by have := HL.out; omega
        rcases (HV.out.below HBr.out (Nat.le_refl _)) with ⟨h0, _⟩ | ⟨g, o, c, hg, hcs⟩
        · have := HL.out; rw [h0] at this; simp at this; omega
        obtain ⟨q0, q1⟩ := hcs k hkl
        clear hcs
        have HRr := Lib.hid (HR_4.out.below HC.out (Nat.le_refl _))
        have HY := Lib.hid (withL_yes (n := s) hkl)
        have HN := Lib.hid (withL_no (n := s) hkl)
        have HAt := Lib.hid (withL_at (n := s) hkl)
        have hdr : l.drop k = l[k] :: l.drop (k + 1) := List.drop_eq_getElem_cons hkl
        have HF2 := Lib.hid (show F = false → (if l[k].n = s then (l[k].v, true) else getL (l.drop (k + 1)) s) = (P, Q) from fun e => by
          have h1 := HF.out
          rw [e, if_neg (by simp), hdr] at h1
          exact h1)
        have HF3 := Lib.hid (show F = true → Q = true from fun e => by
          have h1 := HF.out
          rwa [if_pos e] at h1)
        clear hdr
        generalize l[k] = x at *
        obtain ⟨xn, xv⟩ := x
        dsimp only at q0 q1 HY HN HF2 HAt
        have hn := bytes_eq xn s
        rw [HL.out] at hg
        cases hg
        by_cases d1 : xn = s
        · rw [decide_eq_true d1] at hn
          have HKn := Lib.hid (HN.out d1)
          cases F with
          | true =>
            have hQ := HF3.out rfl
            subst hQ
            clear d1 HF2 HF3
            go_wp2
            go_roundw
            case rel => exact ⟨K, true, k + 1, by go_num, rfl, by go_num, by omega, by omega, Lib.hid (by rw [HKn.out]; exact HK.out), Lib.hid (by simp), Lib.hid (by first | exact HBr.out | exact bd HBr.out), Lib.hid (by first | exact HC.out | exact bd HC.out)⟩
            case measure => (try simp [intOf]); (try omega)
          | false =>
            have h2 := HF2.out rfl
            rw [if_pos d1] at h2
            obtain ⟨hP, hQ⟩ := Prod.mk.inj h2
            subst hP hQ
            have hvv : (xv.toList != xv.toList) = false := by simp
            clear d1 HF2 HF3 h2
            go_wp2
            go_roundw
            case rel => exact ⟨K, true, k + 1, by go_num, rfl, by go_num, by omega, by omega, Lib.hid (by rw [HKn.out]; exact HK.out), Lib.hid (by simp), Lib.hid (by first | exact HBr.out | exact bd HBr.out), Lib.hid (by first | exact HC.out | exact bd HC.out)⟩
            case measure => (try simp [intOf]); (try omega)
        · rw [decide_eq_false d1] at hn
          have HKn := Lib.hid (HY.out d1)
          have hat := HAt.out d1
          rw [HRE.out, ← HK.out] at hat
          have hKR0 : K < R.length := (List.getElem?_eq_some_iff.1 hat).1
          have hRK : R[K]'hKR0 = ⟨xn, xv⟩ := (List.getElem?_eq_some_iff.1 hat).2
          rcases HRr.out with ⟨h0, _⟩ | ⟨g2, o2, c2, hg2, hcs2⟩
          · rw [h0] at hKR0; simp at hKR0
          obtain ⟨r0, r1⟩ := hcs2 K hKR0
          clear hcs2
          rw [hRK] at r0 r1
          dsimp only at r0 r1
          rw [HLR.out] at hg2
          have hKR : K < LR := by have := HLR.out; omega
          cases hg2
          have he := fun W => eq28 xn xv xn xv W
          have e1 : (xn.toList == xn.toList) = true := by simp
          have e2 : (xv.toList == xv.toList) = true := by simp
          have hge : decide ((LR : Int) ≤ (K : Int)) = false := decide_eq_false (by omega)
          have hgn : decide (LR ≤ K) = false := decide_eq_false (by omega)
          have HFn := Lib.hid (show (if F = true then Q = true else getL (l.drop (k + 1)) s = (P, Q)) from by
            cases F with
            | true => rw [if_pos rfl]; exact HF3.out rfl
            | false =>
              have := HF2.out rfl
              rw [if_neg d1] at this
              rw [if_neg (by simp)]; exact this)
          clear d1 hat hRK HF2 HF3
          go_wp2
          go_big_quiet (fail)
          go_wp2
          go_roundw
          case rel => exact ⟨K + 1, F, k + 1, by go_num, rfl, by go_num, by omega, by omega, Lib.hid (by rw [HKn.out, List.length_append, ← HK.out]; rfl), HFn, Lib.hid (by first | exact HBr.out | exact bd HBr.out), Lib.hid (by first | exact HC.out | exact bd HC.out)⟩
          case measure => (try simp [intOf]); (try omega)
      · obtain rfl : k = L := by omega
        have hKL : K = LR := by
          have := HK.out
          rw [List.take_of_length_le (by have := HL.out; omega), HRE.out, HLR.out] at this
          exact this
        subst hKL
        have hFQ : Q = F := by
          have h1 := HF.out
          cases F with
          | true => rwa [if_pos rfl] at h1
          | false =>
            rw [if_neg (by simp), List.drop_of_length_le (by have := HL.out; omega)] at h1
            exact (Prod.mk.inj h1).2.symm
        subst hFQ
        have hqq : (Q == Q) = true := by simp
        cases B with
        | false =>
          have HB1 := HBr
          have HR_1 := Lib.hid (HR_4.out.below HC.out (Nat.le_refl _))
          go_wp2_with fail
          refine (HGR.out _ _ HR_1.out).mono ?_
          rintro e w2 ⟨rfl, hb⟩
          have HB2 : Hid (Below w.heap.size w w2) := Lib.hid (below_trans' HB1.out hb)
          have HR_2 := Lib.hid (HR_1.out.below hb (Nat.le_refl _))
          clear hb
          go_wp2_with fail
          refine (HMY.out _ _ (HV.out.below HB2.out (Nat.le_refl _)) (tab_of hT HB2)).mono ?_
          rintro e w3 ⟨rfl, hb⟩
          have HB3 : Hid (Below w.heap.size w w3) := Lib.hid (below_trans' HB2.out hb)
          have HR_3 := Lib.hid (HR_2.out.below hb (Nat.le_refl _))
          clear hb
          go_wp2_with fail
          refine (HWR.out _ _ HR_3.out).mono ?_
          rintro e w4 ⟨us, rfl, ho, hb⟩
          have HB4 : Hid (Below w.heap.size w w4) := Lib.hid (below_trans' HB3.out hb)
          have HR_4 := Lib.hid (HR_3.out.below hb (Nat.le_refl _))
          have HSo := Lib.hid ho
          have HS_4 := Lib.hid ho.at
          have HSw_4 := Lib.hid ho.wr
          clear ho hb
          go_wp2_with fail
          refine (HSM.out _ _ _ HS_4.out HR_4.out).mono ?_
          rintro e w5 ⟨rfl, hb⟩
          have HB5 : Hid (Below w.heap.size w w5) := Lib.hid (below_trans' HB4.out hb)
          have HR_5 := Lib.hid (HR_4.out.below hb (Nat.le_refl _))
          have HS_5 := Lib.hid (HS_4.out.below hb (Nat.le_refl _))
          have HSw_5 := Lib.hid (HSw_4.out.below hb (Nat.le_refl _))
          clear hb
          go_wp2
          go_ret
          exact ⟨rfl, HB5.out⟩
        | true =>
          by_cases hz : K = 0
          · subst hz
            have HB1 := HBr
            have HR_1 := Lib.hid (HR_4.out.below HC.out (Nat.le_refl _))
            go_wp2_with fail
            refine (HGR.out _ _ HR_1.out).mono ?_
            rintro e w2 ⟨rfl, hb⟩
            have HB2 : Hid (Below w.heap.size w w2) := Lib.hid (below_trans' HB1.out hb)
            have HR_2 := Lib.hid (HR_1.out.below hb (Nat.le_refl _))
            clear hb
            go_wp2_with fail
            refine (HMY.out _ _ (HV.out.below HB2.out (Nat.le_refl _)) (tab_of hT HB2)).mono ?_
            rintro e w3 ⟨rfl, hb⟩
            have HB3 : Hid (Below w.heap.size w w3) := Lib.hid (below_trans' HB2.out hb)
            have HR_3 := Lib.hid (HR_2.out.below hb (Nat.le_refl _))
            clear hb
            go_wp2_with fail
            refine (HWR.out _ _ HR_3.out).mono ?_
            rintro e w4 ⟨us, rfl, ho, hb⟩
            have HB4 : Hid (Below w.heap.size w w4) := Lib.hid (below_trans' HB3.out hb)
            have HR_4 := Lib.hid (HR_3.out.below hb (Nat.le_refl _))
            have HSo := Lib.hid ho
            have HS_4 := Lib.hid ho.at
            have HSw_4 := Lib.hid ho.wr
            clear ho hb
            go_wp2_with fail
            refine (HSM.out _ _ _ HS_4.out HR_4.out).mono ?_
            rintro e w5 ⟨rfl, hb⟩
            have HB5 : Hid (Below w.heap.size w w5) := Lib.hid (below_trans' HB4.out hb)
            have HR_5 := Lib.hid (HR_4.out.below hb (Nat.le_refl _))
            have HS_5 := Lib.hid (HS_4.out.below hb (Nat.le_refl _))
            have HSw_5 := Lib.hid (HSw_4.out.below hb (Nat.le_refl _))
            clear hb
            go_wp2
            go_ret
            exact ⟨rfl, HB5.out⟩
          · have hmr := HRM.out rfl hz
            rw [hmr] at HMR
            have hz2 : ((K : Int) == 0) = false := by rw [beq_eq_false_iff_ne]; omega
            have HB1 := HBr
            have HR_1 := Lib.hid (HR_4.out.below HC.out (Nat.le_refl _))
            go_wp2_with fail
            refine (HGR.out _ _ HR_1.out).mono ?_
            rintro e w2 ⟨rfl, hb⟩
            have HB2 : Hid (Below w.heap.size w w2) := Lib.hid (below_trans' HB1.out hb)
            have HR_2 := Lib.hid (HR_1.out.below hb (Nat.le_refl _))
            clear hb
            go_wp2_with fail
            refine (HMY.out _ _ (HV.out.below HB2.out (Nat.le_refl _)) (tab_of hT HB2)).mono ?_
            rintro e w3 ⟨rfl, hb⟩
            have HB3 : Hid (Below w.heap.size w w3) := Lib.hid (below_trans' HB2.out hb)
            have HR_3 := Lib.hid (HR_2.out.below hb (Nat.le_refl _))
            clear hb
            go_wp2_with fail
            refine (HMR.out _ _ HR_3.out (tab_of hT HB3)).mono ?_
            rintro e w4 ⟨rfl, hb⟩
            have HB4 : Hid (Below w.heap.size w w4) := Lib.hid (below_trans' HB3.out hb)
            have HR_4 := Lib.hid (HR_3.out.below hb (Nat.le_refl _))
            clear hb
            go_wp2_with fail
            refine (HWR.out _ _ HR_4.out).mono ?_
            rintro e w5 ⟨us, rfl, ho, hb⟩
            have HB5 : Hid (Below w.heap.size w w5) := Lib.hid (below_trans' HB4.out hb)
            have HR_5 := Lib.hid (HR_4.out.below hb (Nat.le_refl _))
            have HSo := Lib.hid ho
            have HS_5 := Lib.hid ho.at
            have HSw_5 := Lib.hid ho.wr
            clear ho hb
            go_wp2_with fail
            refine (HSM.out _ _ _ HS_5.out HR_5.out).mono ?_
            rintro e w6 ⟨rfl, hb⟩
            have HB6 : Hid (Below w.heap.size w w6) := Lib.hid (below_trans' HB5.out hb)
            have HR_6 := Lib.hid (HR_5.out.below hb (Nat.le_refl _))
            have HS_6 := Lib.hid (HS_5.out.below hb (Nat.le_refl _))
            have HSw_6 := Lib.hid (HSw_5.out.below hb (Nat.le_refl _))
            clear hb
            go_wp2
            go_ret
            exact ⟨rfl, HB6.out⟩
set_option maxRecDepth 100000 in
theorem lifted (os : Os) (started : os.Started) (H : Type) (enc : TypeId × Value → H) :
    ReturnsInHanded {} Tryd.checked os 12 .any (fun w args => (Rows.labelsWithoutSpec.pre enc Tryd.prog Tryd.f12 [] false w args ∧ laidMetH Tryd.prog laid w) ∧ sizedMet enc Tryd.prog Tryd.f12 (OpenSpec.ofChange Rows.labelsWithoutSpec) false w args)
      (Rows.labelsWithoutSpec.post enc Tryd.prog Tryd.f12 false true false false) := by
  refine returnsInHanded_of_change_and (C := Tryd.checked) (X := fun w _ => laidMetH Tryd.prog laid w) (fun _ _ _ hh h => h.of_heap hh) own started (by kernel_rfl) Tryd.func12
    (ChangeSpec.witness_shaped (enc := enc) (C := Tryd.checked) (os := os) (X := fun w _ => laidMetH Tryd.prog laid w) false (World.laidAll Tryd.prog os laid) #[.slice none 0 0, .string ByteArray.empty] 8 (World.laidAll_os _ _ _) (World.shaped_of_ZipB (by kernel_rfl) (by kernel_rfl)) (by kernel_rfl) (by kernel_rfl) (by kernel_rfl) (door_met os _)) ?_
  intro W base args ds gs before hval0 hW hcnd _ hL _
  have hval : ∀ (j : Nat) t v, Tryd.f12.params[j]? = some t → args[j]? = some v → Value.okWide Tryd.prog W .any base t v := hval0
  have hW' := hW
  obtain ⟨p, q, hA0, hV, rfl, hfz, hnd⟩ := hW
  have hA : DataW.TrodAll enc Tryd.prog W 0 (fun _ => true) true Tryd.f12.params.toList args.toList ds p := hA0
  rw [Tryd.params12] at hA hval
  obtain ⟨v0, vs0, d0, ds0, p0, q0, hargs, rfl, rfl, h0, r0⟩ := trodAll_cons hA
  obtain ⟨v1, vs1, d1, ds1, p1, q1, rfl, rfl, rfl, h1, r1⟩ := trodAll_cons r0
  obtain ⟨rfl, rfl, rfl⟩ := trodAll_nil r1
  obtain rfl : args = #[v0, v1] := by cases args; simp_all
  obtain ⟨rfl, rfl⟩ := trodVars_none hV
  have k0 := h0
  have lt0 : ∀ x ∈ p0, x.block < W.heap.size := by obtain ⟨m, hm⟩ := k0; exact DataW.trod_lt m _ _ _ hm
  have k1 := h1
  have lt1 : ∀ x ∈ p1, x.block < W.heap.size := by obtain ⟨m, hm⟩ := k1; exact DataW.trod_lt m _ _ _ hm
  obtain ⟨a0, w0⟩ := open_labels (hval 0 25 v0 rfl rfl) h0
  obtain ⟨a1, rfl, rfl, rfl, w1⟩ := open_string Tryd.underlying9 (hval 1 9 v1 rfl rfl) h1
  clear hA0 hval0
  refine (core v0 a0 a1 W w0 w1 (Lib.hid (of_laid hL))).mono fun e W' ⟨he, bel⟩ => ?_
  subst he
  exact ⟨_, rfl, _, _, _, [], _, [], hW', trodAll_mk1 (shut_bool Tryd.underlying4 _), (trodAll_cons_mk (Below.trod laidOut (by kernel_rfl) (of_decide_eq_true (by kernel_rfl)) k0 bel lt0) (trodAll_cons_mk (Below.trod laidOut (by kernel_rfl) (of_decide_eq_true (by kernel_rfl)) k1 bel lt1) trodAll_mk0)), rfl, bel.frame _, fun h => by cases h⟩
theorem over : Rows.labelsWithoutRow.holds Tryd.pinned (OpenSpec.ofChange Rows.labelsWithoutSpec) :=
  OpenClaim.holds_of_wide 12 Tryd.f12 rfl rfl rfl rfl rfl rfl rfl ⟨rfl, rfl, rfl, rfl, rfl⟩ rfl rfl rfl rfl rfl (by kernel_rfl) Tryd.func12 (by kernel_rfl)
    (of_decide_eq_true (by kernel_rfl)) (by unfold Func.isWrapper; first | (rw [if_pos (by decide +kernel)]; kernel_rfl) | (rw [if_neg (by decide +kernel)]; exact ⟨rfl, rfl⟩))
    (fun os started H enc _ => lifted os started H enc)
theorem proved : Rows.LabelsWithoutCardSaid :=
  Claim7.holds_tied_plain_at .later [] [.data, .data, .data, .data, .pinned] true (true, "29d8eb039746b622064e7fdd6be2e3716893f65b16f6a8010a72416b636b660b") false
    over (fun _ h => by cases h) (by kernel_rfl) (fun _ h => by cases h) labelsWithout_row_tie rfl ⟨rfl, rfl⟩ (by kernel_rfl) rfl
    (fun f fn hf hfn => by
      obtain rfl : f = 12 := Option.some.inj ((show Tryd.prog.funcNamed "baton/batonlaw05.LabelsWithout" = some 12 by kernel_rfl).symm.trans hf) |>.symm
      obtain rfl : fn = Tryd.f12 := (Option.some.inj (Tryd.func12.symm.trans hfn)).symm
      exact ⟨by kernel_rfl, fun j t ht => by
        rw [Tryd.params12] at ht
        have hm : t ∈ [25, 9] := by simpa using Array.mem_of_getElem? ht
        have hall : ([25, 9].all fun u => !Tryd.prog.wantsStandIn u) = true := by kernel_rfl
        exact (show Tryd.prog.wantsStandIn t = false by simpa using List.all_eq_true.1 hall t hm)⟩)
    (by kernel_rfl)
end Go.Proofs.YtjhgmlhoefakpaaDoor.labelsWithout
