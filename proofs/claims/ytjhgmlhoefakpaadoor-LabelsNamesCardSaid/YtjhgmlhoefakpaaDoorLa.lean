/- The contracts of the reader's label, and of all labels. -/
import Derived.Test.YtjhgmlhoefakpaaDoorVl
namespace Go.Proofs.YtjhgmlhoefakpaaDoor
open Go.RowKit
set_option maxRecDepth 100000
set_option maxHeartbeats 2000000
theorem p61_iff {c : UInt8} : p61 c = true ↔ c = 61 := by unfold p61; simp
theorem dropW_all {p : UInt8 → Bool} : ∀ {l : List UInt8}, (∀ x ∈ l, p x = true) → l.dropWhile p = []
  | [], _ => rfl
  | x :: t, h => by
    rw [List.dropWhile_cons_of_pos (h x (by simp))]
    exact dropW_all (fun y hy => h y (by simp [hy]))
theorem lab_fst (l : List UInt8) : lab Vl l = match fst l p61 with
    | none => none
    | some k => (valP (l.drop (k + 1))).map fun o => (mkL (l.take k) o.1, o.2) := by
  cases hk : fst l p61 with
  | none =>
    have hn := fst_none hk
    have hd : l.dropWhile (· != 61) = [] := by
      refine dropW_all ?_
      intro x hx
      have := hn x hx
      rw [bne_iff_ne]
      rintro rfl
      exact absurd this (by decide)
    unfold lab
    rw [hd]
    rfl
  | some k =>
    obtain ⟨hkl, hq, hpn⟩ := fst_some hk
    rw [p61_iff] at hq
    have hpl : ∀ c ∈ l.take k, (c != 61) = true := by
      intro c hc
      obtain ⟨j, hj, rfl⟩ := List.getElem_of_mem hc
      rw [List.length_take] at hj
      rw [List.getElem_take, bne_iff_ne]
      intro e
      have := hpn j (by omega)
      rw [e] at this
      exact absurd this (by decide)
    have hsp : l = l.take k ++ 61 :: l.drop (k + 1) := by
      conv => lhs; rw [← List.take_append_drop k l, List.drop_eq_getElem_cons hkl, hq]
    have ht := take_name (t := l.drop (k + 1)) hpl
    rw [← hsp] at ht
    unfold lab
    rw [ht.1, ht.2, behind_some.2 rfl]
    simp only [Option.bind_some]
    unfold valP
    cases behind 34 (l.drop (k + 1)) with
    | none => rfl
    | some t => rfl
theorem V_long : ∀ (n : Nat) (l a b : List UInt8), V n l = some (a, b) → a.length + 4 * b.length ≤ 4 * l.length
  | 0, _, _, _, h => by cases h
  | n + 1, [], _, _, h => by cases h
  | n + 1, c :: t, a, b, h => by
    rw [V_cons] at h
    rw [List.length_cons]
    by_cases h1 : c = 34
    · rw [if_pos h1] at h; cases h; simp; omega
    rw [if_neg h1] at h
    by_cases h2 : c = 92
    · rw [if_pos h2] at h
      cases e : esc t with
      | none => rw [e] at h; cases h
      | some x =>
        rw [e] at h
        obtain ⟨p, hp, hh⟩ := Option.map_eq_some_iff.1 h
        have h3 := V_long n _ _ _ hp
        have h4 := (esc_le (x := x.1) (t := x.2) e).1
        have h5 := enc_length x.1
        cases hh
        rw [List.length_append]
        omega
    · rw [if_neg h2] at h
      obtain ⟨p, hp, hh⟩ := Option.map_eq_some_iff.1 h
      have h3 := V_long n _ _ _ hp
      cases hh
      rw [List.length_cons]
      omega
theorem valP_len {l a b : List UInt8} (h : valP l = some (a, b)) : a.length ≤ 4 * l.length ∧ b.length < l.length := by
  unfold valP at h
  obtain ⟨t, h1, h2⟩ := Option.bind_eq_some_iff.1 h
  have h3 := behind_len h1
  have h4 := V_short _ _ _ _ h2
  have h5 := V_long _ _ _ _ h2
  omega
theorem label_any (R : Nat) (l : List UInt8) (hl : l.length ≤ 100000000) (w : World) (h : RA w R l) :
    Calls Tryd.prog 59 #[.pointer (some ⟨R, 0, none⟩)] w (Rp w R ((lab Vl l).map fun x => (lv x.1, x.2))) := by
  have hRw := h.lt
  have HR0 := Lib.hid (h.alloc (.cells #[.string ⟨#[]⟩, .string ⟨#[]⟩] 28))
  have HG0 : Hid (w.grownBy (w.alloc (.cells #[.string ⟨#[]⟩, .string ⟨#[]⟩] 28)) (some R)) := Lib.hid (World.grownBy_alloc w _ _)
  have HX0 : Hid ((w.alloc (.cells #[.string ⟨#[]⟩, .string ⟨#[]⟩] 28)).heap[w.heap.size]? = some (.cells #[.string ⟨#[]⟩, .string ⟨#[]⟩] 28)) := Lib.hid (heap_alloc_new w _)
  have HC1 := Lib.hid (until61 R l (by omega) _ HR0.out)
  unfold untilL at HC1
  rw [lab_fst]
  clear h
  cases hk : fst l p61 with
  | none =>
    rw [hk] at HC1
    dsimp only [Option.map] at HC1 ⊢
    clear hk
    go_enter Tryd.func59, Tryd.ntmps59
    go_wp2_with fail
    refine (HC1.out).mono ?_
    rintro e w1 ⟨rfl, hG1⟩
    exact ⟨rfl, rfl, grown_trans HG0.out hG1⟩
  | some k =>
    rw [hk] at HC1
    dsimp only at HC1 ⊢
    have hk5 : behind 61 (l.drop k) = some (l.drop (k + 1)) := by
      obtain ⟨hk, e1, _⟩ := fst_some hk
      rw [p61_iff] at e1
      rw [List.drop_eq_getElem_cons hk, e1]
      exact behind_some.2 rfl
    have HC2 := Lib.hid (fun W (h : RA W R (l.drop k)) => take1 R 61 (l.drop k) W h)
    rw [hk5] at HC2
    dsimp only [Option.map] at HC2
    have hdl : (l.drop (k + 1)).length ≤ 100000000 := by rw [List.length_drop]; omega
    have htl : (l.take k).length ≤ 100000000 := by rw [List.length_take]; omega
    have HC3 := Lib.hid (fun W (h : RA W R (l.drop (k + 1))) => value_any R (l.drop (k + 1)) (by omega) W h)
    clear hk5 hk
    generalize l.drop (k + 1) = u at *
    generalize l.drop k = t at *
    generalize l.take k = P at *
    cases hv : valP u with
    | none =>
      rw [hv] at HC3
      dsimp only [Option.map] at HC3 ⊢
      clear hv
      go_enter Tryd.func59, Tryd.ntmps59
      go_wp2_with fail
      refine (HC1.out).mono ?_
      rintro e w1 ⟨rfl, hR1, hG1⟩
      have HR1 := Lib.hid hR1
      have HG1 : Hid (w.grownBy w1 (some R)) := Lib.hid (grown_trans HG0.out hG1)
      clear hR1 hG1
      go_wp2_with fail
      refine (HC2.out _ HR1.out).mono ?_
      rintro e w2 ⟨rfl, hR2, hG2⟩
      have HR2 := Lib.hid hR2
      have HG2 : Hid (w.grownBy w2 (some R)) := Lib.hid (grown_trans HG1.out hG2)
      clear hR2 hG2
      go_wp2_with fail
      refine (HC3.out _ HR2.out).mono ?_
      rintro e w3 ⟨rfl, hG3⟩
      exact ⟨rfl, rfl, grown_trans HG2.out hG3⟩
    | some o =>
      obtain ⟨a, b⟩ := o
      rw [hv] at HC3
      dsimp only [Option.map] at HC3 ⊢
      have hvl := valP_len hv
      have HCl := Lib.hid (fun W => cloned_any (bs P) (bs a) (by rw [bs_size]; omega) (by rw [bs_size]; omega) W)
      have HLv : Hid (lv (mkL P a) = .agg #[.string (bs P), .string (bs a)]) := Lib.hid rfl
      rw [HLv.out]
      unfold lv at HCl
      dsimp only at HCl
      clear hv hvl HLv
      generalize bs P = S at *
      generalize bs a = T at *
      go_enter Tryd.func59, Tryd.ntmps59
      go_wp2_with fail
      refine (HC1.out).mono ?_
      rintro e w1 ⟨rfl, hR1, hG1⟩
      have HR1 := Lib.hid hR1
      have HG1 : Hid (w.grownBy w1 (some R)) := Lib.hid (grown_trans HG0.out hG1)
      have HX1 : Hid (w1.heap[w.heap.size]? = some (.cells #[.string ⟨#[]⟩, .string ⟨#[]⟩] 28)) := Lib.hid (by rw [hG1.block _ (by simp) (fun e => by have := Option.some.inj e; omega)]; exact HX0.out)
      clear hR1 hG1
      go_wp2_with fail
      refine (HC2.out _ HR1.out).mono ?_
      rintro e w2 ⟨rfl, hR2, hG2⟩
      have HR2 := Lib.hid hR2
      have HG2 : Hid (w.grownBy w2 (some R)) := Lib.hid (grown_trans HG1.out hG2)
      have HX2 : Hid (w2.heap[w.heap.size]? = some (.cells #[.string ⟨#[]⟩, .string ⟨#[]⟩] 28)) := Lib.hid (by rw [hG2.block _ (Array.getElem?_eq_some_iff.1 HX1.out).1 (fun e => by have := Option.some.inj e; omega)]; exact HX1.out)
      clear hR2 hG2
      go_wp2_with fail
      refine (HC3.out _ HR2.out).mono ?_
      rintro e w3 ⟨rfl, hR3, hG3⟩
      have HR3 := Lib.hid hR3
      have HG3 : Hid (w.grownBy w3 (some R)) := Lib.hid (grown_trans HG2.out hG3)
      have HX3 : Hid (w3.heap[w.heap.size]? = some (.cells #[.string ⟨#[]⟩, .string ⟨#[]⟩] 28)) := Lib.hid (by rw [hG3.block _ (Array.getElem?_eq_some_iff.1 HX2.out).1 (fun e => by have := Option.some.inj e; omega)]; exact HX2.out)
      clear hR3 hG3
      go_wp2_with fail
      refine (HCl.out _).mono ?_
      rintro e w4 ⟨rfl, hb4⟩
      have hblk : w4.heap[w.heap.size]? = some (.cells #[.string ⟨#[]⟩, .string ⟨#[]⟩] 28) := by rw [hb4.block _ (Array.getElem?_eq_some_iff.1 HX3.out).1]; exact HX3.out
      have HR4 := Lib.hid (HR3.out.below hb4 (Nat.le_refl _))
      have HG4 : Hid (w.grownBy w4 (some R)) := Lib.hid (grown_then HG3.out (hb4.mono HG3.out.size))
      have HK := Lib.hid hblk
      have c0 : w4.cell? ⟨w.heap.size, 0, none⟩ = some (.string ⟨#[]⟩) := by rw [Lib.cell_of_heap hblk]; rfl
      have c1 : w4.cell? ⟨w.heap.size, 1, none⟩ = some (.string ⟨#[]⟩) := by rw [Lib.cell_of_heap hblk]; rfl
      have f0 : w4.frozen? ⟨w.heap.size, 0, none⟩ = false := Lib.frozen_of_heap hblk 0
      have f1 : w4.frozen? ⟨w.heap.size, 1, none⟩ = false := Lib.frozen_of_heap hblk 1
      clear hblk hb4
      go_wp2
      refine bodyPost_ret (results_cell_row Tryd.results59 _ _ w.heap.size 28 #[.string S, .string T] (0, 0) _ rfl ?_ Tryd.underlying28 rfl (by kernel_rfl)) rfl ?_
      · have := HK.out
        simp [World.setCell, Array.getElem?_modify, this]
      · refine ⟨rfl, ?_, ?_⟩
        · have h1 := HR4.out
          unfold RA at h1 ⊢
          rw [Below.heap_setCell _ _ _ _ (by simp; omega), Below.heap_setCell _ _ _ _ (by simp; omega)]
          exact h1
        · have h2 : Below w.heap.size w4 ((w4.setCell ⟨w.heap.size, 0, none⟩ (.string S)).setCell ⟨w.heap.size, 1, none⟩ (.string T)) := ((Below.refl w.heap.size w4).setCell (p := ⟨w.heap.size, 0, none⟩) (Nat.le_refl _) _).setCell (p := ⟨w.heap.size, 1, none⟩) (Nat.le_refl _) _
          exact grown_then HG4.out h2
end Go.Proofs.YtjhgmlhoefakpaaDoor
