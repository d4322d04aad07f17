/- The contracts of Key, the program's and the document's. -/
import Derived.Test.YtjhgmlhoefakpaaDoorCi
namespace Go.Proofs.YtjhgmlhoefakpaaDoor
open Go.RowKit
set_option maxRecDepth 100000
set_option maxHeartbeats 1000000
def txtB (s : ByteArray) : List UInt8 := Bt.vint s.size ++ s.data.toList
/-- A label's key. -/
def keyB (x : Lb) : List UInt8 := txtB x.n ++ txtB x.v
def keyL (l : List Lb) : List UInt8 := l.flatMap keyB
def tot : List Lb → Nat
  | [] => 0
  | x :: r => x.n.size + x.v.size + 20 + tot r
theorem txtB_len (s : ByteArray) (h : s.size < 18446744073709551616) : s.size + 1 ≤ (txtB s).length ∧ (txtB s).length ≤ s.size + 10 := by
  unfold txtB
  rw [List.length_append, Bt.vint_length, ← Lib.size_eq]
  have := Bt.vlen_u64 h
  have := Bt.vlen_pos s.size
  omega
theorem tot_len : ∀ l : List Lb, l.length ≤ tot l
  | [] => Nat.le_refl _
  | x :: r => by have := tot_len r; rw [tot, List.length_cons]; omega
theorem tot_mem : ∀ (l : List Lb), ∀ x ∈ l, x.n.size + x.v.size + 20 ≤ tot l
  | [], x, hx => by cases hx
  | y :: r, x, hx => by
    rw [tot]
    rcases List.mem_cons.1 hx with rfl | hx
    · omega
    · have := tot_mem r x hx; omega
theorem keyL_len : ∀ l : List Lb, tot l ≤ 1000000000000 → (keyL l).length ≤ tot l
  | [], _ => Nat.le_refl _
  | x :: r, h => by
    rw [tot] at h
    have ih := keyL_len r (by omega)
    have h1 := txtB_len x.n (by omega)
    have h2 := txtB_len x.v (by omega)
    have e : keyL (x :: r) = keyB x ++ keyL r := rfl
    rw [e, List.length_append, tot]
    unfold keyB
    rw [List.length_append]
    omega
theorem keyL_app (a b : List Lb) : keyL (a ++ b) = keyL a ++ keyL b := by simp [keyL]
theorem tot_take : ∀ (l : List Lb) (k : Nat), tot (l.take k) ≤ tot l
  | [], k => by simp [tot]
  | x :: r, 0 => by simp [tot]
  | x :: r, k + 1 => by have := tot_take r k; rw [List.take_succ_cons, tot, tot]; omega
theorem keyL_step {l : List Lb} {k : Nat} (h : k < l.length) : keyL (l.take (k + 1)) = keyL (l.take k) ++ txtB l[k].n ++ txtB l[k].v := by
  rw [List.take_add_one, List.getElem?_eq_getElem h, keyL_app, List.append_assoc]
  simp [keyL, keyB]
theorem key_any (l : List Lb) (ht : tot l ≤ 1000000000000) (v : Value) (w : World) (hv : LAt w v l) :
    Calls Tryd.prog 28 #[v] w (Ret w (.string (bs (keyL l)))) := by
  have HV := Lib.hid hv
  have HT := Lib.hid ht
  have hl := tot_len l
  obtain ⟨va, vc, hv2⟩ := hv.slice
  clear hv
  generalize hL : l.length = L at *
  have HL := Lib.hid hL
  have hLm : L ≤ 1000000000000 := by omega
  clear hL ht hl
  subst hv2
  go_enter Tryd.func28, Tryd.ntmps28
  go_wp2
  go_loopw [3, 8] (fun u i wr => ∃ k : Nat, i = .int .i64 (k : Int) ∧ k ≤ L ∧ Hid (Own wr w.heap.size u ((keyL (l.take k)).map bv)) ∧ Hid (Below w.heap.size w wr)) (fun _ i _ => L - (intOf i).toNat)
  case atStart => exact ⟨0, rfl, by omega, Lib.hid (Own.nil _ _), Lib.hid (Below.refl _ _)⟩
  case round =>
    obtain ⟨k, rfl, hk, HO, HB⟩ := hrel
    by_cases hlt : k < L
    · have hkl : k < l.length := by have := HL.out; omega
      rcases (HV.out.below HB.out (Nat.le_refl _)) with ⟨h0, _⟩ | ⟨g, o, c, hg, hcs⟩
      · have := HL.out; rw [h0] at this; simp at this; omega
      obtain ⟨q0, q1⟩ := hcs k hkl
      clear hcs
      have HS := Lib.hid (keyL_step hkl)
      have hm := tot_mem l l[k] (List.getElem_mem hkl)
      have hkt := keyL_len (l.take k) (Nat.le_trans (tot_take l k) HT.out)
      have hkt2 := tot_take l k
      generalize l[k] = x at *
      obtain ⟨xn, xv⟩ := x
      dsimp only at q0 q1 HS hm
      have hT := HT.out
      have HN := Lib.hid (show xn.size ≤ 1000000000000 ∧ xv.size ≤ 1000000000000 ∧ (keyL (l.take k)).length ≤ 1000000000000 ∧ (txtB xn).length ≤ 1000000000010 from ⟨by omega, by omega, by omega, by have := txtB_len xn (by omega); omega⟩)
      clear hm hkt hkt2 hT
      cases hg
      have HO0 : Hid (Own (wr.alloc (.cells #[.string xn, .string xv] 28)) w.heap.size _ ((keyL (l.take k)).map bv)) := Lib.hid (HO.out.alloc _)
      have HB0 : Hid (Below w.heap.size w (wr.alloc (.cells #[.string xn, .string xv] 28))) := Lib.hid (HB.out.alloc HB.out.size _)
      have hbs := HB0.out.size
      have HZ := Lib.hid hbs
      clear hbs
      go_wp2_with fail
      refine (putText_own xn (by have := HN.out; omega) w.heap.size _ _ _ HO0.out HZ.out (by have := HN.out; omega)).mono ?_
      rintro e w1 ⟨v1, rfl, hO1, hS1⟩
      have HO1 := Lib.hid hO1; have HS1 := Lib.hid hS1; clear hO1 hS1
      have hc1 : w1.cell? ⟨wr.heap.size, 1, none⟩ = some (.string xv) := by
        refine (World.cell?_of_block (a := ⟨wr.heap.size, 1, none⟩) (HS1.out.grown.block wr.heap.size (by simp) (fun e => ?_))).trans (by rw [World.cell?_alloc_mark]; rfl)
        have := HO.out.lt _ e.symm
        omega
      have HZ1 : Hid (w.heap.size ≤ w1.heap.size) := Lib.hid (Nat.le_trans HZ.out HS1.out.grown.size)
      have HLn : Hid ((keyL (l.take k) ++ (Bt.vint xn.size ++ xn.data.toList)).length + xv.size ≤ 140737488355000) := Lib.hid (by
        have h1 := HN.out
        have h2 : (Bt.vint xn.size ++ xn.data.toList) = txtB xn := rfl
        rw [h2, List.length_append]
        omega)
      go_wp2_with fail
      refine (putText_own xv (by have := HN.out; omega) w.heap.size _ _ _ HO1.out HZ1.out HLn.out).mono ?_
      rintro e w2 ⟨v2, rfl, hO2, hS2⟩
      have HO2 := Lib.hid hO2; have HS2 := Lib.hid hS2; clear hO2 hS2
      have HB2 : Hid (Below w.heap.size w w2) := Lib.hid (HB0.out.trans ((HS1.out.trans HS2.out).below HZ.out (fun g hg => (HO0.out.lt g hg).1)))
      clear hc1 q0 q1
      go_wp2
      go_roundw
      case rel => exact ⟨k + 1, by go_num, by omega, Lib.hid (by rw [HS.out]; exact HO2.out), HB2⟩
      case measure => (try simp [intOf]); (try omega)
    · obtain rfl : k = L := by omega
      have he : l.take k = l := List.take_of_length_le (by have := HL.out; omega)
      have HO1 := Lib.hid (he ▸ HO.out)
      have hcv := run_string_Own wr w.heap.size 26 9 5 _ (keyL l) HO1.out Tryd.underlying26 Tryd.underlying5 Tryd.underlying9
      clear he
      go_wp2
      go_ret
      exact ⟨rfl, HB.out⟩
theorem rkey_any (l : List Lb) (ht : tot l ≤ 1000000000000) (v : Value) (w : World) (hv : LAt w v l) :
    Calls Tryd.prog 29 #[v] w (Ret w (.string (bs (keyL l)))) := by
  have HV := Lib.hid hv
  have HT := Lib.hid ht
  have hl := tot_len l
  obtain ⟨va, vc, hv2⟩ := hv.slice
  clear hv
  generalize hL : l.length = L at *
  have HL := Lib.hid hL
  have hLm : L ≤ 1000000000000 := by omega
  clear hL ht hl
  subst hv2
  go_enter Tryd.func29, Tryd.ntmps29
  go_wp2
  go_loopw [3, 4] (fun u i wr => ∃ (k : Nat) (b : ByteArray), i = .int .i64 (k : Int) ∧ u = .string b ∧ b.size ≤ 1000000000000 ∧ k ≤ L ∧ Hid (b = bs (keyL (l.take k))) ∧ Hid (Below w.heap.size w wr)) (fun _ i _ => L - (intOf i).toNat)
  case atStart => exact ⟨0, ⟨#[]⟩, rfl, rfl, (by show (0 : Nat) ≤ 1000000000000; omega), by omega, Lib.hid rfl, Lib.hid (Below.refl _ _)⟩
  case round =>
    obtain ⟨k, b, rfl, rfl, hbs, hk, HO, HB⟩ := hrel
    by_cases hlt : k < L
    · have hkl : k < l.length := by have := HL.out; omega
      rcases (HV.out.below HB.out (Nat.le_refl _)) with ⟨h0, _⟩ | ⟨g, o, c, hg, hcs⟩
      · have := HL.out; rw [h0] at this; simp at this; omega
      obtain ⟨q0, q1⟩ := hcs k hkl
      clear hcs
      have HS := Lib.hid (keyL_step hkl)
      have hm := tot_mem l l[k] (List.getElem_mem hkl)
      have hkt := keyL_len (l.take (k + 1)) (Nat.le_trans (tot_take l (k + 1)) HT.out)
      have hkt2 := tot_take l (k + 1)
      generalize l[k] = x at *
      obtain ⟨xn, xv⟩ := x
      dsimp only at q0 q1 HS hm
      have hT := HT.out
      rw [HS.out] at hkt
      have h1 := txtB_len xn (by omega)
      have h2 := txtB_len xv (by omega)
      have HC1 : Hid (∀ W, Calls Tryd.prog 53 #[.string xn] W (Ret W (.string (bs (txtB xn))))) := Lib.hid (fun W => rtext_any xn W (by omega))
      have HC2 : Hid (∀ W, Calls Tryd.prog 53 #[.string xv] W (Ret W (.string (bs (txtB xv))))) := Lib.hid (fun W => rtext_any xv W (by omega))
      have hz1 : (bs (txtB xn)).size ≤ 1000000000010 := by rw [bs_size]; omega
      have hz2 : (bs (txtB xv)).size ≤ 1000000000010 := by rw [bs_size]; omega
      have HE : Hid (b ++ bs (txtB xn) ++ bs (txtB xv) = bs (keyL (l.take (k + 1)))) := Lib.hid (by rw [HS.out, HO.out, bs_append, bs_append])
      have hz3 : (b ++ bs (txtB xn) ++ bs (txtB xv)).size ≤ 1000000000000 := by rw [HE.out, bs_size, HS.out]; omega
      have HZ3 := Lib.hid hz3
      clear hm hkt hkt2 hT h1 h2 hz3
      generalize bs (txtB xn) = t1 at *
      generalize bs (txtB xv) = t2 at *
      have hz4 : (b ++ t1).size ≤ 2000000000010 := by rw [ByteArray.size_append]; omega
      cases hg
      have k0 : ∀ d os, («Sort».grow (redrawn wr d) os).cell? ⟨g, o + k * 2, none⟩ = some (.string xn) := fun d os => cell_regrown q0 d os
      have k1 : ∀ d os, («Sort».grow (redrawn wr d) os).cell? ⟨g, o + k * 2 + 1, none⟩ = some (.string xv) := fun d os => cell_regrown q1 d os
      go_wp2_with fail
      refine wp_region_quiet_below (by kernel_rfl) (by kernel_rfl) ?_
      iterate 6 (go_big_quiet_step (fail))
      go_big_quiet_step (first | (go_at_call 53; exact Calls.regrown_of (HC1.out _)))
      iterate 6 (go_big_quiet_step (fail))
      go_big_quiet_step (first | (go_at_call 53; exact Calls.regrown_of (HC2.out _)))
      repeat (go_big_quiet_step (fail))
      refine wpQuiet_nil ?_
      intro W2 hw2
      have HB2 : Hid (Below w.heap.size w W2) := Lib.hid (HB.out.trans ((by obtain ⟨q, rfl⟩ := hw2; exact below_regrown _ _ _ : Below wr.heap.size wr W2).mono HB.out.size))
      clear hw2 k0 k1 q0 q1
      go_wp2
      go_roundw
      case rel => exact ⟨k + 1, _, by go_num, rfl, HZ3.out, by omega, Lib.hid HE.out, HB2⟩
      case measure => (try simp [intOf]); (try omega)
    · obtain rfl : k = L := by omega
      have he : l.take k = l := List.take_of_length_le (by have := HL.out; omega)
      have HO1 := Lib.hid (he ▸ HO.out)
      clear he
      go_wp2
      go_ret
      exact ⟨ret_str HO1.out, HB.out⟩
end Go.Proofs.YtjhgmlhoefakpaaDoor
