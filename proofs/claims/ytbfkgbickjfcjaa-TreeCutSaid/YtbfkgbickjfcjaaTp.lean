/- Holds; Clone. -/
import Derived.Test.YtbfkgbickjfcjaaTm
import Derived.Test.YtbfkgbickjfcjaaTo
namespace Go.Proofs.Ytbfkgbickjfcjaa
set_option linter.unusedVariables false
set_option linter.unusedSimpArgs false
open Go.RowKit
set_option maxRecDepth 100000
def holdsB (s : St) (cs : List Cn) : Bool := cs.all fun c => (oE (getE c.k s)).mod == c.mod
set_option maxHeartbeats 2000000 in
theorem holds_any (p : Option Addr) (s : St) (cs : List Cn) (v : Value) (w : World) (h : Asks w p s) (hv : RAt encC w v cs) (hl : cs.length ≤ 9223372036854775807) :
    Calls Try.prog 38 #[.pointer p, v] w fun e w' => e = .returned (.bool (holdsB s cs)) ∧ Below w.heap.size w w' := by
  have HA := Lib.hid h
  have HV := Lib.hid hv
  obtain ⟨ad, c, rfl⟩ := hv.slice
  obtain ⟨R, hR⟩ : ∃ R, holdsB s cs = R := ⟨_, rfl⟩
  rw [hR]
  unfold holdsB at hR
  have HR := Lib.hid hR
  obtain ⟨N, hN⟩ : ∃ n, cs.length = n := ⟨_, rfl⟩
  have HN := Lib.hid hN
  rw [hN] at hl HV ⊢
  clear h hv hR hN
  go_enter Try.func38, Try.ntmps38
  go_wp2_with fail
  go_loopw [11] (fun t wr => ∃ i : Nat, t = .int .i64 i ∧ i ≤ N ∧ Hid (Below w.heap.size w wr ∧ R = (cs.drop i).all fun c => (oE (getE c.k s)).mod == c.mod)) (fun t _ => N - (intOf t).toNat)
  case atStart => exact ⟨0, rfl, Nat.zero_le _, Lib.hid ⟨Below.refl _ _, HR.out.symm⟩⟩
  case round =>
    obtain ⟨i, rfl, hi, HH⟩ := hrel
    by_cases hlt : i < N
    · have hli : i < cs.length := by rw [HN.out]; exact hlt
      obtain ⟨y, hy⟩ : ∃ y, cs[i] = y := ⟨_, rfl⟩
      have hA := HV.out.below HH.out.1
      rw [← HN.out] at hA
      obtain ⟨g, o, c', hv, hg, hc⟩ := hA.pos (by intro e; rw [e] at hli; exact absurd hli (by simp))
      injection hv with hv1 hv2 hv3
      subst hv1
      obtain ⟨q0, q1⟩ := RAt.atC hc i hli
      rw [hy] at q0 q1
      have HB := Lib.hid HH.out.1
      have hd : R = (((oE (getE y.k s)).mod == y.mod) && (cs.drop (i + 1)).all fun c => (oE (getE c.k s)).mod == c.mod) := by
        rw [HH.out.2, List.drop_eq_getElem_cons hli, List.all_cons, hy]
      have HD := Lib.hid hd
      have hbx : Below wr.heap.size wr (wr.alloc (.cells #[.string y.k, .int .i64 y.mod] 69)) := (Below.refl _ wr).alloc (Nat.le_refl _) _
      have HBX := Lib.hid (HB.out.trans (hbx.mono HB.out.size))
      have HG := Lib.hid (get_any p y.k s _ (HA.out.below HBX.out))
      have hbk : (wr.alloc (.cells #[.string y.k, .int .i64 y.mod] 69)).heap[wr.heap.size]? = some (.cells #[.string y.k, .int .i64 y.mod] 69 (0, 0)) := World.alloc_heap_new _ _
      have HBK := Lib.hid hbk
      obtain ⟨x, hx⟩ : ∃ x, oE (getE y.k s) = x := ⟨_, rfl⟩
      have HX := Lib.hid hx
      rw [hx] at HD
      clear hA hv2 hv3 hc hg hd HH hy hli hbx hbk hx
      go_wp2_with fail
      refine HG.out.mono ?_
      rintro e w2 ⟨rfl, hb2⟩
      rw [HX.out]
      unfold agE
      have HB2 := Lib.hid (HBX.out.trans (hb2.mono HBX.out.size))
      have hk2 := (hb2.block wr.heap.size (by simp)).trans HBK.out
      have hb3 : Below w2.heap.size w2 (w2.alloc (.cells #[.string x.k, .string x.v, .int .i64 x.made, .int .i64 x.mod] 57)) := (Below.refl _ w2).alloc (Nat.le_refl _) _
      have hk3 := (hb3.block wr.heap.size (Array.getElem?_eq_some_iff.1 hk2).1).trans hk2
      have k1 : (w2.alloc (.cells #[.string x.k, .string x.v, .int .i64 x.made, .int .i64 x.mod] 57)).cell? ⟨wr.heap.size, 1, none⟩ = some (.int .i64 y.mod) := by simp only [World.cell?, hk3]; rfl
      have HB3 := Lib.hid (HB2.out.trans (hb3.mono HB2.out.size))
      clear hb2 hk2 hb3 hk3
      by_cases he : x.mod = y.mod
      · have hr : R = ((cs.drop (i + 1)).all fun c => (oE (getE c.k s)).mod == c.mod) := by rw [HD.out, he]; simp
        have HR3 := Lib.hid hr
        have e1 : (x.mod == y.mod) = true := by simp [he]
        have e2 : (x.mod != y.mod) = false := by simp [he]
        clear hr he
        go_wp2
        go_roundw
        case rel => exact ⟨i + 1, by simp, by omega, Lib.hid ⟨HB3.out, HR3.out⟩⟩
        case measure => (try simp [intOf]); (try omega)
      · have e1 : (x.mod == y.mod) = false := by simp [he]
        have e2 : (x.mod != y.mod) = true := by simp [he]
        have hr : R = false := by rw [HD.out, e1]; rfl
        subst hr
        clear he
        go_wp2
        go_ret
        exact ⟨rfl, HB3.out⟩
    · obtain rfl : i = N := by omega
      have hr : R = true := by rw [HH.out.2, ← HN.out, List.drop_length]; rfl
      subst hr
      go_wp2
      go_ret
      exact ⟨rfl, HH.out.1⟩
theorem info44 : (Try.prog.info? 44).map (fun i => (i.zero, i.size, i.bytes)) = some (some (.agg #[.int .i64 0, .bool false, .string ⟨#[]⟩, .string ⟨#[]⟩]), 4, 48) := by kernel_rfl
theorem encV_len (l : List Ev) : (cz encV l).length = l.length * 4 := cz_len (enc := encV) (z := 4) (fun _ => rfl) l
theorem encE_len (l : List En) : (cz encE l).length = l.length * 4 := cz_len (enc := encE) (z := 4) (fun _ => rfl) l
theorem encE_one (l : List En) : ∀ u ∈ cz encE l, u.oneCell' = true := by
  intro u hu
  simp only [cz, List.mem_flatMap] at hu
  obtain ⟨x, -, hx⟩ := hu
  simp only [encE, List.mem_cons, List.not_mem_nil, or_false] at hx
  rcases hx with rfl | rfl | rfl | rfl <;> rfl
theorem encV_one (l : List Ev) : ∀ u ∈ cz encV l, u.oneCell' = true := by
  intro u hu
  simp only [cz, List.mem_flatMap] at hu
  obtain ⟨x, -, hx⟩ := hu
  simp only [encV, List.mem_cons, List.not_mem_nil, or_false] at hx
  rcases hx with rfl | rfl | rfl | rfl <;> rfl
/-- A clone of events, of which there are some. -/
theorem clone_any (l : List Ev) (v : Value) (w : World) (h : RAt encV w v l) (hne : l ≠ []) (hl : l.length ≤ 1000) :
    Calls Try.prog 51 #[v] w fun e w' => (∃ x : Sl, e = .returned (.slice x.a x.n x.c) ∧ EvAt w' x l ∧ ∃ g, x.a = some ⟨g, 0, none⟩ ∧ w.heap.size ≤ g) ∧ Below w.heap.size w w' := by
  obtain ⟨i0, hi, hz0, hz1, hz2⟩ := info_parts info44
  obtain ⟨g, o, c, rfl, hg, hc⟩ := h.pos hne
  have HC := Lib.hid hc
  have HNE := Lib.hid hne
  have hown : Ow 44 4 encV (w.alloc (.cells #[] 44)) w.heap.size (.slice (some ⟨w.heap.size, 0, none⟩) 0 0) [] :=
    ⟨by simp [cz], .inr ⟨w.heap.size, 0, #[], rfl, Nat.le_refl _, World.alloc_heap_new _ _, by simp, by simp [maxLen], by simp, by simp [cz]⟩⟩
  have HOWN := Lib.hid hown
  have HBA : Hid (Below w.heap.size w (w.alloc (.cells #[] 44))) := Lib.hid ((Below.refl _ w).alloc (Nat.le_refl _) _)
  have HLL := Lib.hid hl
  clear h hne hc hown hl hg
  have hsn := fun (w : World) (a : Option Addr) (l c : Nat) => Go.Lib.run_eql_slice_nil (P := Try.prog) w 29 44 a l c 0 0 Try.underlying29
  go_enter Try.func51, Try.ntmps51
  go_wp2_with (at_builtin; (refine wpList_append_own_at _ rfl _ _ 29 rfl w.heap.size 44 i0 _ 4 48 Try.underlying29 hi hz0 hz1 hz2 (by rfl) (by decide) _ 0 [] rfl HOWN.out ⟨g, o, none⟩ l.length c (cz encV l) rfl (encV_len l) (fun j u hj => by rw [Go.WideShapes.add_plain]; exact (HBA.out.cell (p := ⟨g, o + j, none⟩) (cell_lt (HC.out j u hj))).trans (HC.out j u hj)) (encV_one l) (by have := HLL.out; unfold maxLen; omega) (by have := HLL.out; omega) (by simp) ?_; intro v' w1 h1 h2 _ h4))
  rw [Nat.zero_add, List.nil_append] at h1
  have hb : Below w.heap.size w w1 := HBA.out.grown h2 (by simp) (fun k e => by have e' : some w.heap.size = some k := e; injection e' with e'; omega)
  have H1 := Lib.hid h1
  have HB := Lib.hid hb
  rcases h1.2 with ⟨-, hn⟩ | ⟨g', cap, cur, rfl, hbg, hh, hle, hm, hcs, htk⟩
  · exact absurd (List.eq_nil_of_length_eq_zero hn) HNE.out
  have HH := Lib.hid hh
  have HTK := Lib.hid htk
  clear h1 h2 h4 hb hh htk hcs
  go_wp2
  go_ret
  refine ⟨⟨⟨some ⟨g', 0, none⟩, l.length, cap⟩, rfl, ⟨g', cur, (0, 0), rfl, rfl, HH.out, fun j u hj => ?_⟩, g', rfl, hbg⟩, HB.out⟩
  rw [← HTK.out, List.getElem?_take] at hj
  split at hj
  · simpa using hj
  · cases hj
end Go.Proofs.Ytbfkgbickjfcjaa
