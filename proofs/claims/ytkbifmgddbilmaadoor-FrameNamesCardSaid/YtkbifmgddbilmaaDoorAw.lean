/- awake: true, and nothing that was there has turned. -/
import Derived.Test.YtkbifmgddbilmaaDoorAl
namespace Go.Proofs.YtkbifmgddbilmaaDoor
open Go Go.RowKit
set_option maxRecDepth 100000
theorem m1 : mdl 1 ⟨#[]⟩ = [0, 0, 0, 0, 5, 43, 40, 67, 1] := by decide +kernel
theorem made_lit (k : UInt8) (kk : Int) (hk : (k.toNat : Int) = kk) (p T : ByteArray) (h : bs (mdl k p) = T) (w : World) (hT : Tab w) : Calls Tryd.prog 24 #[.int .u8 kk, .string p] w (Ret w (.string T)) := by
  subst hk; subst h; exact made_any k p w (Lib.hid hT)
theorem make_lit (k : UInt8) (kk : Int) (hk : (k.toNat : Int) = kk) (p T : ByteArray) (E : Int) (h : bs (mdl k p) = T) (hE : (mkE k p : Int) = E) (w : World) (hT : Tab w) : Calls Tryd.prog 20 #[.int .u8 kk, .string p] w (Ret w (.tuple #[.string T, .int .i64 E])) := by
  subst hk; subst h; subst hE; exact make_any k p w (Lib.hid hT)
theorem scan_lit (s : ByteArray) (a : Nat) (ha : a ≤ s.size) (hs : s.size ≤ 1000000) (l : List Fq) (n : Nat) (h1 : scq s a = l) (h2 : sce s a = n) (w : World) (hT : Tab w) : Calls Tryd.prog 16 #[.string s, .int .i64 (a : Int)] w (Scans 24 w l n) := by
  subst h1; subst h2; exact scan_any s a ha w hs (Lib.hid hT)
theorem ok1 (k : UInt8) (p : List UInt8) (h1 : 1 ≤ k.toNat ∧ k.toNat ≤ 3) (h2 : p.length ≤ 262144) : mdl k (bs p) = Fr.frm k p := by
  unfold mdl
  rw [if_pos h1, if_pos (by rw [bs_size]; exact h2)]
  rfl
/-- Frames, put together, and what stands behind: what is scanned of it. -/
theorem scq_row (l : List (UInt8 × List UInt8)) (t : List UInt8) (h : ∀ x ∈ l, Fr.Ok x.1 x.2) (ht : Fr.er t ≠ 0) : scq (bs (Fr.row l ++ t)) 0 = (Fr.wnt l 0).map qf ∧ sce (bs (Fr.row l ++ t)) 0 = (Fr.row l).length := by
  have e : bh (bs (Fr.row l ++ t)) 0 = Fr.row l ++ t := rfl
  unfold scq sce
  rw [e, Fr.scn_row_end l t 0 h ht, Nat.zero_add]
  exact ⟨rfl, rfl⟩
def exL : List (UInt8 × List UInt8) := [(1, [97]), (2, [98, 99])]
def exQ : List Fq := [⟨1, ⟨#[97]⟩, 0⟩, ⟨2, ⟨#[98, 99]⟩, 10⟩]
theorem exL_ok : ∀ x ∈ exL, Fr.Ok x.1 x.2 := by
  intro x hx
  simp only [exL, List.mem_cons, List.not_mem_nil, or_false] at hx
  rcases hx with rfl | rfl
  · exact ⟨by decide, by decide⟩
  · exact ⟨by decide, by decide⟩
theorem ex_scan : scq (bs (Fr.row exL ++ [120])) 0 = exQ ∧ sce (bs (Fr.row exL ++ [120])) 0 = 21 := by
  obtain ⟨h1, h2⟩ := scq_row exL [120] exL_ok (by decide)
  refine ⟨h1.trans rfl, h2.trans ?_⟩
  simp [exL, Fr.row, Fr.frm_length]
theorem at_lit (w : World) : At3 (w.alloc (.cells #[.int .u8 1, .string ⟨#[97]⟩, .int .i64 0, .int .u8 2, .string ⟨#[98, 99]⟩, .int .i64 10] 28)) (.slice (some ⟨w.heap.size, 0, none⟩) 2 2) exQ := by
  refine .inr ⟨w.heap.size, 0, 2, rfl, fun j hj => ?_⟩
  have hl : exQ.length = 2 := rfl
  match j, hj with
  | 0, _ => refine ⟨?_, ?_, ?_⟩ <;> · rw [World.cell?_alloc_mark]; rfl
  | 1, _ => refine ⟨?_, ?_, ?_⟩ <;> · rw [World.cell?_alloc_mark]; rfl
set_option maxHeartbeats 2000000 in
theorem awake_any (w : World) (hT : Hid (Tab w)) : Calls Tryd.prog 11 #[] w (Ret w (.bool true)) := by
  have C0 := Lib.hid (fun W hW => made_lit 1 1 rfl ⟨#[]⟩ ⟨#[0, 0, 0, 0, 5, 43, 40, 67, 1]⟩ (by rw [m1]; rfl) W hW)
  obtain ⟨A, hA⟩ : ∃ A, bs (Fr.frm 1 [97]) = A := ⟨_, rfl⟩
  obtain ⟨B, hB⟩ : ∃ B, bs (Fr.frm 2 [98, 99]) = B := ⟨_, rfl⟩
  obtain ⟨C, hC⟩ : ∃ C, A ++ B = C := ⟨_, rfl⟩
  obtain ⟨D, hD⟩ : ∃ D, C ++ (⟨#[120]⟩ : ByteArray) = D := ⟨_, rfl⟩
  have hCl : C = bs (Fr.row exL) := by rw [← hC, ← hA, ← hB, bs_append]; simp [exL, Fr.row]
  have hDl : D = bs (Fr.row exL ++ [120]) := by rw [← hD, hCl]; exact bs_append _ [120]
  have sA : A.size = 10 := by rw [← hA, bs_size, Fr.frm_length]; rfl
  have sB : B.size = 11 := by rw [← hB, bs_size, Fr.frm_length]; rfl
  have sC : C.size = 21 := by rw [hCl, bs_size]; simp [exL, Fr.row, Fr.frm_length]
  have sD : D.size = 22 := by rw [hDl, bs_size]; simp [exL, Fr.row, Fr.frm_length]
  have C1 := Lib.hid (fun W hW => made_lit 1 1 rfl ⟨#[97]⟩ A (by rw [← hA]; exact congrArg bs (ok1 1 [97] (by decide) (by decide))) W hW)
  have C2 := Lib.hid (fun W hW => made_lit 2 2 rfl ⟨#[98, 99]⟩ B (by rw [← hB]; exact congrArg bs (ok1 2 [98, 99] (by decide) (by decide))) W hW)
  have C3 := Lib.hid (fun W hW => scan_lit D 0 (by omega) (by omega) exQ 21 (by rw [hDl]; exact ex_scan.1) (by rw [hDl]; exact ex_scan.2) W hW)
  have C4 := Lib.hid (fun W hW => make_lit 4 4 rfl ⟨#[]⟩ ⟨#[]⟩ 1 (by decide +kernel) (by decide +kernel) W hW)
  have C5 := Lib.hid (fun W (hW : Tab W) => refused_any ⟨#[0, 0, 0, 0, 5, 43, 40, 67]⟩ 0 8 (by decide +kernel) (by omega) W (by decide) (Lib.hid hW))
  have hx : (⟨#[0, 0, 0, 0, 5, 43, 40, 67, 1]⟩ : ByteArray).extract 0 8 = ⟨#[0, 0, 0, 0, 5, 43, 40, 67]⟩ := by kernel_rfl
  clear hA hB hCl hDl
  go_enter Tryd.func11, Tryd.ntmps11
  go_wp2_with fail
  refine (C0.out _ hT.out).mono ?_
  rintro e w1 ⟨rfl, hb1⟩
  have HB1 := Lib.hid hb1
  clear hb1
  go_wp2_with fail
  refine (C1.out _ (hT.out.below HB1.out)).mono ?_
  rintro e w2 ⟨rfl, hb2⟩
  have HB2 := Lib.hid (below_chain HB1.out hb2)
  clear hb2
  go_wp2_with fail
  refine (C2.out _ (hT.out.below HB2.out)).mono ?_
  rintro e w3 ⟨rfl, hb3⟩
  have HB3 := Lib.hid (below_chain HB2.out hb3)
  clear hb3
  go_wp2_with fail
  refine (C3.out _ (hT.out.below HB3.out)).mono ?_
  rintro e w4 ⟨v, rfl, ho, hb4⟩
  have HB4 := Lib.hid (below_chain HB3.out hb4)
  have HO4 := Lib.hid ho.at
  obtain ⟨va, vc, hv⟩ := ho.shape
  subst hv
  clear hb4 ho
  go_wp2_with fail
  refine (C4.out _ (hT.out.below HB4.out)).mono ?_
  rintro e w5 ⟨rfl, hb5⟩
  have HB5 := Lib.hid (below_chain HB4.out hb5)
  have HO5 := Lib.hid (HO4.out.below hb5 (Nat.le_refl _))
  clear hb5
  go_wp2_with fail
  refine (C5.out _ (hT.out.below HB5.out)).mono ?_
  rintro e w6 ⟨rfl, hb6⟩
  have HB6 := Lib.hid (below_more (.cells #[.int .u8 1, .string ⟨#[97]⟩, .int .i64 0, .int .u8 2, .string ⟨#[98, 99]⟩, .int .i64 10] 28) (below_chain HB5.out hb6))
  have HO6 := Lib.hid ((HO5.out.below hb6 (Nat.le_refl _)).below (below_one w6 (.cells #[.int .u8 1, .string ⟨#[97]⟩, .int .i64 0, .int .u8 2, .string ⟨#[98, 99]⟩, .int .i64 10] 28)) (Nat.le_refl _))
  have HL6 := Lib.hid (at_lit w6)
  clear hb6
  go_wp2_with fail
  refine (all_true exQ (by decide) _ _ _ HO6.out HL6.out).mono ?_
  rintro e w7 ⟨rfl, hb7⟩
  have HB7 := Lib.hid (below_chain HB6.out hb7)
  clear hb7
  go_wp2
  go_ret
  exact ⟨rfl, HB7.out⟩
end Go.Proofs.YtkbifmgddbilmaaDoor
