/- awake. -/
import Derived.Test.YtbfkgbickjfcjaaUg
namespace Go.Proofs.Ytbfkgbickjfcjaa
set_option linter.unusedVariables false
set_option linter.unusedSimpArgs false
open Go Go.RowKit
set_option maxRecDepth 100000
def x1 : Tx := ⟨[], [⟨false, ⟨#[97]⟩, ⟨#[120]⟩⟩]⟩
def x2 : Tx := ⟨[⟨⟨#[97]⟩, 1⟩], [⟨false, ⟨#[97]⟩, ⟨#[121]⟩⟩]⟩
def x3 : Tx := ⟨[⟨⟨#[97]⟩, 1⟩], [⟨false, ⟨#[97]⟩, ⟨#[122]⟩⟩]⟩
def x4 : Tx := ⟨[], [⟨true, ⟨#[98]⟩, ⟨#[]⟩⟩]⟩
def s1 : St := (doS emp x1).2
def s2 : St := (doS s1 x2).2
def s4 : St := (doS s2 x4).2
def s5 : St := (cutS s4 2).2
theorem a_does1 : doesB emp x1 1 1 = true := by kernel_rfl
theorem a_has1 : ((getE ⟨#[97]⟩ s1).isSome && eqE (oE (getE ⟨#[97]⟩ s1)) ⟨⟨#[97]⟩, ⟨#[120]⟩, 1, 1⟩) = true := by kernel_rfl
theorem a_does2 : doesB s1 x2 1 2 = true := by kernel_rfl
theorem a_has2 : ((getE ⟨#[97]⟩ s2).isSome && eqE (oE (getE ⟨#[97]⟩ s2)) ⟨⟨#[97]⟩, ⟨#[121]⟩, 1, 2⟩) = true := by kernel_rfl
theorem a_do3 : (doS s2 x3).1 = ([], false, 0) := by kernel_rfl
theorem a_do3s : (doS s2 x3).2 = s2 := by kernel_rfl
theorem a_does4 : doesB s2 x4 0 3 = true := by kernel_rfl
theorem a_since1 : (sinS s4 ⟨#[]⟩ 2).1.length = 1 := by kernel_rfl
theorem a_since1e : (sinS s4 ⟨#[]⟩ 2).2 = 0 := by kernel_rfl
theorem a_cut : (cutS s4 2).1 = 0 := by kernel_rfl
theorem a_since2 : (sinS s5 ⟨#[]⟩ 2).1.length = 0 := by kernel_rfl
theorem a_since2e : (sinS s5 ⟨#[]⟩ 2).2 = 52 := by kernel_rfl
theorem a_since3 : (sinS s5 ⟨#[]⟩ 3).1.length = 0 := by kernel_rfl
theorem a_since3e : (sinS s5 ⟨#[]⟩ 3).2 = 0 := by kernel_rfl
theorem a_since4 : (sinS s5 ⟨#[]⟩ 5).1.length = 0 := by kernel_rfl
theorem a_since4e : (sinS s5 ⟨#[]⟩ 5).2 = 1 := by kernel_rfl
theorem a_fit1 : Fit 1 s1 := fit_do x1 fit_emp
theorem a_fit2 : Fit 2 s2 := fit_do x2 a_fit1
theorem a_fit4 : Fit 3 s4 := fit_do x4 a_fit2
theorem mem_delV {k : Int} {L : List (Int × List Ev)} {y : Int × List Ev} (h : y ∈ del ltI k L) : y ∈ L := by
  unfold del at h
  rcases List.mem_append.1 h with h | h <;> exact (List.mem_filter.1 h).1
theorem finK_sub (rev : Int) : ∀ (ks : List Int) (L : List (Int × List Ev)), (finK rev ks L).length ≤ L.length ∧ ∀ y ∈ finK rev ks L, y ∈ L
  | [], L => ⟨Nat.le_refl _, fun _ h => h⟩
  | k :: ks, L => by
    rw [finK]
    split
    · exact ⟨Nat.le_refl _, fun _ h => h⟩
    · obtain ⟨h1, h2⟩ := finK_sub rev ks (del ltI k L)
      exact ⟨Nat.le_trans h1 (del_len linI), fun y hy => mem_delV (h2 y hy)⟩
theorem fit_cut {n : Nat} {s : St} (r : Int) (h : Fit n s) : Fit n (cutS s r).2 := by
  unfold cutS
  split
  · exact h
  · obtain ⟨h1, h2⟩ := finK_sub r ((frm ltI s.low s.H).map (·.1)) s.H
    exact ⟨h.lo, h.hi, h.L, Nat.le_trans h1 h.H, fun y hy => h.each y (h2 y hy)⟩
theorem a_fit5 : Fit 3 s5 := fit_cut 2 a_fit4
theorem one_cn {W W' : World} {k : ByteArray} {m : Int} (hW : W' = W.alloc (.cells #[.string k, .int .i64 m] 69)) : RAt encC W' (.slice (some ⟨W.heap.size, 0, none⟩) 1 1) [⟨k, m⟩] := by
  subst hW
  have hk := World.alloc_heap_new W (.cells #[.string k, .int .i64 m] 69)
  refine .inr ⟨W.heap.size, 0, 1, rfl, by rw [World.size_alloc]; omega, fun j u hj => ?_⟩
  simp only [World.cell?, hk]
  simpa [cz, encC] using hj
theorem does_f (b : Nat) (s : St) (x : Tx) (vc vo : Value) (n r : Int) (w : World) (m : Nat) (h : TrAt w b s) (hx : TxV w vc vo x) (hc : x.cs.length ≤ 1000 ∧ x.os.length ≤ 1000) (hf : Fit m s) (hm : m ≤ 10000) :
    Calls Try.prog 41 #[.pointer (some ⟨b, 0, none⟩), .agg #[vc, vo], .int .i64 n, .int .i64 r] w fun e w' => (e = .returned (.bool (doesB s x n r)) ∧ TrAt w' b (doS s x).2) ∧ w.grownBy w' (some b) :=
  does_any b s x vc vo n r w h hx (by omega) (by omega) hf.lo (by have := hf.hi; omega) (by have := hf.L; omega) (by have := hf.H; omega)
theorem do_f (b : Nat) (s : St) (x : Tx) (vc vo : Value) (w : World) (m : Nat) (h : TrAt w b s) (hx : TxV w vc vo x) (hc : x.cs.length ≤ 1000 ∧ x.os.length ≤ 1000) (hf : Fit m s) (hm : m ≤ 10000) :
    Calls Try.prog 15 #[.pointer (some ⟨b, 0, none⟩), .agg #[vc, vo]] w (DoR w b (doS s x)) :=
  do_any b s x vc vo w h hx (by omega) (by omega) hf.lo (by have := hf.hi; omega) (by have := hf.L; omega) (by have := hf.H; omega)
theorem since_f (b : Nat) (s : St) (fr : Int) (w : World) (m : Nat) (h : TrAt w b s) (hf : Fit m s) (hm : m ≤ 10000) :
    Calls Try.prog 48 #[.pointer (some ⟨b, 0, none⟩), .int .i64 fr] w fun e w' => e = .returned (.tuple #[.int .i64 (((sinS s ⟨#[]⟩ fr).1.length : Nat) : Int), .int .i64 (sinS s ⟨#[]⟩ fr).2]) ∧ Below w.heap.size w w' :=
  since48_any b s fr w h (fit_few hf (by omega)) ⟨hf.lo, by have := hf.hi; omega⟩
theorem one_del {W W' : World} {k : ByteArray} (hW : W' = W.alloc (.cells #[.bool true, .string k, .string ⟨#[]⟩] 72)) : TxV W' (.slice none 0 0) (.slice (some ⟨W.heap.size, 0, none⟩) 1 1) ⟨[], [⟨true, k, ⟨#[]⟩⟩]⟩ := by
  subst hW
  have hk := World.alloc_heap_new W (.cells #[.bool true, .string k, .string ⟨#[]⟩] 72)
  refine ⟨.inl ⟨rfl, _, _, rfl⟩, .inr ⟨W.heap.size, 0, 1, rfl, by rw [World.size_alloc]; omega, fun j u hj => ?_⟩, fun a n c e => by cases e; exact Nat.le_refl _⟩
  simp only [World.cell?, hk]
  simpa [cz, encO] using hj
set_option maxHeartbeats 2000000 in
theorem awake_any (w : World) : Calls Try.prog 13 #[] w fun e w' => e = .returned (.bool true) ∧ Below w.heap.size w w' := by
  have HN := Lib.hid (new_any w)
  go_enter Try.func13, Try.ntmps13
  go_wp2_with fail
  refine HN.out.mono ?_
  rintro e w0 ⟨⟨b, rfl, hb, hT⟩, hb0⟩
  have HB := Lib.hid hb
  have HT0 := Lib.hid hT
  have HB0 := Lib.hid hb0
  clear hb hT hb0 HN
  go_wp2_with fail
  refine (put_any _ _ _ _ none 0 0 rfl).mono ?_
  rintro e w1 ⟨v1, rfl, hx, hb1⟩
  have HX := Lib.hid (hx [] (.inl ⟨rfl, none, 0, rfl⟩))
  have HB1 := Lib.hid (HB0.out.trans (hb1.mono HB0.out.size))
  have HT1 := Lib.hid (HT0.out.below hb1)
  clear hx hb1 HT0 HB0
  go_wp2_with fail
  refine (does_any b emp x1 _ _ 1 1 _ HT1.out HX.out (by decide) (by decide) (by decide) (by decide) (by decide) (by decide)).mono ?_
  rintro e w2 ⟨⟨rfl, hT⟩, hg⟩
  have HB2 := Lib.hid (HB1.out.trans (below_grownT hg HB.out HB1.out.size))
  have HT2 : Hid (TrAt w2 b s1) := Lib.hid hT
  clear hT hg HT1 HB1 HX
  rw [a_does1]
  go_wp2_with fail
  refine (has_any (some ⟨b, 0, none⟩) ⟨#[97]⟩ ⟨#[120]⟩ 1 1 s1 _ (.inl ⟨b, rfl, HT2.out⟩)).mono ?_
  rintro e w3 ⟨rfl, hb3⟩
  have HB3 := Lib.hid (HB2.out.trans (hb3.mono HB2.out.size))
  have HT3 := Lib.hid (HT2.out.below hb3)
  clear hb3 HB2 HT2
  rw [a_has1]
  go_wp2_with fail
  have hbA : Below w3.heap.size w3 (w3.alloc (.cells #[.string ⟨#[97]⟩, .int .i64 1] 69)) := (Below.refl _ w3).alloc (Nat.le_refl _) _
  refine (put_any _ _ _ _ (some ⟨w3.heap.size, 0, none⟩) 1 1 rfl).mono ?_
  rintro e w5 ⟨v2, rfl, hx, hb5⟩
  have HX := Lib.hid (hx [⟨⟨#[97]⟩, 1⟩] (one_cn rfl))
  have hbB := hbA.trans (hb5.mono hbA.size)
  have HB5 := Lib.hid (HB3.out.trans (hbB.mono HB3.out.size))
  have HT5 := Lib.hid (HT3.out.below hbB)
  clear hx hb5 hbA hbB HT3 HB3
  go_wp2_with fail
  refine (does_f b s1 x2 _ _ 1 2 _ 1 HT5.out HX.out ⟨by decide, by decide⟩ a_fit1 (by decide)).mono ?_
  rintro e w6 ⟨⟨rfl, hT⟩, hg⟩
  have HB6 := Lib.hid (HB5.out.trans (below_grownT hg HB.out HB5.out.size))
  have HT6 : Hid (TrAt w6 b s2) := Lib.hid hT
  clear hT hg HT5 HB5 HX
  rw [a_does2]
  go_wp2_with fail
  refine (has_any (some ⟨b, 0, none⟩) ⟨#[97]⟩ ⟨#[121]⟩ 1 2 s2 _ (.inl ⟨b, rfl, HT6.out⟩)).mono ?_
  rintro e w7 ⟨rfl, hb7⟩
  have HB7 := Lib.hid (HB6.out.trans (hb7.mono HB6.out.size))
  have HT7 := Lib.hid (HT6.out.below hb7)
  clear hb7 HB6 HT6
  rw [a_has2]
  go_wp2_with fail
  have hbA : Below w7.heap.size w7 (w7.alloc (.cells #[.string ⟨#[97]⟩, .int .i64 1] 69)) := (Below.refl _ w7).alloc (Nat.le_refl _) _
  refine (put_any _ _ _ _ (some ⟨w7.heap.size, 0, none⟩) 1 1 rfl).mono ?_
  rintro e w8 ⟨v3, rfl, hx, hb5⟩
  have HX := Lib.hid (hx [⟨⟨#[97]⟩, 1⟩] (one_cn rfl))
  have hbB := hbA.trans (hb5.mono hbA.size)
  have HB8 := Lib.hid (HB7.out.trans (hbB.mono HB7.out.size))
  have HT8 := Lib.hid (HT7.out.below hbB)
  clear hx hb5 hbA hbB HT7 HB7
  go_wp2_with fail
  refine (do_f b s2 x3 _ _ _ 2 HT8.out HX.out ⟨by decide, by decide⟩ a_fit2 (by decide)).mono ?_
  rintro e w9 ⟨v4, rfl, hv4, hT, hg⟩
  have HB9 := Lib.hid (HB8.out.trans (below_grownT hg HB.out HB8.out.size))
  have HT9 : Hid (TrAt w9 b s2) := Lib.hid (by have := hT.at; rw [a_do3s] at this; exact this)
  rw [a_do3] at hv4 ⊢
  obtain ⟨va, vcc, rfl⟩ := hv4.shape
  clear hT hg HT8 HB8 HX hv4
  dsimp only
  go_wp2_with fail
  have hbA : Below w9.heap.size w9 (w9.alloc (.cells #[.bool true, .string ⟨#[98]⟩, .string ⟨#[]⟩] 72)) := (Below.refl _ w9).alloc (Nat.le_refl _) _
  have HB10 := Lib.hid (HB9.out.trans (hbA.mono HB9.out.size))
  have HT10 := Lib.hid (HT9.out.below hbA)
  refine (does_f b s2 x4 _ _ 0 3 _ 2 HT10.out (one_del rfl) ⟨by decide, by decide⟩ a_fit2 (by decide)).mono ?_
  rintro e w11 ⟨⟨rfl, hT⟩, hg⟩
  have HB11 := Lib.hid (HB10.out.trans (below_grownT hg HB.out HB10.out.size))
  have HT11 : Hid (TrAt w11 b s4) := Lib.hid hT
  clear hT hg hbA HT10 HB10 HT9 HB9
  rw [a_does4]
  go_wp2_with fail
  refine (since_f b s4 2 _ 3 HT11.out a_fit4 (by decide)).mono ?_
  rintro e w12 ⟨rfl, hb12⟩
  have HB12 := Lib.hid (HB11.out.trans (hb12.mono HB11.out.size))
  have HT12 := Lib.hid (HT11.out.below hb12)
  clear hb12 HB11 HT11
  rw [a_since1, a_since1e]
  go_wp2_with fail
  refine (cut_any b s4 2 _ HT12.out (by have := a_fit4.H; omega)).mono ?_
  rintro e w13 ⟨⟨rfl, hT⟩, hg⟩
  have HB13 := Lib.hid (HB12.out.trans (below_grownT hg HB.out HB12.out.size))
  have HT13 : Hid (TrAt w13 b s5) := Lib.hid hT
  clear hT hg HT12 HB12
  rw [a_cut]
  go_wp2_with fail
  refine (since_f b s5 2 _ 3 HT13.out a_fit5 (by decide)).mono ?_
  rintro e w14 ⟨rfl, hb14⟩
  have HB14 := Lib.hid (HB13.out.trans (hb14.mono HB13.out.size))
  have HT14 := Lib.hid (HT13.out.below hb14)
  clear hb14 HB13 HT13
  rw [a_since2, a_since2e]
  go_wp2_with fail
  refine (since_f b s5 3 _ 3 HT14.out a_fit5 (by decide)).mono ?_
  rintro e w15 ⟨rfl, hb15⟩
  have HB15 := Lib.hid (HB14.out.trans (hb15.mono HB14.out.size))
  have HT15 := Lib.hid (HT14.out.below hb15)
  clear hb15 HB14 HT14
  rw [a_since3, a_since3e]
  go_wp2_with fail
  refine (since_f b s5 5 _ 3 HT15.out a_fit5 (by decide)).mono ?_
  rintro e w16 ⟨rfl, hb16⟩
  have HB16 := Lib.hid (HB15.out.trans (hb16.mono HB15.out.size))
  have HT16 := Lib.hid (HT15.out.below hb16)
  clear hb16 HB15 HT15
  rw [a_since4, a_since4e]
  go_wp2_with fail
  go_ret
  exact ⟨rfl, HB16.out⟩
end Go.Proofs.Ytbfkgbickjfcjaa
