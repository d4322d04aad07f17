/- without: a tree of fewer keys. -/
import Derived.Test.YtbfkgbickjfcjaaTe
namespace Go.Proofs.Ytbfkgbickjfcjaa
set_option linter.unusedVariables false
set_option linter.unusedSimpArgs false
open Go Go.RowKit
set_option maxRecDepth 100000
set_option maxHeartbeats 4000000 in
theorem swithout_any (t : T ByteArray En) : ∀ (p : Option Addr) (k : ByteArray) (w : World), SAt w p t → Srt ltS t.flat → t.sz ≤ 200000 →
    Calls Try.prog 76 #[.pointer p, .string k] w fun e w' => ∃ p' t', e = .returned (.pointer p') ∧ SAt w' p' t' ∧ t'.flat = del ltS k t.flat ∧ Below w.heap.size w w' := by
  induction t with
  | nil =>
    intro p k w h _ _
    obtain rfl := h
    go_enter Try.func76, Try.ntmps76
    go_wp2
    go_ret
    exact ⟨none, .nil, rfl, rfl, rfl, Below.refl _ _⟩
  | node a y l r ihl ihr =>
  intro p k w h hs hsz
  obtain ⟨b, pl, pr, rfl, hn, hl, hr⟩ := h
  have HSN := Lib.hid hs
  have HS := Lib.hid hs.node
  have hsl : l.sz ≤ 200000 := by simp only [T.sz] at hsz; omega
  have hsr : r.sz ≤ 200000 := by simp only [T.sz] at hsz; omega
  have HN := Lib.hid hn
  have HL := Lib.hid hl
  have HR := Lib.hid hr
  clear hs hsz hn hl hr
  cases hk : ltS k a with
  | true =>
  · have HIH : Hid (∀ W [Bl w W], Calls Try.prog 76 #[.pointer pl, .string k] W fun e w' => ∃ p' t', e = .returned (.pointer p') ∧ SAt w' p' t' ∧ t'.flat = del ltS k l.flat ∧ Below W.heap.size W w') := Lib.hid fun W i => ihl pl k W (HL.out.below i.h) HS.out.1 (by omega)
    have HLV : Hid (∀ W [Bl w W] p' t', SAt W p' t' → t'.flat = del ltS k l.flat → Calls Try.prog 85 #[.pointer (some ⟨b, 0, none⟩), .pointer p', .pointer pr] W fun e w' => ∃ p' t', e = .returned (.pointer p') ∧ SAt w' p' t' ∧ t'.flat = del ltS k (T.flat (.node a y l r)) ∧ Below W.heap.size W w') := Lib.hid fun W i p' t' h1 hf => by
      have hz : t'.sz ≤ 300000 := by
        have := del_len linS (L := l.flat) (k := k)
        rw [← hf, T.flat_len, T.flat_len] at this
        omega
      refine (slevel_any b a y _ _ _ t' r p' pr W (HN.out.below i.h) h1 (HR.out.below i.h) (by omega) (by omega)).mono ?_
      rintro e w' ⟨p2, t2, rfl, h2, f2, b2⟩
      refine ⟨p2, t2, rfl, h2, ?_, b2⟩
      rw [f2, hf]
      exact (del_lt linS HSN.out hk).symm
    have HSS : Hid (∀ W [Bl w W], W.cell? ⟨b, 6, none⟩ = some (.pointer pl) ∧ W.cell? ⟨b, 7, none⟩ = some (.pointer pr)) := Lib.hid fun W i => by
      obtain ⟨-, -, -, -, -, -, c6, c7⟩ := (HN.out.below i.h).cells
      exact ⟨c6, c7⟩
    obtain ⟨k0, -, -, -, -, -, -, -⟩ := HN.out.cells
    obtain ⟨d0, d1⟩ := HSS.out w
    have f1 : Op.bytesLess k.toList a.toList = true := hk
    clear hk ihl ihr hsl hsr
    go_enter Try.func76, Try.ntmps76
    go_wp2_with fail
    go_region_held3 (fun w' => w'.cell? ⟨b, 6, none⟩ = some (.pointer pl) ∧ w'.cell? ⟨b, 7, none⟩ = some (.pointer pr)) (first | exact HSS.out _ | fail) (first
      | (go_at_call 76; ((with_reducible refine (HIH.out _).mono ?_); rintro e w1 ⟨p1, t1, rfl, h1, q1, hb1⟩; have i1 : Bl w w1 := Bl.tr inferInstance hb1; have H1 := Lib.hid h1; have Q1 := Lib.hid q1; clear h1 q1 hb1))
      | (go_at_call 85; ((with_reducible refine (HLV.out _ _ _ H1.out Q1.out).mono ?_); rintro e w3 ⟨p3, t3, rfl, h3, q3, hb3⟩; have i3 : Bl w w3 := Bl.tr inferInstance hb3; have H3 := Lib.hid h3; have Q3 := Lib.hid q3; clear h3 q3 hb3))
      | fail)
    all_goals (go_wp2; go_ret)
    all_goals exact ⟨_, _, rfl, H3.out, Q3.out, i3.h⟩
  | false =>
  have hka := hk
  clear hk
  cases hk : ltS a k with
  | true =>
  · have HIH : Hid (∀ W [Bl w W], Calls Try.prog 76 #[.pointer pr, .string k] W fun e w' => ∃ p' t', e = .returned (.pointer p') ∧ SAt w' p' t' ∧ t'.flat = del ltS k r.flat ∧ Below W.heap.size W w') := Lib.hid fun W i => ihr pr k W (HR.out.below i.h) HS.out.2.1 (by omega)
    have HLV : Hid (∀ W [Bl w W] p' t', SAt W p' t' → t'.flat = del ltS k r.flat → Calls Try.prog 85 #[.pointer (some ⟨b, 0, none⟩), .pointer pl, .pointer p'] W fun e w' => ∃ p' t', e = .returned (.pointer p') ∧ SAt w' p' t' ∧ t'.flat = del ltS k (T.flat (.node a y l r)) ∧ Below W.heap.size W w') := Lib.hid fun W i p' t' h1 hf => by
      have hz : t'.sz ≤ 300000 := by
        have := del_len linS (L := r.flat) (k := k)
        rw [← hf, T.flat_len, T.flat_len] at this
        omega
      refine (slevel_any b a y _ _ _ l t' pl p' W (HN.out.below i.h) (HL.out.below i.h) h1 (by omega) (by omega)).mono ?_
      rintro e w' ⟨p2, t2, rfl, h2, f2, b2⟩
      refine ⟨p2, t2, rfl, h2, ?_, b2⟩
      rw [f2, hf]
      exact (del_gt linS HSN.out hk).symm
    have HSS : Hid (∀ W [Bl w W], W.cell? ⟨b, 6, none⟩ = some (.pointer pl) ∧ W.cell? ⟨b, 7, none⟩ = some (.pointer pr)) := Lib.hid fun W i => by
      obtain ⟨-, -, -, -, -, -, c6, c7⟩ := (HN.out.below i.h).cells
      exact ⟨c6, c7⟩
    obtain ⟨k0, -, -, -, -, -, -, -⟩ := HN.out.cells
    obtain ⟨d0, d1⟩ := HSS.out w
    have f1 : Op.bytesLess k.toList a.toList = false := linS.asym hk
    have f2 : (k.toList == a.toList) = false := ltS_ne hk
    clear hk ihl ihr hsl hsr
    go_enter Try.func76, Try.ntmps76
    go_wp2_with fail
    go_region_held3 (fun w' => w'.cell? ⟨b, 6, none⟩ = some (.pointer pl) ∧ w'.cell? ⟨b, 7, none⟩ = some (.pointer pr)) (first | exact HSS.out _ | fail) (first
      | (go_at_call 76; ((with_reducible refine (HIH.out _).mono ?_); rintro e w1 ⟨p1, t1, rfl, h1, q1, hb1⟩; have i1 : Bl w w1 := Bl.tr inferInstance hb1; have H1 := Lib.hid h1; have Q1 := Lib.hid q1; clear h1 q1 hb1))
      | (go_at_call 85; ((with_reducible refine (HLV.out _ _ _ H1.out Q1.out).mono ?_); rintro e w3 ⟨p3, t3, rfl, h3, q3, hb3⟩; have i3 : Bl w w3 := Bl.tr inferInstance hb3; have H3 := Lib.hid h3; have Q3 := Lib.hid q3; clear h3 q3 hb3))
      | fail)
    all_goals (go_wp2; go_ret)
    all_goals exact ⟨_, _, rfl, H3.out, Q3.out, i3.h⟩
  | false =>
    obtain rfl := linS.tri _ _ hka hk
    clear hka hk ihl
    obtain ⟨k0, -, -, -, -, -, d0, d1⟩ := HN.out.cells
    have f1 : Op.bytesLess k.toList k.toList = false := linS.irr _
    cases r with
    | nil =>
      obtain rfl := HR.out
      clear HR ihr
      go_enter Try.func76, Try.ntmps76
      go_wp2
      go_ret
      exact ⟨pl, l, rfl, HL.out, by rw [T.flat, del_eq linS HSN.out]; simp [T.flat], Below.refl _ _⟩
    | node a3 y3 l3 r3 =>
      obtain ⟨t3, ht3⟩ : ∃ t, T.node a3 y3 l3 r3 = t := ⟨_, rfl⟩
      have hne : t3 ≠ .nil := by rw [← ht3]; intro e; cases e
      have hpr : ∃ b9, pr = some ⟨b9, 0, none⟩ := by
        obtain ⟨b9, -, -, h9, -⟩ := HR.out
        exact ⟨b9, h9⟩
      obtain ⟨b9, rfl⟩ := hpr
      rw [ht3] at HR HSN HS hsr ihr
      have HF := Lib.hid (fun W (h : Below w.heap.size w W) => sfirst_any t3 (some ⟨b9, 0, none⟩) W (HR.out.below h) hne)
      have HT3 := Lib.hid ht3
      clear hne ht3
      have HIR := Lib.hid ihr
      clear ihr
      go_enter Try.func76, Try.ntmps76
      go_wp2_with fail
      refine (HF.out _ (Below.refl _ _)).mono ?_
      rintro e w' ⟨⟨b2, k2, x2, n2, ql2, qr2, rest, rfl, hn2, hf2⟩, rfl⟩
      have HN2 := Lib.hid hn2
      have HF2 := Lib.hid hf2
      clear hn2 hf2
      have HIH : Hid (∀ W [Bl w W], Calls Try.prog 76 #[.pointer (some ⟨b9, 0, none⟩), .string k2] W fun e w' => ∃ p' t', e = .returned (.pointer p') ∧ SAt w' p' t' ∧ t'.flat = rest ∧ Below W.heap.size W w') := Lib.hid fun W i => by
        have hd : del ltS k2 t3.flat = rest := by
          have hq := HS.out.2.1
          rw [HF2.out] at hq ⊢
          exact del_eq (l := []) linS hq
        rw [← hd]
        exact HIR.out _ _ W (HR.out.below i.h) HS.out.2.1 (by omega)
      have HLV : Hid (∀ W [Bl w W] p' t', SAt W p' t' → t'.flat = rest → Calls Try.prog 85 #[.pointer (some ⟨b2, 0, none⟩), .pointer pl, .pointer p'] W fun e w' => ∃ p' t', e = .returned (.pointer p') ∧ SAt w' p' t' ∧ t'.flat = del ltS k (T.flat (.node k y l t3)) ∧ Below W.heap.size W w') := Lib.hid fun W i p' t' h1 hf => by
        have hz : t'.sz ≤ 300000 := by
          have := congrArg List.length HF2.out
          rw [List.length_cons, ← hf, T.flat_len, T.flat_len] at this
          omega
        refine (slevel_any b2 k2 x2 _ _ _ l t' pl p' W (HN2.out.below i.h) (HL.out.below i.h) h1 (by omega) (by omega)).mono ?_
        rintro e w' ⟨p2, t2, rfl, h2, f2, b2⟩
        refine ⟨p2, t2, rfl, h2, ?_, b2⟩
        rw [f2, hf, T.flat, del_eq linS HSN.out, HF2.out]
      have HSS : Hid (∀ W [Bl w W], W.cell? ⟨b, 6, none⟩ = some (.pointer pl) ∧ W.cell? ⟨b, 7, none⟩ = some (.pointer (some ⟨b9, 0, none⟩)) ∧ W.cell? ⟨b2, 0, none⟩ = some (.string k2)) := Lib.hid fun W i => by
        obtain ⟨-, -, -, -, -, -, c6, c7⟩ := (HN.out.below i.h).cells
        obtain ⟨e0, -, -, -, -, -, -, -⟩ := (HN2.out.below i.h).cells
        exact ⟨c6, c7, e0⟩
      obtain ⟨e0, -, -, -, -, -, -, -⟩ := HN2.out.cells
      go_wp2_with fail
      go_region_held3 (fun w' => w'.cell? ⟨b, 6, none⟩ = some (.pointer pl) ∧ w'.cell? ⟨b, 7, none⟩ = some (.pointer (some ⟨b9, 0, none⟩)) ∧ w'.cell? ⟨b2, 0, none⟩ = some (.string k2)) (first | exact HSS.out _ | fail) (first
        | (go_at_call 76; ((with_reducible refine (HIH.out _).mono ?_); rintro e w1 ⟨p1, t1, rfl, h1, q1, hb1⟩; have i1 : Bl w w1 := Bl.tr inferInstance hb1; have H1 := Lib.hid h1; have Q1 := Lib.hid q1; clear h1 q1 hb1))
        | (go_at_call 85; ((with_reducible refine (HLV.out _ _ _ H1.out Q1.out).mono ?_); rintro e w3 ⟨p3, t4, rfl, h3, q3, hb3⟩; have i3 : Bl w w3 := Bl.tr inferInstance hb3; have H3 := Lib.hid h3; have Q3 := Lib.hid q3; clear h3 q3 hb3))
        | fail)
      all_goals (go_wp2; go_ret)
      all_goals exact ⟨_, _, rfl, H3.out, by rw [HT3.out]; exact Q3.out, i3.h⟩
end Go.Proofs.Ytbfkgbickjfcjaa
