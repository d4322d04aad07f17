/- with, first, without: trees of more, and of fewer keys. -/
import Derived.Test.YtbfkgbickjfcjaaTd
namespace Go.Proofs.Ytbfkgbickjfcjaa
set_option linter.unusedVariables false
set_option linter.unusedSimpArgs false
open Go Go.RowKit
set_option maxRecDepth 100000
theorem IAt.drew {w : World} {t : T Int Sl} {p : Option Addr} (h : IAt w p t) : IAt w.drew p t := IAt.keep (w := w) (w' := w.drew) (fun _ _ => rfl) h
theorem NI.drew {w : World} {b : Nat} {k : Int} {x : Sl} {n : Int} {pl pr : Option Addr} (h : NI w b k x n pl pr) : NI w.drew b k x n pl pr := h.kept rfl
def ltI (a b : Int) : Bool := decide (a < b)
theorem linI : Lin ltI where
  irr a := by simp [ltI]
  tr a b c h k := by simp only [ltI, decide_eq_true_eq] at *; omega
  tri a b h k := by simp only [ltI, decide_eq_false_iff_not] at *; omega
set_option maxHeartbeats 4000000 in
theorem iwith_any (t : T Int Sl) : ∀ (p : Option Addr) (k : Int) (x : Sl) (w : World), IAt w p t → Srt ltI t.flat → t.sz ≤ 200000 →
    Calls Try.prog 50 #[.pointer p, .int .i64 k, .slice x.a x.n x.c] w fun e w' => ∃ p' t', e = .returned (.pointer p') ∧ IAt w' p' t' ∧ t'.flat = ins ltI k x t.flat ∧ Below w.heap.size w w' := by
  induction t with
  | nil =>
    intro p k x w h _ _
    obtain rfl := h
    have hbl : Below w.heap.size w (w.alloc (.cells #[.int .i64 k, .slice x.a x.n x.c, .int .i64 1, .pointer none, .pointer none] 115)) := (Below.refl _ w).alloc (Nat.le_refl _) _
    have HN := Lib.hid (NI.new w k x 1 none none)
    have HBL := Lib.hid hbl
    clear hbl
    go_enter Try.func50, Try.ntmps50
    go_wp2
    go_ret
    exact ⟨_, .node k x .nil .nil, rfl, ⟨_, none, none, rfl, by have hq := HN.out; (try rw [World.size_alloc] at hq); exact hq, rfl, rfl⟩, rfl, HBL.out⟩
  | node a y l r ihl ihr =>
  intro p k x w h hs hsz
  obtain ⟨b, pl, pr, rfl, hn, hl, hr⟩ := h
  have HSN := Lib.hid hs
  have HS := Lib.hid hs.node
  have hsl : l.sz ≤ 200000 := by simp only [T.sz] at hsz; omega
  have hsr : r.sz ≤ 200000 := by simp only [T.sz] at hsz; omega
  have i0 : Bl w w := inferInstance
  have HI0 := Lib.hid i0.h
  have HN := Lib.hid hn
  have HL := Lib.hid hl
  have HR := Lib.hid hr
  clear hs hsz hn hl hr
  cases hk : ltI k a with
  | true =>
  · have HIH : Hid (∀ W [Bl w W], Calls Try.prog 50 #[.pointer pl, .int .i64 k, .slice x.a x.n x.c] W fun e w' => ∃ p' t', e = .returned (.pointer p') ∧ IAt w' p' t' ∧ t'.flat = ins ltI k x l.flat ∧ Below W.heap.size W w') := Lib.hid fun W i => ihl pl k x W (HL.out.below (i0.h.trans (i.h.mono i0.h.size))) HS.out.1 (by omega)
    have HLV : Hid (∀ W [Bl w W] p' t', IAt W p' t' → t'.flat = ins ltI k x l.flat → Calls Try.prog 77 #[.pointer (some ⟨b, 0, none⟩), .pointer p', .pointer pr] W fun e w' => ∃ p' t', e = .returned (.pointer p') ∧ IAt w' p' t' ∧ t'.flat = ins ltI k x (T.flat (.node a y l r)) ∧ Below W.heap.size W w') := Lib.hid fun W i p' t' h1 hf => by
      have hz : t'.sz ≤ 300000 := by
        have := ins_len linI (L := l.flat) (k := k) (v := x)
        rw [← hf, T.flat_len, T.flat_len] at this
        omega
      refine (ilevel_any b a y _ _ _ t' r p' pr W (HN.out.below (i0.h.trans (i.h.mono i0.h.size))) h1 (HR.out.below (i0.h.trans (i.h.mono i0.h.size))) (by omega) (by omega)).mono ?_
      rintro e w' ⟨p2, t2, rfl, h2, f2, b2⟩
      refine ⟨p2, t2, rfl, h2, ?_, b2⟩
      rw [f2, hf]
      exact (ins_lt linI HSN.out hk).symm
    have HSS : Hid (∀ W [Bl w W], W.cell? ⟨b, 3, none⟩ = some (.pointer pl) ∧ W.cell? ⟨b, 4, none⟩ = some (.pointer pr)) := Lib.hid fun W i => by
      obtain ⟨-, -, -, c3, c4⟩ := (HN.out.below (i0.h.trans (i.h.mono i0.h.size))).cells
      exact ⟨c3, c4⟩
    obtain ⟨k0, -, -, -, -⟩ := (HN.out.below i0.h).cells
    obtain ⟨d0, d1⟩ := HSS.out w
    have f1 : k < a := of_decide_eq_true hk
    clear hk ihl ihr i0 hsl hsr
    generalize l.sz + 1 + r.sz = m at *
    go_enter Try.func50, Try.ntmps50
    go_wp2_with fail
    go_region_held3 (fun w' => w'.cell? ⟨b, 3, none⟩ = some (.pointer pl) ∧ w'.cell? ⟨b, 4, none⟩ = some (.pointer pr)) (first | exact HSS.out _ | fail) (first
      | (go_at_call 50; ((with_reducible refine (HIH.out _).mono ?_); rintro e w1 ⟨p1, t1, rfl, h1, q1, hb1⟩; have i1 : Bl w w1 := Bl.tr inferInstance hb1; have H1 := Lib.hid h1; have Q1 := Lib.hid q1; clear h1 q1 hb1))
      | (go_at_call 77; ((with_reducible refine (HLV.out _ _ _ H1.out Q1.out).mono ?_); rintro e w3 ⟨p3, t3, rfl, h3, q3, hb3⟩; have i3 : Bl w w3 := Bl.tr inferInstance hb3; have H3 := Lib.hid h3; have Q3 := Lib.hid q3; clear h3 q3 hb3))
      | fail)
    all_goals (go_wp2; go_ret)
    all_goals exact ⟨_, _, rfl, H3.out.keep (fun _ _ => rfl), Q3.out, HI0.out.trans (i3.h.mono HI0.out.size)⟩
  | false =>
  have hka := hk
  clear hk
  cases hk : ltI a k with
  | true =>
  · have HIH : Hid (∀ W [Bl w W], Calls Try.prog 50 #[.pointer pr, .int .i64 k, .slice x.a x.n x.c] W fun e w' => ∃ p' t', e = .returned (.pointer p') ∧ IAt w' p' t' ∧ t'.flat = ins ltI k x r.flat ∧ Below W.heap.size W w') := Lib.hid fun W i => ihr pr k x W (HR.out.below (i0.h.trans (i.h.mono i0.h.size))) HS.out.2.1 (by omega)
    have HLV : Hid (∀ W [Bl w W] p' t', IAt W p' t' → t'.flat = ins ltI k x r.flat → Calls Try.prog 77 #[.pointer (some ⟨b, 0, none⟩), .pointer pl, .pointer p'] W fun e w' => ∃ p' t', e = .returned (.pointer p') ∧ IAt w' p' t' ∧ t'.flat = ins ltI k x (T.flat (.node a y l r)) ∧ Below W.heap.size W w') := Lib.hid fun W i p' t' h1 hf => by
      have hz : t'.sz ≤ 300000 := by
        have := ins_len linI (L := r.flat) (k := k) (v := x)
        rw [← hf, T.flat_len, T.flat_len] at this
        omega
      refine (ilevel_any b a y _ _ _ l t' pl p' W (HN.out.below (i0.h.trans (i.h.mono i0.h.size))) (HL.out.below (i0.h.trans (i.h.mono i0.h.size))) h1 (by omega) (by omega)).mono ?_
      rintro e w' ⟨p2, t2, rfl, h2, f2, b2⟩
      refine ⟨p2, t2, rfl, h2, ?_, b2⟩
      rw [f2, hf]
      exact (ins_gt linI HSN.out hk).symm
    have HSS : Hid (∀ W [Bl w W], W.cell? ⟨b, 3, none⟩ = some (.pointer pl) ∧ W.cell? ⟨b, 4, none⟩ = some (.pointer pr)) := Lib.hid fun W i => by
      obtain ⟨-, -, -, c3, c4⟩ := (HN.out.below (i0.h.trans (i.h.mono i0.h.size))).cells
      exact ⟨c3, c4⟩
    obtain ⟨k0, -, -, -, -⟩ := (HN.out.below i0.h).cells
    obtain ⟨d0, d1⟩ := HSS.out w
    have f1 : a < k := of_decide_eq_true hk
    have f2 : ¬ k < a := by omega
    clear hk ihl ihr i0 hsl hsr
    generalize l.sz + 1 + r.sz = m at *
    go_enter Try.func50, Try.ntmps50
    go_wp2_with fail
    go_region_held3 (fun w' => w'.cell? ⟨b, 3, none⟩ = some (.pointer pl) ∧ w'.cell? ⟨b, 4, none⟩ = some (.pointer pr)) (first | exact HSS.out _ | fail) (first
      | (go_at_call 50; ((with_reducible refine (HIH.out _).mono ?_); rintro e w1 ⟨p1, t1, rfl, h1, q1, hb1⟩; have i1 : Bl w w1 := Bl.tr inferInstance hb1; have H1 := Lib.hid h1; have Q1 := Lib.hid q1; clear h1 q1 hb1))
      | (go_at_call 77; ((with_reducible refine (HLV.out _ _ _ H1.out Q1.out).mono ?_); rintro e w3 ⟨p3, t3, rfl, h3, q3, hb3⟩; have i3 : Bl w w3 := Bl.tr inferInstance hb3; have H3 := Lib.hid h3; have Q3 := Lib.hid q3; clear h3 q3 hb3))
      | fail)
    all_goals (go_wp2; go_ret)
    all_goals exact ⟨_, _, rfl, H3.out.keep (fun _ _ => rfl), Q3.out, HI0.out.trans (i3.h.mono HI0.out.size)⟩
  | false =>
  · obtain rfl := linI.tri _ _ hka hk
    clear hka hk ihl ihr
    have HSS : Hid (∀ W [Bl w W], W.cell? ⟨b, 2, none⟩ = some (.int .i64 ((l.sz + 1 + r.sz : Nat) : Int)) ∧ W.cell? ⟨b, 3, none⟩ = some (.pointer pl) ∧ W.cell? ⟨b, 4, none⟩ = some (.pointer pr)) := Lib.hid fun W i => by
      obtain ⟨-, -, c2, c3, c4⟩ := (HN.out.below (i0.h.trans (i.h.mono i0.h.size))).cells
      exact ⟨c2, c3, c4⟩
    obtain ⟨k0, -, -, -, -⟩ := (HN.out.below i0.h).cells
    obtain ⟨d0, d1, d2⟩ := HSS.out w
    skip
    clear i0 hsl hsr
    generalize hm : l.sz + 1 + r.sz = m at *
    have HM := Lib.hid hm
    clear hm
    have HNN := Lib.hid (NI.new w k x ((m : Nat) : Int) pl pr)
    have HBN : Hid (Below w.heap.size w (w.alloc (.cells #[.int .i64 k, .slice x.a x.n x.c, .int .i64 ((m : Nat) : Int), .pointer pl, .pointer pr] 115))) := Lib.hid (HI0.out.trans (((Below.refl _ _).alloc (Nat.le_refl _) _).mono HI0.out.size))
    have HLN := Lib.hid (HL.out.below HBN.out)
    have HRN := Lib.hid (HR.out.below HBN.out)
    go_enter Try.func50, Try.ntmps50
    go_wp2_with fail
    go_region_held3 (fun w' => w'.cell? ⟨b, 2, none⟩ = some (.int .i64 ((m : Nat) : Int)) ∧ w'.cell? ⟨b, 3, none⟩ = some (.pointer pl) ∧ w'.cell? ⟨b, 4, none⟩ = some (.pointer pr)) (first | exact HSS.out _ | fail) (first | fail)
    all_goals (go_wp2; go_ret)
    all_goals exact ⟨_, .node k x l r, rfl, ⟨_, pl, pr, rfl, by rw [HM.out]; have hq := HNN.out.drew; (try rw [World.size_alloc] at hq); exact hq, HLN.out.drew, HRN.out.drew⟩, (ins_eq linI HSN.out).symm, Below.drew HBN.out⟩
set_option maxHeartbeats 1000000 in
theorem ifirst_any (t : T Int Sl) (p : Option Addr) (w : World) (h : IAt w p t) (hne : t ≠ .nil) :
    Calls Try.prog 83 #[.pointer p] w fun e w' => (∃ b k x n ql qr rest, e = .returned (.pointer (some ⟨b, 0, none⟩)) ∧ NI w b k x n ql qr ∧ t.flat = (k, x) :: rest) ∧ w = w' := by
  have h0 : Hid (∃ t', t'.sz ≤ t.sz ∧ IAt w p t' ∧ t' ≠ .nil ∧ t'.flat.head? = t.flat.head?) := Lib.hid ⟨t, Nat.le_refl _, h, hne, rfl⟩
  clear h hne
  obtain ⟨g0, hg0⟩ : ∃ g, t.sz = g := ⟨_, rfl⟩
  obtain ⟨hd, hhd⟩ : ∃ l, t.flat.head? = l := ⟨_, rfl⟩
  have HHD := Lib.hid hhd
  rw [hhd, hg0] at h0
  clear hhd hg0
  go_enter Try.func83, Try.ntmps83
  go_wp2_with fail
  go_loopg [0] g0 (fun g s0 wr => ∃ p', s0 = .pointer p' ∧ wr = w ∧ Hid (∃ t', t'.sz ≤ g ∧ IAt w p' t' ∧ t' ≠ .nil ∧ t'.flat.head? = hd))
  case atStart => exact ⟨p, rfl, rfl, h0⟩
  case round =>
    obtain ⟨p', rfl, rfl, HH⟩ := hrel
    obtain ⟨t', hz, ht', hne', hhd'⟩ := HH.out
    clear HH
    cases t' with
    | nil => exact absurd rfl hne'
    | node k x l r =>
      obtain ⟨b, pl, pr, rfl, hn, hl, hr⟩ := ht'
      obtain ⟨-, -, -, c1, -⟩ := hn.cells
      have HN := Lib.hid hn
      have HL := Lib.hid hl
      have HD := Lib.hid hhd'
      have hz' : l.sz + 1 ≤ gk := by simp only [T.sz] at hz; omega
      clear hn hl hr hne' hhd' hz
      cases l with
      | nil =>
        obtain rfl := HL.out
        clear HL
        go_wp2
        go_ret
        have e1 := HHD.out.trans HD.out.symm
        simp only [T.flat, List.nil_append, List.head?_cons] at e1
        obtain ⟨rest, hrest⟩ := List.head?_eq_some_iff.1 e1
        exact ⟨⟨b, k, x, _, _, _, rest, rfl, HN.out, hrest⟩, rfl⟩
      | node k2 x2 l2 r2 =>
        obtain ⟨b2, pl2, pr2, rfl, hn2, hl2, hr2⟩ := HL.out
        have HL2 := Lib.hid HL.out
        clear hn2 hl2 hr2 HL
        go_wp2
        go_roundg (T.sz (T.node k2 x2 l2 r2))
        case measure => omega
        case rel =>
          refine ⟨_, rfl, rfl, Lib.hid ⟨_, Nat.le_refl _, HL2.out, (by intro e; cases e), ?_⟩⟩
          rw [← HD.out]
          simp [T.flat]
end Go.Proofs.Ytbfkgbickjfcjaa
