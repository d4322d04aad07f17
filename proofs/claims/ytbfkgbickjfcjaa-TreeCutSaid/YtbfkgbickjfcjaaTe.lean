/- with, first, without: trees of more, and of fewer keys. -/
import Derived.Test.YtbfkgbickjfcjaaTc
namespace Go.Proofs.Ytbfkgbickjfcjaa
set_option linter.unusedVariables false
set_option linter.unusedSimpArgs false
open Go Go.RowKit
set_option maxRecDepth 100000
theorem SAt.drew {w : World} {t : T ByteArray En} {p : Option Addr} (h : SAt w p t) : SAt w.drew p t := SAt.keep (w := w) (w' := w.drew) (fun _ _ => rfl) h
theorem NS.drew {w : World} {b : Nat} {k : ByteArray} {x : En} {n : Int} {pl pr : Option Addr} (h : NS w b k x n pl pr) : NS w.drew b k x n pl pr := h.kept rfl
def ltS (a b : ByteArray) : Bool := Op.bytesLess a.toList b.toList
theorem linS : Lin ltS where
  irr a := by unfold ltS; rw [bytesLess_eq]; exact decide_eq_false (List.lt_irrefl _)
  tr a b c h k := by
    unfold ltS at *
    rw [bytesLess_eq] at *
    exact decide_eq_true (List.lt_trans (of_decide_eq_true h) (of_decide_eq_true k))
  tri a b h k := by
    unfold ltS at *
    rw [bytesLess_eq] at *
    have e : a.toList = b.toList := List.le_antisymm (List.not_lt.1 (of_decide_eq_false k)) (List.not_lt.1 (of_decide_eq_false h))
    rw [Lib.toList_data, Lib.toList_data] at e
    exact ByteArray.ext (Array.ext' e)
theorem ltS_ne {k a : ByteArray} (h : ltS a k = true) : (k.toList == a.toList) = false := by
  cases e : (k.toList == a.toList)
  · rfl
  · rw [beq_iff_eq] at e
    unfold ltS at h
    rw [e, bytesLess_eq] at h
    exact absurd (of_decide_eq_true h) (List.lt_irrefl _)
set_option maxHeartbeats 4000000 in
theorem swith_any (t : T ByteArray En) : ∀ (p : Option Addr) (k : ByteArray) (x : En) (w : World), SAt w p t → Srt ltS t.flat → t.sz ≤ 200000 →
    Calls Try.prog 69 #[.pointer p, .string k, .agg #[.string x.k, .string x.v, .int .i64 x.made, .int .i64 x.mod]] w fun e w' => ∃ p' t', e = .returned (.pointer p') ∧ SAt w' p' t' ∧ t'.flat = ins ltS k x t.flat ∧ Below w.heap.size w w' := by
  induction t with
  | nil =>
    intro p k x w h _ _
    obtain rfl := h
    have hbl : Below w.heap.size w ((w.alloc (.cells #[.string x.k, .string x.v, .int .i64 x.made, .int .i64 x.mod] 57)).alloc (.cells #[.string k, .string x.k, .string x.v, .int .i64 x.made, .int .i64 x.mod, .int .i64 1, .pointer none, .pointer none] 125)) := ((Below.refl _ w).alloc (Nat.le_refl _) _).alloc (by simp) _
    have HN := Lib.hid (NS.new (w.alloc (.cells #[.string x.k, .string x.v, .int .i64 x.made, .int .i64 x.mod] 57)) k x 1 none none)
    have HBL := Lib.hid hbl
    clear hbl
    go_enter Try.func69, Try.ntmps69
    go_wp2
    go_ret
    exact ⟨_, .node k x .nil .nil, rfl, ⟨_, none, none, rfl, by have hq := HN.out; (try rw [World.size_alloc] at hq); exact hq, rfl, rfl⟩, rfl, HBL.out⟩
  | node a y l r ihl ihr =>
  intro p k x w h hs hsz
  obtain ⟨b, pl, pr, rfl, hn, hl, hr⟩ := h
  have HSN := Lib.hid hs
  have HS := Lib.hid hs.node
  have hsl : l.sz ≤ 200000 := by simp only [T.sz] at hsz; omega
  have hsr : r.sz ≤ 200000 := by simp only [T.sz] at hsz; omega
  have i0 : Bl w (w.alloc (.cells #[.string x.k, .string x.v, .int .i64 x.made, .int .i64 x.mod] 57)) := inferInstance
  have HI0 := Lib.hid i0.h
  have HN := Lib.hid hn
  have HL := Lib.hid hl
  have HR := Lib.hid hr
  clear hs hsz hn hl hr
  cases hk : ltS k a with
  | true =>
  · have HIH : Hid (∀ W [Bl (w.alloc (.cells #[.string x.k, .string x.v, .int .i64 x.made, .int .i64 x.mod] 57)) W], Calls Try.prog 69 #[.pointer pl, .string k, .agg #[.string x.k, .string x.v, .int .i64 x.made, .int .i64 x.mod]] W fun e w' => ∃ p' t', e = .returned (.pointer p') ∧ SAt w' p' t' ∧ t'.flat = ins ltS k x l.flat ∧ Below W.heap.size W w') := Lib.hid fun W i => ihl pl k x W (HL.out.below (i0.h.trans (i.h.mono i0.h.size))) HS.out.1 (by omega)
    have HLV : Hid (∀ W [Bl (w.alloc (.cells #[.string x.k, .string x.v, .int .i64 x.made, .int .i64 x.mod] 57)) W] p' t', SAt W p' t' → t'.flat = ins ltS k x l.flat → Calls Try.prog 85 #[.pointer (some ⟨b, 0, none⟩), .pointer p', .pointer pr] W fun e w' => ∃ p' t', e = .returned (.pointer p') ∧ SAt w' p' t' ∧ t'.flat = ins ltS k x (T.flat (.node a y l r)) ∧ Below W.heap.size W w') := Lib.hid fun W i p' t' h1 hf => by
      have hz : t'.sz ≤ 300000 := by
        have := ins_len linS (L := l.flat) (k := k) (v := x)
        rw [← hf, T.flat_len, T.flat_len] at this
        omega
      refine (slevel_any b a y _ _ _ t' r p' pr W (HN.out.below (i0.h.trans (i.h.mono i0.h.size))) h1 (HR.out.below (i0.h.trans (i.h.mono i0.h.size))) (by omega) (by omega)).mono ?_
      rintro e w' ⟨p2, t2, rfl, h2, f2, b2⟩
      refine ⟨p2, t2, rfl, h2, ?_, b2⟩
      rw [f2, hf]
      exact (ins_lt linS HSN.out hk).symm
    have HSS : Hid (∀ W [Bl (w.alloc (.cells #[.string x.k, .string x.v, .int .i64 x.made, .int .i64 x.mod] 57)) W], W.cell? ⟨b, 6, none⟩ = some (.pointer pl) ∧ W.cell? ⟨b, 7, none⟩ = some (.pointer pr) ∧ W.cell? ⟨w.heap.size, 0, none⟩ = some (.string x.k) ∧ W.cell? ⟨w.heap.size, 1, none⟩ = some (.string x.v) ∧ W.cell? ⟨w.heap.size, 2, none⟩ = some (.int .i64 x.made) ∧ W.cell? ⟨w.heap.size, 3, none⟩ = some (.int .i64 x.mod)) := Lib.hid fun W i => by
      obtain ⟨-, -, -, -, -, -, c6, c7⟩ := (HN.out.below (i0.h.trans (i.h.mono i0.h.size))).cells
      have hbx : W.heap[w.heap.size]? = some (.cells #[.string x.k, .string x.v, .int .i64 x.made, .int .i64 x.mod] 57 (0, 0)) := (i.h.block _ (by simp)).trans (World.alloc_heap_new _ _)
      exact ⟨c6, c7, by simp [World.cell?, hbx], by simp [World.cell?, hbx], by simp [World.cell?, hbx], by simp [World.cell?, hbx]⟩
    obtain ⟨k0, -, -, -, -, -, -, -⟩ := (HN.out.below i0.h).cells
    obtain ⟨d0, d1, d2, d3, d4, d5⟩ := HSS.out (w.alloc (.cells #[.string x.k, .string x.v, .int .i64 x.made, .int .i64 x.mod] 57))
    have f1 : Op.bytesLess k.toList a.toList = true := hk
    clear hk ihl ihr i0 hsl hsr
    generalize l.sz + 1 + r.sz = m at *
    go_enter Try.func69, Try.ntmps69
    go_wp2_with fail
    go_region_held3 (fun w' => w'.cell? ⟨b, 6, none⟩ = some (.pointer pl) ∧ w'.cell? ⟨b, 7, none⟩ = some (.pointer pr) ∧ w'.cell? ⟨w.heap.size, 0, none⟩ = some (.string x.k) ∧ w'.cell? ⟨w.heap.size, 1, none⟩ = some (.string x.v) ∧ w'.cell? ⟨w.heap.size, 2, none⟩ = some (.int .i64 x.made) ∧ w'.cell? ⟨w.heap.size, 3, none⟩ = some (.int .i64 x.mod)) (first | exact HSS.out _ | fail) (first
      | (go_at_call 69; ((with_reducible refine (HIH.out _).mono ?_); rintro e w1 ⟨p1, t1, rfl, h1, q1, hb1⟩; have i1 : Bl (w.alloc (.cells #[.string x.k, .string x.v, .int .i64 x.made, .int .i64 x.mod] 57)) w1 := Bl.tr inferInstance hb1; have H1 := Lib.hid h1; have Q1 := Lib.hid q1; clear h1 q1 hb1))
      | (go_at_call 85; ((with_reducible refine (HLV.out _ _ _ H1.out Q1.out).mono ?_); rintro e w3 ⟨p3, t3, rfl, h3, q3, hb3⟩; have i3 : Bl (w.alloc (.cells #[.string x.k, .string x.v, .int .i64 x.made, .int .i64 x.mod] 57)) w3 := Bl.tr inferInstance hb3; have H3 := Lib.hid h3; have Q3 := Lib.hid q3; clear h3 q3 hb3))
      | fail)
    all_goals (go_wp2; go_ret)
    all_goals exact ⟨_, _, rfl, H3.out.keep (fun _ _ => rfl), Q3.out, HI0.out.trans (i3.h.mono HI0.out.size)⟩
  | false =>
  have hka := hk
  clear hk
  cases hk : ltS a k with
  | true =>
  · have HIH : Hid (∀ W [Bl (w.alloc (.cells #[.string x.k, .string x.v, .int .i64 x.made, .int .i64 x.mod] 57)) W], Calls Try.prog 69 #[.pointer pr, .string k, .agg #[.string x.k, .string x.v, .int .i64 x.made, .int .i64 x.mod]] W fun e w' => ∃ p' t', e = .returned (.pointer p') ∧ SAt w' p' t' ∧ t'.flat = ins ltS k x r.flat ∧ Below W.heap.size W w') := Lib.hid fun W i => ihr pr k x W (HR.out.below (i0.h.trans (i.h.mono i0.h.size))) HS.out.2.1 (by omega)
    have HLV : Hid (∀ W [Bl (w.alloc (.cells #[.string x.k, .string x.v, .int .i64 x.made, .int .i64 x.mod] 57)) W] p' t', SAt W p' t' → t'.flat = ins ltS k x r.flat → Calls Try.prog 85 #[.pointer (some ⟨b, 0, none⟩), .pointer pl, .pointer p'] W fun e w' => ∃ p' t', e = .returned (.pointer p') ∧ SAt w' p' t' ∧ t'.flat = ins ltS k x (T.flat (.node a y l r)) ∧ Below W.heap.size W w') := Lib.hid fun W i p' t' h1 hf => by
      have hz : t'.sz ≤ 300000 := by
        have := ins_len linS (L := r.flat) (k := k) (v := x)
        rw [← hf, T.flat_len, T.flat_len] at this
        omega
      refine (slevel_any b a y _ _ _ l t' pl p' W (HN.out.below (i0.h.trans (i.h.mono i0.h.size))) (HL.out.below (i0.h.trans (i.h.mono i0.h.size))) h1 (by omega) (by omega)).mono ?_
      rintro e w' ⟨p2, t2, rfl, h2, f2, b2⟩
      refine ⟨p2, t2, rfl, h2, ?_, b2⟩
      rw [f2, hf]
      exact (ins_gt linS HSN.out hk).symm
    have HSS : Hid (∀ W [Bl (w.alloc (.cells #[.string x.k, .string x.v, .int .i64 x.made, .int .i64 x.mod] 57)) W], W.cell? ⟨b, 6, none⟩ = some (.pointer pl) ∧ W.cell? ⟨b, 7, none⟩ = some (.pointer pr) ∧ W.cell? ⟨w.heap.size, 0, none⟩ = some (.string x.k) ∧ W.cell? ⟨w.heap.size, 1, none⟩ = some (.string x.v) ∧ W.cell? ⟨w.heap.size, 2, none⟩ = some (.int .i64 x.made) ∧ W.cell? ⟨w.heap.size, 3, none⟩ = some (.int .i64 x.mod)) := Lib.hid fun W i => by
      obtain ⟨-, -, -, -, -, -, c6, c7⟩ := (HN.out.below (i0.h.trans (i.h.mono i0.h.size))).cells
      have hbx : W.heap[w.heap.size]? = some (.cells #[.string x.k, .string x.v, .int .i64 x.made, .int .i64 x.mod] 57 (0, 0)) := (i.h.block _ (by simp)).trans (World.alloc_heap_new _ _)
      exact ⟨c6, c7, by simp [World.cell?, hbx], by simp [World.cell?, hbx], by simp [World.cell?, hbx], by simp [World.cell?, hbx]⟩
    obtain ⟨k0, -, -, -, -, -, -, -⟩ := (HN.out.below i0.h).cells
    obtain ⟨d0, d1, d2, d3, d4, d5⟩ := HSS.out (w.alloc (.cells #[.string x.k, .string x.v, .int .i64 x.made, .int .i64 x.mod] 57))
    have f1 : Op.bytesLess k.toList a.toList = false := linS.asym hk
    have f2 : (k.toList == a.toList) = false := ltS_ne hk
    clear hk ihl ihr i0 hsl hsr
    generalize l.sz + 1 + r.sz = m at *
    go_enter Try.func69, Try.ntmps69
    go_wp2_with fail
    go_region_held3 (fun w' => w'.cell? ⟨b, 6, none⟩ = some (.pointer pl) ∧ w'.cell? ⟨b, 7, none⟩ = some (.pointer pr) ∧ w'.cell? ⟨w.heap.size, 0, none⟩ = some (.string x.k) ∧ w'.cell? ⟨w.heap.size, 1, none⟩ = some (.string x.v) ∧ w'.cell? ⟨w.heap.size, 2, none⟩ = some (.int .i64 x.made) ∧ w'.cell? ⟨w.heap.size, 3, none⟩ = some (.int .i64 x.mod)) (first | exact HSS.out _ | fail) (first
      | (go_at_call 69; ((with_reducible refine (HIH.out _).mono ?_); rintro e w1 ⟨p1, t1, rfl, h1, q1, hb1⟩; have i1 : Bl (w.alloc (.cells #[.string x.k, .string x.v, .int .i64 x.made, .int .i64 x.mod] 57)) w1 := Bl.tr inferInstance hb1; have H1 := Lib.hid h1; have Q1 := Lib.hid q1; clear h1 q1 hb1))
      | (go_at_call 85; ((with_reducible refine (HLV.out _ _ _ H1.out Q1.out).mono ?_); rintro e w3 ⟨p3, t3, rfl, h3, q3, hb3⟩; have i3 : Bl (w.alloc (.cells #[.string x.k, .string x.v, .int .i64 x.made, .int .i64 x.mod] 57)) w3 := Bl.tr inferInstance hb3; have H3 := Lib.hid h3; have Q3 := Lib.hid q3; clear h3 q3 hb3))
      | fail)
    all_goals (go_wp2; go_ret)
    all_goals exact ⟨_, _, rfl, H3.out.keep (fun _ _ => rfl), Q3.out, HI0.out.trans (i3.h.mono HI0.out.size)⟩
  | false =>
  · obtain rfl := linS.tri _ _ hka hk
    clear hka hk ihl ihr
    have HSS : Hid (∀ W [Bl (w.alloc (.cells #[.string x.k, .string x.v, .int .i64 x.made, .int .i64 x.mod] 57)) W], W.cell? ⟨b, 5, none⟩ = some (.int .i64 ((l.sz + 1 + r.sz : Nat) : Int)) ∧ W.cell? ⟨b, 6, none⟩ = some (.pointer pl) ∧ W.cell? ⟨b, 7, none⟩ = some (.pointer pr) ∧ W.cell? ⟨w.heap.size, 0, none⟩ = some (.string x.k) ∧ W.cell? ⟨w.heap.size, 1, none⟩ = some (.string x.v) ∧ W.cell? ⟨w.heap.size, 2, none⟩ = some (.int .i64 x.made) ∧ W.cell? ⟨w.heap.size, 3, none⟩ = some (.int .i64 x.mod)) := Lib.hid fun W i => by
      obtain ⟨-, -, -, -, -, c5, c6, c7⟩ := (HN.out.below (i0.h.trans (i.h.mono i0.h.size))).cells
      have hbx : W.heap[w.heap.size]? = some (.cells #[.string x.k, .string x.v, .int .i64 x.made, .int .i64 x.mod] 57 (0, 0)) := (i.h.block _ (by simp)).trans (World.alloc_heap_new _ _)
      exact ⟨c5, c6, c7, by simp [World.cell?, hbx], by simp [World.cell?, hbx], by simp [World.cell?, hbx], by simp [World.cell?, hbx]⟩
    obtain ⟨k0, -, -, -, -, -, -, -⟩ := (HN.out.below i0.h).cells
    obtain ⟨d0, d1, d2, d3, d4, d5, d6⟩ := HSS.out (w.alloc (.cells #[.string x.k, .string x.v, .int .i64 x.made, .int .i64 x.mod] 57))
    have f1 : Op.bytesLess k.toList k.toList = false := linS.irr _
    clear i0 hsl hsr
    generalize hm : l.sz + 1 + r.sz = m at *
    have HM := Lib.hid hm
    clear hm
    have HNN := Lib.hid (NS.new (w.alloc (.cells #[.string x.k, .string x.v, .int .i64 x.made, .int .i64 x.mod] 57)) k x ((m : Nat) : Int) pl pr)
    have HBN : Hid (Below w.heap.size w ((w.alloc (.cells #[.string x.k, .string x.v, .int .i64 x.made, .int .i64 x.mod] 57)).alloc (.cells #[.string k, .string x.k, .string x.v, .int .i64 x.made, .int .i64 x.mod, .int .i64 ((m : Nat) : Int), .pointer pl, .pointer pr] 125))) := Lib.hid (HI0.out.trans (((Below.refl _ _).alloc (Nat.le_refl _) _).mono HI0.out.size))
    have HLN := Lib.hid (HL.out.below HBN.out)
    have HRN := Lib.hid (HR.out.below HBN.out)
    go_enter Try.func69, Try.ntmps69
    go_wp2_with fail
    go_region_held3 (fun w' => w'.cell? ⟨b, 5, none⟩ = some (.int .i64 ((m : Nat) : Int)) ∧ w'.cell? ⟨b, 6, none⟩ = some (.pointer pl) ∧ w'.cell? ⟨b, 7, none⟩ = some (.pointer pr) ∧ w'.cell? ⟨w.heap.size, 0, none⟩ = some (.string x.k) ∧ w'.cell? ⟨w.heap.size, 1, none⟩ = some (.string x.v) ∧ w'.cell? ⟨w.heap.size, 2, none⟩ = some (.int .i64 x.made) ∧ w'.cell? ⟨w.heap.size, 3, none⟩ = some (.int .i64 x.mod)) (first | exact HSS.out _ | fail) (first | fail)
    all_goals (go_wp2; go_ret)
    all_goals exact ⟨_, .node k x l r, rfl, ⟨_, pl, pr, rfl, by rw [HM.out]; have hq := HNN.out.drew; (try rw [World.size_alloc] at hq); exact hq, HLN.out.drew, HRN.out.drew⟩, (ins_eq linS HSN.out).symm, Below.drew HBN.out⟩
set_option maxHeartbeats 1000000 in
theorem sfirst_any (t : T ByteArray En) (p : Option Addr) (w : World) (h : SAt w p t) (hne : t ≠ .nil) :
    Calls Try.prog 89 #[.pointer p] w fun e w' => (∃ b k x n ql qr rest, e = .returned (.pointer (some ⟨b, 0, none⟩)) ∧ NS w b k x n ql qr ∧ t.flat = (k, x) :: rest) ∧ w = w' := by
  have h0 : Hid (∃ t', t'.sz ≤ t.sz ∧ SAt w p t' ∧ t' ≠ .nil ∧ t'.flat.head? = t.flat.head?) := Lib.hid ⟨t, Nat.le_refl _, h, hne, rfl⟩
  clear h hne
  obtain ⟨g0, hg0⟩ : ∃ g, t.sz = g := ⟨_, rfl⟩
  obtain ⟨hd, hhd⟩ : ∃ l, t.flat.head? = l := ⟨_, rfl⟩
  have HHD := Lib.hid hhd
  rw [hhd, hg0] at h0
  clear hhd hg0
  go_enter Try.func89, Try.ntmps89
  go_wp2_with fail
  go_loopg [0] g0 (fun g s0 wr => ∃ p', s0 = .pointer p' ∧ wr = w ∧ Hid (∃ t', t'.sz ≤ g ∧ SAt w p' t' ∧ t' ≠ .nil ∧ t'.flat.head? = hd))
  case atStart => exact ⟨p, rfl, rfl, h0⟩
  case round =>
    obtain ⟨p', rfl, rfl, HH⟩ := hrel
    obtain ⟨t', hz, ht', hne', hhd'⟩ := HH.out
    clear HH
    cases t' with
    | nil => exact absurd rfl hne'
    | node k x l r =>
      obtain ⟨b, pl, pr, rfl, hn, hl, hr⟩ := ht'
      obtain ⟨-, -, -, -, -, -, c1, -⟩ := hn.cells
      have HN := Lib.hid hn
      have HL := Lib.hid hl
      have HD := Lib.hid hhd'
      have hz' : l.sz + 1 ≤ gk := by simp only [T.sz] at hz; omega
      clear hn hl hr hne' hhd' hz
      cases l with
      | nil =>
        obtain rfl := HL.out
        clear HL
        go_wp2
        go_ret
        have e1 := HHD.out.trans HD.out.symm
        simp only [T.flat, List.nil_append, List.head?_cons] at e1
        obtain ⟨rest, hrest⟩ := List.head?_eq_some_iff.1 e1
        exact ⟨⟨b, k, x, _, _, _, rest, rfl, HN.out, hrest⟩, rfl⟩
      | node k2 x2 l2 r2 =>
        obtain ⟨b2, pl2, pr2, rfl, hn2, hl2, hr2⟩ := HL.out
        have HL2 := Lib.hid HL.out
        clear hn2 hl2 hr2 HL
        go_wp2
        go_roundg (T.sz (T.node k2 x2 l2 r2))
        case measure => omega
        case rel =>
          refine ⟨_, rfl, rfl, Lib.hid ⟨_, Nat.le_refl _, HL2.out, (by intro e; cases e), ?_⟩⟩
          rw [← HD.out]
          simp [T.flat]
end Go.Proofs.Ytbfkgbickjfcjaa
