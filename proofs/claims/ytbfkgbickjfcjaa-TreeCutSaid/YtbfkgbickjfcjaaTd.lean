/- level: a node over two sides, of which one may be lifted. -/
import Derived.Test.YtbfkgbickjfcjaaTb
namespace Go.Proofs.Ytbfkgbickjfcjaa
set_option linter.unusedVariables false
set_option linter.unusedSimpArgs false
open Go Go.RowKit
set_option maxRecDepth 100000
set_option maxHeartbeats 2000000 in
theorem ilevel_plain (b : Nat) (k : Int) (x : Sl) (n : Int) (ql qr : Option Addr) (l r : T Int Sl) (pl pr : Option Addr) (w : World) (hn : NI w b k x n ql qr) (hl : IAt w pl l) (hr : IAt w pr r) (hsl : l.sz ≤ 300000) (hsr : r.sz ≤ 300000) (h1 : ¬ 3 * ((l.sz : Int) + 1) < (r.sz : Int) + 1) (h2 : ¬ 3 * ((r.sz : Int) + 1) < (l.sz : Int) + 1) :
    Calls Try.prog 77 #[.pointer (some ⟨b, 0, none⟩), .pointer pl, .pointer pr] w fun e w' => ∃ p t, e = .returned (.pointer p) ∧ IAt w' p t ∧ t.flat = l.flat ++ (k, x) :: r.flat ∧ Below w.heap.size w w' := by
  have Hpl := Lib.hid hl
  have Hpr := Lib.hid hr
  have HWl : Hid (∀ W [Bl w W], Calls Try.prog 90 #[.pointer pl] W fun e w' => e = .returned (.int .i64 ((l.sz : Int) + 1)) ∧ W = w') := Lib.hid fun W i => iweight_any l pl W (Hpl.out.below i.h) (by omega)
  have HWr : Hid (∀ W [Bl w W], Calls Try.prog 90 #[.pointer pr] W fun e w' => e = .returned (.int .i64 ((r.sz : Int) + 1)) ∧ W = w') := Lib.hid fun W i => iweight_any r pr W (Hpr.out.below i.h) (by omega)
  have HO := Lib.hid (iover_any b k x n ql qr l r pl pr w hn hl hr (by omega) (by omega))
  clear hn hl hr
  generalize hm1 : l.sz = m1 at *
  generalize hm2 : r.sz = m2 at *
  have HM1 := Lib.hid hm1
  have HM2 := Lib.hid hm2
  clear hm1 hm2
  go_enter Try.func77, Try.ntmps77
  go_wp2_with (go_at_call 90; (first
    | ((with_reducible refine (HWl.out _).mono ?_); rintro e w' ⟨rfl, rfl⟩)
    | ((with_reducible refine (HWr.out _).mono ?_); rintro e w' ⟨rfl, rfl⟩)))
  refine HO.out.mono ?_
  rintro e w1 ⟨b1, rfl, h1', hb1⟩
  have H1 := Lib.hid h1'
  have HB1 := Lib.hid hb1
  clear h1' hb1
  go_wp2
  go_ret
  refine ⟨some ⟨b1, 0, none⟩, .node k x l r, rfl, ⟨b1, pl, pr, rfl, ?_, Hpl.out.below HB1.out, Hpr.out.below HB1.out⟩, rfl, HB1.out⟩
  rw [HM1.out, HM2.out]
  exact H1.out
set_option maxHeartbeats 2000000 in
theorem ilevel_right2 (b : Nat) (k : Int) (x : Sl) (n : Int) (ql qr : Option Addr) (l r : T Int Sl) (pl pr : Option Addr) (w : World) (hn : NI w b k x n ql qr) (hl : IAt w pl l) (hr : IAt w pr r) (hsl : l.sz ≤ 300000) (hsr : r.sz ≤ 300000) (hh : 3 * ((l.sz : Int) + 1) < (r.sz : Int) + 1) (kr : Int) (xr : Sl) (rl rr : T Int Sl) (hbig : r = .node kr xr rl rr) (hd : 2 * ((rr.sz : Int) + 1) ≤ (rl.sz : Int) + 1) :
    Calls Try.prog 77 #[.pointer (some ⟨b, 0, none⟩), .pointer pl, .pointer pr] w fun e w' => ∃ p t, e = .returned (.pointer p) ∧ IAt w' p t ∧ t.flat = l.flat ++ (k, x) :: r.flat ∧ Below w.heap.size w w' := by
  subst hbig
  have hszb : T.sz (T.node kr xr rl rr) = rl.sz + 1 + rr.sz := rfl
  have Hbig := Lib.hid hr
  obtain ⟨br, pa, pb, rfl, hnr, hra, hrb⟩ := hr
  have hne : rl ≠ .nil := by
    rintro rfl
    simp only [T.sz] at hd
    omega
  obtain ⟨km, xm, ml, mr, rfl⟩ : ∃ km xm ml mr, rl = .node km xm ml mr := by
    cases rl with
    | nil => exact absurd rfl hne
    | node km xm ml mr => exact ⟨km, xm, ml, mr, rfl⟩
  have hszm : T.sz (T.node km xm ml mr) = ml.sz + 1 + mr.sz := rfl
  have Hmid := Lib.hid hra
  obtain ⟨bm, pc, pd, rfl, hnm, hmc, hmd⟩ := hra
  have Hpc := Lib.hid hmc
  have Hpd := Lib.hid hmd
  have HB := Lib.hid hnr
  have Hsp := Lib.hid hl
  have Hout := Lib.hid hrb
  have HM := Lib.hid hnm
  have Hin := Hmid
  have HWs : Hid (∀ W [Bl w W], Calls Try.prog 90 #[.pointer pl] W fun e w' => e = .returned (.int .i64 ((l.sz : Int) + 1)) ∧ W = w') := Lib.hid fun W i => iweight_any l pl W (Hsp.out.below i.h) (by omega)
  have HWb : Hid (∀ W [Bl w W], Calls Try.prog 90 #[.pointer (some ⟨br, 0, none⟩)] W fun e w' => e = .returned (.int .i64 (((T.node kr xr (T.node km xm ml mr) rr).sz : Int) + 1)) ∧ W = w') := Lib.hid fun W i => iweight_any (T.node kr xr (T.node km xm ml mr) rr) (some ⟨br, 0, none⟩) W (Hbig.out.below i.h) (by omega)
  have HWi : Hid (∀ W [Bl w W], Calls Try.prog 90 #[.pointer (some ⟨bm, 0, none⟩)] W fun e w' => e = .returned (.int .i64 (((T.node km xm ml mr).sz : Int) + 1)) ∧ W = w') := Lib.hid fun W i => iweight_any (T.node km xm ml mr) (some ⟨bm, 0, none⟩) W (Hin.out.below i.h) (by omega)
  have HWo : Hid (∀ W [Bl w W], Calls Try.prog 90 #[.pointer pb] W fun e w' => e = .returned (.int .i64 ((rr.sz : Int) + 1)) ∧ W = w') := Lib.hid fun W i => iweight_any rr pb W (Hout.out.below i.h) (by omega)
  have HSS : Hid (∀ W [Bl w W], W.cell? ⟨br, 3, none⟩ = some (.pointer (some ⟨bm, 0, none⟩)) ∧ W.cell? ⟨br, 4, none⟩ = some (.pointer pb) ∧ W.cell? ⟨bm, 3, none⟩ = some (.pointer pc) ∧ W.cell? ⟨bm, 4, none⟩ = some (.pointer pd)) := Lib.hid fun W i => by
    obtain ⟨-, -, -, a1, a2⟩ := (HB.out.below i.h).cells
    obtain ⟨-, -, -, a3, a4⟩ := (HM.out.below i.h).cells
    exact ⟨a1, a2, a3, a4⟩
  have HN := Lib.hid hn
  have HO1 : Hid (∀ W [Bl w W], Calls Try.prog 91 #[.pointer (some ⟨b, 0, none⟩), .pointer pl, .pointer pc] W fun e w' => ∃ b', e = .returned (.pointer (some ⟨b', 0, none⟩)) ∧ NI w' b' k x ((l.sz + 1 + ml.sz : Nat) : Int) pl pc ∧ Below W.heap.size W w') := Lib.hid fun W i => iover_any b k x _ _ _ l ml pl pc W (HN.out.below i.h) (Hsp.out.below i.h) (Hpc.out.below i.h) (by omega) (by omega)
  have HO2 : Hid (∀ W [Bl w W], Calls Try.prog 91 #[.pointer (some ⟨br, 0, none⟩), .pointer pd, .pointer pb] W fun e w' => ∃ b', e = .returned (.pointer (some ⟨b', 0, none⟩)) ∧ NI w' b' kr xr ((mr.sz + 1 + rr.sz : Nat) : Int) pd pb ∧ Below W.heap.size W w') := Lib.hid fun W i => iover_any br kr xr _ _ _ mr rr pd pb W (HB.out.below i.h) (Hpd.out.below i.h) (Hout.out.below i.h) (by omega) (by omega)
  have HO3 : Hid (∀ W [Bl w W] b1 b2, NI W b1 k x ((l.sz + 1 + ml.sz : Nat) : Int) pl pc → NI W b2 kr xr ((mr.sz + 1 + rr.sz : Nat) : Int) pd pb → Calls Try.prog 91 #[.pointer (some ⟨bm, 0, none⟩), .pointer (some ⟨b1, 0, none⟩), .pointer (some ⟨b2, 0, none⟩)] W fun e w' => ∃ b', e = .returned (.pointer (some ⟨b', 0, none⟩)) ∧ IAt w' (some ⟨b', 0, none⟩) (.node km xm (T.node k x l ml) (T.node kr xr mr rr)) ∧ Below W.heap.size W w') := Lib.hid fun W i b1 b2 e1 e2 => by
    have g1 : IAt W (some ⟨b1, 0, none⟩) (T.node k x l ml) := ⟨b1, _, _, rfl, e1, Hsp.out.below i.h, Hpc.out.below i.h⟩
    have g2 : IAt W (some ⟨b2, 0, none⟩) (T.node kr xr mr rr) := ⟨b2, _, _, rfl, e2, Hpd.out.below i.h, Hout.out.below i.h⟩
    refine (iover_any bm km xm _ _ _ (T.node k x l ml) (T.node kr xr mr rr) _ _ W (HM.out.below i.h) g1 g2 (by simp only [T.sz]; omega) (by simp only [T.sz]; omega)).mono ?_
    rintro e w' ⟨b', rfl, h', hb'⟩
    exact ⟨b', rfl, ⟨b', _, _, rfl, h', g1.below hb', g2.below hb'⟩, hb'⟩
  have hss := HSS.out w
  obtain ⟨d0, d1, d2, d3⟩ := hss
  clear hn hnm hmc hmd hne hnr hl hrb
  have hb3 : (T.node km xm ml mr).sz ≤ 300000 := by omega
  have hb4 : rr.sz ≤ 300000 := by omega
  clear hszb hszm
  generalize e1 : (T.node kr xr (T.node km xm ml mr) rr).sz = m1 at *
  generalize e2 : l.sz = m2 at *
  generalize e3 : (T.node km xm ml mr).sz = m3 at *
  generalize e4 : rr.sz = m4 at *
  clear e1 e2 e3 e4
  have yw : IntKind.i64.wrap (2 * ((m4 : Int) + 1)) = 2 * ((m4 : Int) + 1) := IntWalk.i64_in _ (by omega)
  go_enter Try.func77, Try.ntmps77
  go_wp2_with (go_at_call 90; (first
    | ((with_reducible refine (HWs.out _).mono ?_); rintro e w' ⟨rfl, rfl⟩)
    | ((with_reducible refine (HWb.out _).mono ?_); rintro e w' ⟨rfl, rfl⟩)))
  go_region_held3 (fun w' => w'.cell? ⟨br, 3, none⟩ = some (.pointer (some ⟨bm, 0, none⟩)) ∧ w'.cell? ⟨br, 4, none⟩ = some (.pointer pb) ∧ w'.cell? ⟨bm, 3, none⟩ = some (.pointer pc) ∧ w'.cell? ⟨bm, 4, none⟩ = some (.pointer pd)) (first | exact HSS.out _ | fail) (first
    | (go_at_call 90; ((with_reducible refine (HWi.out _).mono ?_); rintro e w' ⟨rfl, rfl⟩))
    | (go_at_call 90; ((with_reducible refine (HWo.out _).mono ?_); rintro e w' ⟨rfl, rfl⟩))
    | fail)
  go_wp2_with fail
  go_region_held3 (fun w' => w'.cell? ⟨br, 3, none⟩ = some (.pointer (some ⟨bm, 0, none⟩)) ∧ w'.cell? ⟨br, 4, none⟩ = some (.pointer pb) ∧ w'.cell? ⟨bm, 3, none⟩ = some (.pointer pc) ∧ w'.cell? ⟨bm, 4, none⟩ = some (.pointer pd)) (first | exact HSS.out _ | fail) (first
    | (go_at_call 91; ((with_reducible refine (HO1.out _).mono ?_); rintro e w1 ⟨b1, rfl, h1, hb1⟩; have i1 : Bl w w1 := Bl.tr inferInstance hb1; (first | have G2 := Lib.hid (H2.out.below hb1) | skip); have H1 := Lib.hid h1; clear h1 hb1))
    | (go_at_call 91; ((with_reducible refine (HO2.out _).mono ?_); rintro e w2 ⟨b2, rfl, h2, hb2⟩; have i2 : Bl w w2 := Bl.tr inferInstance hb2; (first | have G1 := Lib.hid (H1.out.below hb2) | skip); have H2 := Lib.hid h2; clear h2 hb2))
    | (go_at_call 91; ((first | (with_reducible refine (HO3.out _ _ _ G1.out H2.out).mono ?_) | (with_reducible refine (HO3.out _ _ _ H1.out G2.out).mono ?_)); rintro e w3 ⟨b3, rfl, h3, hb3⟩; have i3 : Bl w w3 := Bl.tr inferInstance hb3; have H3 := Lib.hid h3; clear h3 hb3))
    | fail)
  all_goals (go_wp2; go_ret)
  all_goals exact ⟨_, _, rfl, H3.out.keep (fun _ _ => rfl), by simp only [T.flat, List.append_assoc, List.cons_append], i3.h⟩
set_option maxHeartbeats 2000000 in
theorem ilevel_right1 (b : Nat) (k : Int) (x : Sl) (n : Int) (ql qr : Option Addr) (l r : T Int Sl) (pl pr : Option Addr) (w : World) (hn : NI w b k x n ql qr) (hl : IAt w pl l) (hr : IAt w pr r) (hsl : l.sz ≤ 300000) (hsr : r.sz ≤ 300000) (hh : 3 * ((l.sz : Int) + 1) < (r.sz : Int) + 1) (kr : Int) (xr : Sl) (rl rr : T Int Sl) (hbig : r = .node kr xr rl rr) (hd : ¬ 2 * ((rr.sz : Int) + 1) ≤ (rl.sz : Int) + 1) :
    Calls Try.prog 77 #[.pointer (some ⟨b, 0, none⟩), .pointer pl, .pointer pr] w fun e w' => ∃ p t, e = .returned (.pointer p) ∧ IAt w' p t ∧ t.flat = l.flat ++ (k, x) :: r.flat ∧ Below w.heap.size w w' := by
  subst hbig
  have hszb : T.sz (T.node kr xr rl rr) = rl.sz + 1 + rr.sz := rfl
  have Hbig := Lib.hid hr
  obtain ⟨br, pa, pb, rfl, hnr, hra, hrb⟩ := hr
  have HB := Lib.hid hnr
  have Hsp := Lib.hid hl
  have Hout := Lib.hid hrb
  have Hin := Lib.hid hra
  have HWs : Hid (∀ W [Bl w W], Calls Try.prog 90 #[.pointer pl] W fun e w' => e = .returned (.int .i64 ((l.sz : Int) + 1)) ∧ W = w') := Lib.hid fun W i => iweight_any l pl W (Hsp.out.below i.h) (by omega)
  have HWb : Hid (∀ W [Bl w W], Calls Try.prog 90 #[.pointer (some ⟨br, 0, none⟩)] W fun e w' => e = .returned (.int .i64 (((T.node kr xr rl rr).sz : Int) + 1)) ∧ W = w') := Lib.hid fun W i => iweight_any (T.node kr xr rl rr) (some ⟨br, 0, none⟩) W (Hbig.out.below i.h) (by omega)
  have HWi : Hid (∀ W [Bl w W], Calls Try.prog 90 #[.pointer pa] W fun e w' => e = .returned (.int .i64 ((rl.sz : Int) + 1)) ∧ W = w') := Lib.hid fun W i => iweight_any rl pa W (Hin.out.below i.h) (by omega)
  have HWo : Hid (∀ W [Bl w W], Calls Try.prog 90 #[.pointer pb] W fun e w' => e = .returned (.int .i64 ((rr.sz : Int) + 1)) ∧ W = w') := Lib.hid fun W i => iweight_any rr pb W (Hout.out.below i.h) (by omega)
  have HSS : Hid (∀ W [Bl w W], W.cell? ⟨br, 3, none⟩ = some (.pointer pa) ∧ W.cell? ⟨br, 4, none⟩ = some (.pointer pb)) := Lib.hid fun W i => by
    obtain ⟨-, -, -, a1, a2⟩ := (HB.out.below i.h).cells
    exact ⟨a1, a2⟩
  have HN := Lib.hid hn
  have HO1 : Hid (∀ W [Bl w W], Calls Try.prog 91 #[.pointer (some ⟨b, 0, none⟩), .pointer pl, .pointer pa] W fun e w' => ∃ b', e = .returned (.pointer (some ⟨b', 0, none⟩)) ∧ NI w' b' k x ((l.sz + 1 + rl.sz : Nat) : Int) pl pa ∧ Below W.heap.size W w') := Lib.hid fun W i => iover_any b k x _ _ _ l rl pl pa W (HN.out.below i.h) (Hsp.out.below i.h) (Hin.out.below i.h) (by omega) (by omega)
  have HO3 : Hid (∀ W [Bl w W] b1, NI W b1 k x ((l.sz + 1 + rl.sz : Nat) : Int) pl pa → Calls Try.prog 91 #[.pointer (some ⟨br, 0, none⟩), .pointer (some ⟨b1, 0, none⟩), .pointer pb] W fun e w' => ∃ b', e = .returned (.pointer (some ⟨b', 0, none⟩)) ∧ IAt w' (some ⟨b', 0, none⟩) (.node kr xr (T.node k x l rl) rr) ∧ Below W.heap.size W w') := Lib.hid fun W i b1 e1 => by
    have g1 : IAt W (some ⟨b1, 0, none⟩) (T.node k x l rl) := ⟨b1, _, _, rfl, e1, Hsp.out.below i.h, Hin.out.below i.h⟩
    refine (iover_any br kr xr _ _ _ (T.node k x l rl) rr _ _ W (HB.out.below i.h) g1 (Hout.out.below i.h) (by simp only [T.sz]; omega) (by omega)).mono ?_
    rintro e w' ⟨b', rfl, h', hb'⟩
    exact ⟨b', rfl, ⟨b', _, _, rfl, h', g1.below hb', (Hout.out.below i.h).below hb'⟩, hb'⟩
  have hss := HSS.out w
  obtain ⟨d0, d1⟩ := hss
  clear hn hnr hl hra hrb
  have hb3 : rl.sz ≤ 300000 := by omega
  have hb4 : rr.sz ≤ 300000 := by omega
  clear hszb
  generalize e1 : (T.node kr xr rl rr).sz = m1 at *
  generalize e2 : l.sz = m2 at *
  generalize e3 : rl.sz = m3 at *
  generalize e4 : rr.sz = m4 at *
  clear e1 e2 e3 e4
  have yw : IntKind.i64.wrap (2 * ((m4 : Int) + 1)) = 2 * ((m4 : Int) + 1) := IntWalk.i64_in _ (by omega)
  go_enter Try.func77, Try.ntmps77
  go_wp2_with (go_at_call 90; (first
    | ((with_reducible refine (HWs.out _).mono ?_); rintro e w' ⟨rfl, rfl⟩)
    | ((with_reducible refine (HWb.out _).mono ?_); rintro e w' ⟨rfl, rfl⟩)))
  go_region_held3 (fun w' => w'.cell? ⟨br, 3, none⟩ = some (.pointer pa) ∧ w'.cell? ⟨br, 4, none⟩ = some (.pointer pb)) (first | exact HSS.out _ | fail) (first
    | (go_at_call 90; ((with_reducible refine (HWi.out _).mono ?_); rintro e w' ⟨rfl, rfl⟩))
    | (go_at_call 90; ((with_reducible refine (HWo.out _).mono ?_); rintro e w' ⟨rfl, rfl⟩))
    | fail)
  go_wp2_with fail
  go_region_held3 (fun w' => w'.cell? ⟨br, 3, none⟩ = some (.pointer pa) ∧ w'.cell? ⟨br, 4, none⟩ = some (.pointer pb)) (first | exact HSS.out _ | fail) (first
    | (go_at_call 91; ((with_reducible refine (HO1.out _).mono ?_); rintro e w1 ⟨b1, rfl, h1, hb1⟩; have i1 : Bl w w1 := Bl.tr inferInstance hb1; have H1 := Lib.hid h1; clear h1 hb1))
    | (go_at_call 91; ((with_reducible refine (HO3.out _ _ H1.out).mono ?_); rintro e w3 ⟨b3, rfl, h3, hb3⟩; have i3 : Bl w w3 := Bl.tr inferInstance hb3; have H3 := Lib.hid h3; clear h3 hb3))
    | fail)
  all_goals (go_wp2; go_ret)
  all_goals exact ⟨_, _, rfl, H3.out.keep (fun _ _ => rfl), by simp only [T.flat, List.append_assoc, List.cons_append], i3.h⟩
set_option maxHeartbeats 2000000 in
theorem ilevel_left2 (b : Nat) (k : Int) (x : Sl) (n : Int) (ql qr : Option Addr) (l r : T Int Sl) (pl pr : Option Addr) (w : World) (hn : NI w b k x n ql qr) (hl : IAt w pl l) (hr : IAt w pr r) (hsl : l.sz ≤ 300000) (hsr : r.sz ≤ 300000) (hno : ¬ 3 * ((l.sz : Int) + 1) < (r.sz : Int) + 1) (hh : 3 * ((r.sz : Int) + 1) < (l.sz : Int) + 1) (kr : Int) (xr : Sl) (rl rr : T Int Sl) (hbig : l = .node kr xr rl rr) (hd : 2 * ((rl.sz : Int) + 1) ≤ (rr.sz : Int) + 1) :
    Calls Try.prog 77 #[.pointer (some ⟨b, 0, none⟩), .pointer pl, .pointer pr] w fun e w' => ∃ p t, e = .returned (.pointer p) ∧ IAt w' p t ∧ t.flat = l.flat ++ (k, x) :: r.flat ∧ Below w.heap.size w w' := by
  subst hbig
  have hszb : T.sz (T.node kr xr rl rr) = rl.sz + 1 + rr.sz := rfl
  have Hbig := Lib.hid hl
  obtain ⟨br, pa, pb, rfl, hnr, hra, hrb⟩ := hl
  have hne : rr ≠ .nil := by
    rintro rfl
    simp only [T.sz] at hd
    omega
  obtain ⟨km, xm, ml, mr, rfl⟩ : ∃ km xm ml mr, rr = .node km xm ml mr := by
    cases rr with
    | nil => exact absurd rfl hne
    | node km xm ml mr => exact ⟨km, xm, ml, mr, rfl⟩
  have hszm : T.sz (T.node km xm ml mr) = ml.sz + 1 + mr.sz := rfl
  have Hmid := Lib.hid hrb
  obtain ⟨bm, pc, pd, rfl, hnm, hmc, hmd⟩ := hrb
  have Hpc := Lib.hid hmc
  have Hpd := Lib.hid hmd
  have HB := Lib.hid hnr
  have Hsp := Lib.hid hr
  have Hout := Lib.hid hra
  have HM := Lib.hid hnm
  have Hin := Hmid
  have HWs : Hid (∀ W [Bl w W], Calls Try.prog 90 #[.pointer pr] W fun e w' => e = .returned (.int .i64 ((r.sz : Int) + 1)) ∧ W = w') := Lib.hid fun W i => iweight_any r pr W (Hsp.out.below i.h) (by omega)
  have HWb : Hid (∀ W [Bl w W], Calls Try.prog 90 #[.pointer (some ⟨br, 0, none⟩)] W fun e w' => e = .returned (.int .i64 (((T.node kr xr rl (T.node km xm ml mr)).sz : Int) + 1)) ∧ W = w') := Lib.hid fun W i => iweight_any (T.node kr xr rl (T.node km xm ml mr)) (some ⟨br, 0, none⟩) W (Hbig.out.below i.h) (by omega)
  have HWi : Hid (∀ W [Bl w W], Calls Try.prog 90 #[.pointer (some ⟨bm, 0, none⟩)] W fun e w' => e = .returned (.int .i64 (((T.node km xm ml mr).sz : Int) + 1)) ∧ W = w') := Lib.hid fun W i => iweight_any (T.node km xm ml mr) (some ⟨bm, 0, none⟩) W (Hin.out.below i.h) (by omega)
  have HWo : Hid (∀ W [Bl w W], Calls Try.prog 90 #[.pointer pa] W fun e w' => e = .returned (.int .i64 ((rl.sz : Int) + 1)) ∧ W = w') := Lib.hid fun W i => iweight_any rl pa W (Hout.out.below i.h) (by omega)
  have HSS : Hid (∀ W [Bl w W], W.cell? ⟨br, 3, none⟩ = some (.pointer pa) ∧ W.cell? ⟨br, 4, none⟩ = some (.pointer (some ⟨bm, 0, none⟩)) ∧ W.cell? ⟨bm, 3, none⟩ = some (.pointer pc) ∧ W.cell? ⟨bm, 4, none⟩ = some (.pointer pd)) := Lib.hid fun W i => by
    obtain ⟨-, -, -, a1, a2⟩ := (HB.out.below i.h).cells
    obtain ⟨-, -, -, a3, a4⟩ := (HM.out.below i.h).cells
    exact ⟨a1, a2, a3, a4⟩
  have HN := Lib.hid hn
  have HO1 : Hid (∀ W [Bl w W], Calls Try.prog 91 #[.pointer (some ⟨br, 0, none⟩), .pointer pa, .pointer pc] W fun e w' => ∃ b', e = .returned (.pointer (some ⟨b', 0, none⟩)) ∧ NI w' b' kr xr ((rl.sz + 1 + ml.sz : Nat) : Int) pa pc ∧ Below W.heap.size W w') := Lib.hid fun W i => iover_any br kr xr _ _ _ rl ml pa pc W (HB.out.below i.h) (Hout.out.below i.h) (Hpc.out.below i.h) (by omega) (by omega)
  have HO2 : Hid (∀ W [Bl w W], Calls Try.prog 91 #[.pointer (some ⟨b, 0, none⟩), .pointer pd, .pointer pr] W fun e w' => ∃ b', e = .returned (.pointer (some ⟨b', 0, none⟩)) ∧ NI w' b' k x ((mr.sz + 1 + r.sz : Nat) : Int) pd pr ∧ Below W.heap.size W w') := Lib.hid fun W i => iover_any b k x _ _ _ mr r pd pr W (HN.out.below i.h) (Hpd.out.below i.h) (Hsp.out.below i.h) (by omega) (by omega)
  have HO3 : Hid (∀ W [Bl w W] b1 b2, NI W b1 kr xr ((rl.sz + 1 + ml.sz : Nat) : Int) pa pc → NI W b2 k x ((mr.sz + 1 + r.sz : Nat) : Int) pd pr → Calls Try.prog 91 #[.pointer (some ⟨bm, 0, none⟩), .pointer (some ⟨b1, 0, none⟩), .pointer (some ⟨b2, 0, none⟩)] W fun e w' => ∃ b', e = .returned (.pointer (some ⟨b', 0, none⟩)) ∧ IAt w' (some ⟨b', 0, none⟩) (.node km xm (T.node kr xr rl ml) (T.node k x mr r)) ∧ Below W.heap.size W w') := Lib.hid fun W i b1 b2 e1 e2 => by
    have g1 : IAt W (some ⟨b1, 0, none⟩) (T.node kr xr rl ml) := ⟨b1, _, _, rfl, e1, Hout.out.below i.h, Hpc.out.below i.h⟩
    have g2 : IAt W (some ⟨b2, 0, none⟩) (T.node k x mr r) := ⟨b2, _, _, rfl, e2, Hpd.out.below i.h, Hsp.out.below i.h⟩
    refine (iover_any bm km xm _ _ _ (T.node kr xr rl ml) (T.node k x mr r) _ _ W (HM.out.below i.h) g1 g2 (by simp only [T.sz]; omega) (by simp only [T.sz]; omega)).mono ?_
    rintro e w' ⟨b', rfl, h', hb'⟩
    exact ⟨b', rfl, ⟨b', _, _, rfl, h', g1.below hb', g2.below hb'⟩, hb'⟩
  have hss := HSS.out w
  obtain ⟨d0, d1, d2, d3⟩ := hss
  clear hn hnm hmc hmd hne hnr hr hra
  have hb3 : (T.node km xm ml mr).sz ≤ 300000 := by omega
  have hb4 : rl.sz ≤ 300000 := by omega
  clear hszb hszm
  generalize e1 : (T.node kr xr rl (T.node km xm ml mr)).sz = m1 at *
  generalize e2 : r.sz = m2 at *
  generalize e3 : (T.node km xm ml mr).sz = m3 at *
  generalize e4 : rl.sz = m4 at *
  clear e1 e2 e3 e4
  have yw : IntKind.i64.wrap (2 * ((m4 : Int) + 1)) = 2 * ((m4 : Int) + 1) := IntWalk.i64_in _ (by omega)
  go_enter Try.func77, Try.ntmps77
  go_wp2_with (go_at_call 90; (first
    | ((with_reducible refine (HWs.out _).mono ?_); rintro e w' ⟨rfl, rfl⟩)
    | ((with_reducible refine (HWb.out _).mono ?_); rintro e w' ⟨rfl, rfl⟩)))
  go_region_held3 (fun w' => w'.cell? ⟨br, 3, none⟩ = some (.pointer pa) ∧ w'.cell? ⟨br, 4, none⟩ = some (.pointer (some ⟨bm, 0, none⟩)) ∧ w'.cell? ⟨bm, 3, none⟩ = some (.pointer pc) ∧ w'.cell? ⟨bm, 4, none⟩ = some (.pointer pd)) (first | exact HSS.out _ | fail) (first
    | (go_at_call 90; ((with_reducible refine (HWi.out _).mono ?_); rintro e w' ⟨rfl, rfl⟩))
    | (go_at_call 90; ((with_reducible refine (HWo.out _).mono ?_); rintro e w' ⟨rfl, rfl⟩))
    | fail)
  go_wp2_with fail
  go_region_held3 (fun w' => w'.cell? ⟨br, 3, none⟩ = some (.pointer pa) ∧ w'.cell? ⟨br, 4, none⟩ = some (.pointer (some ⟨bm, 0, none⟩)) ∧ w'.cell? ⟨bm, 3, none⟩ = some (.pointer pc) ∧ w'.cell? ⟨bm, 4, none⟩ = some (.pointer pd)) (first | exact HSS.out _ | fail) (first
    | (go_at_call 91; ((with_reducible refine (HO1.out _).mono ?_); rintro e w1 ⟨b1, rfl, h1, hb1⟩; have i1 : Bl w w1 := Bl.tr inferInstance hb1; (first | have G2 := Lib.hid (H2.out.below hb1) | skip); have H1 := Lib.hid h1; clear h1 hb1))
    | (go_at_call 91; ((with_reducible refine (HO2.out _).mono ?_); rintro e w2 ⟨b2, rfl, h2, hb2⟩; have i2 : Bl w w2 := Bl.tr inferInstance hb2; (first | have G1 := Lib.hid (H1.out.below hb2) | skip); have H2 := Lib.hid h2; clear h2 hb2))
    | (go_at_call 91; ((first | (with_reducible refine (HO3.out _ _ _ G1.out H2.out).mono ?_) | (with_reducible refine (HO3.out _ _ _ H1.out G2.out).mono ?_)); rintro e w3 ⟨b3, rfl, h3, hb3⟩; have i3 : Bl w w3 := Bl.tr inferInstance hb3; have H3 := Lib.hid h3; clear h3 hb3))
    | fail)
  all_goals (go_wp2; go_ret)
  all_goals exact ⟨_, _, rfl, H3.out.keep (fun _ _ => rfl), by simp only [T.flat, List.append_assoc, List.cons_append], i3.h⟩
set_option maxHeartbeats 2000000 in
theorem ilevel_left1 (b : Nat) (k : Int) (x : Sl) (n : Int) (ql qr : Option Addr) (l r : T Int Sl) (pl pr : Option Addr) (w : World) (hn : NI w b k x n ql qr) (hl : IAt w pl l) (hr : IAt w pr r) (hsl : l.sz ≤ 300000) (hsr : r.sz ≤ 300000) (hno : ¬ 3 * ((l.sz : Int) + 1) < (r.sz : Int) + 1) (hh : 3 * ((r.sz : Int) + 1) < (l.sz : Int) + 1) (kr : Int) (xr : Sl) (rl rr : T Int Sl) (hbig : l = .node kr xr rl rr) (hd : ¬ 2 * ((rl.sz : Int) + 1) ≤ (rr.sz : Int) + 1) :
    Calls Try.prog 77 #[.pointer (some ⟨b, 0, none⟩), .pointer pl, .pointer pr] w fun e w' => ∃ p t, e = .returned (.pointer p) ∧ IAt w' p t ∧ t.flat = l.flat ++ (k, x) :: r.flat ∧ Below w.heap.size w w' := by
  subst hbig
  have hszb : T.sz (T.node kr xr rl rr) = rl.sz + 1 + rr.sz := rfl
  have Hbig := Lib.hid hl
  obtain ⟨br, pa, pb, rfl, hnr, hra, hrb⟩ := hl
  have HB := Lib.hid hnr
  have Hsp := Lib.hid hr
  have Hout := Lib.hid hra
  have Hin := Lib.hid hrb
  have HWs : Hid (∀ W [Bl w W], Calls Try.prog 90 #[.pointer pr] W fun e w' => e = .returned (.int .i64 ((r.sz : Int) + 1)) ∧ W = w') := Lib.hid fun W i => iweight_any r pr W (Hsp.out.below i.h) (by omega)
  have HWb : Hid (∀ W [Bl w W], Calls Try.prog 90 #[.pointer (some ⟨br, 0, none⟩)] W fun e w' => e = .returned (.int .i64 (((T.node kr xr rl rr).sz : Int) + 1)) ∧ W = w') := Lib.hid fun W i => iweight_any (T.node kr xr rl rr) (some ⟨br, 0, none⟩) W (Hbig.out.below i.h) (by omega)
  have HWi : Hid (∀ W [Bl w W], Calls Try.prog 90 #[.pointer pb] W fun e w' => e = .returned (.int .i64 ((rr.sz : Int) + 1)) ∧ W = w') := Lib.hid fun W i => iweight_any rr pb W (Hin.out.below i.h) (by omega)
  have HWo : Hid (∀ W [Bl w W], Calls Try.prog 90 #[.pointer pa] W fun e w' => e = .returned (.int .i64 ((rl.sz : Int) + 1)) ∧ W = w') := Lib.hid fun W i => iweight_any rl pa W (Hout.out.below i.h) (by omega)
  have HSS : Hid (∀ W [Bl w W], W.cell? ⟨br, 3, none⟩ = some (.pointer pa) ∧ W.cell? ⟨br, 4, none⟩ = some (.pointer pb)) := Lib.hid fun W i => by
    obtain ⟨-, -, -, a1, a2⟩ := (HB.out.below i.h).cells
    exact ⟨a1, a2⟩
  have HN := Lib.hid hn
  have HO1 : Hid (∀ W [Bl w W], Calls Try.prog 91 #[.pointer (some ⟨b, 0, none⟩), .pointer pb, .pointer pr] W fun e w' => ∃ b', e = .returned (.pointer (some ⟨b', 0, none⟩)) ∧ NI w' b' k x ((rr.sz + 1 + r.sz : Nat) : Int) pb pr ∧ Below W.heap.size W w') := Lib.hid fun W i => iover_any b k x _ _ _ rr r pb pr W (HN.out.below i.h) (Hin.out.below i.h) (Hsp.out.below i.h) (by omega) (by omega)
  have HO3 : Hid (∀ W [Bl w W] b1, NI W b1 k x ((rr.sz + 1 + r.sz : Nat) : Int) pb pr → Calls Try.prog 91 #[.pointer (some ⟨br, 0, none⟩), .pointer pa, .pointer (some ⟨b1, 0, none⟩)] W fun e w' => ∃ b', e = .returned (.pointer (some ⟨b', 0, none⟩)) ∧ IAt w' (some ⟨b', 0, none⟩) (.node kr xr rl (T.node k x rr r)) ∧ Below W.heap.size W w') := Lib.hid fun W i b1 e1 => by
    have g1 : IAt W (some ⟨b1, 0, none⟩) (T.node k x rr r) := ⟨b1, _, _, rfl, e1, Hin.out.below i.h, Hsp.out.below i.h⟩
    refine (iover_any br kr xr _ _ _ rl (T.node k x rr r) _ _ W (HB.out.below i.h) (Hout.out.below i.h) g1 (by omega) (by simp only [T.sz]; omega)).mono ?_
    rintro e w' ⟨b', rfl, h', hb'⟩
    exact ⟨b', rfl, ⟨b', _, _, rfl, h', (Hout.out.below i.h).below hb', g1.below hb'⟩, hb'⟩
  have hss := HSS.out w
  obtain ⟨d0, d1⟩ := hss
  clear hn hnr hr hra hrb
  have hb3 : rr.sz ≤ 300000 := by omega
  have hb4 : rl.sz ≤ 300000 := by omega
  clear hszb
  generalize e1 : (T.node kr xr rl rr).sz = m1 at *
  generalize e2 : r.sz = m2 at *
  generalize e3 : rr.sz = m3 at *
  generalize e4 : rl.sz = m4 at *
  clear e1 e2 e3 e4
  have yw : IntKind.i64.wrap (2 * ((m4 : Int) + 1)) = 2 * ((m4 : Int) + 1) := IntWalk.i64_in _ (by omega)
  go_enter Try.func77, Try.ntmps77
  go_wp2_with (go_at_call 90; (first
    | ((with_reducible refine (HWs.out _).mono ?_); rintro e w' ⟨rfl, rfl⟩)
    | ((with_reducible refine (HWb.out _).mono ?_); rintro e w' ⟨rfl, rfl⟩)))
  go_region_held3 (fun w' => w'.cell? ⟨br, 3, none⟩ = some (.pointer pa) ∧ w'.cell? ⟨br, 4, none⟩ = some (.pointer pb)) (first | exact HSS.out _ | fail) (first
    | (go_at_call 90; ((with_reducible refine (HWi.out _).mono ?_); rintro e w' ⟨rfl, rfl⟩))
    | (go_at_call 90; ((with_reducible refine (HWo.out _).mono ?_); rintro e w' ⟨rfl, rfl⟩))
    | fail)
  go_wp2_with fail
  go_region_held3 (fun w' => w'.cell? ⟨br, 3, none⟩ = some (.pointer pa) ∧ w'.cell? ⟨br, 4, none⟩ = some (.pointer pb)) (first | exact HSS.out _ | fail) (first
    | (go_at_call 91; ((with_reducible refine (HO1.out _).mono ?_); rintro e w1 ⟨b1, rfl, h1, hb1⟩; have i1 : Bl w w1 := Bl.tr inferInstance hb1; have H1 := Lib.hid h1; clear h1 hb1))
    | (go_at_call 91; ((with_reducible refine (HO3.out _ _ H1.out).mono ?_); rintro e w3 ⟨b3, rfl, h3, hb3⟩; have i3 : Bl w w3 := Bl.tr inferInstance hb3; have H3 := Lib.hid h3; clear h3 hb3))
    | fail)
  all_goals (go_wp2; go_ret)
  all_goals exact ⟨_, _, rfl, H3.out.keep (fun _ _ => rfl), by simp only [T.flat, List.append_assoc, List.cons_append], i3.h⟩
theorem ilevel_any (b : Nat) (k : Int) (x : Sl) (n : Int) (ql qr : Option Addr) (l r : T Int Sl) (pl pr : Option Addr) (w : World) (hn : NI w b k x n ql qr) (hl : IAt w pl l) (hr : IAt w pr r) (hsl : l.sz ≤ 300000) (hsr : r.sz ≤ 300000) :
    Calls Try.prog 77 #[.pointer (some ⟨b, 0, none⟩), .pointer pl, .pointer pr] w fun e w' => ∃ p t, e = .returned (.pointer p) ∧ IAt w' p t ∧ t.flat = l.flat ++ (k, x) :: r.flat ∧ Below w.heap.size w w' := by
  by_cases h1 : 3 * ((l.sz : Int) + 1) < (r.sz : Int) + 1
  · cases r with
    | nil => simp only [T.sz] at h1; omega
    | node kr xr rl rr =>
      by_cases hd : 2 * ((rr.sz : Int) + 1) ≤ (rl.sz : Int) + 1
      · exact ilevel_right2 b k x n ql qr l _ pl pr w hn hl hr hsl hsr h1 kr xr rl rr rfl hd
      · exact ilevel_right1 b k x n ql qr l _ pl pr w hn hl hr hsl hsr h1 kr xr rl rr rfl hd
  · by_cases h2 : 3 * ((r.sz : Int) + 1) < (l.sz : Int) + 1
    · cases l with
      | nil => simp only [T.sz] at h2; omega
      | node kr xr rl rr =>
        by_cases hd : 2 * ((rl.sz : Int) + 1) ≤ (rr.sz : Int) + 1
        · exact ilevel_left2 b k x n ql qr _ r pl pr w hn hl hr hsl hsr h1 h2 kr xr rl rr rfl hd
        · exact ilevel_left1 b k x n ql qr _ r pl pr w hn hl hr hsl hsr h1 h2 kr xr rl rr rfl hd
    · exact ilevel_plain b k x n ql qr l r pl pr w hn hl hr hsl hsr h1 h2
end Go.Proofs.Ytbfkgbickjfcjaa
