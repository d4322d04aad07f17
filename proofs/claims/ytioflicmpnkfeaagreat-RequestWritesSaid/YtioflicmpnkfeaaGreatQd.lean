/- The contracts of putParts. -/
import Derived.Test.YtioflicmpnkfeaaGreatQa
namespace Go.Proofs.YtioflicmpnkfeaaGreat
open Go Go.RowKit
set_option maxRecDepth 100000
/-- Parts as fields of a number. -/
def gpt (num : Int) (Fs : List (List Fd)) : List Gf := Fs.map fun F => ⟨num, .tx (bs (eM F))⟩
/-- Told: a part's fields. -/
def FldR (F : List Fd) (w : World) (e : Ending) (w' : World) : Prop := ∃ u, e = .returned u ∧ GAt w' u (F.map gfd) ∧ Below w.heap.size w w'
structure Parts (hf : Nat) (base : Nat) (w : World) (ps : List Pv) (Fs : List (List Fd)) : Prop where
  len : Fs.length = ps.length
  one : ∀ p ∈ ps, p.1.oneCell' = true ∧ p.2.oneCell' = true
  call : ∀ j (h : j < ps.length) (h2 : j < Fs.length) (W : World), Below base w W → Calls Tryz.prog hf #[.agg #[ps[j].1, ps[j].2]] W (FldR Fs[j] W)
  ok : ∀ F ∈ Fs, (∀ f ∈ F, f.ok) ∧ (eM F).length ≤ 1000000
theorem og_app {w1 : World} {base : Nat} {l : List Gf} {n : Int} {t : ByteArray} {v' : Value} (h : w1.ownsRow base 63 2 v' (l.length + 1) (cells2 l ++ [.int .i64 n, .iface 59 (.string t)])) : Og w1 base v' (l ++ [⟨n, .tx t⟩]) := og_snoc (f := ⟨n, .tx t⟩) h
set_option maxHeartbeats 2000000 in
theorem parts50_any (num : Int) (base : Nat) (v0 : Value) (gs : List Gf) (u : Value) (ps : List Pv) (Fs : List (List Fd)) (w : World) (ho : Og w base v0 gs) (hb : base ≤ w.heap.size) (hu : ∀ W, Below base w W → At2 W u ps) (hP : Parts 28 base w ps Fs) (hlen : gs.length + ps.length ≤ 1000000) :
    Calls Tryz.prog 27 #[v0, .int .i64 num, u, .func (.func 28) #[] #[]] w (PutR base (gs ++ gpt num Fs) w) := by
  obtain ⟨i0, hi, hz0, hz1, hz2⟩ := info_parts Tryz.info63
  have HU := Lib.hid hu
  have HPP := Lib.hid hP
  have HO0 := Lib.hid ho
  obtain ⟨ua, uc, hu2⟩ := (hu w (Below.refl _ _)).slice
  have hFL := hP.len
  generalize hL : ps.length = L at *
  have HL := Lib.hid hL
  have HFL := Lib.hid hFL
  obtain ⟨va, vc, hv⟩ := ho.shape
  subst hv
  clear hu hP ho hL hFL
  subst hu2
  go_enter Tryz.func27, Tryz.ntmps27
  go_wp2
  go_loopw [0, 13] (fun v x wr => ∃ (k : Nat) (acc : List Gf), x = .int .i64 (k : Int) ∧ k ≤ L ∧ Hid (acc = gs ++ gpt num (Fs.take k)) ∧ Hid (acc.length = gs.length + k) ∧ Hid (Og wr base v acc) ∧ Hid (Below base w wr)) (fun _ x _ => L - (intOf x).toNat)
  case atStart => exact ⟨0, gs, rfl, by omega, Lib.hid (by simp [gpt]), Lib.hid rfl, HO0, Lib.hid (Below.refl _ _)⟩
  case round =>
    obtain ⟨k, acc, rfl, hk, HA, HAL, HO, HB⟩ := hrel
    obtain ⟨wa, wc, hw⟩ := (HO.out).shape
    subst hw
    have hbs : base ≤ wr.heap.size := Nat.le_trans hb HB.out.size
    by_cases hlt : k < L
    · have hkl : k < ps.length := by have := HL.out; omega
      have hkf : k < Fs.length := by have := HFL.out; omega
      rcases HU.out wr HB.out with ⟨h0, _⟩ | ⟨g, o, c, hg, hcs⟩
      · have := HL.out; rw [h0] at this; simp at this; omega
      obtain ⟨q0, q1⟩ := hcs k hkl
      clear hcs
      have hone := HPP.out.one ps[k] (List.getElem_mem hkl)
      have hcall := HPP.out.call k hkl hkf
      have hFok := HPP.out.ok Fs[k] (List.getElem_mem hkf)
      have hacc : acc ++ [⟨num, .tx (bs (eM Fs[k]))⟩] = gs ++ gpt num (Fs.take (k + 1)) := by
        rw [HA.out, List.take_succ_eq_append_getElem hkf]
        unfold gpt
        rw [List.map_append, List.append_assoc]
        rfl
      have HAN := Lib.hid hacc
      clear hacc
      generalize ps[k] = p at *
      generalize Fs[k] = F at *
      rw [HL.out] at hg
      cases hg
      obtain ⟨p0, p1⟩ := p
      dsimp only at q0 q1 hone hcall
      have hs1 : ∀ (w : World) (a : Addr), (store a p0).run Tryz.prog w = stored Tryz.prog w a p0 .plain := fun w a => run_store Tryz.prog w a _ .plain hone.1
      have hs2 : ∀ (w : World) (a : Addr), (store a p1).run Tryz.prog w = stored Tryz.prog w a p1 .plain := fun w a => run_store Tryz.prog w a _ .plain hone.2
      have HB1 : Hid (Below base w (wr.alloc (.cells #[p0, p1] 35))) := Lib.hid (HB.out.alloc hbs _)
      have HC := Lib.hid (hcall _ HB1.out)
      have HW := Lib.hid (fun v W hv => wr_any F hFok.1 hFok.2 v W hv)
      clear hone hcall hFok
      go_wp2_with fail
      refine HC.out.mono ?_
      rintro e w2 ⟨u2, rfl, hg2, hb2⟩
      have HG2 := Lib.hid hg2
      have HB2 := Lib.hid (HB1.out.trans (hb2.mono (by simp; omega)))
      have HO2 := Lib.hid (Og.below (World.ownsRow.alloc HO.out (.cells #[p0, p1] 35)) hb2 (Nat.le_refl _))
      clear hg2 hb2
      go_wp2_with fail
      refine (HW.out _ _ HG2.out).mono ?_
      rintro e w3 ⟨rfl, hb3⟩
      have HB3 := Lib.hid (HB2.out.trans (hb3.mono (Nat.le_trans hb HB2.out.size)))
      have HO3 := Lib.hid (Og.below HO2.out hb3 (Nat.le_refl _))
      have HS3 : Hid (base ≤ w3.heap.size) := Lib.hid (Nat.le_trans hb HB3.out.size)
      clear hb3
      generalize bs (eM F) = t at *
      have hal2 : acc.length ≤ 1000000 := by have := HAL.out; omega
      go_wp2_with (at_builtin; refine wpList_append_own_at _ rfl (.tmp 17) (.tmp 25) 41 rfl base 63 i0 _ 2 24 Tryz.underlying41 hi hz0 hz1 hz2 (by rfl) (by decide) (.slice wa acc.length wc) acc.length (cells2 acc) rfl (World.ownsRow.alloc HO3.out _) ⟨w3.heap.size, 0, none⟩ 1 1 [.int .i64 num, .iface 59 (.string t)] rfl rfl (cells_new2 _ _ _ _) (one2 rfl) (by unfold maxLen; omega) (by omega) (by have := HS3.out; rw [World.size_alloc]; omega) ?_; intro v' w6 hown' hgrow hnil hloc; have HON := Lib.hid (og_app hown'); have HB6 := Lib.hid ((HB3.out.alloc HS3.out (.cells #[.int .i64 num, .iface 59 (.string t)] 63)).grown hgrow (by have := HS3.out; simp; omega) (fun g hg => (own_lt HO3.out g hg).1)); clear hown' hgrow hnil hloc)
      go_roundw
      case rel => exact ⟨k + 1, _, by go_num, by omega, HAN, Lib.hid (by have := HAL.out; simp; omega), HON, HB6⟩
      case measure => simp [intOf]; omega
    · obtain rfl : k = L := by omega
      go_wp2
      go_ret
      refine ⟨_, rfl, ?_, HB.out⟩
      have := HA.out
      rw [List.take_of_length_le (by have := HFL.out; omega)] at this
      rw [← this]
      exact HO.out
set_option maxHeartbeats 2000000 in
theorem parts49_any (num : Int) (base : Nat) (v0 : Value) (gs : List Gf) (u : Value) (ps : List Pv) (Fs : List (List Fd)) (w : World) (ho : Og w base v0 gs) (hb : base ≤ w.heap.size) (hu : ∀ W, Below base w W → At2 W u ps) (hP : Parts 29 base w ps Fs) (hlen : gs.length + ps.length ≤ 1000000) :
    Calls Tryz.prog 26 #[v0, .int .i64 num, u, .func (.func 29) #[] #[]] w (PutR base (gs ++ gpt num Fs) w) := by
  obtain ⟨i0, hi, hz0, hz1, hz2⟩ := info_parts Tryz.info63
  have HU := Lib.hid hu
  have HPP := Lib.hid hP
  have HO0 := Lib.hid ho
  obtain ⟨ua, uc, hu2⟩ := (hu w (Below.refl _ _)).slice
  have hFL := hP.len
  generalize hL : ps.length = L at *
  have HL := Lib.hid hL
  have HFL := Lib.hid hFL
  obtain ⟨va, vc, hv⟩ := ho.shape
  subst hv
  clear hu hP ho hL hFL
  subst hu2
  go_enter Tryz.func26, Tryz.ntmps26
  go_wp2
  go_loopw [0, 13] (fun v x wr => ∃ (k : Nat) (acc : List Gf), x = .int .i64 (k : Int) ∧ k ≤ L ∧ Hid (acc = gs ++ gpt num (Fs.take k)) ∧ Hid (acc.length = gs.length + k) ∧ Hid (Og wr base v acc) ∧ Hid (Below base w wr)) (fun _ x _ => L - (intOf x).toNat)
  case atStart => exact ⟨0, gs, rfl, by omega, Lib.hid (by simp [gpt]), Lib.hid rfl, HO0, Lib.hid (Below.refl _ _)⟩
  case round =>
    obtain ⟨k, acc, rfl, hk, HA, HAL, HO, HB⟩ := hrel
    obtain ⟨wa, wc, hw⟩ := (HO.out).shape
    subst hw
    have hbs : base ≤ wr.heap.size := Nat.le_trans hb HB.out.size
    by_cases hlt : k < L
    · have hkl : k < ps.length := by have := HL.out; omega
      have hkf : k < Fs.length := by have := HFL.out; omega
      rcases HU.out wr HB.out with ⟨h0, _⟩ | ⟨g, o, c, hg, hcs⟩
      · have := HL.out; rw [h0] at this; simp at this; omega
      obtain ⟨q0, q1⟩ := hcs k hkl
      clear hcs
      have hone := HPP.out.one ps[k] (List.getElem_mem hkl)
      have hcall := HPP.out.call k hkl hkf
      have hFok := HPP.out.ok Fs[k] (List.getElem_mem hkf)
      have hacc : acc ++ [⟨num, .tx (bs (eM Fs[k]))⟩] = gs ++ gpt num (Fs.take (k + 1)) := by
        rw [HA.out, List.take_succ_eq_append_getElem hkf]
        unfold gpt
        rw [List.map_append, List.append_assoc]
        rfl
      have HAN := Lib.hid hacc
      clear hacc
      generalize ps[k] = p at *
      generalize Fs[k] = F at *
      rw [HL.out] at hg
      cases hg
      obtain ⟨p0, p1⟩ := p
      dsimp only at q0 q1 hone hcall
      have hs1 : ∀ (w : World) (a : Addr), (store a p0).run Tryz.prog w = stored Tryz.prog w a p0 .plain := fun w a => run_store Tryz.prog w a _ .plain hone.1
      have hs2 : ∀ (w : World) (a : Addr), (store a p1).run Tryz.prog w = stored Tryz.prog w a p1 .plain := fun w a => run_store Tryz.prog w a _ .plain hone.2
      have HB1 : Hid (Below base w (wr.alloc (.cells #[p0, p1] 54))) := Lib.hid (HB.out.alloc hbs _)
      have HC := Lib.hid (hcall _ HB1.out)
      have HW := Lib.hid (fun v W hv => wr_any F hFok.1 hFok.2 v W hv)
      clear hone hcall hFok
      go_wp2_with fail
      refine HC.out.mono ?_
      rintro e w2 ⟨u2, rfl, hg2, hb2⟩
      have HG2 := Lib.hid hg2
      have HB2 := Lib.hid (HB1.out.trans (hb2.mono (by simp; omega)))
      have HO2 := Lib.hid (Og.below (World.ownsRow.alloc HO.out (.cells #[p0, p1] 54)) hb2 (Nat.le_refl _))
      clear hg2 hb2
      go_wp2_with fail
      refine (HW.out _ _ HG2.out).mono ?_
      rintro e w3 ⟨rfl, hb3⟩
      have HB3 := Lib.hid (HB2.out.trans (hb3.mono (Nat.le_trans hb HB2.out.size)))
      have HO3 := Lib.hid (Og.below HO2.out hb3 (Nat.le_refl _))
      have HS3 : Hid (base ≤ w3.heap.size) := Lib.hid (Nat.le_trans hb HB3.out.size)
      clear hb3
      generalize bs (eM F) = t at *
      have hal2 : acc.length ≤ 1000000 := by have := HAL.out; omega
      go_wp2_with (at_builtin; refine wpList_append_own_at _ rfl (.tmp 17) (.tmp 25) 41 rfl base 63 i0 _ 2 24 Tryz.underlying41 hi hz0 hz1 hz2 (by rfl) (by decide) (.slice wa acc.length wc) acc.length (cells2 acc) rfl (World.ownsRow.alloc HO3.out _) ⟨w3.heap.size, 0, none⟩ 1 1 [.int .i64 num, .iface 59 (.string t)] rfl rfl (cells_new2 _ _ _ _) (one2 rfl) (by unfold maxLen; omega) (by omega) (by have := HS3.out; rw [World.size_alloc]; omega) ?_; intro v' w6 hown' hgrow hnil hloc; have HON := Lib.hid (og_app hown'); have HB6 := Lib.hid ((HB3.out.alloc HS3.out (.cells #[.int .i64 num, .iface 59 (.string t)] 63)).grown hgrow (by have := HS3.out; simp; omega) (fun g hg => (own_lt HO3.out g hg).1)); clear hown' hgrow hnil hloc)
      go_roundw
      case rel => exact ⟨k + 1, _, by go_num, by omega, HAN, Lib.hid (by have := HAL.out; simp; omega), HON, HB6⟩
      case measure => simp [intOf]; omega
    · obtain rfl : k = L := by omega
      go_wp2
      go_ret
      refine ⟨_, rfl, ?_, HB.out⟩
      have := HA.out
      rw [List.take_of_length_le (by have := HFL.out; omega)] at this
      rw [← this]
      exact HO.out
set_option maxHeartbeats 2000000 in
theorem parts31_any (num : Int) (base : Nat) (v0 : Value) (gs : List Gf) (u : Value) (ps : List Pv) (Fs : List (List Fd)) (w : World) (ho : Og w base v0 gs) (hb : base ≤ w.heap.size) (hu : ∀ W, Below base w W → At2 W u ps) (hP : Parts 17 base w ps Fs) (hlen : gs.length + ps.length ≤ 1000000) :
    Calls Tryz.prog 16 #[v0, .int .i64 num, u, .func (.func 17) #[] #[]] w (PutR base (gs ++ gpt num Fs) w) := by
  obtain ⟨i0, hi, hz0, hz1, hz2⟩ := info_parts Tryz.info63
  have HU := Lib.hid hu
  have HPP := Lib.hid hP
  have HO0 := Lib.hid ho
  obtain ⟨ua, uc, hu2⟩ := (hu w (Below.refl _ _)).slice
  have hFL := hP.len
  generalize hL : ps.length = L at *
  have HL := Lib.hid hL
  have HFL := Lib.hid hFL
  obtain ⟨va, vc, hv⟩ := ho.shape
  subst hv
  clear hu hP ho hL hFL
  subst hu2
  go_enter Tryz.func16, Tryz.ntmps16
  go_wp2
  go_loopw [0, 13] (fun v x wr => ∃ (k : Nat) (acc : List Gf), x = .int .i64 (k : Int) ∧ k ≤ L ∧ Hid (acc = gs ++ gpt num (Fs.take k)) ∧ Hid (acc.length = gs.length + k) ∧ Hid (Og wr base v acc) ∧ Hid (Below base w wr)) (fun _ x _ => L - (intOf x).toNat)
  case atStart => exact ⟨0, gs, rfl, by omega, Lib.hid (by simp [gpt]), Lib.hid rfl, HO0, Lib.hid (Below.refl _ _)⟩
  case round =>
    obtain ⟨k, acc, rfl, hk, HA, HAL, HO, HB⟩ := hrel
    obtain ⟨wa, wc, hw⟩ := (HO.out).shape
    subst hw
    have hbs : base ≤ wr.heap.size := Nat.le_trans hb HB.out.size
    by_cases hlt : k < L
    · have hkl : k < ps.length := by have := HL.out; omega
      have hkf : k < Fs.length := by have := HFL.out; omega
      rcases HU.out wr HB.out with ⟨h0, _⟩ | ⟨g, o, c, hg, hcs⟩
      · have := HL.out; rw [h0] at this; simp at this; omega
      obtain ⟨q0, q1⟩ := hcs k hkl
      clear hcs
      have hone := HPP.out.one ps[k] (List.getElem_mem hkl)
      have hcall := HPP.out.call k hkl hkf
      have hFok := HPP.out.ok Fs[k] (List.getElem_mem hkf)
      have hacc : acc ++ [⟨num, .tx (bs (eM Fs[k]))⟩] = gs ++ gpt num (Fs.take (k + 1)) := by
        rw [HA.out, List.take_succ_eq_append_getElem hkf]
        unfold gpt
        rw [List.map_append, List.append_assoc]
        rfl
      have HAN := Lib.hid hacc
      clear hacc
      generalize ps[k] = p at *
      generalize Fs[k] = F at *
      rw [HL.out] at hg
      cases hg
      obtain ⟨p0, p1⟩ := p
      dsimp only at q0 q1 hone hcall
      have hs1 : ∀ (w : World) (a : Addr), (store a p0).run Tryz.prog w = stored Tryz.prog w a p0 .plain := fun w a => run_store Tryz.prog w a _ .plain hone.1
      have hs2 : ∀ (w : World) (a : Addr), (store a p1).run Tryz.prog w = stored Tryz.prog w a p1 .plain := fun w a => run_store Tryz.prog w a _ .plain hone.2
      have HB1 : Hid (Below base w (wr.alloc (.cells #[p0, p1] 29))) := Lib.hid (HB.out.alloc hbs _)
      have HC := Lib.hid (hcall _ HB1.out)
      have HW := Lib.hid (fun v W hv => wr_any F hFok.1 hFok.2 v W hv)
      clear hone hcall hFok
      go_wp2_with fail
      refine HC.out.mono ?_
      rintro e w2 ⟨u2, rfl, hg2, hb2⟩
      have HG2 := Lib.hid hg2
      have HB2 := Lib.hid (HB1.out.trans (hb2.mono (by simp; omega)))
      have HO2 := Lib.hid (Og.below (World.ownsRow.alloc HO.out (.cells #[p0, p1] 29)) hb2 (Nat.le_refl _))
      clear hg2 hb2
      go_wp2_with fail
      refine (HW.out _ _ HG2.out).mono ?_
      rintro e w3 ⟨rfl, hb3⟩
      have HB3 := Lib.hid (HB2.out.trans (hb3.mono (Nat.le_trans hb HB2.out.size)))
      have HO3 := Lib.hid (Og.below HO2.out hb3 (Nat.le_refl _))
      have HS3 : Hid (base ≤ w3.heap.size) := Lib.hid (Nat.le_trans hb HB3.out.size)
      clear hb3
      generalize bs (eM F) = t at *
      have hal2 : acc.length ≤ 1000000 := by have := HAL.out; omega
      go_wp2_with (at_builtin; refine wpList_append_own_at _ rfl (.tmp 17) (.tmp 25) 41 rfl base 63 i0 _ 2 24 Tryz.underlying41 hi hz0 hz1 hz2 (by rfl) (by decide) (.slice wa acc.length wc) acc.length (cells2 acc) rfl (World.ownsRow.alloc HO3.out _) ⟨w3.heap.size, 0, none⟩ 1 1 [.int .i64 num, .iface 59 (.string t)] rfl rfl (cells_new2 _ _ _ _) (one2 rfl) (by unfold maxLen; omega) (by omega) (by have := HS3.out; rw [World.size_alloc]; omega) ?_; intro v' w6 hown' hgrow hnil hloc; have HON := Lib.hid (og_app hown'); have HB6 := Lib.hid ((HB3.out.alloc HS3.out (.cells #[.int .i64 num, .iface 59 (.string t)] 63)).grown hgrow (by have := HS3.out; simp; omega) (fun g hg => (own_lt HO3.out g hg).1)); clear hown' hgrow hnil hloc)
      go_roundw
      case rel => exact ⟨k + 1, _, by go_num, by omega, HAN, Lib.hid (by have := HAL.out; simp; omega), HON, HB6⟩
      case measure => simp [intOf]; omega
    · obtain rfl : k = L := by omega
      go_wp2
      go_ret
      refine ⟨_, rfl, ?_, HB.out⟩
      have := HA.out
      rw [List.take_of_length_le (by have := HFL.out; omega)] at this
      rw [← this]
      exact HO.out
end Go.Proofs.YtioflicmpnkfeaaGreat
