/- The contract of the document's Plain. -/
import Derived.Test.YtbckkfoenembmaaMd
import Derived.Deep.RegionWith
namespace Go.Proofs.Ytbckkfoenembmaa
open Go.RowKit
/-- A plain field, of which all else is struck. -/
def strip (f : Ff) : Ff := plain1 (made1 f)
set_option maxRecDepth 100000 in
set_option maxHeartbeats 3000000 in
theorem strip_any (l : List Ff) (hl : l.length ≤ 1000000) (hok : ∀ f ∈ l, f.ok) (v : Value) (w : World) (hv : FAt w v l) :
    Calls Try.prog 21 #[v] w (fun e w' => ∃ v', e = .returned v' ∧ Of w' w.heap.size v' (l.map strip) ∧ Below w.heap.size w w') := by
  obtain ⟨i0, hi, hz0, hz1, hz2⟩ := info_parts Try.info47
  have HV := Lib.hid hv
  have HOK := Lib.hid hok
  obtain ⟨va, vc, hv2⟩ := hv.slice
  clear hv hok
  generalize hL : l.length = L at *
  have HL := Lib.hid hL
  clear hL
  subst hv2
  go_enter Try.func21, Try.ntmps21
  go_wp2
  go_loopw [3, 4] (fun u i wr => ∃ (k : Nat) (gs : List Ff), i = .int .i64 (k : Int) ∧ k ≤ L ∧ gs.length = k ∧ Hid ((l.take k).map strip = gs) ∧ Hid (Of wr w.heap.size u gs) ∧ Hid (Below w.heap.size w wr)) (fun _ i _ => L - (intOf i).toNat)
  case atStart => exact ⟨0, [], rfl, by omega, rfl, Lib.hid (by simp), Lib.hid (World.ownsRow_nil _ _ _ _), Lib.hid (Below.refl _ _)⟩
  case round =>
    obtain ⟨k, gs, rfl, hk, hgl, HGS, HO, HB⟩ := hrel
    have HGL := Lib.hid hgl
    clear hgl
    obtain ⟨ua, uc, hu⟩ := (HO.out).shape
    subst hu
    by_cases hlt : k < L
    · have hkl : k < l.length := by have := HL.out; omega
      rcases (HV.out.below HB.out (Nat.le_refl _)) with ⟨h0, _⟩ | ⟨g, og, cg, hg, hcs⟩
      · have := HL.out; rw [h0] at this; simp at this; omega
      obtain ⟨q0, q1, q2, q3⟩ := hcs k hkl
      have hglt := World.block_lt_of_cell? wr ⟨g, _, none⟩ q0
      have hfo := HOK.out l[k] (List.getElem_mem hkl)
      have HMF : Hid ((l.take (k + 1)).map strip = gs ++ [strip l[k]]) := Lib.hid (by
        rw [List.take_succ_eq_append_getElem hkl, List.map_append, HGS.out]
        rfl)
      clear hcs
      generalize l[k] = f at *
      obtain ⟨n, i, m, s⟩ := f
      obtain ⟨-, -, hi8, hm64, -⟩ := hfo
      dsimp only at hi8 hm64 q0 q1 q2 q3
      have Q0 : ∀ d o, ((wr.drewN d).alloc o).cell? ⟨g, og + k * 4, none⟩ = some (.int .i64 n) := fun d o => (World.cell?_of_block (a := ⟨g, og + k * 4, none⟩) (heap_alloc_old (wr.drewN d) o hglt)).trans q0
      have Q1 : ∀ d o, ((wr.drewN d).alloc o).cell? ⟨g, og + k * 4 + 1, none⟩ = some (.int .u8 (i : Int)) := fun d o => (World.cell?_of_block (a := ⟨g, og + k * 4 + 1, none⟩) (heap_alloc_old (wr.drewN d) o hglt)).trans q1
      have Q2 : ∀ d o, ((wr.drewN d).alloc o).cell? ⟨g, og + k * 4 + 2, none⟩ = some (.int .u64 (m : Int)) := fun d o => (World.cell?_of_block (a := ⟨g, og + k * 4 + 2, none⟩) (heap_alloc_old (wr.drewN d) o hglt)).trans q2
      have Q3 : ∀ d o, ((wr.drewN d).alloc o).cell? ⟨g, og + k * 4 + 3, none⟩ = some (.string s) := fun d o => (World.cell?_of_block (a := ⟨g, og + k * 4 + 3, none⟩) (heap_alloc_old (wr.drewN d) o hglt)).trans q3
      have P1 : ∀ o, (wr.alloc o).cell? ⟨g, og + k * 4 + 1, none⟩ = some (.int .u8 (i : Int)) := fun o => Q1 0 o
      have P2 : ∀ o, (wr.alloc o).cell? ⟨g, og + k * 4 + 2, none⟩ = some (.int .u64 (m : Int)) := fun o => Q2 0 o
      have P3 : ∀ o, (wr.alloc o).cell? ⟨g, og + k * 4 + 3, none⟩ = some (.string s) := fun o => Q3 0 o
      have hgl2 : gs.length ≤ 1000000 := by have := HGL.out; omega
      have HSZ : Hid (w.heap.size ≤ wr.heap.size) := Lib.hid HB.out.size
      have r4 : (m : Int).tmod 4294967296 = ((m % 4294967296 : Nat) : Int) := by rw [Int.tmod_eq_emod_of_nonneg (by omega)]; omega
      have r5 : (m : Int) % 4294967296 = ((m % 4294967296 : Nat) : Int) := by omega
      have HGN : Hid ((gs ++ [strip ⟨n, i, m, s⟩]).length = k + 1) := Lib.hid (by rw [List.length_append, List.length_singleton, HGL.out])
      have HSN := Lib.hid (fun (W : World) (v' : Value) (x0 x1 x2 : Int) (x3 : ByteArray) (h0 : fv (strip ⟨n, i, m, s⟩) = .agg #[.int .i64 x0, .int .u8 x1, .int .u64 x2, .string x3]) (h : W.ownsRow w.heap.size 47 4 v' (gs.length + 1) (cells4 gs ++ [.int .i64 x0, .int .u8 x1, .int .u64 x2, .string x3])) => (of_snoc h0 h : Of W w.heap.size v' (gs ++ [strip ⟨n, i, m, s⟩])))
      have HOT : Hid (i ≠ 0 → i ≠ 1 → i ≠ 2 → i ≠ 5 → fv (strip ⟨n, i, m, s⟩) = .agg #[.int .i64 n, .int .u8 9, .int .u64 0, .string ⟨#[]⟩]) := Lib.hid (fun e0 e1 e2 e5 => by
        unfold strip made1
        dsimp only
        rw [if_neg e0, if_neg e1, if_neg e2, if_neg e5]
        by_cases e3 : i = 3
        · rw [if_pos e3]; rfl
        · rw [if_neg e3]; rfl)
      cases hg
      go_wp2_with fail
      go_region_with (fail)
      all_goals
        by_cases hc0 : i = 0
        · subst hc0
          clear r4 r5
          have HSN2 := Lib.hid (fun W v' h => HSN.out W v' n 0 (m : Int) (⟨#[]⟩) (rfl) h)
          clear HSN HOT
          obtain ⟨gsn, hgsn⟩ : ∃ gsn, gs ++ [strip ⟨n, 0, m, s⟩] = gsn := ⟨_, rfl⟩
          rw [hgsn] at HMF HGN HSN2
          clear hgsn
          go_wp2_with (at_builtin; refine wpList_append_own_at _ rfl (.tmp 52) (.tmp 54) 23 rfl w.heap.size 47 i0 _ 4 40 Try.underlying23 hi hz0 hz1 hz2 (by rfl) (by decide) (.slice ua gs.length uc) gs.length (cells4 gs) rfl (World.ownsRow.drew (World.ownsRow.alloc (World.ownsRow.alloc HO.out _) _)) ⟨wr.heap.size + 1, 0, none⟩ 1 1 [.int .i64 n, .int .u8 0, .int .u64 (m : Int), .string ⟨#[]⟩] rfl rfl (fun j u h => cells_new41 wr _ _ _ _ _ _ j u h) one4 (by unfold maxLen; omega) (by omega) (by have := HSZ.out; simp; omega) ?_; intro v' w6 hown' hgrow hnil hloc; have HON := Lib.hid (HSN2.out _ _ hown'); have HB6 := Lib.hid ((((HB.out.alloc HB.out.size (.cells #[.int .i64 n, .int .u8 0, .int .u64 (m : Int), .string ⟨#[]⟩] 47)).alloc (by have := HSZ.out; simp; omega) (.cells #[.int .i64 n, .int .u8 0, .int .u64 (m : Int), .string ⟨#[]⟩] 47)).drew).grown hgrow (by have := HSZ.out; simp; omega) (fun g hg => (own_lt HO.out g hg).1)); clear hown' hgrow hnil hloc)
          go_roundw
          case rel => exact ⟨k + 1, gsn, by go_num, by omega, HGN.out, HMF, HON, HB6⟩
          case measure => simp [intOf]; omega
        by_cases hc1 : i = 1
        · subst hc1
          clear r4 r5
          have HSN2 := Lib.hid (fun W v' h => HSN.out W v' n 1 (m : Int) (⟨#[]⟩) (rfl) h)
          clear HSN HOT
          obtain ⟨gsn, hgsn⟩ : ∃ gsn, gs ++ [strip ⟨n, 1, m, s⟩] = gsn := ⟨_, rfl⟩
          rw [hgsn] at HMF HGN HSN2
          clear hgsn
          go_wp2_with (at_builtin; refine wpList_append_own_at _ rfl (.tmp 52) (.tmp 54) 23 rfl w.heap.size 47 i0 _ 4 40 Try.underlying23 hi hz0 hz1 hz2 (by rfl) (by decide) (.slice ua gs.length uc) gs.length (cells4 gs) rfl (World.ownsRow.drew (World.ownsRow.alloc (World.ownsRow.alloc HO.out _) _)) ⟨wr.heap.size + 1, 0, none⟩ 1 1 [.int .i64 n, .int .u8 1, .int .u64 (m : Int), .string ⟨#[]⟩] rfl rfl (fun j u h => cells_new41 wr _ _ _ _ _ _ j u h) one4 (by unfold maxLen; omega) (by omega) (by have := HSZ.out; simp; omega) ?_; intro v' w6 hown' hgrow hnil hloc; have HON := Lib.hid (HSN2.out _ _ hown'); have HB6 := Lib.hid ((((HB.out.alloc HB.out.size (.cells #[.int .i64 n, .int .u8 1, .int .u64 (m : Int), .string ⟨#[]⟩] 47)).alloc (by have := HSZ.out; simp; omega) (.cells #[.int .i64 n, .int .u8 1, .int .u64 (m : Int), .string ⟨#[]⟩] 47)).drew).grown hgrow (by have := HSZ.out; simp; omega) (fun g hg => (own_lt HO.out g hg).1)); clear hown' hgrow hnil hloc)
          go_roundw
          case rel => exact ⟨k + 1, gsn, by go_num, by omega, HGN.out, HMF, HON, HB6⟩
          case measure => simp [intOf]; omega
        by_cases hc2 : i = 2
        · subst hc2
          clear r4 r5
          have HSN2 := Lib.hid (fun W v' h => HSN.out W v' n 2 0 (s) (rfl) h)
          clear HSN HOT
          obtain ⟨gsn, hgsn⟩ : ∃ gsn, gs ++ [strip ⟨n, 2, m, s⟩] = gsn := ⟨_, rfl⟩
          rw [hgsn] at HMF HGN HSN2
          clear hgsn
          go_wp2_with (at_builtin; refine wpList_append_own_at _ rfl (.tmp 52) (.tmp 54) 23 rfl w.heap.size 47 i0 _ 4 40 Try.underlying23 hi hz0 hz1 hz2 (by rfl) (by decide) (.slice ua gs.length uc) gs.length (cells4 gs) rfl (World.ownsRow.drew (World.ownsRow.alloc (World.ownsRow.alloc HO.out _) _)) ⟨wr.heap.size + 1, 0, none⟩ 1 1 [.int .i64 n, .int .u8 2, .int .u64 0, .string s] rfl rfl (fun j u h => cells_new41 wr _ _ _ _ _ _ j u h) one4 (by unfold maxLen; omega) (by omega) (by have := HSZ.out; simp; omega) ?_; intro v' w6 hown' hgrow hnil hloc; have HON := Lib.hid (HSN2.out _ _ hown'); have HB6 := Lib.hid ((((HB.out.alloc HB.out.size (.cells #[.int .i64 n, .int .u8 2, .int .u64 0, .string s] 47)).alloc (by have := HSZ.out; simp; omega) (.cells #[.int .i64 n, .int .u8 2, .int .u64 0, .string s] 47)).drew).grown hgrow (by have := HSZ.out; simp; omega) (fun g hg => (own_lt HO.out g hg).1)); clear hown' hgrow hnil hloc)
          go_roundw
          case rel => exact ⟨k + 1, gsn, by go_num, by omega, HGN.out, HMF, HON, HB6⟩
          case measure => simp [intOf]; omega
        by_cases hc5 : i = 5
        · subst hc5
          have HSN2 := Lib.hid (fun W v' h => HSN.out W v' n 5 ((m % 4294967296 : Nat) : Int) (⟨#[]⟩) (rfl) h)
          clear HSN HOT
          obtain ⟨gsn, hgsn⟩ : ∃ gsn, gs ++ [strip ⟨n, 5, m, s⟩] = gsn := ⟨_, rfl⟩
          rw [hgsn] at HMF HGN HSN2
          clear hgsn
          generalize ((m % 4294967296 : Nat) : Int) = M at *
          go_wp2_with (at_builtin; refine wpList_append_own_at _ rfl (.tmp 52) (.tmp 54) 23 rfl w.heap.size 47 i0 _ 4 40 Try.underlying23 hi hz0 hz1 hz2 (by rfl) (by decide) (.slice ua gs.length uc) gs.length (cells4 gs) rfl (World.ownsRow.drew (World.ownsRow.alloc (World.ownsRow.alloc HO.out _) _)) ⟨wr.heap.size + 1, 0, none⟩ 1 1 [.int .i64 n, .int .u8 5, .int .u64 M, .string ⟨#[]⟩] rfl rfl (fun j u h => cells_new41 wr _ _ _ _ _ _ j u h) one4 (by unfold maxLen; omega) (by omega) (by have := HSZ.out; simp; omega) ?_; intro v' w6 hown' hgrow hnil hloc; have HON := Lib.hid (HSN2.out _ _ hown'); have HB6 := Lib.hid ((((HB.out.alloc HB.out.size (.cells #[.int .i64 n, .int .u8 5, .int .u64 M, .string ⟨#[]⟩] 47)).alloc (by have := HSZ.out; simp; omega) (.cells #[.int .i64 n, .int .u8 5, .int .u64 M, .string ⟨#[]⟩] 47)).drew).grown hgrow (by have := HSZ.out; simp; omega) (fun g hg => (own_lt HO.out g hg).1)); clear hown' hgrow hnil hloc)
          go_roundw
          case rel => exact ⟨k + 1, gsn, by go_num, by omega, HGN.out, HMF, HON, HB6⟩
          case measure => simp [intOf]; omega
        · have e0 : ((i : Int) == 0) = false := by rw [beq_eq_false_iff_ne]; omega
          have e1 : ((i : Int) == 1) = false := by rw [beq_eq_false_iff_ne]; omega
          have e2 : ((i : Int) == 2) = false := by rw [beq_eq_false_iff_ne]; omega
          have e5 : ((i : Int) == 5) = false := by rw [beq_eq_false_iff_ne]; omega
          clear r4 r5
          have HSN2 := Lib.hid (fun W v' h => HSN.out W v' n 9 0 (⟨#[]⟩) (HOT.out hc0 hc1 hc2 hc5) h)
          clear HSN HOT
          obtain ⟨gsn, hgsn⟩ : ∃ gsn, gs ++ [strip ⟨n, i, m, s⟩] = gsn := ⟨_, rfl⟩
          rw [hgsn] at HMF HGN HSN2
          clear hgsn
          go_wp2_with (at_builtin; refine wpList_append_own_at _ rfl (.tmp 52) (.tmp 54) 23 rfl w.heap.size 47 i0 _ 4 40 Try.underlying23 hi hz0 hz1 hz2 (by rfl) (by decide) (.slice ua gs.length uc) gs.length (cells4 gs) rfl (World.ownsRow.drew (World.ownsRow.alloc (World.ownsRow.alloc HO.out _) _)) ⟨wr.heap.size + 1, 0, none⟩ 1 1 [.int .i64 n, .int .u8 9, .int .u64 0, .string ⟨#[]⟩] rfl rfl (fun j u h => cells_new41 wr _ _ _ _ _ _ j u h) one4 (by unfold maxLen; omega) (by omega) (by have := HSZ.out; simp; omega) ?_; intro v' w6 hown' hgrow hnil hloc; have HON := Lib.hid (HSN2.out _ _ hown'); have HB6 := Lib.hid ((((HB.out.alloc HB.out.size (.cells #[.int .i64 n, .int .u8 9, .int .u64 0, .string ⟨#[]⟩] 47)).alloc (by have := HSZ.out; simp; omega) (.cells #[.int .i64 n, .int .u8 9, .int .u64 0, .string ⟨#[]⟩] 47)).drew).grown hgrow (by have := HSZ.out; simp; omega) (fun g hg => (own_lt HO.out g hg).1)); clear hown' hgrow hnil hloc)
          go_roundw
          case rel => exact ⟨k + 1, gsn, by go_num, by omega, HGN.out, HMF, HON, HB6⟩
          case measure => simp [intOf]; omega
    · obtain rfl : k = L := by omega
      have hr : Hid (l.map strip = gs) := Lib.hid (by
        have := HGS.out
        rw [List.take_of_length_le (by have := HL.out; omega)] at this
        exact this)
      go_wp2
      go_ret
      refine ⟨_, rfl, ?_, HB.out⟩
      rw [hr.out]
      exact HO.out
end Go.Proofs.Ytbckkfoenembmaa
