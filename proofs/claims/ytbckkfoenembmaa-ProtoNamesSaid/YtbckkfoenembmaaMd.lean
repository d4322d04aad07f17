/- The contract of the law's made. -/
import Derived.Test.YtbckkfoenembmaaPl
namespace Go.Proofs.Ytbckkfoenembmaa
open Go.RowKit
/-- A plain field as one of the program. -/
def made1 (f : Ff) : Gf := ⟨f.n, if f.w = 0 then .va f.v else if f.w = 1 then .ei f.v else if f.w = 2 then .tx f.t else if f.w = 3 then .no else if f.w = 5 then .fo (f.v % 4294967296) else .an ((f.v % 6 : Nat) : Int)⟩
set_option maxRecDepth 100000 in
set_option maxHeartbeats 3000000 in
theorem made_any (l : List Ff) (hl : l.length ≤ 1000000) (hok : ∀ f ∈ l, f.ok) (v : Value) (w : World) (hv : FAt w v l) :
    Calls Try.prog 18 #[v] w (fun e w' => ∃ v', e = .returned v' ∧ Og w' w.heap.size v' (l.map made1) ∧ Below w.heap.size w w') := by
  obtain ⟨i0, hi, hz0, hz1, hz2⟩ := info_parts Try.info35
  have HV := Lib.hid hv
  have HOK := Lib.hid hok
  obtain ⟨va, vc, hv2⟩ := hv.slice
  clear hv hok
  generalize hL : l.length = L at *
  have HL := Lib.hid hL
  clear hL
  subst hv2
  go_enter Try.func18, Try.ntmps18
  go_wp2
  go_loopw [3, 4] (fun u i wr => ∃ (k : Nat) (gs : List Gf), i = .int .i64 (k : Int) ∧ k ≤ L ∧ gs.length = k ∧ Hid ((l.take k).map made1 = gs) ∧ Hid (Og wr w.heap.size u gs) ∧ Hid (Below w.heap.size w wr)) (fun _ i _ => L - (intOf i).toNat)
  case atStart => exact ⟨0, [], rfl, by omega, rfl, Lib.hid (by simp), Lib.hid (World.ownsRow_nil _ _ _ _), Lib.hid (Below.refl _ _)⟩
  case round =>
    obtain ⟨k, gs, rfl, hk, hgl, HGS, HO, HB⟩ := hrel
    have HGL := Lib.hid hgl
    clear hgl
    obtain ⟨ua, uc, hu⟩ := (HO.out).shape
    subst hu
    by_cases hlt : k < L
    · have hkl : k < l.length := by have := HL.out; omega
      rcases (HV.out.below HB.out (Nat.le_refl _)) with ⟨h0, _⟩ | ⟨g, og, cg, hg, hcs⟩
      · have := HL.out; rw [h0] at this; simp at this; omega
      obtain ⟨q0, q1, q2, q3⟩ := hcs k hkl
      have hglt := World.block_lt_of_cell? wr ⟨g, _, none⟩ q0
      have hfo := HOK.out l[k] (List.getElem_mem hkl)
      have HMF : Hid ((l.take (k + 1)).map made1 = gs ++ [made1 l[k]]) := Lib.hid (by
        rw [List.take_succ_eq_append_getElem hkl, List.map_append, HGS.out]
        rfl)
      clear hcs
      generalize l[k] = f at *
      obtain ⟨n, i, m, s⟩ := f
      obtain ⟨-, -, hi8, hm64, -⟩ := hfo
      dsimp only at hi8 hm64 q0 q1 q2 q3
      have Q1 : ∀ o, (wr.alloc o).cell? ⟨g, og + k * 4 + 1, none⟩ = some (.int .u8 (i : Int)) := fun o => (World.cell?_of_block (a := ⟨g, og + k * 4 + 1, none⟩) (heap_alloc_old wr o hglt)).trans q1
      have Q2 : ∀ o, (wr.alloc o).cell? ⟨g, og + k * 4 + 2, none⟩ = some (.int .u64 (m : Int)) := fun o => (World.cell?_of_block (a := ⟨g, og + k * 4 + 2, none⟩) (heap_alloc_old wr o hglt)).trans q2
      have Q3 : ∀ o, (wr.alloc o).cell? ⟨g, og + k * 4 + 3, none⟩ = some (.string s) := fun o => (World.cell?_of_block (a := ⟨g, og + k * 4 + 3, none⟩) (heap_alloc_old wr o hglt)).trans q3
      have hgl2 : gs.length ≤ 1000000 := by have := HGL.out; omega
      have HGN : Hid ((gs ++ [made1 ⟨n, i, m, s⟩]).length = k + 1) := Lib.hid (by rw [List.length_append, List.length_singleton, HGL.out])
      have HSZ : Hid (w.heap.size ≤ wr.heap.size) := Lib.hid HB.out.size
      have r1 : (m : Int).tmod 6 = ((m % 6 : Nat) : Int) := by rw [Int.tmod_eq_emod_of_nonneg (by omega)]; omega
      have r2 : (m : Int) % 6 = ((m % 6 : Nat) : Int) := by omega
      have r3 : m % 6 < 6 := by omega
      have r4 : IntKind.u32.wrap (m : Int) = ((m % 4294967296 : Nat) : Int) := by rw [IntKind.wrap_u32]; omega
      have r5 : (m : Int) % 4294967296 = ((m % 4294967296 : Nat) : Int) := by omega
      have HM1 : Hid (made1 ⟨n, i, m, s⟩ = ⟨n, if i = 0 then .va m else if i = 1 then .ei m else if i = 2 then .tx s else if i = 3 then .no else if i = 5 then .fo (m % 4294967296) else .an ((m % 6 : Nat) : Int)⟩) := Lib.hid rfl
      have HSN := Lib.hid (fun (W : World) (v' : Value) (x0 : Int) (V : Value) (h0 : (made1 ⟨n, i, m, s⟩).n = x0) (h1 : (made1 ⟨n, i, m, s⟩).v.v = V) (h : W.ownsRow w.heap.size 35 2 v' (gs.length + 1) (cells2 gs ++ [.int .i64 x0, V])) => (by rw [← h0, ← h1] at h; exact og_snoc h : Og W w.heap.size v' (gs ++ [made1 ⟨n, i, m, s⟩])))
      cases hg
      by_cases hc0 : i = 0
      · subst hc0
        clear r1 r2 r3 r4 r5
        obtain ⟨V, hV⟩ : ∃ V : Value, V = .iface 55 (.int .u64 (m : Int)) := ⟨_, rfl⟩
        have hn1 : (made1 ⟨n, 0, m, s⟩).n = n := rfl
        have hV1 : (made1 ⟨n, 0, m, s⟩).v.v = V := by rw [hV]; rfl
        have HSN2 := Lib.hid (fun W v' h => HSN.out W v' n V hn1 hV1 h)
        have hone : V.oneCell' = true := by rw [hV]; rfl
        clear hn1 hV1 HM1 HSN
        generalize made1 ⟨n, 0, m, s⟩ = gf at *
        obtain ⟨gsn, hgsn⟩ : ∃ gsn, gs ++ [gf] = gsn := ⟨_, rfl⟩
        rw [hgsn] at HMF HGN HSN2
        clear hgsn
        subst hV
        go_wp2_with (first
          | (at_builtin; refine wpList_append_own_at _ rfl (.tmp 72) (.tmp 74) 27 rfl w.heap.size 35 i0 _ 2 24 Try.underlying27 hi hz0 hz1 hz2 (by rfl) (by decide) (.slice ua gs.length uc) gs.length (cells2 gs) rfl (World.ownsRow.alloc (World.ownsRow.alloc HO.out _) _) ⟨wr.heap.size + 1, 0, none⟩ 1 1 [.int .i64 n, .iface 55 (.int .u64 (m : Int))] rfl rfl (cells_new21 _ _ _ _ _) (one2 hone) (by unfold maxLen; omega) (by omega) (by have := HSZ.out; simp; omega) ?_; intro v' w6 hown' hgrow hnil hloc; have HON := Lib.hid (HSN2.out _ _ hown'); have HB6 := Lib.hid (((HB.out.alloc HB.out.size (.cells #[.int .i64 n, .iface 55 (.int .u64 (m : Int))] 35)).alloc (by have := HSZ.out; simp; omega) (.cells #[.int .i64 n, .iface 55 (.int .u64 (m : Int))] 35)).grown hgrow (by have := HSZ.out; simp; omega) (fun g hg => (own_lt HO.out g hg).1)); clear hown' hgrow hnil hloc))
        go_roundw
        case rel => exact ⟨k + 1, gsn, by go_num, by omega, HGN.out, HMF, HON, HB6⟩
        case measure => simp [intOf]; omega
      by_cases hc1 : i = 1
      · subst hc1
        clear r1 r2 r3 r4 r5
        obtain ⟨V, hV⟩ : ∃ V : Value, V = .iface 59 (.int .u64 (m : Int)) := ⟨_, rfl⟩
        have hn1 : (made1 ⟨n, 1, m, s⟩).n = n := rfl
        have hV1 : (made1 ⟨n, 1, m, s⟩).v.v = V := by rw [hV]; rfl
        have HSN2 := Lib.hid (fun W v' h => HSN.out W v' n V hn1 hV1 h)
        have hone : V.oneCell' = true := by rw [hV]; rfl
        clear hn1 hV1 HM1 HSN
        generalize made1 ⟨n, 1, m, s⟩ = gf at *
        obtain ⟨gsn, hgsn⟩ : ∃ gsn, gs ++ [gf] = gsn := ⟨_, rfl⟩
        rw [hgsn] at HMF HGN HSN2
        clear hgsn
        subst hV
        go_wp2_with (first
          | (at_builtin; refine wpList_append_own_at _ rfl (.tmp 72) (.tmp 74) 27 rfl w.heap.size 35 i0 _ 2 24 Try.underlying27 hi hz0 hz1 hz2 (by rfl) (by decide) (.slice ua gs.length uc) gs.length (cells2 gs) rfl (World.ownsRow.alloc (World.ownsRow.alloc HO.out _) _) ⟨wr.heap.size + 1, 0, none⟩ 1 1 [.int .i64 n, .iface 59 (.int .u64 (m : Int))] rfl rfl (cells_new21 _ _ _ _ _) (one2 hone) (by unfold maxLen; omega) (by omega) (by have := HSZ.out; simp; omega) ?_; intro v' w6 hown' hgrow hnil hloc; have HON := Lib.hid (HSN2.out _ _ hown'); have HB6 := Lib.hid (((HB.out.alloc HB.out.size (.cells #[.int .i64 n, .iface 59 (.int .u64 (m : Int))] 35)).alloc (by have := HSZ.out; simp; omega) (.cells #[.int .i64 n, .iface 59 (.int .u64 (m : Int))] 35)).grown hgrow (by have := HSZ.out; simp; omega) (fun g hg => (own_lt HO.out g hg).1)); clear hown' hgrow hnil hloc))
        go_roundw
        case rel => exact ⟨k + 1, gsn, by go_num, by omega, HGN.out, HMF, HON, HB6⟩
        case measure => simp [intOf]; omega
      by_cases hc2 : i = 2
      · subst hc2
        clear r1 r2 r3 r4 r5
        obtain ⟨V, hV⟩ : ∃ V : Value, V = .iface 80 (.string s) := ⟨_, rfl⟩
        have hn1 : (made1 ⟨n, 2, m, s⟩).n = n := rfl
        have hV1 : (made1 ⟨n, 2, m, s⟩).v.v = V := by rw [hV]; rfl
        have HSN2 := Lib.hid (fun W v' h => HSN.out W v' n V hn1 hV1 h)
        have hone : V.oneCell' = true := by rw [hV]; rfl
        clear hn1 hV1 HM1 HSN
        generalize made1 ⟨n, 2, m, s⟩ = gf at *
        obtain ⟨gsn, hgsn⟩ : ∃ gsn, gs ++ [gf] = gsn := ⟨_, rfl⟩
        rw [hgsn] at HMF HGN HSN2
        clear hgsn
        subst hV
        go_wp2_with (first
          | (at_builtin; refine wpList_append_own_at _ rfl (.tmp 72) (.tmp 74) 27 rfl w.heap.size 35 i0 _ 2 24 Try.underlying27 hi hz0 hz1 hz2 (by rfl) (by decide) (.slice ua gs.length uc) gs.length (cells2 gs) rfl (World.ownsRow.alloc (World.ownsRow.alloc HO.out _) _) ⟨wr.heap.size + 1, 0, none⟩ 1 1 [.int .i64 n, .iface 80 (.string s)] rfl rfl (cells_new21 _ _ _ _ _) (one2 hone) (by unfold maxLen; omega) (by omega) (by have := HSZ.out; simp; omega) ?_; intro v' w6 hown' hgrow hnil hloc; have HON := Lib.hid (HSN2.out _ _ hown'); have HB6 := Lib.hid (((HB.out.alloc HB.out.size (.cells #[.int .i64 n, .iface 80 (.string s)] 35)).alloc (by have := HSZ.out; simp; omega) (.cells #[.int .i64 n, .iface 80 (.string s)] 35)).grown hgrow (by have := HSZ.out; simp; omega) (fun g hg => (own_lt HO.out g hg).1)); clear hown' hgrow hnil hloc))
        go_roundw
        case rel => exact ⟨k + 1, gsn, by go_num, by omega, HGN.out, HMF, HON, HB6⟩
        case measure => simp [intOf]; omega
      by_cases hc3 : i = 3
      · subst hc3
        clear r1 r2 r3 r4 r5
        obtain ⟨V, hV⟩ : ∃ V : Value, V = .nilIface := ⟨_, rfl⟩
        have hn1 : (made1 ⟨n, 3, m, s⟩).n = n := rfl
        have hV1 : (made1 ⟨n, 3, m, s⟩).v.v = V := by rw [hV]; rfl
        have HSN2 := Lib.hid (fun W v' h => HSN.out W v' n V hn1 hV1 h)
        have hone : V.oneCell' = true := by rw [hV]; rfl
        clear hn1 hV1 HM1 HSN
        generalize made1 ⟨n, 3, m, s⟩ = gf at *
        obtain ⟨gsn, hgsn⟩ : ∃ gsn, gs ++ [gf] = gsn := ⟨_, rfl⟩
        rw [hgsn] at HMF HGN HSN2
        clear hgsn
        subst hV
        go_wp2_with (first
          | (at_builtin; refine wpList_append_own_at _ rfl (.tmp 72) (.tmp 74) 27 rfl w.heap.size 35 i0 _ 2 24 Try.underlying27 hi hz0 hz1 hz2 (by rfl) (by decide) (.slice ua gs.length uc) gs.length (cells2 gs) rfl (World.ownsRow.alloc (World.ownsRow.alloc HO.out _) _) ⟨wr.heap.size + 1, 0, none⟩ 1 1 [.int .i64 n, .nilIface] rfl rfl (cells_new21 _ _ _ _ _) (one2 hone) (by unfold maxLen; omega) (by omega) (by have := HSZ.out; simp; omega) ?_; intro v' w6 hown' hgrow hnil hloc; have HON := Lib.hid (HSN2.out _ _ hown'); have HB6 := Lib.hid (((HB.out.alloc HB.out.size (.cells #[.int .i64 n, .nilIface] 35)).alloc (by have := HSZ.out; simp; omega) (.cells #[.int .i64 n, .nilIface] 35)).grown hgrow (by have := HSZ.out; simp; omega) (fun g hg => (own_lt HO.out g hg).1)); clear hown' hgrow hnil hloc))
        go_roundw
        case rel => exact ⟨k + 1, gsn, by go_num, by omega, HGN.out, HMF, HON, HB6⟩
        case measure => simp [intOf]; omega
      by_cases hc5 : i = 5
      · subst hc5
        clear r1 r2 r3
        obtain ⟨V, hV⟩ : ∃ V : Value, V = .iface 64 (.int .u32 ((m % 4294967296 : Nat) : Int)) := ⟨_, rfl⟩
        have hn1 : (made1 ⟨n, 5, m, s⟩).n = n := rfl
        have hV1 : (made1 ⟨n, 5, m, s⟩).v.v = V := by rw [hV]; rfl
        have HSN2 := Lib.hid (fun W v' h => HSN.out W v' n V hn1 hV1 h)
        have hone : V.oneCell' = true := by rw [hV]; rfl
        clear hn1 hV1 HM1 HSN
        generalize made1 ⟨n, 5, m, s⟩ = gf at *
        obtain ⟨gsn, hgsn⟩ : ∃ gsn, gs ++ [gf] = gsn := ⟨_, rfl⟩
        rw [hgsn] at HMF HGN HSN2
        clear hgsn
        subst hV
        generalize ((m % 4294967296 : Nat) : Int) = M at *
        go_wp2_with (first
          | (at_builtin; refine wpList_append_own_at _ rfl (.tmp 72) (.tmp 74) 27 rfl w.heap.size 35 i0 _ 2 24 Try.underlying27 hi hz0 hz1 hz2 (by rfl) (by decide) (.slice ua gs.length uc) gs.length (cells2 gs) rfl (World.ownsRow.alloc (World.ownsRow.alloc HO.out _) _) ⟨wr.heap.size + 1, 0, none⟩ 1 1 [.int .i64 n, .iface 64 (.int .u32 M)] rfl rfl (cells_new21 _ _ _ _ _) (one2 hone) (by unfold maxLen; omega) (by omega) (by have := HSZ.out; simp; omega) ?_; intro v' w6 hown' hgrow hnil hloc; have HON := Lib.hid (HSN2.out _ _ hown'); have HB6 := Lib.hid (((HB.out.alloc HB.out.size (.cells #[.int .i64 n, .iface 64 (.int .u32 M)] 35)).alloc (by have := HSZ.out; simp; omega) (.cells #[.int .i64 n, .iface 64 (.int .u32 M)] 35)).grown hgrow (by have := HSZ.out; simp; omega) (fun g hg => (own_lt HO.out g hg).1)); clear hown' hgrow hnil hloc))
        go_roundw
        case rel => exact ⟨k + 1, gsn, by go_num, by omega, HGN.out, HMF, HON, HB6⟩
        case measure => simp [intOf]; omega
      · have e0 : ((i : Int) == 0) = false := by rw [beq_eq_false_iff_ne]; omega
        have e1 : ((i : Int) == 1) = false := by rw [beq_eq_false_iff_ne]; omega
        have e2 : ((i : Int) == 2) = false := by rw [beq_eq_false_iff_ne]; omega
        have e3 : ((i : Int) == 3) = false := by rw [beq_eq_false_iff_ne]; omega
        have e5 : ((i : Int) == 5) = false := by rw [beq_eq_false_iff_ne]; omega
        clear r4 r5
        obtain ⟨V, hV⟩ : ∃ V : Value, V = .iface 83 (.agg #[.int .u8 ((m % 6 : Nat) : Int)]) := ⟨_, rfl⟩
        have hn1 : (made1 ⟨n, i, m, s⟩).n = n := rfl
        have hV1 : (made1 ⟨n, i, m, s⟩).v.v = V := by rw [hV, HM1.out, if_neg hc0, if_neg hc1, if_neg hc2, if_neg hc3, if_neg hc5]; rfl
        have HSN2 := Lib.hid (fun W v' h => HSN.out W v' n V hn1 hV1 h)
        have hone : V.oneCell' = true := by rw [hV]; rfl
        clear hn1 hV1 HM1 HSN
        generalize made1 ⟨n, i, m, s⟩ = gf at *
        obtain ⟨gsn, hgsn⟩ : ∃ gsn, gs ++ [gf] = gsn := ⟨_, rfl⟩
        rw [hgsn] at HMF HGN HSN2
        clear hgsn
        subst hV
        generalize (m % 6 : Nat) = M at *
        go_wp2_with (first
          | (at_builtin; refine wpList_append_own_at _ rfl (.tmp 72) (.tmp 74) 27 rfl w.heap.size 35 i0 _ 2 24 Try.underlying27 hi hz0 hz1 hz2 (by rfl) (by decide) (.slice ua gs.length uc) gs.length (cells2 gs) rfl (World.ownsRow.alloc (World.ownsRow.alloc HO.out _) _) ⟨wr.heap.size + 1, 0, none⟩ 1 1 [.int .i64 n, .iface 83 (.agg #[.int .u8 (M : Int)])] rfl rfl (cells_new21 _ _ _ _ _) (one2 hone) (by unfold maxLen; omega) (by omega) (by have := HSZ.out; simp; omega) ?_; intro v' w6 hown' hgrow hnil hloc; have HON := Lib.hid (HSN2.out _ _ hown'); have HB6 := Lib.hid (((HB.out.alloc HB.out.size (.cells #[.int .i64 n, .iface 83 (.agg #[.int .u8 (M : Int)])] 35)).alloc (by have := HSZ.out; simp; omega) (.cells #[.int .i64 n, .iface 83 (.agg #[.int .u8 (M : Int)])] 35)).grown hgrow (by have := HSZ.out; simp; omega) (fun g hg => (own_lt HO.out g hg).1)); clear hown' hgrow hnil hloc))
        go_roundw
        case rel => exact ⟨k + 1, gsn, by go_num, by omega, HGN.out, HMF, HON, HB6⟩
        case measure => simp [intOf]; omega
    · obtain rfl : k = L := by omega
      have hr : Hid (l.map made1 = gs) := Lib.hid (by
        have := HGS.out
        rw [List.take_of_length_le (by have := HL.out; omega)] at this
        exact this)
      go_wp2
      go_ret
      refine ⟨_, rfl, ?_, HB.out⟩
      rw [hr.out]
      exact HO.out
end Go.Proofs.Ytbckkfoenembmaa
