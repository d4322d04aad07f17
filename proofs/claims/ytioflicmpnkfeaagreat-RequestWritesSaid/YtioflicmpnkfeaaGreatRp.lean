/- The contract of Read. -/
import Derived.Test.YtioflicmpnkfeaaGreatRr
namespace Go.Proofs.YtioflicmpnkfeaaGreat
open Go.RowKit
/-- Told: fields, and an error. -/
def TellsG (w : World) (x : List Gf × Nat) (e : Ending) (w' : World) : Prop := ∃ v, e = .returned (.tuple #[v, .int .i64 (x.2 : Int)]) ∧ Og w' w.heap.size v x.1 ∧ Below w.heap.size w w'
theorem og_snoc {w1 : World} {base : Nat} {l : List Gf} {f : Gf} {v' : Value} (h : w1.ownsRow base 63 2 v' (l.length + 1) (cells2 l ++ [.int .i64 f.n, f.v.v])) : Og w1 base v' (l ++ [f]) := by
  unfold Og
  rw [cells2_append, List.length_append, List.length_singleton]
  exact h
theorem one2 {n : Int} {V : Value} (h : V.oneCell' = true) : ∀ u ∈ [Value.int .i64 n, V], u.oneCell' = true := by
  intro u hu
  rcases List.mem_cons.1 hu with rfl | hu
  · rfl
  · rcases List.mem_cons.1 hu with rfl | hu
    · exact h
    · cases hu
theorem msg_end {l : List UInt8} {acc : List Fd} (h : l = []) : msg l acc = (acc, 0) := by rw [h, msg_nil]
set_option maxRecDepth 100000 in
set_option maxHeartbeats 4000000 in
theorem pread_any (s : ByteArray) (hs : s.size ≤ 1000000) (w : World) :
    Calls Tryz.prog 58 #[.string s] w (TellsG w ((msg s.data.toList []).1.map gfd, (msg s.data.toList []).2)) := by
  obtain ⟨i0, hi, hz0, hz1, hz2⟩ := info_parts Tryz.info63
  obtain ⟨M, E, hME⟩ : ∃ M E, msg s.data.toList [] = (M, E) := ⟨_, _, rfl⟩
  have hM0 : msg (lft s 0) [] = (M, E) := hME
  rw [hME]
  clear hME
  go_enter Tryz.func58, Tryz.ntmps58
  go_wp2_with fail
  refine (new_any s w).mono ?_
  rintro e w0 ⟨rfl, rfl⟩
  have hRM := RdAt.made s w
  have hBM : Below w.heap.size w (w.alloc (.cells #[.string s, .int .i64 0, .int .i64 0] 148)) := (Below.refl _ w).alloc (Nat.le_refl _) _
  have hSM : (w.alloc (.cells #[.string s, .int .i64 0, .int .i64 0] 148)).heap.size = w.heap.size + 1 := by simp
  generalize w.alloc (.cells #[.string s, .int .i64 0, .int .i64 0] 148) = w0 at *
  have HRM := Lib.hid hRM
  have HBM := Lib.hid hBM
  have HSM := Lib.hid hSM
  have HM0 := Lib.hid hM0
  clear hRM hBM hSM hM0
  obtain ⟨B, hB⟩ : ∃ B, w.heap.size = B := ⟨_, rfl⟩
  rw [hB] at HRM HBM HSM ⊢
  go_wp2
  go_loopw [4] (fun u wr => ∃ (A : Nat) (acc : List Fd) (gs : List Gf), Hid (acc.map gfd = gs) ∧ Hid (A ≤ s.size ∧ gs.length ≤ A) ∧ Hid (RdAt wr B s (A : Int) 0) ∧ Hid (Og wr (B + 1) u gs) ∧ Hid (msg (lft s A) acc = (M, E)) ∧ Hid (Below B w wr) ∧ Hid (B < wr.heap.size)) (fun _ wr => s.size - (intOf ((wr.cell? ⟨B, 1, none⟩).getD undef)).toNat)
  case atStart => exact ⟨0, [], [], Lib.hid rfl, Lib.hid ⟨by omega, by simp⟩, HRM, Lib.hid (World.ownsRow_nil _ _ _ _), HM0, HBM, Lib.hid (by have := HSM.out; omega)⟩
  case round =>
    obtain ⟨A, acc, gs, HGS, HA, HR, HO, HM, HB, HL⟩ := hrel
    obtain ⟨ua, uc, hu⟩ := (HO.out).shape
    subst hu
    have c0 := HR.out.c0
    have c1 := HR.out.c1
    have hAs : (A : Int) ≤ (s.size : Int) := by have := HA.out.1; omega
    by_cases hlt : A < s.size
    · have hgt : 0 < (s.size : Int) - (A : Int) := by omega
      have hne : lft s A ≠ [] := fun e => by have := congrArg List.length e; rw [lft_length, List.length_nil] at this; omega
      obtain ⟨f, k, K, hx⟩ : ∃ f k K, rdf (lft s A) = (f, k, K) := ⟨_, _, _, rfl⟩
      have HF := Lib.hid (fun W hW => readField_any B s A (by omega) (by omega) W hW f k K hx)
      by_cases hK : K = 0
      · subst hK
        have RF := rdf_facts (by rw [lft_length]; omega) hx
        have hk1 := RF.pos
        have hk2 := RF.fits
        rw [lft_length] at hk2
        have hrun := HM.out
        rw [msg_ok hne hx hk1, show List.drop k (lft s A) = lft s (A + k) by rw [lft, lft, List.drop_drop]] at hrun
        have HRN := Lib.hid hrun
        have HC := Lib.hid (fun W hW => (HF.out W hW).1 rfl)
        have HA2 : Hid (A + k ≤ s.size ∧ (gs ++ [gfd f]).length ≤ A + k) := Lib.hid ⟨by omega, by have := HA.out.2; rw [List.length_append, List.length_singleton]; omega⟩
        have HAK : Hid (A < A + k) := Lib.hid (by omega)
        have hlen : gs.length ≤ 1000000 := by have := HA.out; omega
        have hgv : gv (gfd f) = .agg #[.int .i64 (gfd f).n, (gfd f).v.v] := rfl
        rw [hgv] at HC
        have hS := (gfd f).v.st
        have hone := (gfd f).v.one
        have HMF : Hid ((acc ++ [f]).map gfd = gs ++ [gfd f]) := Lib.hid (by rw [List.map_append, HGS.out]; rfl)
        have HSN := Lib.hid (fun (W : World) (v' : Value) (h : W.ownsRow (B + 1) 63 2 v' (gs.length + 1) (cells2 gs ++ [.int .i64 (gfd f).n, (gfd f).v.v])) => (og_snoc h : Og W (B + 1) v' (gs ++ [gfd f])))
        clear hrun hx HF RF hk1 hk2 hgv
        generalize gs ++ [gfd f] = gsn at *
        generalize A + k = A2 at *
        generalize (gfd f).n = n at *
        generalize (gfd f).v.v = V at *
        go_wp2_with (go_at_call 73; refine (left_any B s A _ c0 c1 (by omega) hAs (by omega)).mono ?_; rintro e wq ⟨rfl, m, rfl⟩)
        refine (HC.out _ (HR.out.drewN _)).mono ?_
        rintro e w2 ⟨rfl, hr2, hg2⟩
        have hg3 : wr.grownBy w2 (some B) := ⟨hg2.os, hg2.tape, hg2.output, hg2.size, hg2.block⟩
        have hsz : B < w2.heap.size := Nat.lt_of_lt_of_le HL.out hg2.size
        have HL2 := Lib.hid hsz
        have HR2 := Lib.hid (hr2.below ((Below.refl w2.heap.size w2).alloc (Nat.le_refl _) (.cells #[.int .i64 n, V] 63)) (Nat.le_refl _))
        have HO2 := Lib.hid (World.ownsRow.alloc (World.ownsRow.kept HO.out hg3 (by right; intro e; have := (own_lt HO.out B e).1; omega)) (.cells #[.int .i64 n, V] 63))
        have HB2 : Hid (Below B w (w2.alloc (.cells #[.int .i64 n, V] 63))) := Lib.hid ((HB.out.grown hg3 (Nat.le_of_lt HL.out) (fun g hg => by cases hg; exact Nat.le_refl _)).alloc (Nat.le_of_lt hsz) _)
        clear hr2 hg2 hg3 hsz c0 c1
        go_wp2_with (at_builtin; refine wpList_append_own_at _ rfl (.tmp 21) (.tmp 23) 41 rfl (B + 1) 63 i0 _ 2 24 Tryz.underlying41 hi hz0 hz1 hz2 (by rfl) (by decide) (.slice ua gs.length uc) gs.length (cells2 gs) rfl (World.ownsRow.alloc HO2.out _) ⟨w2.heap.size + 1, 0, none⟩ 1 1 [.int .i64 n, V] rfl rfl (cells_new21 _ _ _ _ _) (one2 hone) (by unfold maxLen; omega) (by omega) (by have := HL2.out; simp; omega) ?_; intro v' w6 hown' hgrow hnil hloc; have HON := Lib.hid (HSN.out _ _ hown'); have HB6 := Lib.hid ((HB2.out.alloc (Nat.le_trans (Nat.le_of_lt HL2.out) (by simp)) (.cells #[.int .i64 n, V] 63)).grown hgrow (by have := HL2.out; simp; omega) (fun g hg => by have := (own_lt HO2.out g hg).1; omega)); have hlt6 : B < w6.heap.size := (by have h1 := HL2.out; have h2 := hgrow.size; simp at h2; omega); have HL6 := Lib.hid hlt6; have HR6 := Lib.hid ((HR2.out.below ((Below.refl _ _).alloc (Nat.le_refl _) (.cells #[.int .i64 n, V] 63)) (Nat.le_refl _)).congr (hgrow.block B (by have := HL2.out; simp; omega) (fun e => by have := (own_lt HO2.out B e.symm).1; omega))); clear hown' hgrow hnil hloc hlt6)
        go_roundw
        case rel => exact ⟨A2, acc ++ [f], gsn, HMF, HA2, HR6, HON, HRN, HB6, HL6⟩
        case measure =>
          rw [HR6.out.c1, HR.out.c1]
          have h1 := HA2.out.1
          have h2 := HAK.out
          simp [intOf]
          omega
      · have hK2 : ((K : Int) != 0) = true := by rw [bne_iff_ne]; omega
        have h2 : (rdf (lft s A)).2.2 = K := by rw [hx]
        have hrun := HM.out
        rw [msg_no hne h2 hK] at hrun
        have HC := Lib.hid (fun W hW => (HF.out W hW).2 hK)
        have HRN := Lib.hid hrun
        clear hx HF h2 hrun hne
        go_wp2_with (go_at_call 73; refine (left_any B s A _ c0 c1 (by omega) hAs (by omega)).mono ?_; rintro e wq ⟨rfl, m, rfl⟩)
        refine (HC.out _ (HR.out.drewN _)).mono ?_
        rintro e w2 ⟨g, rfl, hg2⟩
        have hg3 : wr.grownBy w2 (some B) := ⟨hg2.os, hg2.tape, hg2.output, hg2.size, hg2.block⟩
        have hsz : B < w2.heap.size := Nat.lt_of_lt_of_le HL.out hg2.size
        have hS := g.v.st
        unfold gv
        have HB2 : Hid (Below B w (w2.alloc (.cells #[.int .i64 g.n, g.v.v] 63))) := Lib.hid ((HB.out.grown hg3 (Nat.le_of_lt HL.out) (fun g hg => by cases hg; exact Nat.le_refl _)).alloc (Nat.le_of_lt hsz) _)
        clear hg2 hg3 c0 c1
        generalize g.v.v = V at *
        generalize g.n = n at *
        go_wp2_with fail
        go_ret2
        have h3 := HRN.out
        simp only [Prod.mk.injEq] at h3
        obtain ⟨rfl, rfl⟩ := h3
        refine ⟨_, rfl, World.ownsRow_nil _ _ _ _, ?_⟩
        rw [hB]
        exact HB2.out
    · have hA3 : A = s.size := by have := HA.out.1; omega
      have hrun := HM.out
      rw [msg_end (by rw [lft, hA3]; simp)] at hrun
      simp only [Prod.mk.injEq] at hrun
      obtain ⟨rfl, rfl⟩ := hrun
      have hgt : ¬ 0 < (s.size : Int) - (A : Int) := by omega
      clear hA3
      go_wp2_with (go_at_call 73; refine (left_any B s A _ c0 c1 (by omega) hAs (by omega)).mono ?_; rintro e wq ⟨rfl, m, rfl⟩)
      go_ret2
      refine ⟨_, rfl, ?_, ?_⟩
      · rw [hB]
        dsimp only
        rw [HGS.out]
        exact Og.mono HO.out (by omega)
      · rw [hB]
        exact below_drewN HB.out _
end Go.Proofs.YtioflicmpnkfeaaGreat
