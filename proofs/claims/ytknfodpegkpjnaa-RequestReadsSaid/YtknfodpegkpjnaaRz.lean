/- The document's label, sample, One, Decode; 'spoil'. -/
import Derived.Test.YtknfodpegkpjnaaSd
import Derived.Maps.AppendAt
import Derived.Test.YtknfodpegkpjnaaEa
namespace Go.Proofs.Ytknfodpegkpjnaa
open Go Go.RowKit
set_option maxRecDepth 100000
theorem Box2.set0 {W : World} {B : Nat} {t : TypeId} {x y : Value} (h : Box2 W B t x y) (a : Value) : Box2 (W.setCell ⟨B, 0, none⟩ a) B t a y := by
  unfold Box2 at *
  simp [World.setCell, Array.getElem?_modify, h]
theorem Box2.set1 {W : World} {B : Nat} {t : TypeId} {x y : Value} (h : Box2 W B t x y) (a : Value) : Box2 (W.setCell ⟨B, 1, none⟩ a) B t x a := by
  unfold Box2 at *
  simp [World.setCell, Array.getElem?_modify, h]
theorem FAt.keep {W : World} {v : Value} {l : List Ff} {B j : Nat} (h : FAt W v l) (hB : v.ownBlock ≠ some B) (u : Value) : FAt (W.setCell ⟨B, j, none⟩ u) v l := h.same fun g _ e => by
  have : g ≠ B := fun e2 => hB (by rw [e, e2])
  rw [Below.heap_setCell _ _ _ _ (by simpa using this)]
set_option maxHeartbeats 1000000 in
theorem rlab_any (s : ByteArray) (hs : s.size ≤ 1000000) (w : World) :
    Calls Try.prog 46 #[.string s] w (Ret w (.tuple #[.agg #[.string (rLb s.data.toList).1.n, .string (rLb s.data.toList).1.v], .int .i64 ((rLb s.data.toList).2 : Int)])) := by
  have HR := Lib.hid (fun W => rread_any s hs W)
  have hfl := fun (h : (msg s.data.toList []).2 = 0) => (msg_ok' (s := s.data.toList) (by simpa using hs) (show msg s.data.toList [] = ((msg s.data.toList []).1, 0) by rw [← h])).2
  unfold rLb
  obtain ⟨fs, K, hm⟩ : ∃ fs K, msg s.data.toList [] = (fs, K) := ⟨_, _, rfl⟩
  rw [hm] at HR hfl ⊢
  dsimp only at HR hfl ⊢
  rw [show s.data.toList.length = s.size by simp] at hfl
  have HA : Hid (Below w.heap.size w ((w.alloc (.cells #[.string ⟨#[]⟩, .string ⟨#[]⟩] 33)).alloc (.cells #[.string ⟨#[]⟩, .string ⟨#[]⟩] 33))) := Lib.hid (below_two _ _ _)
  have HX : Hid (Box2 ((w.alloc (.cells #[.string ⟨#[]⟩, .string ⟨#[]⟩] 33)).alloc (.cells #[.string ⟨#[]⟩, .string ⟨#[]⟩] 33)) w.heap.size 33 (.string ⟨#[]⟩) (.string ⟨#[]⟩)) := Lib.hid (heap_alloc2_old w _ _)
  have HY : Hid (Box2 ((w.alloc (.cells #[.string ⟨#[]⟩, .string ⟨#[]⟩] 33)).alloc (.cells #[.string ⟨#[]⟩, .string ⟨#[]⟩] 33)) (w.heap.size + 1) 33 (.string ⟨#[]⟩) (.string ⟨#[]⟩)) := Lib.hid (two_at w _ _)
  clear hm
  by_cases hK : K = 0
  · subst hK
    rw [if_neg (by simp)]
    have hfl2 : fs.length ≤ 1000000 := by have := hfl rfl; omega
    obtain ⟨R, hR⟩ : ∃ R, gLb fs lb0 = R := ⟨_, rfl⟩
    rw [hR]
    have HG := Lib.hid hR
    clear hfl hR
    go_enter Try.func46, Try.ntmps46
    go_wp2_with fail
    refine (HR.out _).mono ?_
    rintro e w2 ⟨u, rfl, ho, hb⟩
    have HX2 := Lib.hid (Box2.below HX.out hb HX.out.lt)
    have HY2 := Lib.hid (Box2.below HY.out hb HY.out.lt)
    have HB2 := Lib.hid (HA.out.trans (hb.mono HA.out.size))
    have hown : ∀ B, B < w.heap.size + 2 → u.ownBlock ≠ some B := fun B hB e => by have := (own_lt ho B e).1; simp at this; omega
    have HOW := Lib.hid hown
    have HU := Lib.hid ho.at
    obtain ⟨ua, uc, hu⟩ := ho.shape
    rw [List.length_map] at hu
    generalize hL : fs.length = L at *
    have HL := Lib.hid hL
    subst hu
    clear ho hb hown hL
    go_wp2
    go_loopw [7] (fun i wr => ∃ (k : Nat) (x : Lb), i = .int .i64 (k : Int) ∧ k ≤ L ∧ Hid (gLb (fs.drop k) x = R) ∧ Hid (Box2 wr w.heap.size 33 (.string ⟨#[]⟩) (.string ⟨#[]⟩)) ∧ Hid (Box2 wr (w.heap.size + 1) 33 (.string x.n) (.string x.v)) ∧ Hid (FAt wr (.slice ua L uc) (fs.map ffd)) ∧ Hid (Below w.heap.size w wr)) (fun i _ => L - (intOf i).toNat)
    case atStart => exact ⟨0, lb0, rfl, by omega, HG, HX2, HY2, HU, HB2⟩
    case round =>
      obtain ⟨k, x, rfl, hk, HE, HXr, HYr, HF, HBr⟩ := hrel
      have y0 := HYr.out.c0
      have y1 := HYr.out.c1
      have x0 := HXr.out.c0
      have x1 := HXr.out.c1
      have g0 := HYr.out.free 0
      have g1 := HYr.out.free 1
      have f0 := HXr.out.free 0
      have f1 := HXr.out.free 1
      by_cases hlt : k < L
      · have hkl : k < fs.length := by have := HL.out; omega
        rcases HF.out with ⟨h0, _⟩ | ⟨g, o, c, hg, hcs⟩
        · have := congrArg List.length h0; rw [List.length_map, List.length_nil] at this; omega
        obtain ⟨q0, q1, q2, q3⟩ := hcs k (by rw [List.length_map]; exact hkl)
        rw [List.getElem_map] at q0 q1 q2 q3
        rw [List.length_map, HL.out] at hg
        have hrun := HE.out
        rw [List.drop_eq_getElem_cons hkl, gLb] at hrun
        clear hcs q2
        generalize fs[k] = f at *
        obtain ⟨fn, fw, fv, ft⟩ := f
        unfold ffd at q0 q1 q3
        dsimp only at q0 q1 q3 hrun
        have HKF : Hid (∀ (B j : Nat) (a : Value), B < w.heap.size + 2 → FAt (wr.setCell ⟨B, j, none⟩ a) (.slice ua L uc) (fs.map ffd)) := Lib.hid fun B j a hB => HF.out.keep (HOW.out B hB) a
        by_cases h1 : 2 < fn
        · rw [if_pos h1] at hrun
          have HRN := Lib.hid hrun
          have h1i : (2 : Int) < (fn : Int) := by omega
          clear hrun
          cases hg
          go_wp2
          go_roundw
          case rel => exact ⟨k + 1, x, by go_num, by omega, HRN, HXr, HYr, HF, HBr⟩
          case measure => simp [intOf]; omega
        · rw [if_neg h1] at hrun
          have h1i : ¬ (2 : Int) < (fn : Int) := by omega
          by_cases h2 : fw = 2
          · subst h2
            rw [if_neg (by simp)] at hrun
            by_cases h3 : fn = 1
            · subst h3
              rw [if_pos rfl] at hrun
              have HRN := Lib.hid hrun
              clear hrun h1
              cases hg
              go_wp2
              go_roundw
              case rel => exact ⟨k + 1, ⟨ba ft, x.v⟩, by go_num, by omega, HRN, Lib.hid (HXr.out.other (by omega) _), Lib.hid (HYr.out.set0 _), Lib.hid (HKF.out _ _ _ (by omega)), Lib.hid (below_set HBr.out (by omega) _)⟩
              case measure => simp [intOf]; omega
            · rw [if_neg h3] at hrun
              have HRN := Lib.hid hrun
              have h3i : ((fn : Int) == 1) = false := by rw [beq_eq_false_iff_ne]; omega
              have h3j : ¬ (fn : Int) = 1 := by omega
              clear hrun h1 h3
              cases hg
              go_wp2
              go_roundw
              case rel => exact ⟨k + 1, ⟨x.n, ba ft⟩, by go_num, by omega, HRN, Lib.hid (HXr.out.other (by omega) _), Lib.hid (HYr.out.set1 _), Lib.hid (HKF.out _ _ _ (by omega)), Lib.hid (below_set HBr.out (by omega) _)⟩
              case measure => simp [intOf]; omega
          · rw [if_pos h2] at hrun
            have HRN := Lib.hid hrun
            have h2i : ((fw : Int) != 2) = true := by rw [bne_iff_ne]; omega
            have h2j : ¬ (fw : Int) = 2 := by omega
            clear hrun h1 h2
            cases hg
            go_wp2
            refine retc2 Try.results46 two33 w.heap.size rfl rfl rfl (HXr.out.set _ _) ⟨?_, below_set (below_set HBr.out (Nat.le_refl _) _) (Nat.le_refl _) _⟩
            rw [← HRN.out]
            rfl
      · obtain rfl : k = L := by omega
        have HRN : Hid ((x, 0) = R) := Lib.hid (by have := HE.out; rwa [List.drop_of_length_le (by have := HL.out; omega), gLb] at this)
        go_wp2
        refine retc2 Try.results46 two33 w.heap.size rfl rfl rfl (HXr.out.set _ _) ⟨?_, below_set (below_set HBr.out (Nat.le_refl _) _) (Nat.le_refl _) _⟩
        rw [← HRN.out]
        rfl
  · rw [if_pos hK]
    have hK2 : ((K : Int) != 0) = true := by rw [bne_iff_ne]; omega
    have hK3 : ¬ (K : Int) = 0 := by omega
    clear hfl hK
    go_enter Try.func46, Try.ntmps46
    go_wp2_with fail
    refine (HR.out _).mono ?_
    rintro e w2 ⟨u, rfl, ho, hb⟩
    have HX2 := Lib.hid (Box2.below HX.out hb HX.out.lt)
    have HY2 := Lib.hid (Box2.below HY.out hb HY.out.lt)
    have HB2 := Lib.hid (HA.out.trans (hb.mono HA.out.size))
    have y0 := HY2.out.c0
    have y1 := HY2.out.c1
    have x0 := HX2.out.c0
    have x1 := HX2.out.c1
    have f0 := HX2.out.free 0
    have f1 := HX2.out.free 1
    clear ho hb
    go_wp2
    exact retc2 Try.results46 two33 w.heap.size rfl rfl rfl (HX2.out.set _ _) ⟨rfl, below_set (below_set HB2.out (Nat.le_refl _) _) (Nat.le_refl _) _⟩
end Go.Proofs.Ytknfodpegkpjnaa
namespace Go.Proofs.Ytknfodpegkpjnaa
open Go Go.RowKit
set_option maxRecDepth 100000
set_option maxHeartbeats 1000000 in
theorem rsmp_any (s : ByteArray) (hs : s.size ≤ 1000000) (w : World) :
    Calls Try.prog 47 #[.string s] w (Ret w (.tuple #[.agg #[.int .i64 (rSm s.data.toList).1.t, .int .u64 ((rSm s.data.toList).1.b : Int)], .int .i64 ((rSm s.data.toList).2 : Int)])) := by
  have HR := Lib.hid (fun W => rread_any s hs W)
  have hfl := fun (h : (msg s.data.toList []).2 = 0) => msg_ok' (s := s.data.toList) (by simpa using hs) (show msg s.data.toList [] = ((msg s.data.toList []).1, 0) by rw [← h])
  unfold rSm
  obtain ⟨fs, K, hm⟩ : ∃ fs K, msg s.data.toList [] = (fs, K) := ⟨_, _, rfl⟩
  rw [hm] at HR hfl ⊢
  dsimp only at HR hfl ⊢
  rw [show s.data.toList.length = s.size by simp] at hfl
  have HA : Hid (Below w.heap.size w ((w.alloc (.cells #[.int .i64 0, .int .u64 0] 37)).alloc (.cells #[.int .i64 0, .int .u64 0] 37))) := Lib.hid (below_two _ _ _)
  have HX : Hid (Box2 ((w.alloc (.cells #[.int .i64 0, .int .u64 0] 37)).alloc (.cells #[.int .i64 0, .int .u64 0] 37)) w.heap.size 37 (.int .i64 0) (.int .u64 0)) := Lib.hid (heap_alloc2_old w _ _)
  have HY : Hid (Box2 ((w.alloc (.cells #[.int .i64 0, .int .u64 0] 37)).alloc (.cells #[.int .i64 0, .int .u64 0] 37)) (w.heap.size + 1) 37 (.int .i64 0) (.int .u64 0)) := Lib.hid (two_at w _ _)
  clear hm
  by_cases hK : K = 0
  · subst hK
    rw [if_neg (by simp)]
    have hfl2 : fs.length ≤ 1000000 := by have := (hfl rfl).2; omega
    have HOK := Lib.hid (hfl rfl).1
    obtain ⟨R, hR⟩ : ∃ R, gSm fs sm0 = R := ⟨_, rfl⟩
    rw [hR]
    have HG := Lib.hid hR
    clear hfl hR
    go_enter Try.func47, Try.ntmps47
    go_wp2_with fail
    refine (HR.out _).mono ?_
    rintro e w2 ⟨u, rfl, ho, hb⟩
    have HX2 := Lib.hid (Box2.below HX.out hb HX.out.lt)
    have HY2 := Lib.hid (Box2.below HY.out hb HY.out.lt)
    have HB2 := Lib.hid (HA.out.trans (hb.mono HA.out.size))
    have hown : ∀ B, B < w.heap.size + 2 → u.ownBlock ≠ some B := fun B hB e => by have := (own_lt ho B e).1; simp at this; omega
    have HOW := Lib.hid hown
    have HU := Lib.hid ho.at
    obtain ⟨ua, uc, hu⟩ := ho.shape
    rw [List.length_map] at hu
    generalize hL : fs.length = L at *
    have HL := Lib.hid hL
    subst hu
    clear ho hb hown hL
    go_wp2
    go_loopw [7] (fun i wr => ∃ (k : Nat) (x : Sm), i = .int .i64 (k : Int) ∧ k ≤ L ∧ Hid (gSm (fs.drop k) x = R) ∧ Hid (Box2 wr w.heap.size 37 (.int .i64 0) (.int .u64 0)) ∧ Hid (Box2 wr (w.heap.size + 1) 37 (.int .i64 x.t) (.int .u64 (x.b : Int))) ∧ Hid (FAt wr (.slice ua L uc) (fs.map ffd)) ∧ Hid (Below w.heap.size w wr)) (fun i _ => L - (intOf i).toNat)
    case atStart => exact ⟨0, sm0, rfl, by omega, HG, HX2, HY2, HU, HB2⟩
    case round =>
      obtain ⟨k, x, rfl, hk, HE, HXr, HYr, HF, HBr⟩ := hrel
      have y0 := HYr.out.c0
      have y1 := HYr.out.c1
      have x0 := HXr.out.c0
      have x1 := HXr.out.c1
      have g0 := HYr.out.free 0
      have g1 := HYr.out.free 1
      have f0 := HXr.out.free 0
      have f1 := HXr.out.free 1
      by_cases hlt : k < L
      · have hkl : k < fs.length := by have := HL.out; omega
        rcases HF.out with ⟨h0, _⟩ | ⟨g, o, c, hg, hcs⟩
        · have := congrArg List.length h0; rw [List.length_map, List.length_nil] at this; omega
        obtain ⟨q0, q1, q2, q3⟩ := hcs k (by rw [List.length_map]; exact hkl)
        rw [List.getElem_map] at q0 q1 q2 q3
        rw [List.length_map, HL.out] at hg
        have hrun := HE.out
        rw [List.drop_eq_getElem_cons hkl, gSm] at hrun
        have hfo := HOK.out fs[k] (List.getElem_mem hkl)
        clear hcs
        generalize fs[k] = f at *
        obtain ⟨fn, fw, fv, ft⟩ := f
        unfold ffd at q0 q1 q2 q3
        dsimp only at q0 q1 q2 q3 hrun
        have HKF : Hid (∀ (B j : Nat) (a : Value), B < w.heap.size + 2 → FAt (wr.setCell ⟨B, j, none⟩ a) (.slice ua L uc) (fs.map ffd)) := Lib.hid fun B j a hB => HF.out.keep (HOW.out B hB) a
        by_cases h1 : fn = 1
        · subst h1
          rw [if_pos rfl] at hrun
          by_cases h2 : fw = 1
          · subst h2
            rw [if_pos rfl] at hrun
            have HRN := Lib.hid hrun
            have hgb : g ≠ w.heap.size + 1 := fun e => HOW.out (w.heap.size + 1) (by omega) (by rw [hg, e]; rfl)
            have q0b : (wr.setCell ⟨w.heap.size + 1, 1, none⟩ (.int .u64 (fv : Int))).cell? ⟨g, o + k * 4, none⟩ = some (.int .i64 ((1 : Nat) : Int)) := (World.cell?_of_block (a := ⟨g, o + k * 4, none⟩) (Below.heap_setCell _ _ _ _ (by simpa using hgb))).trans q0
            clear hrun
            cases hg
            go_wp2
            go_roundw
            case rel => exact ⟨k + 1, ⟨x.t, fv⟩, by go_num, by omega, HRN, Lib.hid (HXr.out.other (by omega) _), Lib.hid (HYr.out.set1 _), Lib.hid (HKF.out _ _ _ (by omega)), Lib.hid (below_set HBr.out (by omega) _)⟩
            case measure => simp [intOf]; omega
          · rw [if_neg h2] at hrun
            have HRN := Lib.hid hrun
            have h2i : ((fw : Int) != 1) = true := by rw [bne_iff_ne]; omega
            have h2j : ¬ (fw : Int) = 1 := by omega
            clear hrun h2
            cases hg
            go_wp2
            all_goals first | (exfalso; rename_i b hb ht; cases hb; done) | skip
            all_goals refine retc2 Try.results47 two37 w.heap.size rfl rfl rfl (HXr.out.set _ _) ⟨?_, below_set (below_set HBr.out (Nat.le_refl _) _) (Nat.le_refl _) _⟩
            all_goals (rw [← HRN.out]; rfl)
        · rw [if_neg h1] at hrun
          have h1i : ((fn : Int) == 1) = false := by rw [beq_eq_false_iff_ne]; omega
          have h1j : ¬ (fn : Int) = 1 := by omega
          by_cases h3 : fn = 2
          · subst h3
            rw [if_pos rfl] at hrun
            by_cases h2 : fw = 0
            · subst h2
              rw [if_pos rfl] at hrun
              have HRN := Lib.hid hrun
              have hv := hfo.v0 (.inl rfl)
              dsimp only at hv
              have hnt : wrap64 (fv : Int) = nt fv := by unfold wrap64 nt; split <;> omega
              clear hrun h1 hv hfo
              cases hg
              go_wp2
              go_roundw
              case rel => exact ⟨k + 1, ⟨nt fv, x.b⟩, by go_num, by omega, HRN, Lib.hid (HXr.out.other (by omega) _), Lib.hid (HYr.out.set0 _), Lib.hid (HKF.out _ _ _ (by omega)), Lib.hid (below_set HBr.out (by omega) _)⟩
              case measure => simp [intOf]; omega
            · rw [if_neg h2] at hrun
              have HRN := Lib.hid hrun
              have h2i : ((fw : Int) != 0) = true := by rw [bne_iff_ne]; omega
              have h2j : ¬ (fw : Int) = 0 := by omega
              clear hrun h2 h1
              cases hg
              go_wp2
              all_goals first | (exfalso; rename_i b hb ht; cases hb; done) | skip
              all_goals refine retc2 Try.results47 two37 w.heap.size rfl rfl rfl (HXr.out.set _ _) ⟨?_, below_set (below_set HBr.out (Nat.le_refl _) _) (Nat.le_refl _) _⟩
              all_goals (rw [← HRN.out]; rfl)
          · rw [if_neg h3] at hrun
            have HRN := Lib.hid hrun
            have h3i : ((fn : Int) == 2) = false := by rw [beq_eq_false_iff_ne]; omega
            have h3j : ¬ (fn : Int) = 2 := by omega
            clear hrun h1 h3
            cases hg
            go_wp2
            all_goals first | (exfalso; rename_i b hb ht; cases hb; done) | skip
            all_goals go_roundw
            case rel => exact ⟨k + 1, x, by go_num, by omega, HRN, HXr, HYr, HF, HBr⟩
            case measure => simp [intOf]; omega
      · obtain rfl : k = L := by omega
        have HRN : Hid ((x, 0) = R) := Lib.hid (by have := HE.out; rwa [List.drop_of_length_le (by have := HL.out; omega), gSm] at this)
        go_wp2
        refine retc2 Try.results47 two37 w.heap.size rfl rfl rfl (HXr.out.set _ _) ⟨?_, below_set (below_set HBr.out (Nat.le_refl _) _) (Nat.le_refl _) _⟩
        rw [← HRN.out]
        rfl
  · rw [if_pos hK]
    have hK2 : ((K : Int) != 0) = true := by rw [bne_iff_ne]; omega
    have hK3 : ¬ (K : Int) = 0 := by omega
    clear hfl hK
    go_enter Try.func47, Try.ntmps47
    go_wp2_with fail
    refine (HR.out _).mono ?_
    rintro e w2 ⟨u, rfl, ho, hb⟩
    have HX2 := Lib.hid (Box2.below HX.out hb HX.out.lt)
    have HY2 := Lib.hid (Box2.below HY.out hb HY.out.lt)
    have HB2 := Lib.hid (HA.out.trans (hb.mono HA.out.size))
    have y0 := HY2.out.c0
    have y1 := HY2.out.c1
    have x0 := HX2.out.c0
    have x1 := HX2.out.c1
    have f0 := HX2.out.free 0
    have f1 := HX2.out.free 1
    clear ho hb
    go_wp2
    exact retc2 Try.results47 two37 w.heap.size rfl rfl rfl (HX2.out.set _ _) ⟨rfl, below_set (below_set HB2.out (Nat.le_refl _) _) (Nat.le_refl _) _⟩
end Go.Proofs.Ytknfodpegkpjnaa
namespace Go.Proofs.Ytknfodpegkpjnaa
open Go Go.RowKit
set_option maxRecDepth 100000
theorem own_ne {w : World} {b1 E1 z1 n1 b2 E2 z2 n2 : Nat} {v1 v2 : Value} {x1 x2 : List Value} (h1 : w.ownsRow b1 E1 z1 v1 n1 x1) (h2 : w.ownsRow b2 E2 z2 v2 n2 x2) (hE : E1 ≠ E2) : v1.ownBlock = none ∨ v1.ownBlock ≠ v2.ownBlock := by
  cases h : v1.ownBlock with
  | none => exact .inl rfl
  | some g =>
    refine .inr fun e => ?_
    obtain ⟨c1, k1⟩ := own_mark h1 g h
    obtain ⟨c2, k2⟩ := own_mark h2 g e.symm
    rw [k1] at k2
    cases k2
    exact hE rfl
/-- What One keeps while it reads. -/
structure RO (w : World) (U : Value) (fs : List Fd) (a b : Value) (la : List Lb) (lb : List Sm) (wr : World) : Prop where
  bx : Box2 wr w.heap.size 40 (.slice none 0 0) (.slice none 0 0)
  bo : Box2 wr (w.heap.size + 1) 40 a b
  oa : O2 33 wr (w.heap.size + 2) a (la.map lp)
  ob : O2 37 wr (w.heap.size + 2) b (lb.map sp)
  fo : Of wr (w.heap.size + 2) U (fs.map ffd)
  bel : Below w.heap.size w wr
theorem RO.below {w : World} {U : Value} {fs : List Fd} {a b : Value} {la : List Lb} {lb : List Sm} {wr W : World} (h : RO w U fs a b la lb wr) (hb : Below wr.heap.size wr W) : RO w U fs a b la lb W :=
  ⟨h.bx.below hb h.bx.lt, h.bo.below hb h.bo.lt, O2.below h.oa hb (Nat.le_refl _), O2.below h.ob hb (Nat.le_refl _), h.fo.below hb (Nat.le_refl _), h.bel.trans (hb.mono h.bel.size)⟩
theorem row_set {w : World} {b E z n B j : Nat} {v u : Value} {xs : List Value} (h : w.ownsRow b E z v n xs) (hB : B < b) : (w.setCell ⟨B, j, none⟩ u).ownsRow b E z v n xs := ownsRow_same h fun g _ e => by
  have := (own_lt h g e).1
  exact Below.heap_setCell _ _ _ _ (by simp only; omega)
theorem RO.a {w : World} {U : Value} {fs : List Fd} {a b a' : Value} {la la' : List Lb} {lb : List Sm} {wr W : World} (h : RO w U fs a b la lb wr) (hg : wr.grownBy W a.ownBlock) (ho : O2 33 W (w.heap.size + 2) a' (la'.map lp)) : RO w U fs a' b la' lb (W.setCell ⟨w.heap.size + 1, 0, none⟩ a') := by
  have ne : ∀ j, j < w.heap.size + 2 → some j ≠ a.ownBlock := fun j hj e => by have := (own_lt h.oa j e.symm).1; omega
  have hs := h.bel.size
  exact ⟨(h.bx.kept hg (ne _ (by omega))).other (by omega) _, (h.bo.kept hg (ne _ (by omega))).set0 _, row_set ho (by omega), row_set (World.ownsRow.kept h.ob hg (own_ne h.ob h.oa (by decide))) (by omega), row_set (World.ownsRow.kept h.fo hg (own_ne h.fo h.oa (by decide))) (by omega), below_set (h.bel.grown hg h.bel.size (fun k e => by have := (own_lt h.oa k e).1; omega)) (by omega) _⟩
theorem RO.b {w : World} {U : Value} {fs : List Fd} {a b b' : Value} {la : List Lb} {lb lb' : List Sm} {wr W : World} (h : RO w U fs a b la lb wr) (hg : wr.grownBy W b.ownBlock) (ho : O2 37 W (w.heap.size + 2) b' (lb'.map sp)) : RO w U fs a b' la lb' (W.setCell ⟨w.heap.size + 1, 1, none⟩ b') := by
  have ne : ∀ j, j < w.heap.size + 2 → some j ≠ b.ownBlock := fun j hj e => by have := (own_lt h.ob j e.symm).1; omega
  have hs := h.bel.size
  exact ⟨(h.bx.kept hg (ne _ (by omega))).other (by omega) _, (h.bo.kept hg (ne _ (by omega))).set1 _, row_set (World.ownsRow.kept h.oa hg (own_ne h.oa h.ob (by decide))) (by omega), row_set ho (by omega), row_set (World.ownsRow.kept h.fo hg (own_ne h.fo h.ob (by decide))) (by omega), below_set (h.bel.grown hg h.bel.size (fun k e => by have := (own_lt h.ob k e).1; omega)) (by omega) _⟩
theorem RO.out {w : World} {U : Value} {fs : List Fd} {a b : Value} {la : List Lb} {lb : List Sm} {wr : World} (h : RO w U fs a b la lb wr) : Box2 ((wr.setCell ⟨w.heap.size, 0, none⟩ a).setCell ⟨w.heap.size, 1, none⟩ b) w.heap.size 40 a b ∧ TellsR w (⟨la, lb⟩, 0) (.returned (.tuple #[.agg #[a, b], .int .i64 0])) ((wr.setCell ⟨w.heap.size, 0, none⟩ a).setCell ⟨w.heap.size, 1, none⟩ b) :=
  ⟨h.bx.set _ _, a, b, rfl, O2.mono (row_set (row_set h.oa (by omega)) (by omega)) (by omega), O2.mono (row_set (row_set h.ob (by omega)) (by omega)) (by omega), below_set (below_set h.bel (Nat.le_refl _) _) (Nat.le_refl _) _⟩
theorem RO.err {w : World} {U : Value} {fs : List Fd} {a b : Value} {la : List Lb} {lb : List Sm} {wr : World} (h : RO w U fs a b la lb wr) (K : Nat) : Box2 ((wr.setCell ⟨w.heap.size, 0, none⟩ (.slice none 0 0)).setCell ⟨w.heap.size, 1, none⟩ (.slice none 0 0)) w.heap.size 40 (.slice none 0 0) (.slice none 0 0) ∧ TellsR w (⟨[], []⟩, K) (.returned (.tuple #[.agg #[.slice none 0 0, .slice none 0 0], .int .i64 (K : Int)])) ((wr.setCell ⟨w.heap.size, 0, none⟩ (.slice none 0 0)).setCell ⟨w.heap.size, 1, none⟩ (.slice none 0 0)) :=
  ⟨h.bx.set _ _, _, _, rfl, O2.nil _ _ _, O2.nil _ _ _, below_set (below_set h.bel (Nat.le_refl _) _) (Nat.le_refl _) _⟩
theorem bad2_cons (f : Fd) (r : List Fd) : bad2 (f :: r) = ((decide (f.n ≤ 2) && decide (f.w ≠ 2)) || bad2 r) := rfl
set_option maxHeartbeats 1000000 in
theorem ron_any (s : ByteArray) (hs : s.size ≤ 1000000) (w : World) : Calls Try.prog 28 #[.string s] w (TellsR w (rSr s.data.toList)) := by
  have HR := Lib.hid (fun W => rread_any s hs W)
  obtain ⟨i0, hi, hz0, hz1, hz2⟩ := info_parts Try.info33
  obtain ⟨i1, hj, hj0, hj1, hj2⟩ := info_parts Try.info37
  have hfl := fun (h : (msg s.data.toList []).2 = 0) => And.intro (msg_ok' (s := s.data.toList) (by simpa using hs) (show msg s.data.toList [] = ((msg s.data.toList []).1, 0) by rw [← h])) (msg_texts (s := s.data.toList) (by simpa using hs) (show msg s.data.toList [] = ((msg s.data.toList []).1, 0) by rw [← h]))
  unfold rSr
  obtain ⟨fs, K, hm⟩ : ∃ fs K, msg s.data.toList [] = (fs, K) := ⟨_, _, rfl⟩
  rw [hm] at HR hfl ⊢
  dsimp only at HR hfl ⊢
  rw [show s.data.toList.length = s.size by simp] at hfl
  have HX : Hid (Below w.heap.size w ((w.alloc (.cells #[.slice none 0 0, .slice none 0 0] 40)).alloc (.cells #[.slice none 0 0, .slice none 0 0] 40)) ∧ Box2 ((w.alloc (.cells #[.slice none 0 0, .slice none 0 0] 40)).alloc (.cells #[.slice none 0 0, .slice none 0 0] 40)) w.heap.size 40 (.slice none 0 0) (.slice none 0 0) ∧ Box2 ((w.alloc (.cells #[.slice none 0 0, .slice none 0 0] 40)).alloc (.cells #[.slice none 0 0, .slice none 0 0] 40)) (w.heap.size + 1) 40 (.slice none 0 0) (.slice none 0 0) ∧ ((w.alloc (.cells #[.slice none 0 0, .slice none 0 0] 40)).alloc (.cells #[.slice none 0 0, .slice none 0 0] 40)).heap.size = w.heap.size + 2) := Lib.hid ⟨below_two _ _ _, heap_alloc2_old w _ _, two_at w _ _, by simp⟩
  clear hm
  have hRO : ∀ (w2 : World) (u : Value), Of w2 ((w.alloc (.cells #[.slice none 0 0, .slice none 0 0] 40)).alloc (.cells #[.slice none 0 0, .slice none 0 0] 40)).heap.size u (fs.map ffd) → Below ((w.alloc (.cells #[.slice none 0 0, .slice none 0 0] 40)).alloc (.cells #[.slice none 0 0, .slice none 0 0] 40)).heap.size ((w.alloc (.cells #[.slice none 0 0, .slice none 0 0] 40)).alloc (.cells #[.slice none 0 0, .slice none 0 0] 40)) w2 → RO w u fs (.slice none 0 0) (.slice none 0 0) [] [] w2 := fun w2 u ho hb => by
    obtain ⟨x1, x2, x3, x4⟩ := HX.out
    rw [x4] at ho
    exact ⟨x2.below hb x2.lt, x3.below hb x3.lt, O2.nil _ _ _, O2.nil _ _ _, ho, x1.trans (hb.mono x1.size)⟩
  have HRO := Lib.hid hRO
  clear hRO
  by_cases hK : K = 0
  · subst hK
    rw [if_neg (by simp)]
    obtain ⟨⟨hok, hfl2⟩, htx⟩ := hfl rfl
    have hfl2 : fs.length ≤ 1000000 := by omega
    have HT := Lib.hid htx
    obtain ⟨R, hR⟩ : ∃ R, gSr fs = R := ⟨_, rfl⟩
    rw [hR]
    have HG := Lib.hid hR
    clear hfl hR htx hok
    go_enter Try.func28, Try.ntmps28
    go_wp2_with fail
    refine (HR.out _).mono ?_
    rintro e w2 ⟨u, rfl, ho, hb⟩
    have HRO2 := Lib.hid (HRO.out w2 u ho hb)
    obtain ⟨ua, uc, hu⟩ := ho.shape
    rw [List.length_map] at hu
    generalize hL : fs.length = L at *
    have HL := Lib.hid hL
    subst hu
    clear ho hb hL
    go_wp2
    go_loopw [7] (fun i wr => ∃ (k : Nat), i = .int .i64 (k : Int) ∧ k ≤ L ∧ Hid (bad2 (fs.drop k) = bad2 fs) ∧ Hid (RO w (.slice ua L uc) fs (.slice none 0 0) (.slice none 0 0) [] [] wr)) (fun i _ => L - (intOf i).toNat)
    case atStart => exact ⟨0, rfl, by omega, Lib.hid rfl, HRO2⟩
    case round =>
      obtain ⟨k, rfl, hk, HE, HO⟩ := hrel
      have y0 := HO.out.bo.c0
      have y1 := HO.out.bo.c1
      have x0 := HO.out.bx.c0
      have x1 := HO.out.bx.c1
      have f0 := HO.out.bx.free 0
      have f1 := HO.out.bx.free 1
      by_cases hlt : k < L
      · have hkl : k < fs.length := by have := HL.out; omega
        rcases HO.out.fo.at with ⟨h0, _⟩ | ⟨g, o, c, hg, hcs⟩
        · have := congrArg List.length h0; rw [List.length_map, List.length_nil] at this; omega
        obtain ⟨q0, q1, q2, q3⟩ := hcs k (by rw [List.length_map]; exact hkl)
        rw [List.getElem_map] at q0 q1
        rw [List.length_map, HL.out] at hg
        have hrun := HE.out
        rw [List.drop_eq_getElem_cons hkl, bad2_cons] at hrun
        clear hcs q2 q3
        generalize fs[k] = f at *
        obtain ⟨fn, fw, fv, ft⟩ := f
        unfold ffd at q0 q1
        dsimp only at q0 q1 hrun
        by_cases h1 : fn ≤ 2
        · have h1i : (fn : Int) ≤ 2 := by omega
          by_cases h2 : fw = 2
          · subst h2
            have HRN : Hid (bad2 (fs.drop (k + 1)) = bad2 fs) := Lib.hid (by rw [← hrun]; simp)
            clear hrun h1
            cases hg
            go_wp2
            go_roundw
            case rel => exact ⟨k + 1, by go_num, by omega, HRN, HO⟩
            case measure => simp [intOf]; omega
          · have HRN : Hid (R = (⟨[], []⟩, 4)) := Lib.hid (by
              rw [← HG.out]
              unfold gSr
              rw [if_pos (by rw [← hrun]; simp [h1, h2])])
            have h2i : ((fw : Int) != 2) = true := by rw [bne_iff_ne]; omega
            have h2j : ¬ (fw : Int) = 2 := by omega
            clear hrun h1 h2
            cases hg
            go_wp2
            refine retc2 Try.results28 two40 w.heap.size rfl rfl rfl (HO.out.err 4).1 ?_
            rw [HRN.out]
            exact (HO.out.err 4).2
        · have h1i : ¬ (fn : Int) ≤ 2 := by omega
          have HRN : Hid (bad2 (fs.drop (k + 1)) = bad2 fs) := Lib.hid (by rw [← hrun]; simp [h1])
          clear hrun h1
          cases hg
          go_wp2
          go_roundw
          case rel => exact ⟨k + 1, by go_num, by omega, HRN, HO⟩
          case measure => simp [intOf]; omega
      · obtain rfl : k = L := by omega
        have HG2 : Hid ((if (pts 1 rLb fs).2 ≠ 0 then ((⟨[], []⟩ : Sr), (pts 1 rLb fs).2) else if (pts 2 rSm fs).2 ≠ 0 then (⟨[], []⟩, (pts 2 rSm fs).2) else (⟨(pts 1 rLb fs).1, (pts 2 rSm fs).1⟩, 0)) = R) := Lib.hid (by
          have := HE.out
          rw [List.drop_of_length_le (by have := HL.out; omega)] at this
          rw [← HG.out]
          unfold gSr
          rw [← this, show bad2 [] = false from rfl, if_neg (show ¬ (false = true) by decide)])
        generalize hP1 : pts 1 rLb fs = P1 at *
        generalize hP2 : pts 2 rSm fs = P2 at *
        have HP1 := Lib.hid hP1
        have HP2 := Lib.hid hP2
        clear hP1 hP2 x0 x1 y0 y1 f0 f1
        go_wp2
        obtain ⟨wa, hwa⟩ : ∃ wa, wa = wr := ⟨_, rfl⟩
        subst hwa
        go_loopw [8] (fun i wr => ∃ (j : Nat) (la : List Lb) (av : Value), i = .int .i64 (j : Int) ∧ j ≤ k ∧ la.length ≤ j ∧ Hid ((la ++ (pts 1 rLb (fs.drop j)).1, (pts 1 rLb (fs.drop j)).2) = P1) ∧ Hid (RO w (.slice ua k uc) fs av (.slice none 0 0) la [] wr)) (fun i _ => k - (intOf i).toNat)
        case atStart => exact ⟨0, [], _, rfl, by omega, Nat.zero_le _, Lib.hid (by rw [List.drop_zero, HP1.out]; rfl), HO⟩
        case round =>
          clear HO
          obtain ⟨j, la, av, rfl, hj8, hacl, HE2, HO⟩ := hrel
          obtain ⟨aa, ac, ha⟩ := O2.shape HO.out.oa
          rw [List.length_map] at ha
          subst ha
          have y0 := HO.out.bo.c0
          have y1 := HO.out.bo.c1
          have x0 := HO.out.bx.c0
          have x1 := HO.out.bx.c1
          have f0 := HO.out.bx.free 0
          have f1 := HO.out.bx.free 1
          by_cases hjl : j < k
          · have hkl : j < fs.length := by have := HL.out; omega
            rcases HO.out.fo.at with ⟨h0, _⟩ | ⟨g, o, c, hg, hcs⟩
            · have := congrArg List.length h0; rw [List.length_map, List.length_nil] at this; omega
            obtain ⟨q0, q1, q2, q3⟩ := hcs j (by rw [List.length_map]; exact hkl)
            rw [List.getElem_map] at q0 q3
            rw [List.length_map, HL.out] at hg
            have hft := HT.out fs[j] (List.getElem_mem hkl)
            have hrun := HE2.out
            rw [List.drop_eq_getElem_cons hkl, pts_cons] at hrun
            clear hcs q1 q2
            generalize fs[j] = f at *
            obtain ⟨fn, fw, fv, ft⟩ := f
            unfold ffd at q0 q3
            dsimp only at q0 q3 hrun hft
            by_cases h1 : fn = 1
            · subst h1
              rw [if_pos rfl] at hrun
              have HC := Lib.hid (fun W => rlab_any (bs ft) (by rw [bs_size]; omega) W)
              rw [bs_data] at HC
              obtain ⟨X, e, hXe⟩ : ∃ X e, rLb ft = (X, e) := ⟨_, _, rfl⟩
              rw [hXe] at HC hrun
              dsimp only at HC hrun
              clear hXe
              by_cases he : e = 0
              · subst he
                rw [if_neg (by simp)] at hrun
                dsimp only at hrun
                have HRN : Hid ((la ++ [X] ++ (pts 1 rLb (fs.drop (j + 1))).1, (pts 1 rLb (fs.drop (j + 1))).2) = P1) := Lib.hid (by rw [← hrun]; simp)
                clear hrun x0 x1 y0 y1 f0 f1
                obtain ⟨Xn, Xv⟩ := X
                dsimp only at HC
                cases hg
                go_wp2_with fail
                refine (HC.out _).mono ?_
                rintro e w3 ⟨rfl, hb3⟩
                have HO3 := Lib.hid (HO.out.below hb3)
                have HO4 := Lib.hid (HO3.out.below ((Below.refl _ _).alloc (Nat.le_refl _) (.cells #[.string Xn, .string Xv] 33)))
                have HO5 := Lib.hid (HO4.out.below ((Below.refl _ _).alloc (Nat.le_refl _) (.cells #[.string Xn, .string Xv] 33)))
                have y0 := HO4.out.bo.c0
                have hcn := cells_new2 (w3.alloc (.cells #[.string Xn, .string Xv] 33)) (.string Xn) (.string Xv) 33
                rw [World.size_alloc] at hcn
                have HCN := Lib.hid hcn
                have HSZ : Hid (w.heap.size + 2 ≤ w3.heap.size) := Lib.hid (by have := HO3.out.bo.lt; omega)
                have hal2 : la.length ≤ 1000000 := by omega
                have hown5 := HO5.out.oa
                have HOW5 : Hid (World.ownsRow ((w3.alloc (.cells #[.string Xn, .string Xv] 33)).alloc (.cells #[.string Xn, .string Xv] 33)) (w.heap.size + 2) 33 2 (.slice aa la.length ac) la.length (prs (la.map lp))) := Lib.hid (by have := hown5; unfold O2 at this; rw [List.length_map] at this; exact this)
                clear hcn hb3 hown5
                go_wp2_with (at_builtin; refine wpList_append_own_at _ rfl (.tmp 70) (.tmp 72) 34 rfl (w.heap.size + 2) 33 i0 _ 2 32 Try.underlying34 hi hz0 hz1 hz2 (by rfl) (by decide) (.slice aa la.length ac) la.length (prs (la.map lp)) rfl HOW5.out ⟨w3.heap.size + 1, 0, none⟩ 1 1 [.string Xn, .string Xv] rfl rfl HCN.out (by simp [Value.oneCell']) (by unfold maxLen; omega) (by omega) (by have := HSZ.out; rw [World.size_alloc, World.size_alloc]; omega) ?_; intro v' w6 hown' hgrow hnil hloc; have HON := Lib.hid hown'; have HGR := Lib.hid hgrow; have g6 := (HO5.out.bo.kept hgrow (fun e => by have := (own_lt HOW5.out _ e.symm).1; omega)).free 0; have g7 := (HO5.out.bo.kept hgrow (fun e => by have := (own_lt HOW5.out _ e.symm).1; omega)).c0; obtain ⟨a2, c2, hv2⟩ := ownsRow_shape hown'; subst hv2; clear hown' hgrow hnil hloc)
                go_roundw
                case rel => exact ⟨j + 1, la ++ [⟨Xn, Xv⟩], _, by go_num, by omega, by simp; omega, HRN, Lib.hid (HO5.out.a HGR.out (by have h := HON.out; unfold O2; rw [List.map_append, List.length_append, List.length_map]; show World.ownsRow _ _ _ _ _ _ (prs (_ ++ [(_, _)])); rw [prs_append]; exact h))⟩
                case measure => simp [intOf]; omega
              · rw [if_pos (show e ≠ 0 from he)] at hrun
                have HRN : Hid (R = (⟨[], []⟩, e)) := Lib.hid (by rw [← HG2.out, ← hrun]; dsimp only; rw [if_pos (show e ≠ 0 from he)])
                have e1 : ((e : Int) != 0) = true := by rw [bne_iff_ne]; omega
                have e2 : ¬ (e : Int) = 0 := by omega
                clear hrun he x0 x1 y0 y1 f0 f1
                obtain ⟨Xn, Xv⟩ := X
                dsimp only at HC
                cases hg
                go_wp2_with fail
                refine (HC.out _).mono ?_
                rintro e3 w3 ⟨rfl, hb3⟩
                have HO4 := Lib.hid ((HO.out.below hb3).below ((Below.refl _ _).alloc (Nat.le_refl _) (.cells #[.string Xn, .string Xv] 33)))
                have x0 := HO4.out.bx.c0
                have x1 := HO4.out.bx.c1
                have f0 := HO4.out.bx.free 0
                have f1 := HO4.out.bx.free 1
                clear hb3
                go_wp2
                refine retc2 Try.results28 two40 w.heap.size rfl rfl rfl (HO4.out.err e).1 ?_
                rw [HRN.out]
                exact (HO4.out.err e).2
            · rw [if_neg h1] at hrun
              have HRN := Lib.hid hrun
              have h1i : ((fn : Int) == 1) = false := by rw [beq_eq_false_iff_ne]; omega
              have h1j : ¬ (fn : Int) = 1 := by omega
              clear hrun h1
              cases hg
              go_wp2
              go_roundw
              case rel => exact ⟨j + 1, la, _, by go_num, by omega, by omega, HRN, HO⟩
              case measure => simp [intOf]; omega
          · obtain rfl : j = k := by omega
            have HF1 : Hid ((la, 0) = P1) := Lib.hid (by have := HE2.out; rw [List.drop_of_length_le (by have := HL.out; omega)] at this; simpa [pts] using this)
            clear x0 x1 y0 y1 f0 f1 HE2
            go_wp2
            obtain ⟨wb, hwa⟩ : ∃ wb, wb = wr := ⟨_, rfl⟩
            subst hwa
            go_loopw [11] (fun i wr => ∃ (jj : Nat) (lb : List Sm) (bv : Value), i = .int .i64 (jj : Int) ∧ jj ≤ j ∧ lb.length ≤ jj ∧ Hid ((lb ++ (pts 2 rSm (fs.drop jj)).1, (pts 2 rSm (fs.drop jj)).2) = P2) ∧ Hid (RO w (.slice ua j uc) fs (.slice aa la.length ac) bv la lb wr)) (fun i _ => j - (intOf i).toNat)
            case atStart => exact ⟨0, [], _, rfl, by omega, Nat.zero_le _, Lib.hid (by rw [List.drop_zero, HP2.out]; rfl), HO⟩
            case round =>
              clear HO
              obtain ⟨jj, lb, bv, rfl, hj11, hacl, HE2, HO⟩ := hrel
              obtain ⟨ba9, bc9, ha⟩ := O2.shape HO.out.ob
              rw [List.length_map] at ha
              subst ha
              have y0 := HO.out.bo.c0
              have y1 := HO.out.bo.c1
              have x0 := HO.out.bx.c0
              have x1 := HO.out.bx.c1
              have f0 := HO.out.bx.free 0
              have f1 := HO.out.bx.free 1
              by_cases hjl : jj < j
              · have hkl : jj < fs.length := by have := HL.out; omega
                rcases HO.out.fo.at with ⟨h0, _⟩ | ⟨g, o, c, hg, hcs⟩
                · have := congrArg List.length h0; rw [List.length_map, List.length_nil] at this; omega
                obtain ⟨q0, q1, q2, q3⟩ := hcs jj (by rw [List.length_map]; exact hkl)
                rw [List.getElem_map] at q0 q3
                rw [List.length_map, HL.out] at hg
                have hft := HT.out fs[jj] (List.getElem_mem hkl)
                have hrun := HE2.out
                rw [List.drop_eq_getElem_cons hkl, pts_cons] at hrun
                clear hcs q1 q2
                generalize fs[jj] = f at *
                obtain ⟨fn, fw, fv, ft⟩ := f
                unfold ffd at q0 q3
                dsimp only at q0 q3 hrun hft
                by_cases h1 : fn = 2
                · subst h1
                  rw [if_pos rfl] at hrun
                  have HC := Lib.hid (fun W => rsmp_any (bs ft) (by rw [bs_size]; omega) W)
                  rw [bs_data] at HC
                  obtain ⟨X, e, hXe⟩ : ∃ X e, rSm ft = (X, e) := ⟨_, _, rfl⟩
                  rw [hXe] at HC hrun
                  dsimp only at HC hrun
                  clear hXe
                  by_cases he : e = 0
                  · subst he
                    rw [if_neg (by simp)] at hrun
                    dsimp only at hrun
                    have HRN : Hid ((lb ++ [X] ++ (pts 2 rSm (fs.drop (jj + 1))).1, (pts 2 rSm (fs.drop (jj + 1))).2) = P2) := Lib.hid (by rw [← hrun]; simp)
                    clear hrun x0 x1 y0 y1 f0 f1
                    obtain ⟨Xn, Xv⟩ := X
                    dsimp only at HC
                    cases hg
                    go_wp2_with fail
                    refine (HC.out _).mono ?_
                    rintro e w3 ⟨rfl, hb3⟩
                    have HO3 := Lib.hid (HO.out.below hb3)
                    have HO4 := Lib.hid (HO3.out.below ((Below.refl _ _).alloc (Nat.le_refl _) (.cells #[.int .i64 Xn, .int .u64 (Xv : Int)] 37)))
                    have HO5 := Lib.hid (HO4.out.below ((Below.refl _ _).alloc (Nat.le_refl _) (.cells #[.int .i64 Xn, .int .u64 (Xv : Int)] 37)))
                    have y1 := HO4.out.bo.c1
                    have hcn := cells_new2 (w3.alloc (.cells #[.int .i64 Xn, .int .u64 (Xv : Int)] 37)) (.int .i64 Xn) (.int .u64 (Xv : Int)) 37
                    rw [World.size_alloc] at hcn
                    have HCN := Lib.hid hcn
                    have HSZ : Hid (w.heap.size + 2 ≤ w3.heap.size) := Lib.hid (by have := HO3.out.bo.lt; omega)
                    have hal2 : lb.length ≤ 1000000 := by omega
                    have hown5 := HO5.out.ob
                    have HOW5 : Hid (World.ownsRow ((w3.alloc (.cells #[.int .i64 Xn, .int .u64 (Xv : Int)] 37)).alloc (.cells #[.int .i64 Xn, .int .u64 (Xv : Int)] 37)) (w.heap.size + 2) 37 2 (.slice ba9 lb.length bc9) lb.length (prs (lb.map sp))) := Lib.hid (by have := hown5; unfold O2 at this; rw [List.length_map] at this; exact this)
                    clear hcn hb3 hown5
                    go_wp2_with (at_builtin; refine wpList_append_own_at _ rfl (.tmp 101) (.tmp 103) 38 rfl (w.heap.size + 2) 37 i1 _ 2 16 Try.underlying38 hj hj0 hj1 hj2 (by rfl) (by decide) (.slice ba9 lb.length bc9) lb.length (prs (lb.map sp)) rfl HOW5.out ⟨w3.heap.size + 1, 0, none⟩ 1 1 [.int .i64 Xn, .int .u64 (Xv : Int)] rfl rfl HCN.out (by simp [Value.oneCell']) (by unfold maxLen; omega) (by omega) (by have := HSZ.out; rw [World.size_alloc, World.size_alloc]; omega) ?_; intro v' w6 hown' hgrow hnil hloc; have HON := Lib.hid hown'; have HGR := Lib.hid hgrow; have g6 := (HO5.out.bo.kept hgrow (fun e => by have := (own_lt HOW5.out _ e.symm).1; omega)).free 1; have g7 := (HO5.out.bo.kept hgrow (fun e => by have := (own_lt HOW5.out _ e.symm).1; omega)).c1; obtain ⟨a2, c2, hv2⟩ := ownsRow_shape hown'; subst hv2; clear hown' hgrow hnil hloc)
                    go_roundw
                    case rel => exact ⟨jj + 1, lb ++ [⟨Xn, Xv⟩], _, by go_num, by omega, by simp; omega, HRN, Lib.hid (HO5.out.b HGR.out (by have h := HON.out; unfold O2; rw [List.map_append, List.length_append, List.length_map]; show World.ownsRow _ _ _ _ _ _ (prs (_ ++ [(_, _)])); rw [prs_append]; exact h))⟩
                    case measure => simp [intOf]; omega
                  · rw [if_pos (show e ≠ 0 from he)] at hrun
                    have HRN : Hid (R = (⟨[], []⟩, e)) := Lib.hid (by rw [← HG2.out, ← HF1.out, ← hrun]; dsimp only; rw [if_neg (by simp), if_pos (show e ≠ 0 from he)])
                    have e1 : ((e : Int) != 0) = true := by rw [bne_iff_ne]; omega
                    have e2 : ¬ (e : Int) = 0 := by omega
                    clear hrun he x0 x1 y0 y1 f0 f1
                    obtain ⟨Xn, Xv⟩ := X
                    dsimp only at HC
                    cases hg
                    go_wp2_with fail
                    refine (HC.out _).mono ?_
                    rintro e3 w3 ⟨rfl, hb3⟩
                    have HO4 := Lib.hid ((HO.out.below hb3).below ((Below.refl _ _).alloc (Nat.le_refl _) (.cells #[.int .i64 Xn, .int .u64 (Xv : Int)] 37)))
                    have x0 := HO4.out.bx.c0
                    have x1 := HO4.out.bx.c1
                    have f0 := HO4.out.bx.free 0
                    have f1 := HO4.out.bx.free 1
                    clear hb3
                    go_wp2
                    refine retc2 Try.results28 two40 w.heap.size rfl rfl rfl (HO4.out.err e).1 ?_
                    rw [HRN.out]
                    exact (HO4.out.err e).2
                · rw [if_neg h1] at hrun
                  have HRN := Lib.hid hrun
                  have h1i : ((fn : Int) == 2) = false := by rw [beq_eq_false_iff_ne]; omega
                  have h1j : ¬ (fn : Int) = 2 := by omega
                  clear hrun h1
                  cases hg
                  go_wp2
                  go_roundw
                  case rel => exact ⟨jj + 1, lb, _, by go_num, by omega, by omega, HRN, HO⟩
                  case measure => simp [intOf]; omega
              · obtain rfl : jj = j := by omega
                have HF2 : Hid ((lb, 0) = P2) := Lib.hid (by have := HE2.out; rw [List.drop_of_length_le (by have := HL.out; omega)] at this; simpa [pts] using this)
                clear x0 x1 y0 y1 f0 f1 HE2
                have y0 := HO.out.bo.c0
                have y1 := HO.out.bo.c1
                have x0 := HO.out.bx.c0
                have x1 := HO.out.bx.c1
                have f0 := HO.out.bx.free 0
                have f1 := HO.out.bx.free 1
                have HRN : Hid (R = (⟨la, lb⟩, 0)) := Lib.hid (by rw [← HG2.out, ← HF1.out, ← HF2.out]; rfl)
                go_wp2
                refine retc2 Try.results28 two40 w.heap.size rfl rfl rfl HO.out.out.1 ?_
                rw [HRN.out]
                exact HO.out.out.2
  · rw [if_pos hK]
    have hK2 : ((K : Int) != 0) = true := by rw [bne_iff_ne]; omega
    have hK3 : ¬ (K : Int) = 0 := by omega
    clear hfl hK
    go_enter Try.func28, Try.ntmps28
    go_wp2_with fail
    refine (HR.out _).mono ?_
    rintro e w2 ⟨u, rfl, ho, hb⟩
    have HO := Lib.hid (HRO.out w2 u ho hb)
    have y0 := HO.out.bo.c0
    have y1 := HO.out.bo.c1
    have x0 := HO.out.bx.c0
    have x1 := HO.out.bx.c1
    have f0 := HO.out.bx.free 0
    have f1 := HO.out.bx.free 1
    clear ho hb
    go_wp2
    exact retc2 Try.results28 two40 w.heap.size rfl rfl rfl (HO.out.err K).1 (HO.out.err K).2
end Go.Proofs.Ytknfodpegkpjnaa
namespace Go.Proofs.Ytknfodpegkpjnaa
open Go Go.RowKit
set_option maxRecDepth 100000
structure RD (w : World) (U : Value) (fs : List Fd) (u : Value) (zs : List Zr) (wr : World) : Prop where
  os : Osr wr w.heap.size u zs
  fo : Of wr w.heap.size U (fs.map ffd)
  bel : Below w.heap.size w wr
theorem RD.below {w : World} {U : Value} {fs : List Fd} {u : Value} {zs : List Zr} {wr W : World} (h : RD w U fs u zs wr) (hb : Below wr.heap.size wr W) : RD w U fs u zs W :=
  ⟨h.os.below hb (Nat.le_refl _), h.fo.below hb (Nat.le_refl _), h.bel.trans (hb.mono h.bel.size)⟩
theorem RD.app {w : World} {U : Value} {fs : List Fd} {u u' : Value} {zs : List Zr} {z : Zr} {wr W : World} (h : RD w U fs u zs wr) (hl : Ol wr w.heap.size z.a z.x.ls) (hm : Om wr w.heap.size z.b z.x.ss) (hg : wr.grownBy W u.ownBlock) (ho : O2 40 W w.heap.size u' ((zs ++ [z]).map zp)) : RD w U fs u' (zs ++ [z]) W := by
  refine ⟨⟨ho, fun y hy => ?_, fun y hy => ?_⟩, World.ownsRow.kept h.fo hg (own_ne h.fo h.os.row (by decide)), h.bel.grown hg h.bel.size (fun k e => (own_lt h.os.row k e).1)⟩
  · have : Ol wr w.heap.size y.a y.x.ls := by
      rcases List.mem_append.1 hy with hy | hy
      · exact h.os.ls y hy
      · obtain rfl := List.mem_singleton.1 hy; exact hl
    exact World.ownsRow.kept this hg (own_ne this h.os.row (by decide))
  · have : Om wr w.heap.size y.b y.x.ss := by
      rcases List.mem_append.1 hy with hy | hy
      · exact h.os.ss y hy
      · obtain rfl := List.mem_singleton.1 hy; exact hm
    exact World.ownsRow.kept this hg (own_ne this h.os.row (by decide))
theorem bad1_cons (f : Fd) (r : List Fd) : bad1 (f :: r) = ((decide (f.n = 1) && decide (f.w ≠ 2)) || bad1 r) := rfl
set_option maxHeartbeats 1000000 in
theorem rdec_any (s : ByteArray) (hs : s.size ≤ 1000000) (w : World) : Calls Try.prog 11 #[.string s] w (TellsD w (rRq s.data.toList)) := by
  have HR := Lib.hid (fun W => rread_any s hs W)
  obtain ⟨i0, hi, hz0, hz1, hz2⟩ := info_parts Try.info40
  have hfl := fun (h : (msg s.data.toList []).2 = 0) => And.intro (msg_ok' (s := s.data.toList) (by simpa using hs) (show msg s.data.toList [] = ((msg s.data.toList []).1, 0) by rw [← h])) (msg_texts (s := s.data.toList) (by simpa using hs) (show msg s.data.toList [] = ((msg s.data.toList []).1, 0) by rw [← h]))
  unfold rRq
  obtain ⟨fs, K, hm⟩ : ∃ fs K, msg s.data.toList [] = (fs, K) := ⟨_, _, rfl⟩
  rw [hm] at HR hfl ⊢
  dsimp only at HR hfl ⊢
  rw [show s.data.toList.length = s.size by simp] at hfl
  clear hm
  by_cases hK : K = 0
  · subst hK
    rw [if_neg (by simp)]
    obtain ⟨⟨hok, hfl2⟩, htx⟩ := hfl rfl
    have hfl2 : fs.length ≤ 1000000 := by omega
    have HT := Lib.hid htx
    obtain ⟨R, hR⟩ : ∃ R, gRq fs = R := ⟨_, rfl⟩
    rw [hR]
    have HG := Lib.hid hR
    clear hfl hR htx hok
    go_enter Try.func11, Try.ntmps11
    go_wp2_with fail
    refine (HR.out _).mono ?_
    rintro e w2 ⟨u, rfl, ho, hb⟩
    have HRO2 : Hid (RD w u fs (.slice none 0 0) [] w2) := Lib.hid ⟨Osr.nil _ _, ho, hb⟩
    obtain ⟨ua, uc, hu⟩ := ho.shape
    rw [List.length_map] at hu
    generalize hL : fs.length = L at *
    have HL := Lib.hid hL
    subst hu
    clear ho hb hL
    go_wp2
    go_loopw [6] (fun i wr => ∃ (k : Nat), i = .int .i64 (k : Int) ∧ k ≤ L ∧ Hid (bad1 (fs.drop k) = bad1 fs) ∧ Hid (RD w (.slice ua L uc) fs (.slice none 0 0) [] wr)) (fun i _ => L - (intOf i).toNat)
    case atStart => exact ⟨0, rfl, by omega, Lib.hid rfl, HRO2⟩
    case round =>
      obtain ⟨k, rfl, hk, HE, HO⟩ := hrel
      by_cases hlt : k < L
      · have hkl : k < fs.length := by have := HL.out; omega
        rcases HO.out.fo.at with ⟨h0, _⟩ | ⟨g, o, c, hg, hcs⟩
        · have := congrArg List.length h0; rw [List.length_map, List.length_nil] at this; omega
        obtain ⟨q0, q1, q2, q3⟩ := hcs k (by rw [List.length_map]; exact hkl)
        rw [List.getElem_map] at q0 q1
        rw [List.length_map, HL.out] at hg
        have hrun := HE.out
        rw [List.drop_eq_getElem_cons hkl, bad1_cons] at hrun
        clear hcs q2 q3
        generalize fs[k] = f at *
        obtain ⟨fn, fw, fv, ft⟩ := f
        unfold ffd at q0 q1
        dsimp only at q0 q1 hrun
        by_cases h1 : fn = 1
        · subst h1
          by_cases h2 : fw = 2
          · subst h2
            have HRN : Hid (bad1 (fs.drop (k + 1)) = bad1 fs) := Lib.hid (by rw [← hrun]; simp)
            clear hrun
            cases hg
            go_wp2
            go_roundw
            case rel => exact ⟨k + 1, by go_num, by omega, HRN, HO⟩
            case measure => simp [intOf]; omega
          · have HRN : Hid (R = ([], 4)) := Lib.hid (by
              rw [← HG.out]
              unfold gRq
              rw [if_pos (by rw [← hrun]; simp [h2])])
            have h2i : ((fw : Int) != 2) = true := by rw [bne_iff_ne]; omega
            have h2j : ¬ (fw : Int) = 2 := by omega
            clear hrun h2
            cases hg
            go_wp2
            go_ret2
            rw [HRN.out]
            exact ⟨_, [], rfl, Osr.nil _ _, rfl, HO.out.bel⟩
        · have HRN : Hid (bad1 (fs.drop (k + 1)) = bad1 fs) := Lib.hid (by rw [← hrun]; simp [h1])
          have h1i : ((fn : Int) == 1) = false := by rw [beq_eq_false_iff_ne]; omega
          have h1j : ¬ (fn : Int) = 1 := by omega
          clear hrun h1
          cases hg
          go_wp2
          go_roundw
          case rel => exact ⟨k + 1, by go_num, by omega, HRN, HO⟩
          case measure => simp [intOf]; omega
      · obtain rfl : k = L := by omega
        have HG2 : Hid (pts 1 rSr fs = R) := Lib.hid (by
          have := HE.out
          rw [List.drop_of_length_le (by have := HL.out; omega)] at this
          rw [← HG.out]
          unfold gRq
          rw [← this, show bad1 [] = false from rfl, if_neg (show ¬ (false = true) by decide)])
        clear HE
        go_wp2
        obtain ⟨wa, hwa⟩ : ∃ wa, wa = wr := ⟨_, rfl⟩
        subst hwa
        go_loopw [7, 8] (fun u i wr => ∃ (j : Nat) (zs : List Zr), i = .int .i64 (j : Int) ∧ j ≤ k ∧ zs.length ≤ j ∧ Hid ((zs.map Zr.x ++ (pts 1 rSr (fs.drop j)).1, (pts 1 rSr (fs.drop j)).2) = R) ∧ Hid (RD w (.slice ua k uc) fs u zs wr)) (fun _ i _ => k - (intOf i).toNat)
        case atStart => exact ⟨0, [], rfl, by omega, Nat.zero_le _, Lib.hid (by rw [List.drop_zero, HG2.out]; rfl), HO⟩
        case round =>
          clear HO
          obtain ⟨j, zs, rfl, hj, hacl, HE2, HO⟩ := hrel
          obtain ⟨va, vc, hv⟩ := HO.out.os.shape
          subst hv
          by_cases hjl : j < k
          · have hkl : j < fs.length := by have := HL.out; omega
            rcases HO.out.fo.at with ⟨h0, _⟩ | ⟨g, o, c, hg, hcs⟩
            · have := congrArg List.length h0; rw [List.length_map, List.length_nil] at this; omega
            obtain ⟨q0, q1, q2, q3⟩ := hcs j (by rw [List.length_map]; exact hkl)
            rw [List.getElem_map] at q0 q3
            rw [List.length_map, HL.out] at hg
            have hft := HT.out fs[j] (List.getElem_mem hkl)
            have hrun := HE2.out
            rw [List.drop_eq_getElem_cons hkl, pts_cons] at hrun
            clear hcs q1 q2
            generalize fs[j] = f at *
            obtain ⟨fn, fw, fv, ft⟩ := f
            unfold ffd at q0 q3
            dsimp only at q0 q3 hrun hft
            by_cases h1 : fn = 1
            · subst h1
              rw [if_pos rfl] at hrun
              have HC := Lib.hid (fun W => ron_any (bs ft) (by rw [bs_size]; omega) W)
              rw [bs_data] at HC
              obtain ⟨X, e, hXe⟩ : ∃ X e, rSr ft = (X, e) := ⟨_, _, rfl⟩
              rw [hXe] at HC hrun
              dsimp only at hrun
              clear hXe
              by_cases he : e = 0
              · subst he
                rw [if_neg (by simp)] at hrun
                dsimp only at hrun
                have HRN : Hid (∀ a b : Value, ((((zs ++ [(⟨X, a, b⟩ : Zr)]).map Zr.x) ++ (pts 1 rSr (fs.drop (j + 1))).1, (pts 1 rSr (fs.drop (j + 1))).2) = R)) := Lib.hid fun a b => by rw [← hrun]; simp
                have hal2 : zs.length ≤ 1000000 := by omega
                clear hrun
                cases hg
                go_wp2_with fail
                refine (HC.out _).mono ?_
                rintro e w3 ⟨a, b, rfl, hol, hom, hb3⟩
                obtain ⟨a1, a2, ha⟩ := O2.shape hol
                obtain ⟨b1, b2, hb⟩ := O2.shape hom
                have HO3 := Lib.hid (HO.out.below hb3)
                have HOL := Lib.hid (O2.mono hol HO.out.bel.size)
                have HOM := Lib.hid (O2.mono hom HO.out.bel.size)
                have HSZ : Hid (w.heap.size ≤ w3.heap.size) := Lib.hid HO3.out.bel.size
                dsimp only at ha hb HOL HOM
                rw [List.length_map] at ha hb
                subst ha hb
                generalize X.ls.length = N1 at *
                generalize X.ss.length = N2 at *
                have HO5 := Lib.hid ((HO3.out.below ((Below.refl _ _).alloc (Nat.le_refl _) (.cells #[.slice a1 N1 a2, .slice b1 N2 b2] 40))).below ((Below.refl _ _).alloc (Nat.le_refl _) (.cells #[.slice a1 N1 a2, .slice b1 N2 b2] 40)))
                have HOL5 := Lib.hid (World.ownsRow.alloc (World.ownsRow.alloc HOL.out (.cells #[.slice a1 N1 a2, .slice b1 N2 b2] 40)) (.cells #[.slice a1 N1 a2, .slice b1 N2 b2] 40))
                have HOM5 := Lib.hid (World.ownsRow.alloc (World.ownsRow.alloc HOM.out (.cells #[.slice a1 N1 a2, .slice b1 N2 b2] 40)) (.cells #[.slice a1 N1 a2, .slice b1 N2 b2] 40))
                have hcn := cells_new2 (w3.alloc (.cells #[.slice a1 N1 a2, .slice b1 N2 b2] 40)) (.slice a1 N1 a2) (.slice b1 N2 b2) 40
                rw [World.size_alloc] at hcn
                have HCN := Lib.hid hcn
                have hown5 := HO5.out.os.row
                have HOW5 : Hid (World.ownsRow ((w3.alloc (.cells #[.slice a1 N1 a2, .slice b1 N2 b2] 40)).alloc (.cells #[.slice a1 N1 a2, .slice b1 N2 b2] 40)) w.heap.size 40 2 (.slice va zs.length vc) zs.length (prs (zs.map zp))) := Lib.hid (by have := hown5; unfold O2 at this; rw [List.length_map] at this; exact this)
                clear hcn hb3 hown5 hol hom
                go_wp2_with (at_builtin; refine wpList_append_own_at _ rfl (.tmp 64) (.tmp 66) 23 rfl w.heap.size 40 i0 _ 2 48 Try.underlying23 hi hz0 hz1 hz2 (by rfl) (by decide) (.slice va zs.length vc) zs.length (prs (zs.map zp)) rfl HOW5.out ⟨w3.heap.size + 1, 0, none⟩ 1 1 [.slice a1 N1 a2, .slice b1 N2 b2] rfl rfl HCN.out (by simp [Value.oneCell']) (by unfold maxLen; omega) (by omega) (by have := HSZ.out; rw [World.size_alloc, World.size_alloc]; omega) ?_; intro v' w6 hown' hgrow hnil hloc; have HON := Lib.hid hown'; have HGR := Lib.hid hgrow; obtain ⟨a9, c9, hv2⟩ := ownsRow_shape hown'; subst hv2; clear hown' hgrow hnil hloc)
                go_roundw
                case rel => exact ⟨j + 1, zs ++ [⟨X, .slice a1 N1 a2, .slice b1 N2 b2⟩], by go_num, by omega, by simp; omega, Lib.hid (HRN.out _ _), Lib.hid (RD.app (z := ⟨X, .slice a1 N1 a2, .slice b1 N2 b2⟩) HO5.out HOL5.out HOM5.out HGR.out (by have h := HON.out; unfold O2; rw [List.map_append, List.length_append, List.length_map]; show World.ownsRow _ _ _ _ _ _ (prs (_ ++ [(_, _)])); rw [prs_append]; exact h))⟩
                case measure => simp [intOf]; omega
              · rw [if_pos (show e ≠ 0 from he)] at hrun
                have HRN : Hid (R = (zs.map Zr.x, e)) := Lib.hid (by rw [← hrun]; simp)
                have e1 : ((e : Int) != 0) = true := by rw [bne_iff_ne]; omega
                have e2 : ¬ (e : Int) = 0 := by omega
                clear hrun he
                cases hg
                go_wp2_with fail
                refine (HC.out _).mono ?_
                rintro e3 w3 ⟨a, b, rfl, hol, hom, hb3⟩
                obtain ⟨a1, a2, ha⟩ := O2.shape hol
                obtain ⟨b1, b2, hb⟩ := O2.shape hom
                have HO4 := Lib.hid (HO.out.below hb3)
                dsimp only at ha hb
                rw [List.length_map] at ha hb
                subst ha hb
                generalize X.ls.length = N1 at *
                generalize X.ss.length = N2 at *
                have HO5 := Lib.hid (HO4.out.below ((Below.refl _ _).alloc (Nat.le_refl _) (.cells #[.slice a1 N1 a2, .slice b1 N2 b2] 40)))
                clear hb3 hol hom
                go_wp2
                go_ret2
                rw [HRN.out]
                exact ⟨_, zs, rfl, HO5.out.os, rfl, HO5.out.bel⟩
            · rw [if_neg h1] at hrun
              have HRN := Lib.hid hrun
              have h1i : ((fn : Int) != 1) = true := by rw [bne_iff_ne]; omega
              have h1j : ¬ (fn : Int) = 1 := by omega
              clear hrun h1
              cases hg
              go_wp2
              go_roundw
              case rel => exact ⟨j + 1, zs, by go_num, by omega, by omega, HRN, HO⟩
              case measure => simp [intOf]; omega
          · obtain rfl : j = k := by omega
            have HRN : Hid (R = (zs.map Zr.x, 0)) := Lib.hid (by have := HE2.out; rw [List.drop_of_length_le (by have := HL.out; omega)] at this; rw [← this]; simp [pts])
            go_wp2
            go_ret2
            rw [HRN.out]
            exact ⟨_, zs, rfl, HO.out.os, rfl, HO.out.bel⟩
  · rw [if_pos hK]
    have hK2 : ((K : Int) != 0) = true := by rw [bne_iff_ne]; omega
    have hK3 : ¬ (K : Int) = 0 := by omega
    clear hfl hK
    go_enter Try.func11, Try.ntmps11
    go_wp2_with fail
    refine (HR.out _).mono ?_
    rintro e w2 ⟨u, rfl, ho, hb⟩
    have HB2 := Lib.hid hb
    clear ho hb
    go_wp2
    go_ret2
    exact ⟨_, [], rfl, Osr.nil _ _, rfl, HB2.out⟩
end Go.Proofs.Ytknfodpegkpjnaa
namespace Go.Proofs.Ytknfodpegkpjnaa
open Go Go.RowKit
set_option maxRecDepth 100000
theorem eat_tel (M : Nat) (rd : List UInt8 → Sr × Nat) : ∀ (ts : List (List UInt8)) (acc : List Sr), acc.length + ts.length < M → eat M (tel rd ts) acc = (acc ++ (pt rd ts).1, (pt rd ts).2)
  | [], acc, _ => by simp [tel, eat, pt]
  | t :: r, acc, h => by
    rw [List.length_cons] at h
    rw [tel, pt]
    by_cases h1 : (rd t).2 ≠ 0
    · rw [if_pos h1, if_pos h1, eat, if_pos h1]; simp
    · rw [if_neg h1, if_neg h1, eat, if_neg h1, if_neg (by omega), eat_tel M rd r _ (by rw [List.length_append, List.length_singleton]; omega)]
      simp
theorem eat_all (M : Nat) (s : List UInt8) (hs : s.length ≤ 1000000) (hM : 1000000 < M) : eat M (tS s) [] = rRq s := by
  have hl := (rqT_facts s hs).2
  unfold tS rqT rRq gRq at *
  by_cases h0 : (msg s []).2 ≠ 0
  · rw [if_pos h0, if_pos h0, if_pos h0, eat, if_pos h0]
  · rw [if_neg h0] at hl
    rw [if_neg h0, if_neg h0, bad1_bd]
    by_cases h1 : bd 1 2 (msg s []).1 = true
    · rw [if_pos h1, if_pos h1]; rfl
    · rw [if_neg h1] at hl
      rw [if_neg h1, if_neg h1, if_neg (by simp), eat_tel M rSr _ [] (by rw [List.length_nil]; omega), pts_tx]
      simp
/-- Written within blocks that were told; every block keeps its kind. -/
structure Spo (base top : Nat) (w W : World) : Prop where
  os : W.os = w.os
  tape : W.tape = w.tape
  output : W.output = w.output
  size : W.heap.size = w.heap.size
  block : ∀ g, (g < base ∨ top ≤ g) → W.heap[g]? = w.heap[g]?
  kind : ∀ (g : Nat) (cur : Array Value) (t : TypeId), w.heap[g]? = some (.cells cur t (0, 0)) → ∃ cur', W.heap[g]? = some (.cells cur' t (0, 0)) ∧ cur'.size = cur.size
theorem Spo.refl (base top : Nat) (w : World) : Spo base top w w := ⟨rfl, rfl, rfl, rfl, fun _ _ => rfl, fun _ cur _ h => ⟨cur, h, rfl⟩⟩
theorem Spo.set {base top : Nat} {w W : World} (h : Spo base top w W) {g : Nat} (hg : base ≤ g ∧ g < top) (j : Nat) (u : Value) : Spo base top w (W.setCell ⟨g, j, none⟩ u) := by
  refine ⟨h.os, h.tape, h.output, by rw [← h.size]; simp [World.setCell], fun k hk => ?_, fun k cur t hk => ?_⟩
  · rw [Below.heap_setCell _ _ _ _ (by simp only; omega)]; exact h.block k hk
  · obtain ⟨cur', h1, h2⟩ := h.kind k cur t hk
    by_cases e : k = g
    · subst e
      refine ⟨cur'.setIfInBounds j u, ?_, by simpa using h2⟩
      simp [World.setCell, Array.getElem?_modify, h1]
    · refine ⟨cur', ?_, h2⟩
      rw [Below.heap_setCell _ _ _ _ (by simpa using e)]; exact h1
theorem Spo.cell {base top : Nat} {w W : World} (h : Spo base top w W) {g off : Nat} {t : TypeId} {x : Value} {cur : Array Value} (hm : w.heap[g]? = some (.cells cur t)) (hc : w.cell? ⟨g, off, none⟩ = some x) : (∃ u, W.cell? ⟨g, off, none⟩ = some u) ∧ W.frozen? ⟨g, off, none⟩ = false := by
  obtain ⟨cur', h1, h2⟩ := h.kind g cur t hm
  have hx : cur[off]? = some x := by simpa [World.cell?, hm] using hc
  have hlt : off < cur'.size := by have := (Array.getElem?_eq_some_iff.1 hx).1; omega
  exact ⟨⟨cur'[off], by simp [World.cell?, h1]⟩, by simp [World.frozen?, h1]⟩
/-- A row's headers, from one on. -/
def Hd (v : Value) (zs : List Zr) (k : Nat) (W : World) : Prop := ∀ j, k ≤ j → ∀ h : j < zs.length, ∃ g o c, v = .slice (some ⟨g, o, none⟩) zs.length c ∧ W.cell? ⟨g, o + j * 2, none⟩ = some zs[j].a ∧ W.cell? ⟨g, o + j * 2 + 1, none⟩ = some zs[j].b
theorem Hd.set {v : Value} {zs : List Zr} {k : Nat} {W : World} (h : Hd v zs k W) {g j : Nat} (hg : v.ownBlock ≠ some g) (u : Value) : Hd v zs k (W.setCell ⟨g, j, none⟩ u) := fun i hi hz => by
  obtain ⟨g2, o, c, e, h1, h2⟩ := h i hi hz
  have hne : g2 ≠ g := fun e2 => hg (by rw [e, e2]; rfl)
  have hk : ∀ o, (W.setCell ⟨g, j, none⟩ u).cell? ⟨g2, o, none⟩ = W.cell? ⟨g2, o, none⟩ := fun o => World.cell?_of_block (a := ⟨g2, o, none⟩) (Below.heap_setCell _ _ _ _ (by simpa using hne))
  exact ⟨g2, o, c, e, by rw [hk]; exact h1, by rw [hk]; exact h2⟩
theorem Hd.nil {v : Value} {zs : List Zr} {k : Nat} {W : World} (h : Hd v zs k W) {g o c : Nat} (hv : v = .slice (some ⟨g, o, none⟩) zs.length c) (u : Value) : Hd v zs (k + 1) (W.setCell ⟨g, o + k * 2, none⟩ u) := fun i hi hz => by
  obtain ⟨g2, o2, c2, e, h1, h2⟩ := h i (by omega) hz
  rw [hv] at e
  cases e
  have hk : ∀ p, p ≠ o + k * 2 → (W.setCell ⟨g, o + k * 2, none⟩ u).cell? ⟨g, p, none⟩ = W.cell? ⟨g, p, none⟩ := fun p hp => by
    unfold World.cell? World.setCell
    simp only [Array.getElem?_modify]
    cases hh : W.heap[g]? with
    | none => simp
    | some ob =>
      cases ob
      all_goals first
        | (simp; done)
        | simp [Array.getElem?_setIfInBounds, Ne.symm hp]
  exact ⟨g, o, c, hv, by rw [hk _ (by omega)]; exact h1, by rw [hk _ (by omega)]; exact h2⟩
end Go.Proofs.Ytknfodpegkpjnaa
namespace Go.Proofs.Ytknfodpegkpjnaa
open Go Go.RowKit
set_option maxRecDepth 100000
set_option maxHeartbeats 1000000 in
theorem spoil_any (base : Nat) (w0 : World) (v : Value) (zs : List Zr) (h0 : Osr w0 base v zs) (w : World) (hb : Below w0.heap.size w0 w) (hzl : zs.length ≤ 1000000) (hzp : ∀ z ∈ zs, z.x.ls.length ≤ 1000000 ∧ z.x.ss.length ≤ 1000000) :
    Calls Try.prog 15 #[v] w fun e w' => (∃ u, e = .returned u) ∧ Spo base w0.heap.size w w' := by
  have hlt : ∀ g, v.ownBlock = some g → base ≤ g ∧ g < w0.heap.size := own_lt h0.row
  have hL0 : ∀ z ∈ zs, ∀ g, z.a.ownBlock = some g → base ≤ g ∧ g < w0.heap.size := fun z hz => own_lt (h0.ls z hz)
  have hS0 : ∀ z ∈ zs, ∀ g, z.b.ownBlock = some g → base ≤ g ∧ g < w0.heap.size := fun z hz => own_lt (h0.ss z hz)
  have h := h0.below hb (Nat.le_refl _)
  generalize w0.heap.size = top at *
  have HLT := Lib.hid hlt
  have HL0 := Lib.hid hL0
  have HS0 := Lib.hid hS0
  have HOS := Lib.hid h
  have HZP := Lib.hid hzp
  have hd0 : Hd v zs 0 w := fun j _ hj => by
    rcases h.row.at with ⟨e, _⟩ | ⟨g, o, c, hg, hcs⟩
    · have := congrArg List.length e; rw [List.length_map, List.length_nil] at this; omega
    · obtain ⟨q0, q1⟩ := hcs j (by rw [List.length_map]; exact hj)
      rw [List.getElem_map] at q0 q1
      rw [List.length_map] at hg
      exact ⟨g, o, c, hg, q0, q1⟩
  have HD0 := Lib.hid hd0
  obtain ⟨va, vc, hv⟩ := h.shape
  clear h0 hb hlt hL0 hS0 h hd0 hzp
  generalize hL : zs.length = L at *
  have HL := Lib.hid hL
  subst hv
  clear hL
  go_enter Try.func15, Try.ntmps15
  go_wp2
  go_loopw [2] (fun i wr => ∃ (k : Nat), i = .int .i64 (k : Int) ∧ k ≤ L ∧ Hid (Spo base top w wr) ∧ Hid (Hd (.slice va L vc) zs k wr)) (fun i _ => L - (intOf i).toNat)
  case atStart => exact ⟨0, rfl, by omega, Lib.hid (Spo.refl _ _ _), HD0⟩
  case round =>
    obtain ⟨wo, hwo⟩ : ∃ wo, wo = wr := ⟨_, rfl⟩
    subst hwo
    obtain ⟨k, rfl, hk, HS, HH⟩ := hrel
    by_cases hlt : k < L
    · have hkl : k < zs.length := by have := HL.out; omega
      obtain ⟨g, o, c, hg, q0, q1⟩ := HH.out k (Nat.le_refl _) hkl
      have hA := HOS.out.ls zs[k] (List.getElem_mem hkl)
      have hM := HOS.out.ss zs[k] (List.getElem_mem hkl)
      have hal := HL0.out zs[k] (List.getElem_mem hkl)
      have hbl := HS0.out zs[k] (List.getElem_mem hkl)
      have hzp := HZP.out zs[k] (List.getElem_mem hkl)
      have HK : Hid (∀ (j : Nat) (W : World), Hd (.slice va L vc) zs k W → W.cell? ⟨g, o + k * 2, none⟩ = some zs[k].a ∧ W.cell? ⟨g, o + k * 2 + 1, none⟩ = some zs[k].b) := Lib.hid fun _ W hW => by
        obtain ⟨g2, o2, c2, e2, r0, r1⟩ := hW k (Nat.le_refl _) hkl
        rw [hg] at e2
        cases e2
        exact ⟨r0, r1⟩
      have hgb := HLT.out g (by rw [hg]; rfl)
      have hNA := own_ne hA HOS.out.row (by decide)
      have hNB := own_ne hM HOS.out.row (by decide)
      have hmr := own_mark HOS.out.row g (by rw [hg]; rfl)
      rw [HL.out] at hg
      generalize zs[k] = Z at *
      obtain ⟨⟨ls, ss⟩, za, zb⟩ := Z
      dsimp only at *
      obtain ⟨a1, a2, ha⟩ := O2.shape hA
      obtain ⟨m1, m2, hm⟩ := O2.shape hM
      rw [List.length_map] at ha hm
      subst ha hm
      have HLA := Lib.hid hA
      have HMA := Lib.hid hM
      have HAL := Lib.hid hal
      have HBL := Lib.hid hbl
      have HGB := Lib.hid hgb
      have HNA := Lib.hid hNA
      have HNB := Lib.hid hNB
      have HMR := Lib.hid hmr
      obtain ⟨hl1, hl2⟩ := hzp
      generalize hLL : ls.length = LL at *
      generalize hMM : ss.length = MM at *
      have HLL := Lib.hid hLL
      have HMM := Lib.hid hMM
      clear hA hM hal hbl hgb hNA hNB hmr hLL hMM
      cases hg
      go_wp2
      go_loopw [3] (fun i wi => ∃ (j : Nat), i = .int .i64 (j : Int) ∧ j ≤ LL ∧ Hid (Spo base top w wi) ∧ Hid (Hd (.slice (some ⟨g, o, none⟩) L vc) zs k wi)) (fun i _ => LL - (intOf i).toNat)
      case atStart => exact ⟨0, rfl, by omega, HS, HH⟩
      case round =>
        clear q0 q1 HS HH
        obtain ⟨j, rfl, hj, HS, HH⟩ := hrel
        obtain ⟨q0, q1⟩ := HK.out 0 wr HH.out
        by_cases hjl : j < LL
        · have hjk : j < ls.length := by have := HLL.out; omega
          rcases O2.at HLA.out with ⟨h0, _⟩ | ⟨g2, o2, d2, hg2, hcs2⟩
          · have := congrArg List.length h0; rw [List.length_map, List.length_nil] at this; omega
          obtain ⟨r0, r1⟩ := hcs2 j (by rw [List.length_map]; exact hjk)
          rw [List.length_map, HLL.out] at hg2
          obtain ⟨cur, hcur⟩ := own_mark HLA.out g2 (by rw [hg2]; rfl)
          obtain ⟨⟨u0, hu0⟩, f0⟩ := HS.out.cell hcur r0
          have hb2 := HAL.out g2 (by rw [hg2]; rfl)
          have hne : (Value.slice (some ⟨g, o, none⟩) L vc).ownBlock ≠ some g2 := by
            rcases HNA.out with e | e
            · rw [hg2] at e; cases e
            · rw [hg2] at e; exact fun e2 => e e2.symm
          have HS2 := Lib.hid (fun u => HS.out.set hb2 (o2 + j * 2) u)
          have HH2 := Lib.hid (fun u => HH.out.set (j := o2 + j * 2) hne u)
          clear hcs2 r0 r1 hcur hb2 hne
          cases hg2
          go_wp2
          go_roundw
          case rel => exact ⟨j + 1, by go_num, by omega, Lib.hid (HS2.out _), Lib.hid (HH2.out _)⟩
          case measure => simp [intOf]; omega
        · obtain rfl : j = LL := by omega
          obtain ⟨wq, hwq⟩ : ∃ wq, wq = wr := ⟨_, rfl⟩
          subst hwq
          go_wp2
          go_loopw [4] (fun i wi => ∃ (j2 : Nat), i = .int .i64 (j2 : Int) ∧ j2 ≤ MM ∧ Hid (Spo base top w wi) ∧ Hid (Hd (.slice (some ⟨g, o, none⟩) L vc) zs k wi)) (fun i _ => MM - (intOf i).toNat)
          case atStart => exact ⟨0, rfl, by omega, HS, HH⟩
          case round =>
            clear q0 q1 HS HH
            obtain ⟨j2, rfl, hj2, HS, HH⟩ := hrel
            obtain ⟨q0, q1⟩ := HK.out 0 wr HH.out
            by_cases hil : j2 < MM
            · have hik : j2 < ss.length := by have := HMM.out; omega
              rcases O2.at HMA.out with ⟨h0, _⟩ | ⟨g2, o2, d2, hg2, hcs2⟩
              · have := congrArg List.length h0; rw [List.length_map, List.length_nil] at this; omega
              obtain ⟨r0, r1⟩ := hcs2 j2 (by rw [List.length_map]; exact hik)
              rw [List.length_map, HMM.out] at hg2
              obtain ⟨cur, hcur⟩ := own_mark HMA.out g2 (by rw [hg2]; rfl)
              obtain ⟨⟨u0, hu0⟩, f0⟩ := HS.out.cell hcur r0
              have hb2 := HBL.out g2 (by rw [hg2]; rfl)
              have hne : (Value.slice (some ⟨g, o, none⟩) L vc).ownBlock ≠ some g2 := by
                rcases HNB.out with e | e
                · rw [hg2] at e; cases e
                · rw [hg2] at e; exact fun e2 => e e2.symm
              have HS2 := Lib.hid (fun u => HS.out.set hb2 (o2 + j2 * 2) u)
              have HH2 := Lib.hid (fun u => HH.out.set (j := o2 + j2 * 2) hne u)
              clear hcs2 r0 r1 hcur hb2 hne
              cases hg2
              go_wp2
              go_roundw
              case rel => exact ⟨j2 + 1, by go_num, by omega, Lib.hid (HS2.out _), Lib.hid (HH2.out _)⟩
              case measure => simp [intOf]; omega
            · obtain rfl : j2 = MM := by omega
              obtain ⟨cur, hcur⟩ := HMR.out
              have hfr : wr.frozen? ⟨g, o + k * 2, none⟩ = false := by
                obtain ⟨cur', h1, _⟩ := HS.out.kind g cur 40 hcur
                simp [World.frozen?, h1]
              have HS2 := Lib.hid (HS.out.set HGB.out (o + k * 2) (.slice none 0 0))
              have HH2 : Hid (Hd (.slice (some ⟨g, o, none⟩) L vc) zs (k + 1) (wr.setCell ⟨g, o + k * 2, none⟩ (.slice none 0 0))) := Lib.hid (Hd.nil HH.out (by rw [HL.out]) _)
              clear hcur
              go_wp2
              go_roundw
              case rel => exact ⟨k + 1, by go_num, by omega, HS2, HH2⟩
              case measure => simp [intOf]; omega
    · obtain rfl : k = L := by omega
      go_wp2
      refine bodyPost_end (results_none rfl _ _ _) rfl ?_
      exact ⟨⟨_, rfl⟩, HS.out⟩
end Go.Proofs.Ytknfodpegkpjnaa
