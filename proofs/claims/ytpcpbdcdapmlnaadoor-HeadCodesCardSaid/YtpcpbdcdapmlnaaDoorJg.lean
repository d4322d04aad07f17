/- The law's own, is. -/
import Derived.Test.YtpcpbdcdapmlnaaDoorJf
namespace Go.Proofs.YtpcpbdcdapmlnaaDoor
open Go Go.RowKit
set_option maxRecDepth 100000
theorem KAt.src {W : World} {v : Value} {l : List Int} (h : KAt W v l) : Src Tryd.prog 1 24 v l.length (l.map iv) W := by
  rcases h with ⟨rfl, a, c, rfl⟩ | ⟨g, o, c, rfl, hc, h⟩
  · cases a with
    | none => exact Src.ofNil W Tryd.underlying24 c
    | some a => exact Src.ofSlice W Tryd.underlying24 a 0 c [] (by simp) (fun j u h => by simp at h) (fun u h => by cases h)
  · refine Src.ofSlice W Tryd.underlying24 ⟨g, o, none⟩ _ c _ (by simp) (fun j u hj => ?_) (fun u hu => ?_)
    · have hj2 : j < l.length := by have := (List.getElem?_eq_some_iff.1 hj).1; simpa using this
      rw [List.getElem?_map, List.getElem?_eq_getElem hj2] at hj
      injection hj with hj
      subst hj
      have hadd : (⟨g, o, none⟩ : Addr).add j = ⟨g, o + j, none⟩ := by unfold Addr.add; simp
      rw [hadd]; exact h j hj2
    · obtain ⟨t, _, rfl⟩ := List.mem_map.1 hu; rfl
set_option maxHeartbeats 1000000 in
theorem own_any (h : He) (v : Value) (w : World) (hv : KAt w v h.log) (hl : h.log.length ≤ 1000) : Calls Tryd.prog 21 #[hval h v] w fun e w' => ∃ u, e = .returned (hval h u) ∧ Own w' w.heap.size u (h.log.map iv) ∧ Below w.heap.size w w' := by
  have X0 := Lib.hid ((Box4.new w (.int .i64 h.gen) (.int .i64 h.base) (.int .i64 h.snap) v).alloc (.cells #[.int .i64 0, .int .i64 0, .int .i64 0, .slice none 0 0] 26))
  have Y0 : Hid (Box4 ((w.alloc (.cells #[.int .i64 h.gen, .int .i64 h.base, .int .i64 h.snap, v] 26)).alloc (.cells #[.int .i64 0, .int .i64 0, .int .i64 0, .slice none 0 0] 26)) (w.heap.size + 1) (.int .i64 0) (.int .i64 0) (.int .i64 0) (.slice none 0 0)) := Lib.hid (by
    have := Box4.new (w.alloc (.cells #[.int .i64 h.gen, .int .i64 h.base, .int .i64 h.snap, v] 26)) (.int .i64 0) (.int .i64 0) (.int .i64 0) (.slice none 0 0)
    rw [World.size_alloc] at this; exact this)
  have HB : Hid (Below w.heap.size w ((w.alloc (.cells #[.int .i64 h.gen, .int .i64 h.base, .int .i64 h.snap, v] 26)).alloc (.cells #[.int .i64 0, .int .i64 0, .int .i64 0, .slice none 0 0] 26))) := Lib.hid (below_two _ _ _)
  have HK := Lib.hid (hv.below HB.out (Nat.le_refl _))
  have HL : Hid ((h.log.map iv).length ≤ 1000) := Lib.hid (by rw [List.length_map]; exact hl)
  obtain ⟨i0, hi, hz0, hz1, hz2⟩ := info_parts Tryd.info3
  have hz : ((w.alloc (.cells #[.int .i64 h.gen, .int .i64 h.base, .int .i64 h.snap, v] 26)).alloc (.cells #[.int .i64 0, .int .i64 0, .int .i64 0, .slice none 0 0] 26)).heap.size = w.heap.size + 2 := by rw [World.size_alloc, World.size_alloc]
  have HO : Hid (Own (((w.alloc (.cells #[.int .i64 h.gen, .int .i64 h.base, .int .i64 h.snap, v] 26)).alloc (.cells #[.int .i64 0, .int .i64 0, .int .i64 0, .slice none 0 0] 26)).alloc (.cells #[] 3)) (w.heap.size + 2) (.slice (some ⟨w.heap.size + 1 + 1, 0, none⟩) 0 0) []) := Lib.hid (by
    have := Own.made ((w.alloc (.cells #[.int .i64 h.gen, .int .i64 h.base, .int .i64 h.snap, v] 26)).alloc (.cells #[.int .i64 0, .int .i64 0, .int .i64 0, .slice none 0 0] 26)) (w.heap.size + 2) 3 [] #[] (by omega) (by decide)
    rw [hz] at this; exact this)
  have HSR := Lib.hid ((HK.out.below (below_one _ (.cells #[] 3)) (Nat.le_refl _)).src)
  have X1 := Lib.hid (X0.out.alloc (.cells #[] 3))
  have Y1 := Lib.hid (Y0.out.alloc (.cells #[] 3))
  have HB1 := Lib.hid (HB.out.alloc HB.out.size (.cells #[] 3))
  have HZ : Hid (w.heap.size + 2 ≤ (((w.alloc (.cells #[.int .i64 h.gen, .int .i64 h.base, .int .i64 h.snap, v] 26)).alloc (.cells #[.int .i64 0, .int .i64 0, .int .i64 0, .slice none 0 0] 26)).alloc (.cells #[] 3)).heap.size) := Lib.hid (by rw [World.size_alloc, hz]; omega)
  obtain ⟨va, vc, rfl⟩ := hv.slice
  clear hv hz HB HK X0 Y0
  unfold hval
  go_enter Tryd.func21, Tryd.ntmps21
  go_wp2_with (at_builtin; refine wpList_append_Own _ rfl (.tmp 3) (.tmp 5) 24 24 rfl (w.heap.size + 2) 3 i0 (.int .i64 0) 8 Tryd.underlying24 hi hz0 hz1 hz2 rfl _ [] rfl HO.out _ h.log.length (h.log.map iv) rfl HSR.out ?c1 ?c2 ?c3 ?_; rotate_right; intro v' w2 hown1 hgr hwh; have HG : Hid (World.grownBy _ w2 (some (w.heap.size + 1 + 1))) := Lib.hid hgr; rw [List.nil_append] at hown1; obtain ⟨ua, uc, e⟩ := hown1.shape; rw [List.length_map] at e; subst e; have HO3 := Lib.hid hown1; have X2 := Lib.hid (X1.out.kept HG.out (by intro e; injection e with e; omega)); have Y2 := Lib.hid (Y1.out.kept HG.out (by intro e; injection e with e; omega)); have HB2 := Lib.hid (HB1.out.grown HG.out HB1.out.size (fun k hk => by injection hk with hk; omega)); have a0 := X2.out.c0; have a1 := X2.out.c1; have a2 := X2.out.c2; have a3 := X2.out.c3; have b3 := X2.out.free 3; have c0 := Y2.out.c0; have c1 := Y2.out.c1; have c2 := Y2.out.c2; have c3 := Y2.out.c3; have d0 := Y2.out.free 0; have d1 := Y2.out.free 1; have d2 := Y2.out.free 2; have d3 := Y2.out.free 3; clear hown1 hgr hwh)
  case c1 => simp only [List.length_nil]; omega
  case c2 => simp only [List.length_nil]; omega
  case c3 => exact HZ.out
  go_wp2
  exact ret4one Tryd.results21 (w.heap.size + 1) rfl rfl ((Y2.out.apart (a := ⟨w.heap.size, 3, none⟩) (by show w.heap.size + 1 ≠ w.heap.size; omega) (.slice ua h.log.length uc)).setAll _ _ _ _) ⟨_, rfl, ((HO3.out.kept (grown_setCell w2 w.heap.size 3 (.slice ua h.log.length uc)) (Or.inr (fun e => by have := (HO3.out.lt _ e).1; omega))).set4 (by omega) _ _ _ _).mono (by omega), below_set4 (below_setD HB2.out (Nat.le_refl _) _ _) (by omega) _ _ _ _⟩
end Go.Proofs.YtpcpbdcdapmlnaaDoor
