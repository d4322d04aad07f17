/- The contracts of part, at labels and at samples. -/
import Derived.Test.YtknfodpegkpjnaaPa
namespace Go.Proofs.Ytknfodpegkpjnaa
open Go Go.RowKit
set_option maxRecDepth 100000
theorem eM_cnt : ∀ fs : List Fd, fs.length ≤ (eM fs).length
  | [] => Nat.le_refl _
  | f :: r => by
    have := eM_cnt r
    have h1 := fby_pos f
    rw [eM_cons, List.length_append, List.length_cons]; omega
theorem msg_ok' {s : List UInt8} (hs : s.length ≤ 1000000) {fs : List Fd} (h : msg s [] = (fs, 0)) : (∀ f ∈ fs, f.ok) ∧ fs.length ≤ s.length := by
  obtain ⟨h1, h2⟩ := msg_len (by omega) h
  exact ⟨h1, Nat.le_trans (eM_cnt fs) h2⟩
theorem partL_any (s : ByteArray) (hs : s.size ≤ 1000000) (b0 : Nat) (w : World) (hb : Boxed w b0 119 (.func (.func 63) #[] #[])) :
    Calls Try.prog 84 #[.string s, .func (.func 85) #[] #[.pointer (some ⟨b0, 0, none⟩)]] w (Ret w (.tuple #[.agg #[.string (rLb s.data.toList).1.n, .string (rLb s.data.toList).1.v], .int .i64 ((rLb s.data.toList).2 : Int)])) := by
  have HR := Lib.hid (fun W => pread_any s hs W)
  unfold rLb
  have hlt0 := hb.lt
  have HB0 := Lib.hid hb
  obtain ⟨fs, K, hm⟩ : ∃ fs K, msg s.data.toList [] = (fs, K) := ⟨_, _, rfl⟩
  rw [hm] at HR ⊢
  dsimp only at HR ⊢
  have hl := fun (h : K = 0) => msg_ok' (s := s.data.toList) (fs := fs) (by simpa using hs) (by rw [hm, h])
  rw [show s.data.toList.length = s.size by simp] at hl
  have HA : Hid (Below w.heap.size w (w.alloc (.cells #[.string ⟨#[]⟩, .string ⟨#[]⟩] 33))) := Lib.hid ((Below.refl _ _).alloc (Nat.le_refl _) _)
  have HX : Hid (Box2 (w.alloc (.cells #[.string ⟨#[]⟩, .string ⟨#[]⟩] 33)) w.heap.size 33 (.string ⟨#[]⟩) (.string ⟨#[]⟩)) := Lib.hid (Box2.new _ _ _ _)
  clear hm hb
  by_cases hK : K = 0
  · subst hK
    rw [if_neg (by simp)]
    obtain ⟨hok, hfl⟩ := hl rfl
    have HL := Lib.hid (fun v W (hW : GAt W v (fs.map gfd)) hb => lab_any fs hok (by omega) v b0 W hW hb)
    clear hl hok hfl
    generalize gLb fs lb0 = X at *
    generalize (X.2 : Int) = E at *
    obtain ⟨⟨n, v⟩, E0⟩ := X
    dsimp only at *
    go_enter Try.func84, Try.ntmps84
    go_wp2_with fail
    refine (HR.out _).mono ?_
    rintro e w1 ⟨u, rfl, ho, hb1⟩
    have HU := Lib.hid ho.at
    obtain ⟨ua, uc, hu⟩ := ho.shape
    rw [List.length_map] at hu
    generalize fs.length = L at hu
    subst hu
    have HX1 := Lib.hid (HX.out.below hb1 HX.out.lt)
    have HB1 := Lib.hid (HA.out.trans (hb1.mono HA.out.size))
    have HP1 : Hid (Boxed w1 b0 119 (.func (.func 63) #[] #[])) := Lib.hid ((HB1.out.block b0 hlt0).trans HB0.out)
    clear ho hb1
    go_wp2_with fail
    refine (HL.out _ _ HU.out HP1.out).mono ?_
    rintro e w2 ⟨rfl, hb2⟩
    have X2 := HX1.out.below hb2 HX1.out.lt
    have HB2 := Lib.hid (HB1.out.trans (hb2.mono HB1.out.size))
    have f0 := X2.free 0
    have f1 := X2.free 1
    have x0 := X2.c0
    have x1 := X2.c1
    have HX2 := Lib.hid X2
    clear X2 hb2
    go_wp2
    exact retc2 Try.results84 two33 w.heap.size rfl rfl rfl (HX2.out.set _ _) ⟨rfl, below_set (below_set HB2.out (Nat.le_refl _) _) (Nat.le_refl _) _⟩
  · rw [if_pos hK]
    have hK2 : ((K : Int) != 0) = true := by rw [bne_iff_ne]; omega
    dsimp only [lb0]
    clear hl hK
    go_enter Try.func84, Try.ntmps84
    go_wp2_with fail
    refine (HR.out _).mono ?_
    rintro e w1 ⟨u, rfl, ho, hb1⟩
    have X1 := HX.out.below hb1 HX.out.lt
    have HB1 := Lib.hid (HA.out.trans (hb1.mono HA.out.size))
    have HX1 := Lib.hid X1
    clear X1 hb1 ho
    have HB2 := Lib.hid (HB1.out.alloc HB1.out.size (.cells #[.string ⟨#[]⟩, .string ⟨#[]⟩] 33))
    have HX2 := Lib.hid (HX1.out.alloc (.cells #[.string ⟨#[]⟩, .string ⟨#[]⟩] 33))
    have f0 := HX2.out.free 0
    have f1 := HX2.out.free 1
    have x0 := HX2.out.c0
    have x1 := HX2.out.c1
    go_wp2
    exact retc2 Try.results84 two33 w.heap.size rfl rfl rfl (HX2.out.set _ _) ⟨rfl, below_set (below_set HB2.out (Nat.le_refl _) _) (Nat.le_refl _) _⟩
theorem partM_any (s : ByteArray) (hs : s.size ≤ 1000000) (b0 : Nat) (w : World) (hb : Boxed w b0 129 (.func (.func 67) #[] #[])) :
    Calls Try.prog 88 #[.string s, .func (.func 89) #[] #[.pointer (some ⟨b0, 0, none⟩)]] w (Ret w (.tuple #[.agg #[.int .i64 (rSm s.data.toList).1.t, .int .u64 ((rSm s.data.toList).1.b : Int)], .int .i64 ((rSm s.data.toList).2 : Int)])) := by
  have HR := Lib.hid (fun W => pread_any s hs W)
  unfold rSm
  have hlt0 := hb.lt
  have HB0 := Lib.hid hb
  obtain ⟨fs, K, hm⟩ : ∃ fs K, msg s.data.toList [] = (fs, K) := ⟨_, _, rfl⟩
  rw [hm] at HR ⊢
  dsimp only at HR ⊢
  have hl := fun (h : K = 0) => msg_ok' (s := s.data.toList) (fs := fs) (by simpa using hs) (by rw [hm, h])
  rw [show s.data.toList.length = s.size by simp] at hl
  have HA : Hid (Below w.heap.size w (w.alloc (.cells #[.int .i64 0, .int .u64 0] 37))) := Lib.hid ((Below.refl _ _).alloc (Nat.le_refl _) _)
  have HX : Hid (Box2 (w.alloc (.cells #[.int .i64 0, .int .u64 0] 37)) w.heap.size 37 (.int .i64 0) (.int .u64 0)) := Lib.hid (Box2.new _ _ _ _)
  clear hm hb
  by_cases hK : K = 0
  · subst hK
    rw [if_neg (by simp)]
    obtain ⟨hok, hfl⟩ := hl rfl
    have HL := Lib.hid (fun v W (hW : GAt W v (fs.map gfd)) hb => smp_any fs hok (by omega) v b0 W hW hb)
    clear hl hok hfl
    generalize gSm fs sm0 = X at *
    generalize (X.2 : Int) = E at *
    obtain ⟨⟨n, v⟩, E0⟩ := X
    generalize (v : Int) = v at *
    dsimp only at *
    go_enter Try.func88, Try.ntmps88
    go_wp2_with fail
    refine (HR.out _).mono ?_
    rintro e w1 ⟨u, rfl, ho, hb1⟩
    have HU := Lib.hid ho.at
    obtain ⟨ua, uc, hu⟩ := ho.shape
    rw [List.length_map] at hu
    generalize fs.length = L at hu
    subst hu
    have HX1 := Lib.hid (HX.out.below hb1 HX.out.lt)
    have HB1 := Lib.hid (HA.out.trans (hb1.mono HA.out.size))
    have HP1 : Hid (Boxed w1 b0 129 (.func (.func 67) #[] #[])) := Lib.hid ((HB1.out.block b0 hlt0).trans HB0.out)
    clear ho hb1
    go_wp2_with fail
    refine (HL.out _ _ HU.out HP1.out).mono ?_
    rintro e w2 ⟨rfl, hb2⟩
    have X2 := HX1.out.below hb2 HX1.out.lt
    have HB2 := Lib.hid (HB1.out.trans (hb2.mono HB1.out.size))
    have f0 := X2.free 0
    have f1 := X2.free 1
    have x0 := X2.c0
    have x1 := X2.c1
    have HX2 := Lib.hid X2
    clear X2 hb2
    go_wp2
    exact retc2 Try.results88 two37 w.heap.size rfl rfl rfl (HX2.out.set _ _) ⟨rfl, below_set (below_set HB2.out (Nat.le_refl _) _) (Nat.le_refl _) _⟩
  · rw [if_pos hK]
    have hK2 : ((K : Int) != 0) = true := by rw [bne_iff_ne]; omega
    dsimp only [sm0]
    clear hl hK
    go_enter Try.func88, Try.ntmps88
    go_wp2_with fail
    refine (HR.out _).mono ?_
    rintro e w1 ⟨u, rfl, ho, hb1⟩
    have X1 := HX.out.below hb1 HX.out.lt
    have HB1 := Lib.hid (HA.out.trans (hb1.mono HA.out.size))
    have HX1 := Lib.hid X1
    clear X1 hb1 ho
    have HB2 := Lib.hid (HB1.out.alloc HB1.out.size (.cells #[.int .i64 0, .int .u64 0] 37))
    have HX2 := Lib.hid (HX1.out.alloc (.cells #[.int .i64 0, .int .u64 0] 37))
    have f0 := HX2.out.free 0
    have f1 := HX2.out.free 1
    have x0 := HX2.out.c0
    have x1 := HX2.out.c1
    go_wp2
    exact retc2 Try.results88 two37 w.heap.size rfl rfl rfl (HX2.out.set _ _) ⟨rfl, below_set (below_set HB2.out (Nat.le_refl _) _) (Nat.le_refl _) _⟩
end Go.Proofs.Ytknfodpegkpjnaa
