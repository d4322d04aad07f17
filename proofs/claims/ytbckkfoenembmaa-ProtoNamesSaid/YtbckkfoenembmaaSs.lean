/- The contracts of is, sameValue, Same. -/
import Derived.Test.YtbckkfoenembmaaRp
import Derived.Lib.QuietBelow
namespace Go.Proofs.Ytbckkfoenembmaa
open Go.RowKit
set_option maxRecDepth 100000 in
set_option maxHeartbeats 1000000 in
theorem is_asV (x : Vl) (n : Int) (w : World) :
    Calls Try.prog 76 #[x.v, .int .u64 n] w fun e w' => e = .returned (.bool ((asV x).2 && (n == ((asV x).1 : Int)))) ∧ w = w' := by
  have HA := Lib.hid (fun W => asV_any x W)
  generalize x.v = V at *
  generalize hX : ((asV x).1 : Int) = X at *
  clear hX
  generalize (asV x).1 = r at *
  cases hb : (asV x).2 <;> rw [hb] at HA
  · clear hb
    go_enter Try.func76, Try.ntmps76
    go_wp2_with (go_at_call 46; refine (HA.out _).mono ?_; rintro e w' ⟨rfl, rfl⟩)
    go_ret
    exact ⟨rfl, rfl⟩
  · clear hb
    go_enter Try.func76, Try.ntmps76
    go_wp2_with (go_at_call 46; refine (HA.out _).mono ?_; rintro e w' ⟨rfl, rfl⟩)
    go_ret
    exact ⟨rfl, rfl⟩
set_option maxRecDepth 100000 in
set_option maxHeartbeats 1000000 in
theorem is_asE (x : Vl) (n : Int) (w : World) :
    Calls Try.prog 77 #[x.v, .int .u64 n] w fun e w' => e = .returned (.bool ((asE x).2 && (n == ((asE x).1 : Int)))) ∧ w = w' := by
  have HA := Lib.hid (fun W => asE_any x W)
  generalize x.v = V at *
  generalize hX : ((asE x).1 : Int) = X at *
  clear hX
  generalize (asE x).1 = r at *
  cases hb : (asE x).2 <;> rw [hb] at HA
  · clear hb
    go_enter Try.func77, Try.ntmps77
    go_wp2_with (go_at_call 57; refine (HA.out _).mono ?_; rintro e w' ⟨rfl, rfl⟩)
    go_ret
    exact ⟨rfl, rfl⟩
  · clear hb
    go_enter Try.func77, Try.ntmps77
    go_wp2_with (go_at_call 57; refine (HA.out _).mono ?_; rintro e w' ⟨rfl, rfl⟩)
    go_ret
    exact ⟨rfl, rfl⟩
set_option maxRecDepth 100000 in
set_option maxHeartbeats 1000000 in
theorem is_asT (x : Vl) (n : ByteArray) (w : World) :
    Calls Try.prog 78 #[x.v, .string n] w fun e w' => e = .returned (.bool ((asT x).2 && (n.toList == (asT x).1.toList))) ∧ w = w' := by
  have HA := Lib.hid (fun W => asT_any x W)
  generalize x.v = V at *
  generalize (asT x).1 = r at *
  cases hb : (asT x).2 <;> rw [hb] at HA
  · clear hb
    go_enter Try.func78, Try.ntmps78
    go_wp2_with (go_at_call 47; refine (HA.out _).mono ?_; rintro e w' ⟨rfl, rfl⟩)
    go_ret
    exact ⟨rfl, rfl⟩
  · clear hb
    go_enter Try.func78, Try.ntmps78
    go_wp2_with (go_at_call 47; refine (HA.out _).mono ?_; rintro e w' ⟨rfl, rfl⟩)
    go_ret
    exact ⟨rfl, rfl⟩
set_option maxRecDepth 100000 in
set_option maxHeartbeats 1000000 in
theorem is_asF (x : Vl) (n : Int) (w : World) :
    Calls Try.prog 79 #[x.v, .int .u32 n] w fun e w' => e = .returned (.bool ((asF x).2 && (n == ((asF x).1 : Int)))) ∧ w = w' := by
  have HA := Lib.hid (fun W => asF_any x W)
  generalize x.v = V at *
  generalize hX : ((asF x).1 : Int) = X at *
  clear hX
  generalize (asF x).1 = r at *
  cases hb : (asF x).2 <;> rw [hb] at HA
  · clear hb
    go_enter Try.func79, Try.ntmps79
    go_wp2_with (go_at_call 58; refine (HA.out _).mono ?_; rintro e w' ⟨rfl, rfl⟩)
    go_ret
    exact ⟨rfl, rfl⟩
  · clear hb
    go_enter Try.func79, Try.ntmps79
    go_wp2_with (go_at_call 58; refine (HA.out _).mono ?_; rintro e w' ⟨rfl, rfl⟩)
    go_ret
    exact ⟨rfl, rfl⟩
/-- Are two values the same? -/
def sv : Vl → Vl → Bool
  | .va n, .va m => (n : Int) == (m : Int)
  | .ei n, .ei m => (n : Int) == (m : Int)
  | .tx s, .tx t => s.toList == t.toList
  | .fo n, .fo m => (n : Int) == (m : Int)
  | _, _ => false
set_option maxRecDepth 100000 in
set_option maxHeartbeats 1000000 in
theorem sameValue_any (x y : Vl) (hx : x.ok) (w : World) :
    Calls Try.prog 66 #[x.v, y.v] w fun e w' => e = .returned (.bool (sv x y)) ∧ w = w' := by
  have h1 := ta_asV x
  have h2 := ta_asE x
  have h3 := ta_asF x
  have h4 := ta_asT x
  cases x with
  | va n =>
    have HI := Lib.hid (fun W => is_asV y (n : Int) W)
    have hs : sv (.va n) y = ((asV y).2 && ((n : Int) == ((asV y).1 : Int))) := by cases y <;> rfl
    rw [hs]
    clear hs h2 h3 h4
    unfold asV at h1
    dsimp only at *
    generalize y.v = U at *
    generalize Vl.v _ = V at *
    generalize ((asV y).2 && _) = R at *
    go_enter Try.func66, Try.ntmps66
    go_wp2_with (go_at_call 76; refine (HI.out _).mono ?_; rintro e w' ⟨rfl, rfl⟩)
    go_ret
    exact ⟨rfl, rfl⟩
  | ei n =>
    have HI := Lib.hid (fun W => is_asE y (n : Int) W)
    have hs : sv (.ei n) y = ((asE y).2 && ((n : Int) == ((asE y).1 : Int))) := by cases y <;> rfl
    rw [hs]
    clear hs h3 h4
    unfold asV at h1
    unfold asE at h2
    dsimp only at *
    generalize y.v = U at *
    generalize Vl.v _ = V at *
    generalize ((asE y).2 && _) = R at *
    go_enter Try.func66, Try.ntmps66
    go_wp2_with (go_at_call 77; refine (HI.out _).mono ?_; rintro e w' ⟨rfl, rfl⟩)
    go_ret
    exact ⟨rfl, rfl⟩
  | tx s =>
    have HI := Lib.hid (fun W => is_asT y s W)
    have hs : sv (.tx s) y = ((asT y).2 && (s.toList == (asT y).1.toList)) := by cases y <;> rfl
    rw [hs]
    clear hs h3
    unfold asV at h1
    unfold asE at h2
    unfold asT at h4
    dsimp only at *
    generalize y.v = U at *
    generalize Vl.v _ = V at *
    generalize ((asT y).2 && _) = R at *
    go_enter Try.func66, Try.ntmps66
    go_wp2_with (go_at_call 78; refine (HI.out _).mono ?_; rintro e w' ⟨rfl, rfl⟩)
    go_ret
    exact ⟨rfl, rfl⟩
  | fo n =>
    have HI := Lib.hid (fun W => is_asF y (n : Int) W)
    have hs : sv (.fo n) y = ((asF y).2 && ((n : Int) == ((asF y).1 : Int))) := by cases y <;> rfl
    rw [hs]
    clear hs
    unfold asV at h1
    unfold asE at h2
    unfold asF at h3
    unfold asT at h4
    dsimp only at *
    generalize y.v = U at *
    generalize Vl.v _ = V at *
    generalize ((asF y).2 && _) = R at *
    go_enter Try.func66, Try.ntmps66
    go_wp2_with (go_at_call 79; refine (HI.out _).mono ?_; rintro e w' ⟨rfl, rfl⟩)
    go_ret
    exact ⟨rfl, rfl⟩
  | no =>
    have hs : sv .no y = false := by cases y <;> rfl
    rw [hs]
    unfold asV at h1; unfold asE at h2; unfold asF at h3; unfold asT at h4
    dsimp only at *
    generalize y.v = U at *
    generalize Vl.v _ = V at *
    go_enter Try.func66, Try.ntmps66
    go_wp2
    go_ret
    exact ⟨rfl, rfl⟩
  | an k =>
    have hs : sv (.an k) y = false := by cases y <;> rfl
    rw [hs]
    unfold asV at h1; unfold asE at h2; unfold asF at h3; unfold asT at h4
    dsimp only at *
    generalize y.v = U at *
    generalize Vl.v _ = V at *
    go_enter Try.func66, Try.ntmps66
    go_wp2
    go_ret
    exact ⟨rfl, rfl⟩
/-- Are lists the same? -/
def sml : List Gf → List Gf → Bool
  | [], [] => true
  | f :: r, g :: s => if f.may = true ∧ f.n = g.n ∧ sv f.v g.v = true then sml r s else false
  | _, _ => false
theorem sml_refl : ∀ (l : List Gf), (∀ f ∈ l, f.may = true) → sml l l = true
  | [], _ => rfl
  | f :: r, h => by
    have h1 := h f (by simp)
    rw [sml, if_pos ⟨h1, rfl, by
      have := (Gf.may_iff.1 h1).2
      cases hv : f.v <;> rw [hv] at this <;> first | (cases this; done) | simp [sv]⟩]
    exact sml_refl r (fun g hg => h g (by simp [hg]))
theorem sml_all : ∀ (l : List Gf), sml l l = true → ∀ f ∈ l, f.may = true
  | [], _, f, hf => by cases hf
  | g :: r, h, f, hf => by
    rw [sml] at h
    split at h
    · rename_i hc
      rcases List.mem_cons.1 hf with rfl | hf
      · exact hc.1
      · exact sml_all r h f hf
    · cases h
theorem sml_ne : ∀ (a b : List Gf), a.length ≠ b.length → sml a b = false
  | [], [], h => absurd rfl h
  | [], g :: s, _ => rfl
  | f :: r, [], _ => rfl
  | f :: r, g :: s, h => by
    rw [sml]
    split
    · exact sml_ne r s (by simpa using h)
    · rfl
set_option maxRecDepth 100000 in
set_option maxHeartbeats 4000000 in
theorem psame_any (a b : List Gf) (hal : a.length ≤ 1000000) (hbl : b.length ≤ 1000000) (hok : ∀ f ∈ a, f.v.ok) (v u : Value) (w : World) (hv : GAt w v a) (hu : GAt w u b) :
    Calls Try.prog 38 #[v, u] w (Ret w (.bool (sml a b))) := by
  have HV := Lib.hid hv
  have HU := Lib.hid hu
  have HOK := Lib.hid hok
  obtain ⟨va, vc, hv2⟩ := hv.slice
  obtain ⟨ua, uc, hu2⟩ := hu.slice
  clear hv hu hok
  by_cases hab : a.length = b.length
  · rw [← hab] at hu2
    generalize hL : a.length = L at *
    have HL := Lib.hid hL
    have HLB := Lib.hid hab.symm
    clear hL hab hbl
    subst hv2
    subst hu2
    have hLL : (L != L) = false := by simp
    go_enter Try.func38, Try.ntmps38
    go_wp2
    go_loopw [14] (fun i wr => ∃ k : Nat, i = .int .i64 (k : Int) ∧ k ≤ L ∧ Hid (sml (a.drop k) (b.drop k) = sml a b) ∧ Hid (Below w.heap.size w wr)) (fun i _ => L - (intOf i).toNat)
    case atStart => exact ⟨0, rfl, by omega, Lib.hid rfl, Lib.hid (Below.refl _ _)⟩
    case round =>
      obtain ⟨k, rfl, hk, HE, HB⟩ := hrel
      by_cases hlt : k < L
      · have hkl : k < a.length := by have := HL.out; omega
        have hkb : k < b.length := by have := HLB.out; omega
        have HVr := HV.out.below HB.out (Nat.le_refl _)
        have HUr := HU.out.below HB.out (Nat.le_refl _)
        rcases HVr with ⟨h0, _⟩ | ⟨g, o, c, hg, hcs⟩
        · have := HL.out; rw [h0] at this; simp at this; omega
        rcases HUr with ⟨h0, _⟩ | ⟨g2, o2, c2, hg2, hcs2⟩
        · have := HLB.out; rw [h0] at this; simp at this; omega
        obtain ⟨q0, q1⟩ := hcs k hkl
        obtain ⟨r0, r1⟩ := hcs2 k hkb
        have hlt2 := World.block_lt_of_cell? wr ⟨g2, _, none⟩ r0
        have hrun := HE.out
        rw [List.drop_eq_getElem_cons hkl, List.drop_eq_getElem_cons hkb, sml] at hrun
        have hfo := HOK.out a[k] (List.getElem_mem hkl)
        clear hcs hcs2
        generalize a[k] = f at *
        generalize b[k] = h at *
        cases hg
        rw [HLB.out] at hg2
        cases hg2
        have HMY := Lib.hid (fun W => (may_any f W : Calls Try.prog 22 #[gv f] W (Ret W (.bool f.may))))
        unfold gv at HMY
        have HSV := Lib.hid (fun W => (sameValue_any f.v h.v hfo W).mono fun e w' hh => Ret.same hh)
        have hS := f.v.st
        have k0 : ∀ d os, («Sort».grow (redrawn (wr.alloc (.cells #[.int .i64 f.n, f.v.v] 35)) d) os).cell? ⟨wr.heap.size, 0, none⟩ = some (.int .i64 f.n) := fun d os => cell_regrown (by rw [World.cell?_alloc_mark]; rfl) d os
        have k1 : ∀ d os, («Sort».grow (redrawn (wr.alloc (.cells #[.int .i64 f.n, f.v.v] 35)) d) os).cell? ⟨wr.heap.size, 1, none⟩ = some f.v.v := fun d os => cell_regrown (by rw [World.cell?_alloc_mark]; rfl) d os
        have k2 : ∀ d os, («Sort».grow (redrawn (wr.alloc (.cells #[.int .i64 f.n, f.v.v] 35)) d) os).cell? ⟨g2, o2 + k * 2, none⟩ = some (.int .i64 h.n) := fun d os => cell_regrown ((World.cell?_of_block (a := ⟨g2, o2 + k * 2, none⟩) (heap_alloc_old wr _ hlt2)).trans r0) d os
        have k3 : ∀ d os, («Sort».grow (redrawn (wr.alloc (.cells #[.int .i64 f.n, f.v.v] 35)) d) os).cell? ⟨g2, o2 + k * 2 + 1, none⟩ = some h.v.v := fun d os => cell_regrown ((World.cell?_of_block (a := ⟨g2, o2 + k * 2 + 1, none⟩) (heap_alloc_old wr _ hlt2)).trans r1) d os
        have HB1 := Lib.hid (HB.out.alloc HB.out.size (.cells #[.int .i64 f.n, f.v.v] 35))
        have HW1 : Hid (w.heap.size ≤ (wr.alloc (.cells #[.int .i64 f.n, f.v.v] 35)).heap.size) := Lib.hid HB1.out.size
        cases hm : f.may with
        | false =>
          rw [hm] at HMY hrun
          rw [if_neg (by simp)] at hrun
          have HRN := Lib.hid hrun
          clear hrun hm HSV
          generalize f.n = n at *
          generalize f.v.v = V at *
          generalize h.v.v = U at *
          generalize h.n = m at *
          go_wp2_with fail
          refine wp_region_quiet_below (by kernel_rfl) (by kernel_rfl) ?_
          go_big_quiet_step (fail)
          go_big_quiet_step (first | (go_at_call 22; exact Calls.regrown_of (HMY.out _)))
          repeat (go_big_quiet_step (fail))
          refine wpQuiet_nil ?_
          intro W2 hw2
          have HB2 : Hid (Below w.heap.size w W2) := Lib.hid (HB1.out.trans ((by obtain ⟨q, rfl⟩ := hw2; exact below_regrown _ _ _ : Below (wr.alloc (.cells #[.int .i64 n, V] 35)).heap.size (wr.alloc (.cells #[.int .i64 n, V] 35)) W2).mono HW1.out))
          clear hw2 k0 k1 k2 k3
          go_wp2
          go_ret
          refine ⟨?_, HB2.out⟩
          rw [← HRN.out]
          rfl
        | true =>
          rw [hm] at HMY hrun
          by_cases hn : f.n = h.n
          · have hnn : (f.n != h.n) = false := by rw [hn]; simp
            rw [← hn] at k2 r0
            have hnn2 : (f.n != f.n) = false := by simp
            cases hs : sv f.v h.v with
            | true =>
              rw [hs] at HSV hrun
              rw [if_pos ⟨rfl, hn, rfl⟩] at hrun
              have HRN := Lib.hid hrun
              clear hrun hm hs hn hnn
              generalize f.n = n at *
              generalize f.v.v = V at *
              generalize h.v.v = U at *
              go_wp2_with fail
              refine wp_region_quiet_below (by kernel_rfl) (by kernel_rfl) ?_
              go_big_quiet_step (fail)
              go_big_quiet_step (first | (go_at_call 22; exact Calls.regrown_of (HMY.out _)))
              repeat (go_big_quiet_step (first | (go_at_call 66; exact Calls.regrown_of (HSV.out _))))
              refine wpQuiet_nil ?_
              intro W2 hw2
              have HB2 : Hid (Below w.heap.size w W2) := Lib.hid (HB1.out.trans ((by obtain ⟨q, rfl⟩ := hw2; exact below_regrown _ _ _ : Below (wr.alloc (.cells #[.int .i64 n, V] 35)).heap.size (wr.alloc (.cells #[.int .i64 n, V] 35)) W2).mono HW1.out))
              clear hw2 k0 k1 k2 k3
              go_wp2
              go_roundw
              case rel => exact ⟨k + 1, by go_num, by omega, HRN, HB2⟩
              case measure => simp [intOf]; omega
            | false =>
              rw [hs] at HSV hrun
              rw [if_neg (by simp)] at hrun
              have HRN := Lib.hid hrun
              clear hrun hm hs hn hnn
              generalize f.n = n at *
              generalize f.v.v = V at *
              generalize h.v.v = U at *
              go_wp2_with fail
              refine wp_region_quiet_below (by kernel_rfl) (by kernel_rfl) ?_
              go_big_quiet_step (fail)
              go_big_quiet_step (first | (go_at_call 22; exact Calls.regrown_of (HMY.out _)))
              repeat (go_big_quiet_step (first | (go_at_call 66; exact Calls.regrown_of (HSV.out _))))
              refine wpQuiet_nil ?_
              intro W2 hw2
              have HB2 : Hid (Below w.heap.size w W2) := Lib.hid (HB1.out.trans ((by obtain ⟨q, rfl⟩ := hw2; exact below_regrown _ _ _ : Below (wr.alloc (.cells #[.int .i64 n, V] 35)).heap.size (wr.alloc (.cells #[.int .i64 n, V] 35)) W2).mono HW1.out))
              clear hw2 k0 k1 k2 k3
              go_wp2
              go_ret
              refine ⟨?_, HB2.out⟩
              rw [← HRN.out]
              rfl
          · have hnn : (f.n != h.n) = true := by rw [bne_iff_ne]; exact hn
            rw [if_neg (fun hh => hn hh.2.1)] at hrun
            have HRN := Lib.hid hrun
            clear hrun hm HSV hn
            generalize f.n = n at *
            generalize f.v.v = V at *
            generalize h.v.v = U at *
            generalize h.n = m at *
            go_wp2_with fail
            refine wp_region_quiet_below (by kernel_rfl) (by kernel_rfl) ?_
            go_big_quiet_step (fail)
            go_big_quiet_step (first | (go_at_call 22; exact Calls.regrown_of (HMY.out _)))
            repeat (go_big_quiet_step (fail))
            refine wpQuiet_nil ?_
            intro W2 hw2
            have HB2 : Hid (Below w.heap.size w W2) := Lib.hid (HB1.out.trans ((by obtain ⟨q, rfl⟩ := hw2; exact below_regrown _ _ _ : Below (wr.alloc (.cells #[.int .i64 n, V] 35)).heap.size (wr.alloc (.cells #[.int .i64 n, V] 35)) W2).mono HW1.out))
            clear hw2 k0 k1 k2 k3
            go_wp2
            go_ret
            refine ⟨?_, HB2.out⟩
            rw [← HRN.out]
            rfl
      · obtain rfl : k = L := by omega
        have hr : Hid (sml a b = true) := Lib.hid (by
          have := HE.out
          rw [List.drop_of_length_le (by have := HL.out; omega), List.drop_of_length_le (by have := HLB.out; omega), sml] at this
          exact this.symm)
        go_wp2
        go_ret
        refine ⟨?_, HB.out⟩
        rw [hr.out]
        rfl
  · have hr := sml_ne a b hab
    rw [hr]
    subst hv2
    subst hu2
    have hne : ((a.length : Int) != (b.length : Int)) = true := by rw [bne_iff_ne]; omega
    clear hr
    generalize a.length = L1 at *
    generalize b.length = L2 at *
    have hne2 : (L1 != L2) = true := by rw [bne_iff_ne]; exact hab
    clear hab
    go_enter Try.func38, Try.ntmps38
    go_wp2
    go_ret
    exact ⟨rfl, Below.refl _ _⟩
end Go.Proofs.Ytbckkfoenembmaa
