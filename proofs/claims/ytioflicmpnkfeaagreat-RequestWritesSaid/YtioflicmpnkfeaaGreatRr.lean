/- The contracts of readField and Read. -/
import Derived.Test.YtioflicmpnkfeaaGreatRx
namespace Go.Proofs.YtioflicmpnkfeaaGreat
open Go.RowKit
theorem ret56 {R : Ending → World → Prop} {a : Act} {w : World} {n : Int} {V : Value} {k : Int} (B : Nat) (h2 : a.tmps.getD 2 undef = .pointer (some ⟨B, 0, none⟩)) (h3 : a.tmps.getD 3 undef = .int .i64 k) (hd : a.defers = [])
    (hB : w.heap[B]? = some (.cells #[.int .i64 n, V] 63 (0, 0))) (hR : R (.returned (.tuple #[.agg #[.int .i64 n, V], .int .i64 k])) w) : bodyPost Tryz.prog Tryz.f74 R .ret a w :=
  bodyPost_ret (by
    have hl := run_loadVar_row (P := Tryz.prog) w B 63 63 #[.int .i64 n, V] (0, 0) _ hB Tryz.underlying63 rfl (by kernel_rfl)
    rw [results_cell_tmp Tryz.results74, h2, h3]
    simp [asAddr, hl, Result.andThen]) hd hR
theorem set2 {w : World} {B : Nat} {x0 x1 : Value} (y0 y1 : Value) (h : w.heap[B]? = some (.cells #[x0, x1] 63 (0, 0))) : ((w.setCell ⟨B, 0, none⟩ y0).setCell ⟨B, 1, none⟩ y1).heap[B]? = some (.cells #[y0, y1] 63 (0, 0)) :=
  Go.heap_setCell_same _ B 1 #[y0, x1] 63 y1 (Go.heap_setCell_same w B 0 #[x0, x1] 63 y0 h)
theorem row2 {w : World} {B : Nat} {x0 x1 : Value} (h : w.heap[B]? = some (.cells #[x0, x1] 63 (0, 0))) : w.cell? ⟨B, 0, none⟩ = some x0 ∧ w.cell? ⟨B, 1, none⟩ = some x1 ∧ w.frozen? ⟨B, 0, none⟩ = false ∧ w.frozen? ⟨B, 1, none⟩ = false := by
  have hc : ∀ j, w.cell? ⟨B, j, none⟩ = _ := fun j => cell_of_row w B j _ 63 (0, 0) h
  rw [hc, hc]
  refine ⟨rfl, rfl, ?_, ?_⟩ <;> simp [World.frozen?, h]
/-- A field was not read. -/
def RdE (w : World) (b : Nat) (K : Int) (e : Ending) (w' : World) : Prop := ∃ g : Gf, e = .returned (.tuple #[gv g, .int .i64 K]) ∧ w.grownBy w' (some b)
theorem grown_set2 (w : World) (B : Nat) (y0 y1 : Value) (base : Nat) (hB : base ≤ B) {w0 : World} {b : Nat} (h : w0.grownBy w (some b)) (hb : w0.heap.size = base) : w0.grownBy ((w.setCell ⟨B, 0, none⟩ y0).setCell ⟨B, 1, none⟩ y1) (some b) := by
  refine ⟨h.os, h.tape, h.output, by simpa [World.setCell] using h.size, fun i hi hne => ?_⟩
  rw [Below.heap_setCell _ _ _ _ (by simp only; omega), Below.heap_setCell _ _ _ _ (by simp only; omega)]
  exact h.block i hi hne
set_option maxRecDepth 100000 in
set_option maxHeartbeats 1000000 in
theorem rfA (b : Nat) (s : ByteArray) (a a1 e1 : Int) (he : (e1 != 0) = true) (w : World) (h : RdAt w b s a 0)
    (hA : ∀ w, RdAt w b s a 0 → Calls Tryz.prog 84 #[.pointer (some ⟨b, 0, none⟩), .int .u64 18446744073709551615] w (RdRet w b s (.int .u64 0) a1 e1)) :
    Calls Tryz.prog 74 #[.pointer (some ⟨b, 0, none⟩)] w (RdE w b e1) := by
  have H := Lib.hid h; have HA := Lib.hid hA
  have hlt := h.lt
  clear h hA
  have HN : Hid ((w.alloc (.cells #[.int .i64 0, .nilIface] 63)).heap[w.heap.size]? = some (.cells #[.int .i64 0, .nilIface] 63 (0, 0))) := Lib.hid (heap_alloc_new w _)
  have HW := Lib.hid (H.out.below ((Below.refl w.heap.size w).alloc (Nat.le_refl _) (.cells #[.int .i64 0, .nilIface] 63)) (Nat.le_refl _))
  go_enter Tryz.func74, Tryz.ntmps74
  go_wp2_with fail
  refine (HA.out _ HW.out).mono ?_
  rintro e w1 ⟨rfl, hr1, hg1⟩
  have c2 := hr1.c2
  have hB1 := (hg1.block w.heap.size (by simp) (by simp; omega)).trans HN.out
  have hg0 := grown_trans (World.grownBy_alloc w (.cells #[.int .i64 0, .nilIface] 63) (some b)) hg1
  have HR1 := Lib.hid hr1; have HG1 := Lib.hid hg0
  obtain ⟨x0, x1, y0, y1⟩ := row2 hB1
  have HB1 := Lib.hid hB1
  clear hr1 hg1 hg0 hB1
  go_wp2_with (go_at_call 85; refine (err_any b e1 _ c2).mono ?_; rintro e w' ⟨rfl, rfl⟩)
  exact ret56 w.heap.size rfl rfl rfl (set2 _ _ HB1.out) ⟨⟨0, .no⟩, rfl, grown_set2 w1 w.heap.size _ _ w.heap.size (Nat.le_refl _) HG1.out rfl⟩
set_option maxRecDepth 100000 in
set_option maxHeartbeats 1000000 in
theorem rfB (b : Nat) (s : ByteArray) (a a1 : Int) (N : Int) (hN0 : 0 ≤ N) (hN64 : N ≤ 18446744073709551615) (hN : 4294967296 ≤ N ∨ N < 8) (w : World) (h : RdAt w b s a 0)
    (hA : ∀ w, RdAt w b s a 0 → Calls Tryz.prog 84 #[.pointer (some ⟨b, 0, none⟩), .int .u64 18446744073709551615] w (RdRet w b s (.int .u64 N) a1 0)) :
    Calls Tryz.prog 74 #[.pointer (some ⟨b, 0, none⟩)] w (RdE w b 4) := by
  have H := Lib.hid h; have HA := Lib.hid hA
  have hlt := h.lt
  clear h hA
  have HN : Hid ((w.alloc (.cells #[.int .i64 0, .nilIface] 63)).heap[w.heap.size]? = some (.cells #[.int .i64 0, .nilIface] 63 (0, 0))) := Lib.hid (heap_alloc_new w _)
  have HW := Lib.hid (H.out.below ((Below.refl w.heap.size w).alloc (Nat.le_refl _) (.cells #[.int .i64 0, .nilIface] 63)) (Nat.le_refl _))
  by_cases hbig : 4294967296 ≤ N
  · clear hN
    go_enter Tryz.func74, Tryz.ntmps74
    go_wp2_with fail
    refine (HA.out _ HW.out).mono ?_
    rintro e w1 ⟨rfl, hr1, hg1⟩
    have c2 := hr1.c2
    have hB1 := (hg1.block w.heap.size (by simp) (by simp; omega)).trans HN.out
    have hg0 := grown_trans (World.grownBy_alloc w (.cells #[.int .i64 0, .nilIface] 63) (some b)) hg1
    have HR1 := Lib.hid hr1; have HG1 := Lib.hid hg0
    obtain ⟨x0, x1, y0, y1⟩ := row2 hB1
    have HB1 := Lib.hid hB1
    clear hr1 hg1 hg0 hB1
    go_wp2_with (go_at_call 85; refine (err_any b 0 _ c2).mono ?_; rintro e w' ⟨rfl, rfl⟩)
    exact ret56 w.heap.size rfl rfl rfl (set2 _ _ HB1.out) ⟨⟨0, .no⟩, rfl, grown_set2 w1 w.heap.size _ _ w.heap.size (Nat.le_refl _) HG1.out rfl⟩
  · have h8 : N < 8 := by omega
    have q1 : N / 8 = 0 := by omega
    clear hN
    go_enter Tryz.func74, Tryz.ntmps74
    go_wp2_with fail
    refine (HA.out _ HW.out).mono ?_
    rintro e w1 ⟨rfl, hr1, hg1⟩
    have c2 := hr1.c2
    have hB1 := (hg1.block w.heap.size (by simp) (by simp; omega)).trans HN.out
    have hg0 := grown_trans (World.grownBy_alloc w (.cells #[.int .i64 0, .nilIface] 63) (some b)) hg1
    have HR1 := Lib.hid hr1; have HG1 := Lib.hid hg0
    obtain ⟨x0, x1, y0, y1⟩ := row2 hB1
    have HB1 := Lib.hid hB1
    clear hr1 hg1 hg0 hB1
    go_wp2_with (go_at_call 85; refine (err_any b 0 _ c2).mono ?_; rintro e w' ⟨rfl, rfl⟩)
    exact ret56 w.heap.size rfl rfl rfl (set2 _ _ HB1.out) ⟨⟨0, .no⟩, rfl, grown_set2 w1 w.heap.size _ _ w.heap.size (Nat.le_refl _) HG1.out rfl⟩
set_option maxRecDepth 100000 in
set_option maxHeartbeats 1000000 in
theorem rfC (b : Nat) (s : ByteArray) (a a1 : Int) (N q r : Int) (hN0 : 0 ≤ N) (hN : N < 4294967296) (hq : N / 8 = q) (hr : N % 8 = r) (hq0 : 1 ≤ q) (R : World → Ending → World → Prop) (w : World) (h : RdAt w b s a 0)
    (hA : ∀ w, RdAt w b s a 0 → Calls Tryz.prog 84 #[.pointer (some ⟨b, 0, none⟩), .int .u64 18446744073709551615] w (RdRet w b s (.int .u64 N) a1 0))
    (hV : ∀ w, RdAt w b s a1 0 → Calls Tryz.prog 86 #[.pointer (some ⟨b, 0, none⟩), .int .u64 r] w (fun e w' => ∃ (y : Vl) (K : Int), e = .returned (.tuple #[y.v, .int .i64 K]) ∧ w.grownBy w' (some b) ∧ R w' (.returned (.tuple #[gv ⟨q, y⟩, .int .i64 K])) w'))
    (hR : ∀ (w1 w2 : World) (e : Ending) , R w1 e w1 → (∀ i, i = b → w2.heap[i]? = w1.heap[i]?) → R w2 e w2) :
    Calls Tryz.prog 74 #[.pointer (some ⟨b, 0, none⟩)] w (fun e w' => R w' e w' ∧ w.grownBy w' (some b)) := by
  have H := Lib.hid h; have HA := Lib.hid hA; have HVV := Lib.hid hV; have HR := Lib.hid hR
  have hlt := h.lt
  clear h hA hV hR
  have HN : Hid ((w.alloc (.cells #[.int .i64 0, .nilIface] 63)).heap[w.heap.size]? = some (.cells #[.int .i64 0, .nilIface] 63 (0, 0))) := Lib.hid (heap_alloc_new w _)
  have HW := Lib.hid (H.out.below ((Below.refl w.heap.size w).alloc (Nat.le_refl _) (.cells #[.int .i64 0, .nilIface] 63)) (Nat.le_refl _))
  have q3 : N.tmod 8 = r := by rw [Int.tmod_eq_emod_of_nonneg (by omega)]; omega
  have q4 : (q == 0) = false := by rw [beq_eq_false_iff_ne]; omega
  have q5 : q < 536870912 := by omega
  go_enter Tryz.func74, Tryz.ntmps74
  go_wp2_with fail
  refine (HA.out _ HW.out).mono ?_
  rintro e w1 ⟨rfl, hr1, hg1⟩
  have c2 := hr1.c2
  have hB1 := (hg1.block w.heap.size (by simp) (by simp; omega)).trans HN.out
  have hg0 := grown_trans (World.grownBy_alloc w (.cells #[.int .i64 0, .nilIface] 63) (some b)) hg1
  have hlt1 : w.heap.size < w1.heap.size := Nat.lt_of_lt_of_le (by simp) hg1.size
  have HR1 := Lib.hid hr1; have HG1 := Lib.hid hg0
  have HB1 := Lib.hid hB1
  clear hr1 hg1 hg0 hB1
  go_wp2_with (go_at_call 85; refine (err_any b 0 _ c2).mono ?_; rintro e w' ⟨rfl, rfl⟩)
  refine (HVV.out _ HR1.out).mono ?_
  rintro e w2 ⟨y, K, rfl, hg2, hR2⟩
  have hB2 := (hg2.block w.heap.size hlt1 (by simp; omega)).trans HB1.out
  obtain ⟨x0, x1, y0, y1⟩ := row2 hB2
  have HG2 := Lib.hid (grown_trans HG1.out hg2)
  have HB2 := Lib.hid hB2
  have HR2 := Lib.hid hR2
  clear hg2 hB2 hR2
  cases y <;>
  · dsimp only [Vl.v, gv] at HR2 ⊢
    go_wp2_with fail
    refine ret56 w.heap.size rfl rfl rfl (set2 _ _ HB2.out) ⟨?_, grown_set2 w2 w.heap.size _ _ w.heap.size (Nat.le_refl _) HG2.out rfl⟩
    refine HR.out _ _ _ HR2.out (fun i hi => ?_)
    subst hi
    rw [Below.heap_setCell _ _ _ _ (by simp only; omega), Below.heap_setCell _ _ _ _ (by simp only; omega)]
/-- The value of a field that is read. -/
def gfd (f : Fd) : Gf := ⟨(f.n : Int), vlOf f.w f.v f.t⟩
/-- A field is read, or how it is refused. -/
theorem readField_any (b : Nat) (s : ByteArray) (A : Nat) (hA : A ≤ s.size) (hs : s.size ≤ 1000000000000) (w : World) (h : RdAt w b s (A : Int) 0) (f : Fd) (k K : Nat) (hx : rdf (lft s A) = (f, k, K)) :
    (K = 0 → Calls Tryz.prog 74 #[.pointer (some ⟨b, 0, none⟩)] w (RdRet w b s (.tuple #[gv (gfd f), .int .i64 0]) ((A + k : Nat) : Int) 0)) ∧ (K ≠ 0 → Calls Tryz.prog 74 #[.pointer (some ⟨b, 0, none⟩)] w (RdE w b (K : Int))) := by
  obtain ⟨N, C, K1, hr⟩ : ∃ N C K1, Bt.rd (lft s A) 0 0 = (N, C, K1) := ⟨_, _, _, rfl⟩
  have hf := Bt.rd_facts (lft s A) 0 0 (by omega) (by simp)
  rw [hr] at hf
  dsimp only at hf
  unfold rdf at hx
  rw [hr] at hx
  dsimp only at hx
  by_cases hK1 : K1 = 0
  · subst hK1
    rw [if_neg (by simp)] at hx
    obtain ⟨-, hC1, hC2⟩ := hf.2.1 rfl
    rw [Nat.zero_add, lft_length] at hC2
    have hvy := varint_yes b s A N C hA (by omega) hr
    by_cases hbad : 4294967296 ≤ N ∨ N < 8
    · have hx2 : (⟨0, 0, 0, []⟩, 0, 4) = (f, k, K) := by
        rw [← hx, if_pos]
        rcases hbad with h1 | h1
        · exact .inl h1
        · right
          unfold mayk
          rw [decide_eq_false (by omega), Bool.false_and]
      simp only [Prod.mk.injEq] at hx2
      obtain ⟨rfl, rfl, rfl⟩ := hx2
      refine ⟨fun hk => (by cases hk), fun _ => ?_⟩
      exact rfB b s A ((A + C : Nat) : Int) N (by omega) (by omega) (by omega) w h hvy
    · have hA2 : A + C ≤ s.size := by omega
      by_cases hw : N % 8 = 0 ∨ N % 8 = 1 ∨ N % 8 = 2 ∨ N % 8 = 5
      · have hm : mayk (N / 8) (N % 8) = true := by
          unfold mayk
          rw [decide_eq_true (by omega), decide_eq_true hw]
          rfl
        rw [if_neg (by rw [hm]; simp; omega)] at hx
        obtain ⟨v, t, c, e, hv⟩ : ∃ v t c e, rdv (N % 8) (lft s (A + C)) = (v, t, c, e) := ⟨_, _, _, _, rfl⟩
        have hdr : List.drop C (lft s A) = lft s (A + C) := by rw [lft, lft, List.drop_drop]
        rw [hdr, hv] at hx
        dsimp only at hx
        have HV := fun W hW => readValue_any b s (A + C) hA2 hs W hW (N % 8) v hw t c e hv
        by_cases he : e = 0
        · subst he
          rw [if_neg (by simp)] at hx
          simp only [Prod.mk.injEq] at hx
          obtain ⟨rfl, rfl, rfl⟩ := hx
          refine ⟨fun _ => ?_, fun hk => absurd rfl hk⟩
          refine (rfC b s A ((A + C : Nat) : Int) N ((N / 8 : Nat) : Int) ((N % 8 : Nat) : Int) (by omega) (by omega) (by omega) (by omega) (by omega) (fun W e _ => e = .returned (.tuple #[gv (gfd ⟨N / 8, N % 8, v, t⟩), .int .i64 0]) ∧ RdAt W b s ((A + C + c : Nat) : Int) 0) w h hvy (fun W hW => ?_) ?_).mono ?_
          · refine ((HV W hW).1 rfl).mono ?_
            rintro e w' ⟨rfl, hr1, hg1⟩
            exact ⟨_, 0, rfl, hg1, rfl, hr1⟩
          · intro w1 w2 e h1 h2
            exact ⟨h1.1, h1.2.congr (h2 b rfl)⟩
          · intro e w' hh
            refine ⟨hh.1.1, ?_, hh.2⟩
            rw [← Nat.add_assoc]
            exact hh.1.2
        · rw [if_pos he] at hx
          simp only [Prod.mk.injEq] at hx
          obtain ⟨rfl, rfl, rfl⟩ := hx
          refine ⟨fun hk => absurd hk he, fun _ => ?_⟩
          refine (rfC b s A ((A + C : Nat) : Int) N ((N / 8 : Nat) : Int) ((N % 8 : Nat) : Int) (by omega) (by omega) (by omega) (by omega) (by omega) (fun W e' _ => ∃ g : Gf, e' = .returned (.tuple #[gv g, .int .i64 (e : Int)])) w h hvy (fun W hW => ?_) ?_).mono ?_
          · refine ((HV W hW).2 he).mono ?_
            rintro e' w' ⟨y, rfl, hg1⟩
            exact ⟨y, _, rfl, hg1, _, rfl⟩
          · intro w1 w2 e h1 h2
            exact h1
          · rintro e' w' ⟨⟨g, hg⟩, h2⟩
            exact ⟨g, hg, h2⟩
      · have hm : mayk (N / 8) (N % 8) = false := by
          unfold mayk
          rw [decide_eq_false hw, Bool.and_false]
        rw [if_pos (.inr hm)] at hx
        simp only [Prod.mk.injEq] at hx
        obtain ⟨rfl, rfl, rfl⟩ := hx
        refine ⟨fun hk => (by cases hk), fun _ => ?_⟩
        have h8 : ∀ c : Nat, ¬ N % 8 = c → (((N % 8 : Nat) : Int) == (c : Int)) = false := fun c hc => by rw [beq_eq_false_iff_ne]; omega
        refine (rfC b s A ((A + C : Nat) : Int) N ((N / 8 : Nat) : Int) ((N % 8 : Nat) : Int) (by omega) (by omega) (by omega) (by omega) (by omega) (fun W e' _ => ∃ g : Gf, e' = .returned (.tuple #[gv g, .int .i64 4])) w h hvy (fun W hW => ?_) ?_).mono ?_
        · refine (rvx b ((N % 8 : Nat) : Int) (h8 0 (by omega)) (h8 1 (by omega)) (h8 2 (by omega)) (h8 5 (by omega)) W).mono ?_
          rintro e' w' ⟨y, rfl, hg1⟩
          exact ⟨y, _, rfl, hg1, _, rfl⟩
        · intro w1 w2 e h1 h2
          exact h1
        · rintro e' w' ⟨⟨g, hg⟩, h2⟩
          exact ⟨g, hg, h2⟩
  · rw [if_pos hK1] at hx
    simp only [Prod.mk.injEq] at hx
    obtain ⟨rfl, rfl, rfl⟩ := hx
    refine ⟨fun hk => absurd hk hK1, fun _ => ?_⟩
    exact rfA b s A (A : Int) (K1 : Int) (by rw [bne_iff_ne]; omega) w h (varint_not b s A N C K1 hA (by omega) hK1 hr)
end Go.Proofs.YtioflicmpnkfeaaGreat
