/- The contracts of an item's 'add' and 'is', over the seat's own program. -/
import Derived.Test.YtnoejddhdgmkcaaAs
import Derived.Test.YtnoejddhdgmkcaaMc
import Derived.Deep.RegionHeld3
namespace Go.Proofs.Ytnoejddhdgmkcaa
open Go.RowKit
theorem ownRet_alloc {w : World} {o : Obj} {base : Nat} {v : Value} {l : List UInt8} {e : Ending} {w' : World} (h : OwnRet (w.alloc o) base v l e w') : OwnRet w base v l e w' := by
  obtain ⟨v', h1, h2, h3⟩ := h
  exact ⟨v', h1, h2, ((Step.refl w v).alloc o).trans h3⟩
set_option maxRecDepth 100000 in
set_option maxHeartbeats 1000000 in
theorem add0 (N : Nat) (S : ByteArray) (hN : N ≤ 18446744073709551615) (base : Nat) (v : Value) (xs : List UInt8) (w : World) (hown : Own w base v (xs.map bv)) (hb : base ≤ w.heap.size) (hl : xs.length ≤ 140737488355000) :
    Calls Try.prog 43 #[.agg #[.int .u8 0, .int .u64 N, .string S], v] w (OwnRet w base v (xs ++ Bt.vint N)) := by
  have HO := Lib.hid hown
  clear hown
  go_enter Try.func43, Try.ntmps43
  go_wp2_with fail
  refine (put_own N hN base v xs _ (HO.out.alloc _) (Nat.le_trans hb (by simp)) hl).mono ?_
  rintro e w1 ⟨v1, rfl, hO1, hS1⟩
  have HO1 := Lib.hid hO1; have HS1 := Lib.hid hS1
  clear hO1 hS1
  go_wp2
  go_ret
  exact ownRet_alloc ⟨v1, rfl, HO1.out, HS1.out⟩
set_option maxRecDepth 100000 in
set_option maxHeartbeats 1000000 in
theorem add2 (N : Nat) (S : ByteArray) (base : Nat) (v : Value) (xs : List UInt8) (w : World) (hown : Own w base v (xs.map bv)) (hb : base ≤ w.heap.size) (hl : xs.length ≤ 140737488355000) :
    Calls Try.prog 43 #[.agg #[.int .u8 2, .int .u64 N, .string S], v] w (OwnRet w base v (xs ++ Bt.fx 4 N)) := by
  have HO := Lib.hid hown
  clear hown
  go_enter Try.func43, Try.ntmps43
  go_wp2_with fail
  refine (putFixed_4 N base v xs _ (HO.out.alloc _) (Nat.le_trans hb (by simp)) hl).mono ?_
  rintro e w1 ⟨v1, rfl, hO1, hS1⟩
  have HO1 := Lib.hid hO1; have HS1 := Lib.hid hS1
  clear hO1 hS1
  go_wp2
  go_ret
  exact ownRet_alloc ⟨v1, rfl, HO1.out, HS1.out⟩
set_option maxRecDepth 100000 in
set_option maxHeartbeats 1000000 in
theorem add3 (N : Nat) (S : ByteArray) (hN : N ≤ 18446744073709551615) (base : Nat) (v : Value) (xs : List UInt8) (w : World) (hown : Own w base v (xs.map bv)) (hb : base ≤ w.heap.size) (hl : xs.length ≤ 140737488355000) :
    Calls Try.prog 43 #[.agg #[.int .u8 3, .int .u64 N, .string S], v] w (OwnRet w base v (xs ++ Bt.fx 8 N)) := by
  have HO := Lib.hid hown
  clear hown
  go_enter Try.func43, Try.ntmps43
  go_wp2_with fail
  refine (putFixed_8 N hN base v xs _ (HO.out.alloc _) (Nat.le_trans hb (by simp)) hl).mono ?_
  rintro e w1 ⟨v1, rfl, hO1, hS1⟩
  have HO1 := Lib.hid hO1; have HS1 := Lib.hid hS1
  clear hO1 hS1
  go_wp2
  go_ret
  exact ownRet_alloc ⟨v1, rfl, HO1.out, HS1.out⟩
set_option maxRecDepth 100000 in
set_option maxHeartbeats 1000000 in
theorem add1 (N : Nat) (S : ByteArray) (base : Nat) (v : Value) (xs : List UInt8) (w : World) (hown : Own w base v (xs.map bv)) (hb : base ≤ w.heap.size) (hl : xs.length ≤ 140737488355000) :
    Calls Try.prog 43 #[.agg #[.int .u8 1, .int .u64 N, .string S], v] w (OwnRet w base v (xs ++ Bt.vint (Bt.zig (wrap64 N)).toNat)) := by
  have HO := Lib.hid hown
  clear hown
  have hr := Bt.wrap64_range N
  obtain ⟨z0, z1⟩ := Bt.zig_range hr.1 hr.2
  have Z := Lib.hid (fun w => zig_any (wrap64 N) w hr.1 hr.2)
  obtain ⟨m, hm⟩ := Int.eq_ofNat_of_zero_le z0
  rw [hm] at Z ⊢
  have hmn : ((m : Nat) : Int).toNat = m := by omega
  rw [hmn]
  have hm2 : m ≤ 18446744073709551615 := by omega
  clear hmn hm z0 z1 hr
  go_enter Try.func43, Try.ntmps43
  go_wp2_with fail
  refine (Z.out _).mono ?_
  rintro e w1 ⟨rfl, rfl⟩
  go_wp2_with fail
  refine (put_own m hm2 base v xs _ (HO.out.alloc _) (Nat.le_trans hb (by simp)) hl).mono ?_
  rintro e w1 ⟨v1, rfl, hO1, hS1⟩
  have HO1 := Lib.hid hO1; have HS1 := Lib.hid hS1
  clear hO1 hS1
  go_wp2
  go_ret
  exact ownRet_alloc ⟨v1, rfl, HO1.out, HS1.out⟩
set_option maxRecDepth 100000 in
set_option maxHeartbeats 1000000 in
theorem add5 (W : Int) (g0 : (W == 0) = false) (g1 : (W == 1) = false) (g2 : (W == 2) = false) (g3 : (W == 3) = false) (N : Nat) (S : ByteArray) (hS : S.size ≤ 6000) (base : Nat) (v : Value) (xs : List UInt8) (w : World) (hown : Own w base v (xs.map bv)) (hb : base ≤ w.heap.size) (hl : xs.length ≤ 140737488340000) :
    Calls Try.prog 43 #[.agg #[.int .u8 W, .int .u64 N, .string S], v] w (OwnRet w base v (xs ++ (Bt.vint S.size ++ S.data.toList))) := by
  have HO := Lib.hid hown
  clear hown
  go_enter Try.func43, Try.ntmps43
  go_wp2_with fail
  refine (putText_own S (by omega) base v xs _ (HO.out.alloc _) (Nat.le_trans hb (by simp)) (by omega)).mono ?_
  rintro e w1 ⟨v1, rfl, hO1, hS1⟩
  have HO1 := Lib.hid hO1; have HS1 := Lib.hid hS1
  clear hO1 hS1
  go_wp2
  go_ret
  exact ownRet_alloc ⟨v1, rfl, HO1.out, HS1.out⟩
theorem add_any (W : Int) (N : Nat) (S : ByteArray) (hN : N ≤ 18446744073709551615) (hS : S.size ≤ 6000) (base : Nat) (v : Value) (xs : List UInt8) (w : World) (hown : Own w base v (xs.map bv)) (hb : base ≤ w.heap.size) (hl : xs.length ≤ 140737488340000) :
    Calls Try.prog 43 #[.agg #[.int .u8 W, .int .u64 N, .string S], v] w (OwnRet w base v (xs ++ Bt.enc W N S)) := by
  by_cases h0 : W = 0
  · subst h0; rw [Bt.enc0]; exact add0 N S hN base v xs w hown hb (by omega)
  · by_cases h1 : W = 1
    · subst h1; rw [Bt.enc1]; exact add1 N S base v xs w hown hb (by omega)
    · by_cases h2 : W = 2
      · subst h2; rw [Bt.enc2]; exact add2 N S base v xs w hown hb (by omega)
      · by_cases h3 : W = 3
        · subst h3; rw [Bt.enc3]; exact add3 N S hN base v xs w hown hb (by omega)
        · rw [Bt.enc5 N S h0 h1 h2 h3]
          exact add5 W (beq_eq_false_iff_ne.2 h0) (beq_eq_false_iff_ne.2 h1) (beq_eq_false_iff_ne.2 h2) (beq_eq_false_iff_ne.2 h3) N S hS base v xs w hown hb hl
/-- What 'is' leaves. -/
def IsRet (w : World) (b : Nat) (s : ByteArray) (x : Bool) (a e : Int) (en : Ending) (w' : World) : Prop := en = .returned (.bool x) ∧ RdAt w' b s a e ∧ w.grownBy w' (some b)
theorem box_item {w w1 : World} {b : Nat} {W N : Int} {S : ByteArray} {T : TypeId} (hG : (w.alloc (.cells #[.int .u8 W, .int .u64 N, .string S] T)).drew.grownBy w1 (some b)) (hb : b < w.heap.size) :
    w1.cell? ⟨w.heap.size, 1, none⟩ = some (.int .u64 N) ∧ w1.cell? ⟨w.heap.size, 2, none⟩ = some (.string S) := by
  have h1 : w1.heap[w.heap.size]? = some (.cells #[.int .u8 W, .int .u64 N, .string S] T (0, 0)) := by
    rw [hG.block w.heap.size (by simp) (fun h => by cases h; omega)]
    exact heap_alloc_new w _
  refine ⟨?_, ?_⟩
  · simp only [World.cell?, h1]; rfl
  · simp only [World.cell?, h1]; rfl
theorem box_start (w : World) (W N : Int) (S : ByteArray) (T : TypeId) : (w.alloc (.cells #[.int .u8 W, .int .u64 N, .string S] T)).drew.cell? ⟨w.heap.size, 1, none⟩ = some (.int .u64 N) ∧ (w.alloc (.cells #[.int .u8 W, .int .u64 N, .string S] T)).drew.cell? ⟨w.heap.size, 2, none⟩ = some (.string S) := by
  have h1 : (w.alloc (.cells #[.int .u8 W, .int .u64 N, .string S] T)).drew.heap[w.heap.size]? = some (.cells #[.int .u8 W, .int .u64 N, .string S] T (0, 0)) := heap_alloc_new w _
  refine ⟨?_, ?_⟩
  · simp only [World.cell?, h1]; rfl
  · simp only [World.cell?, h1]; rfl
theorem RdAt.drew {w : World} {b : Nat} {s : ByteArray} {a e : Int} (h : RdAt w b s a e) : RdAt w.drew b s a e := h.congr rfl
theorem isG {w w' : World} {b : Nat} {o : Obj} (h : (w.alloc o).drew.grownBy w' (some b)) : w.grownBy w' (some b) :=
  grown_alloc (o := o) ⟨h.os, h.tape, h.output, h.size, h.block⟩
set_option maxRecDepth 100000 in
set_option maxHeartbeats 1000000 in
theorem is0 (b : Nat) (s : ByteArray) (a : Int) (N : Nat) (S : ByteArray) (n : Int) (a' e' : Int) (w : World) (h : RdAt w b s a 0) (hM : Meth 25 [.int .u64 N] s a 0 (.int .u64 n) a' e') :
    Calls Try.prog 44 #[.agg #[.int .u8 0, .int .u64 N, .string S], .pointer (some ⟨b, 0, none⟩)] w (IsRet w b s (n == (N : Int)) a' e') := by
  have hblt := h.lt
  have H := Lib.hid h
  have M := Lib.hid hM
  clear h hM
  have D := Lib.hid (box_start w 0 N S 65)
  go_enter Try.func44, Try.ntmps44
  go_wp2_with fail
  go_region_held3 (fun w' => w'.cell? ⟨w.heap.size, 1, none⟩ = some (.int .u64 N) ∧ w'.cell? ⟨w.heap.size, 2, none⟩ = some (.string S)) (first | exact D.out | exact k0) ((go_at_call 25; refine (M.out _ b (H.out.alloc (.cells #[.int .u8 0, .int .u64 N, .string S] 65)).drew).mono ?_; rintro e1 w1 ⟨rfl, hR, hG⟩; have R := Lib.hid hR; have G := Lib.hid hG; have k0 := box_item hG hblt; clear hR hG))
  all_goals
    go_wp2
    go_ret
    exact ⟨rfl, R.out, isG G.out⟩
set_option maxRecDepth 100000 in
set_option maxHeartbeats 1000000 in
theorem is3 (b : Nat) (s : ByteArray) (a : Int) (N : Nat) (S : ByteArray) (n : Int) (a' e' : Int) (w : World) (h : RdAt w b s a 0) (hM : Meth 26 [.int .i64 8] s a 0 (.int .u64 n) a' e') :
    Calls Try.prog 44 #[.agg #[.int .u8 3, .int .u64 N, .string S], .pointer (some ⟨b, 0, none⟩)] w (IsRet w b s (n == (N : Int)) a' e') := by
  have hblt := h.lt
  have H := Lib.hid h
  have M := Lib.hid hM
  clear h hM
  have D := Lib.hid (box_start w 3 N S 65)
  go_enter Try.func44, Try.ntmps44
  go_wp2_with fail
  go_region_held3 (fun w' => w'.cell? ⟨w.heap.size, 1, none⟩ = some (.int .u64 N) ∧ w'.cell? ⟨w.heap.size, 2, none⟩ = some (.string S)) (first | exact D.out | exact k0) ((go_at_call 26; refine (M.out _ b (H.out.alloc (.cells #[.int .u8 3, .int .u64 N, .string S] 65)).drew).mono ?_; rintro e1 w1 ⟨rfl, hR, hG⟩; have R := Lib.hid hR; have G := Lib.hid hG; have k0 := box_item hG hblt; clear hR hG))
  all_goals
    go_wp2
    go_ret
    exact ⟨rfl, R.out, isG G.out⟩
set_option maxRecDepth 100000 in
set_option maxHeartbeats 1000000 in
theorem is5 (W : Int) (g0 : (W == 0) = false) (g1 : (W == 1) = false) (g2 : (W == 2) = false) (g3 : (W == 3) = false) (b : Nat) (s : ByteArray) (a : Int) (N : Nat) (S : ByteArray) (n : ByteArray) (a' e' : Int) (w : World) (h : RdAt w b s a 0) (hM : Meth 17 [.int .i64 S.size] s a 0 (.string n) a' e') :
    Calls Try.prog 44 #[.agg #[.int .u8 W, .int .u64 N, .string S], .pointer (some ⟨b, 0, none⟩)] w (IsRet w b s (n.toList == S.toList) a' e') := by
  have hblt := h.lt
  have H := Lib.hid h
  have M := Lib.hid hM
  clear h hM
  have D := Lib.hid (box_start w W N S 65)
  go_enter Try.func44, Try.ntmps44
  go_wp2_with fail
  go_region_held3 (fun w' => w'.cell? ⟨w.heap.size, 1, none⟩ = some (.int .u64 N) ∧ w'.cell? ⟨w.heap.size, 2, none⟩ = some (.string S)) (first | exact D.out | exact k0) ((go_at_call 17; refine (M.out _ b (H.out.alloc (.cells #[.int .u8 W, .int .u64 N, .string S] 65)).drew).mono ?_; rintro e1 w1 ⟨rfl, hR, hG⟩; have R := Lib.hid hR; have G := Lib.hid hG; have k0 := box_item hG hblt; clear hR hG))
  all_goals
    go_wp2
    go_ret
    exact ⟨rfl, R.out, isG G.out⟩
end Go.Proofs.Ytnoejddhdgmkcaa
