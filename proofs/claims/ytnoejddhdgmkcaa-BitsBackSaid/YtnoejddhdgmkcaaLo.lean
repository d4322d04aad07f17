/- The contract of the law's 'long'. -/
import Derived.Test.YtnoejddhdgmkcaaOi
import Derived.Test.YtnoejddhdgmkcaaIv
import Derived.Test.YtnoejddhdgmkcaaSticks
namespace Go.Proofs.Ytnoejddhdgmkcaa
open Go.RowKit
/-- How much 'long' counts of the first n items. -/
def tot (q : Nat → Trip) : Nat → Nat
  | 0 => 0
  | n + 1 => tot q n + (10 + min (q n).S.size 6000)
/-- What 'long' tells. -/
def LongRet (w : World) (n : Nat) (e : Ending) (w' : World) : Prop := w = w' ∧ ∃ x, e = .returned (.bool x) ∧ (x = false → n < 6000)
set_option maxRecDepth 100000 in
set_option maxHeartbeats 2000000 in
theorem long_any (a0 : Option Addr) (len cap : Nat) (q : Nat → Trip) (hlen : len ≤ maxLen) (w : World) (hA : 0 < len → ∃ b off, a0 = some ⟨b, off, none⟩ ∧ ItemsAt w b off len q) :
    Calls Try.prog 42 #[.slice a0 len cap] w (LongRet w (tot q len)) := by
  have HA := Lib.hid hA
  clear hA
  have hm : maxLen ≤ 9223372036854775807 := by decide
  have T := Lib.hid (fun n => show tot q (n + 1) = tot q n + (10 + min (q n).S.size 6000) from rfl)
  have T0 : tot q 0 = 0 := rfl
  generalize tot q = f at *
  go_enter Try.func42, Try.ntmps42
  go_wp2
  go_loop [3, 4] (fun n i => ∃ (k : Nat), k ≤ len ∧ f k ≤ 16000 ∧ n = .int .i64 (f k) ∧ i = .int .i64 k) (fun _ i => len - (intOf i).toNat)
  case atStart => exact ⟨0, by omega, by omega, by rw [T0]; rfl, rfl⟩
  case round =>
    obtain ⟨k, hk, hf, rfl, rfl⟩ := hrel
    by_cases hlt : k < len
    · by_cases h6 : f k < 6000
      · have hT := T.out k
        obtain ⟨b, off, rfl, hAt⟩ := HA.out (by omega)
        obtain ⟨c0, c1, c2, hN, hS⟩ := hAt.c k hlt
        have c2 : w.cell? ⟨b, off + k * 3 + 2, none⟩ = some (.string (q k).S) := c2
        generalize (q k).S = S at *
        clear c0 c1 hAt
        go_wp2
        go_round
        case rel => exact ⟨k + 1, by omega, by omega, by go_num, by go_num⟩
        case measure => simp [intOf]; omega
      · go_wp2
        go_ret
        exact ⟨rfl, true, rfl, fun h => by cases h⟩
    · obtain rfl : k = len := by omega
      go_wp2
      go_ret
      exact ⟨rfl, _, rfl, fun h => by have := of_decide_eq_false h; omega⟩
/-- The bytes of the first n items. -/
def cat (q : Nat → Trip) : Nat → List UInt8
  | 0 => []
  | n + 1 => cat q n ++ Bt.enc (q n).W (q n).N (q n).S
/-- An item that may be. -/
def Fine (q : Nat → Trip) (len : Nat) : Prop := ∀ i, i < len → (q i).N ≤ 18446744073709551615 ∧ (q i).S.size ≤ 6000
theorem tot_mono (q : Nat → Trip) : ∀ (d k : Nat), tot q k + 10 * d ≤ tot q (k + d)
  | 0, k => by simp
  | d + 1, k => by
    have := tot_mono q d k
    have h : tot q (k + (d + 1)) = tot q (k + d) + (10 + min (q (k + d)).S.size 6000) := rfl
    omega
theorem fine_of {q : Nat → Trip} {len : Nat} (h : tot q len < 6000) (hN : ∀ i, i < len → (q i).N ≤ 18446744073709551615) : Fine q len := by
  intro i hi
  refine ⟨hN i hi, ?_⟩
  have h1 := tot_mono q (len - (i + 1)) (i + 1)
  have h2 : i + 1 + (len - (i + 1)) = len := by omega
  rw [h2] at h1
  have h3 : tot q (i + 1) = tot q i + (10 + min (q i).S.size 6000) := rfl
  omega
theorem cat_le {q : Nat → Trip} {len : Nat} (hf : Fine q len) : ∀ n, n ≤ len → (cat q n).length ≤ tot q n
  | 0, _ => by simp [cat]
  | n + 1, h => by
    have h1 := cat_le hf n (by omega)
    obtain ⟨h2, h3⟩ := hf n (by omega)
    have h4 := Bt.enc_length (q n).W (q n).N (q n).S h2 h3
    have h5 : tot q (n + 1) = tot q n + (10 + min (q n).S.size 6000) := rfl
    rw [cat, List.length_append]
    omega
theorem cat_more (q : Nat → Trip) : ∀ (d k : Nat), ∃ r, cat q (k + d) = cat q k ++ r
  | 0, k => ⟨[], by simp⟩
  | d + 1, k => by
    obtain ⟨r, hr⟩ := cat_more q d k
    exact ⟨r ++ Bt.enc (q (k + d)).W (q (k + d)).N (q (k + d)).S, by rw [← List.append_assoc, ← hr]; rfl⟩
theorem cat_at (q : Nat → Trip) {k n : Nat} (h : k < n) : ∃ r, cat q n = cat q k ++ (Bt.enc (q k).W (q k).N (q k).S ++ r) := by
  obtain ⟨r, hr⟩ := cat_more q (n - (k + 1)) (k + 1)
  rw [show k + 1 + (n - (k + 1)) = n from by omega] at hr
  exact ⟨r, by rw [hr, cat, List.append_assoc]⟩
theorem cat_mono (q : Nat → Trip) {k n : Nat} (h : k ≤ n) : (cat q k).length ≤ (cat q n).length := by
  obtain ⟨r, hr⟩ := cat_more q (n - k) k
  rw [show k + (n - k) = n from by omega] at hr
  rw [hr, List.length_append]; omega
theorem cat_succ_length (q : Nat → Trip) (k : Nat) : (cat q (k + 1)).length = (cat q k).length + (Bt.enc (q k).W (q k).N (q k).S).length := by rw [cat, List.length_append]
/-- Where the first n items end, as the law keeps it. -/
def ends (q : Nat → Trip) (n : Nat) : List Value := (List.range (n + 1)).map fun i => .int .i64 ((cat q i).length : Int)
theorem ends_length (q : Nat → Trip) (n : Nat) : (ends q n).length = n + 1 := by simp [ends]
theorem ends_succ (q : Nat → Trip) (n : Nat) : ends q (n + 1) = ends q n ++ [.int .i64 ((cat q (n + 1)).length : Int)] := by
  unfold ends; rw [List.range_succ, List.map_append]; rfl
theorem ends_at (q : Nat → Trip) {n j : Nat} (h : j ≤ n) : (ends q n)[j]? = some (.int .i64 ((cat q j).length : Int)) := by
  unfold ends; rw [List.getElem?_map, List.getElem?_range (by omega)]; rfl
/-- While the law puts: the bytes, and their ends, are its own, and apart. -/
structure L1 (w wr : World) (q : Nat → Trip) (kb ke : Nat) (u ue : Value) : Prop where
  b : Own wr w.heap.size u ((cat q kb).map bv)
  e : Own wr w.heap.size ue (ends q ke)
  ap : u.ownBlock = none ∨ u.ownBlock ≠ ue.ownBlock
  bel : Below w.heap.size w wr
theorem apart_of {wr w1 : World} {base : Nat} {u v' ue : Value} {xs : List Value} (h : u.ownBlock = none ∨ u.ownBlock ≠ ue.ownBlock) (he : Own wr base ue xs) (hS : Step wr w1 u v') : v'.ownBlock = none ∨ v'.ownBlock ≠ ue.ownBlock := by
  rcases hS.own with h1 | h1
  · rw [h1]; exact h
  · cases hv : v'.ownBlock with
    | none => exact .inl rfl
    | some k =>
      refine .inr fun h2 => ?_
      have := (he.lt k h2.symm).2
      have := h1 k hv
      omega
theorem flip_ap {u ue : Value} (h : u.ownBlock = none ∨ u.ownBlock ≠ ue.ownBlock) : ue.ownBlock = none ∨ ue.ownBlock ≠ u.ownBlock := by
  rcases h with h | h
  · cases hv : ue.ownBlock with
    | none => exact .inl rfl
    | some k => rw [h]; exact .inr (by simp)
  · exact .inr fun h2 => h h2.symm
theorem L1.stepB {w wr w1 : World} {q : Nat → Trip} {kb kb' ke : Nat} {u ue v' : Value} (h : L1 w wr q kb ke u ue) (hO : Own w1 w.heap.size v' ((cat q kb').map bv)) (hS : Step wr w1 u v') : L1 w w1 q kb' ke v' ue :=
  ⟨hO, hS.other h.e (flip_ap h.ap), apart_of h.ap h.e hS, h.bel.grown hS.grown h.bel.size (fun k hk => (h.b.lt k hk).1)⟩
theorem L1.stepE {w wr w1 : World} {q : Nat → Trip} {kb ke ke' : Nat} {u ue v' : Value} (h : L1 w wr q kb ke u ue) (hO : Own w1 w.heap.size v' (ends q ke')) (hS : Step wr w1 ue v') : L1 w w1 q kb ke' u v' :=
  ⟨hS.other h.b h.ap, hO, flip_ap (apart_of (flip_ap h.ap) h.b hS), h.bel.grown hS.grown h.bel.size (fun k hk => (h.e.lt k hk).1)⟩
theorem L1.start {w w3 : World} (q : Nat → Trip) (hB : Below w.heap.size w w3) : L1 w (w3.alloc (.cells #[.int .i64 0] 3)) q 0 0 (.slice none 0 0) (.slice (some ⟨w3.heap.size, 0, none⟩) 1 1) :=
  ⟨Own.nil _ _, Own.made w3 w.heap.size 3 (ends q 0) #[] hB.size (by rw [ends_length]; decide), .inl rfl, hB.alloc hB.size _⟩
theorem L1.shape {w wr : World} {q : Nat → Trip} {kb ke : Nat} {u ue : Value} (h : L1 w wr q kb ke u ue) : ∃ a c, u = .slice a (cat q kb).length c := by
  obtain ⟨a, c, e⟩ := h.b.shape
  exact ⟨a, c, by rw [e, List.length_map]⟩
theorem L1.put {w wr w1 : World} {q : Nat → Trip} {k : Nat} {u ue v' : Value} {o : Obj} {x : Value} (h : L1 w wr q (k + 1) k u ue) (hx : x = .int .i64 ((cat q (k + 1)).length : Int)) (hO : Own w1 w.heap.size v' (ends q k ++ [x])) (hG : (wr.alloc o).grownBy w1 ue.ownBlock) (hH : v'.ownBlock = ue.ownBlock ∨ ∀ k, v'.ownBlock = some k → (wr.alloc o).heap.size ≤ k) : L1 w w1 q (k + 1) (k + 1) u v' := by
  subst hx
  refine h.stepE (by rw [ends_succ]; exact hO) (((Step.refl wr ue).alloc o).trans ⟨hG, hH⟩)
theorem L1.held {w wr : World} {q : Nat → Trip} {kb len : Nat} {u ue : Value} (h : L1 w wr q kb len u ue) : ∃ ge c, ue = .slice (some ⟨ge, 0, none⟩) (len + 1) c ∧ ge < wr.heap.size ∧ ∀ j, j ≤ len → wr.cell? ⟨ge, j, none⟩ = some (.int .i64 ((cat q j).length : Int)) := by
  obtain ⟨g, c, h1, _, h3, _, h5⟩ := h.e.pos (by rw [ends_length]; omega)
  rw [ends_length] at h1
  exact ⟨g, c, h1, h3, fun j hj => by rw [(h5 j (by rw [ends_length]; omega)).1, ends_at q hj]⟩
/-- While the law reads: the reader, the ends. -/
structure L2 (w wr : World) (q : Nat → Trip) (len ge rb : Nat) (s : ByteArray) (a e : Int) : Prop where
  r : RdAt wr rb s a e
  x : ∀ j, j ≤ len → wr.cell? ⟨ge, j, none⟩ = some (.int .i64 ((cat q j).length : Int))
  g : ge < wr.heap.size
  ne : ge ≠ rb
  rb : w.heap.size ≤ rb
  bel : Below w.heap.size w wr
theorem L2.is {w wr w' : World} {q : Nat → Trip} {len ge rb : Nat} {s : ByteArray} {a e a' e' : Int} (h : L2 w wr q len ge rb s a e) (hR : RdAt w' rb s a' e') (hG : wr.grownBy w' (some rb)) : L2 w w' q len ge rb s a' e' :=
  ⟨hR, fun j hj => (World.cell?_of_block (a := ⟨ge, j, none⟩) (hG.block ge h.g (fun hh => by cases hh; exact h.ne rfl))).trans (h.x j hj), Nat.lt_of_lt_of_le h.g hG.size, h.ne, h.rb,
    h.bel.grown hG h.bel.size (fun _ hh => by cases hh; exact h.rb)⟩
theorem L2.drewN {w wr : World} {q : Nat → Trip} {len ge rb : Nat} {s : ByteArray} {a e : Int} (h : L2 w wr q len ge rb s a e) (m : Nat) : L2 w (wr.drewN m) q len ge rb s a e :=
  h.is (h.r.drewN m) (grown_drewN wr m rb)
theorem L2.drew {w wr : World} {q : Nat → Trip} {len ge rb : Nat} {s : ByteArray} {a e : Int} (h : L2 w wr q len ge rb s a e) : L2 w wr.drew q len ge rb s a e :=
  h.is h.r.drew ⟨rfl, rfl, rfl, Nat.le_refl _, fun _ _ _ => rfl⟩
/-- What stands of an item, and of an end, at a world. -/
def Stand (bl o ge j : Nat) (W : Int) (N : Nat) (S : ByteArray) (c : Nat) (w' : World) : Prop :=
  w'.cell? ⟨bl, o, none⟩ = some (.int .u8 W) ∧ w'.cell? ⟨bl, o + 1, none⟩ = some (.int .u64 N) ∧ w'.cell? ⟨bl, o + 2, none⟩ = some (.string S) ∧ w'.cell? ⟨ge, j, none⟩ = some (.int .i64 c)
theorem L2.stand {w wr w' : World} {q : Nat → Trip} {len ge rb : Nat} {s : ByteArray} {a e : Int} (h : L2 w wr q len ge rb s a e) {bl o j : Nat} {W : Int} {N : Nat} {S : ByteArray} {c : Nat} (hb : bl < w.heap.size) (hj : j ≤ len) (hc : c = (cat q j).length) (h0 : w.cell? ⟨bl, o, none⟩ = some (.int .u8 W)) (h1 : w.cell? ⟨bl, o + 1, none⟩ = some (.int .u64 N)) (h2 : w.cell? ⟨bl, o + 2, none⟩ = some (.string S)) (hw : w' = wr) : Stand bl o ge j W N S c w' := by
  subst hw hc
  exact ⟨(h.bel.cell (p := ⟨bl, o, none⟩) hb).trans h0, (h.bel.cell (p := ⟨bl, o + 1, none⟩) hb).trans h1, (h.bel.cell (p := ⟨bl, o + 2, none⟩) hb).trans h2, h.x j hj⟩
theorem L2.new {w wr : World} {q : Nat → Trip} {len ge : Nat} {s : ByteArray} (x : ∀ j, j ≤ len → wr.cell? ⟨ge, j, none⟩ = some (.int .i64 ((cat q j).length : Int))) (g : ge < wr.heap.size) (bel : Below w.heap.size w wr) :
    L2 w (wr.alloc (.cells #[.string s, .int .i64 0, .int .i64 0] 75)) q len ge wr.heap.size s 0 0 :=
  ⟨RdAt.new wr s, fun j hj => (World.cell?_of_block (a := ⟨ge, j, none⟩) (Below.heap_alloc wr _ ge g)).trans (x j hj), by rw [World.size_alloc]; omega, by omega, bel.size, bel.alloc bel.size _⟩
end Go.Proofs.Ytnoejddhdgmkcaa
