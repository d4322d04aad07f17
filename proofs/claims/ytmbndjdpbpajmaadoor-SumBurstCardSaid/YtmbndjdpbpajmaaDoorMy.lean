/- Slices of bytes that a call makes and fills, one by one; many. -/
import Derived.Test.YtmbndjdpbpajmaaDoorAw
import Derived.Deep.OwnRows
namespace Go.Proofs.YtmbndjdpbpajmaaDoor
open Go.RowKit
/-- So far as it is filled. -/
def part (ys : List UInt8) (k : Nat) : List UInt8 := ys.take k ++ List.replicate (ys.length - k) 0
theorem part_zero (ys : List UInt8) : part ys 0 = List.replicate ys.length 0 := by simp [part]
theorem part_full (ys : List UInt8) : part ys ys.length = ys := by simp [part]
theorem part_length (ys : List UInt8) (k : Nat) (h : k ≤ ys.length) : (part ys k).length = ys.length := by simp [part]; omega
theorem part_set (ys : List UInt8) (k : Nat) (h : k < ys.length) : (part ys k).set k ys[k] = part ys (k + 1) := by
  apply List.ext_getElem?
  intro i
  rw [List.getElem?_set]
  unfold part
  by_cases h1 : k = i
  · subst h1
    rw [if_pos rfl, if_pos (by simp; omega), List.getElem?_append_left (by simp; omega), List.getElem?_take_of_lt (by omega), List.getElem?_eq_getElem h]
  · rw [if_neg h1]
    by_cases h2 : i < k
    · rw [List.getElem?_append_left (by simp; omega), List.getElem?_append_left (by simp; omega), List.getElem?_take_of_lt h2, List.getElem?_take_of_lt (by omega)]
    · rw [List.getElem?_append_right (by simp; omega), List.getElem?_append_right (by simp; omega), List.getElem?_replicate, List.getElem?_replicate]
      simp only [List.length_take]
      rw [Nat.min_eq_left (by omega), Nat.min_eq_left (by omega)]
      by_cases h3 : i < ys.length
      · rw [if_pos (by omega), if_pos (by omega)]
      · rw [if_neg (by omega), if_neg (by omega)]
/-- What is being filled: a slice in block g. -/
def Fill (w : World) (base g : Nat) (ys : List UInt8) (k : Nat) : Prop := Own w base (.slice (some ⟨g, 0, none⟩) ys.length ys.length) ((part ys k).map bv)
theorem Fill.cell {w : World} {base g : Nat} {ys : List UInt8} {k : Nat} (h : Fill w base g ys k) (j : Nat) (hk : k ≤ ys.length) (hj : j < ys.length) :
    w.cell? ⟨g, j, none⟩ = some (bv ((part ys k).getD j 0)) ∧ w.frozen? ⟨g, j, none⟩ = false := by
  have hl : ((part ys k).map bv).length = ys.length := by rw [List.length_map, part_length _ _ hk]
  obtain ⟨g', cap, e, _, _, _, h5⟩ := Own.pos h (by rw [hl]; omega)
  injection e with e1
  injection e1 with e2
  injection e2 with e3
  subst e3
  refine ⟨?_, (h5 j (by rw [hl]; exact hj)).2⟩
  rw [(h5 j (by rw [hl]; exact hj)).1, List.getElem?_map, List.getD_eq_getElem?_getD, List.getElem?_eq_getElem (by rw [part_length _ _ hk]; exact hj)]
  rfl
theorem Fill.store {w : World} {base g : Nat} {ys : List UInt8} {k : Nat} (h : Fill w base g ys k) (hk : k < ys.length) {u : Value} (hu : u = bv ys[k]) :
    Fill (w.setCell ⟨g, k, none⟩ u) base g ys (k + 1) := by
  have h2 := Own.stored' h k (by rw [List.length_map, part_length _ _ (by omega)]; exact hk) u
  unfold Fill
  rw [← part_set ys k hk, List.map_set, ← hu]
  exact h2
theorem Fill.full {w : World} {base g : Nat} {ys : List UInt8} (h : Fill w base g ys ys.length) : Own w base (.slice (some ⟨g, 0, none⟩) ys.length ys.length) (ys.map bv) := by
  unfold Fill at h; rwa [part_full] at h
theorem Own.aside {w : World} {base : Nat} {v : Value} {xs : List Value} (h : Own w base v xs) (g j : Nat) (u : Value) (hne : v.ownBlock ≠ some g) : Own (w.setCell ⟨g, j, none⟩ u) base v xs :=
  h.kept (grownBy_setCells g j [u] w) (.inr hne)
theorem Tryd.info5 : (Tryd.prog.info? 5).map (fun i => (i.zero, i.size, i.bytes)) = some (some (.int .u8 0), 1, 1) := by kernel_rfl
theorem made_zero (n : Nat) : madeCells #[Value.int .u8 0] n = ((List.replicate n (0 : UInt8)).map bv).toArray ++ #[] := by
  apply Array.ext
  · simp [madeCells]
  · intro i h1 h2
    simp [madeCells, Nat.mod_one]
    rfl
theorem make_bytes (w : World) (base : Nat) (ys : List UInt8) (hb : base ≤ w.heap.size) (hn : ys.length ≤ 20000) :
    ∃ w1, (Instr.makeSlice 30 (.int .i64 (ys.length : Int)) (.int .i64 (ys.length : Int))).run Tryd.prog w = .ok (.slice (some ⟨w.heap.size, 0, none⟩) ys.length ys.length) w1 ∧ Fill w1 base w.heap.size ys 0 ∧ Below w.heap.size w w1 ∧ w1.heap.size = w.heap.size + 1 := by
  refine ⟨_, run_make_row' 30 5 (.int .u8 0) 1 Tryd.underlying30 Tryd.info5 rfl .i64 .i64 ys.length (by omega) (by omega) w, ?_, (Below.refl _ _).alloc (Nat.le_refl _) _, by simp⟩
  have := Own.made w base 5 ((List.replicate ys.length (0 : UInt8)).map bv) #[] hb (by unfold maxLen; simp; omega)
  unfold Fill
  rw [part_zero, made_zero]
  simpa using this
set_option maxRecDepth 100000 in
set_option maxHeartbeats 1000000 in
theorem many_any (n : Nat) (c : UInt8) (w : World) (hn : n ≤ 20000) :
   Calls Tryd.prog 22 #[.int .i64 n, .int .u8 c.toNat] w fun e w' => e = .returned (.string (bs (List.replicate n c))) ∧ Below w.heap.size w w' := by
  have hl : (List.replicate n c).length = n := List.length_replicate
  obtain ⟨w1, hmk, hF, hB, hz⟩ := make_bytes w w.heap.size (List.replicate n c) (Nat.le_refl _) (by omega)
  rw [hl] at hmk
  have HF := Lib.hid hF
  have HB := Lib.hid hB
  have HL := Lib.hid hl
  clear hF hB hz hl
  go_enter Tryd.func22, Tryd.ntmps22
  go_wp2
  go_loopw [6] (fun x wr => ∃ k : Nat, k ≤ n ∧ x = .int .i64 k ∧ Hid (Fill wr w.heap.size w.heap.size (List.replicate n c) k) ∧ Hid (Below w.heap.size w wr)) (fun x _ => n - (intOf x).toNat)
  case atStart => exact ⟨0, by omega, rfl, HF, HB⟩
  case round =>
    clear HF HB
    obtain ⟨k, hk, rfl, HF, HB⟩ := hrel
    by_cases h : k < n
    · obtain ⟨hc, hf⟩ := HF.out.cell k (by rw [HL.out]; omega) (by rw [HL.out]; omega)
      have HN := Lib.hid (HF.out.store (by rw [HL.out]; exact h) (u := .int .u8 c.toNat) (by rw [List.getElem_replicate]; rfl))
      have HB2 : Hid (Below w.heap.size w (wr.setCell ⟨w.heap.size, k, none⟩ (.int .u8 c.toNat))) := Lib.hid (HB.out.setCell (Nat.le_refl _) _)
      go_wp2
      go_roundw
      case rel => exact ⟨k + 1, by omega, by go_num, HN, HB2⟩
      case measure => simp [intOf]; omega
    · obtain rfl : k = n := by omega
      have HO : Hid (Own wr w.heap.size (.slice (some ⟨w.heap.size, 0, none⟩) k k) ((List.replicate k c).map bv)) := Lib.hid (by
        have h2 := HF.out
        have e : Fill wr w.heap.size w.heap.size (List.replicate k c) (List.replicate k c).length := by rw [HL.out]; exact h2
        have := e.full
        rwa [HL.out] at this)
      have hr := run_string_Own wr w.heap.size 30 9 5 _ _ HO.out Tryd.underlying30 Tryd.underlying5 Tryd.underlying9
      go_wp2
      go_ret
      exact ⟨rfl, HB.out⟩
end Go.Proofs.YtmbndjdpbpajmaaDoor
