/- The disk as one row of cells; Copy; a new one. -/
import Derived.Test.YticponohbnkgdaaDf
namespace Go.Proofs.Yticponohbnkgdaa
open Go Go.RowKit
set_option maxRecDepth 100000
def dcells (d : Dk) : List Value := .int .i64 (d.cap : Int) :: (tcells d.T 32 ++ [.bool d.dn, .bool d.dm, .int .i64 (d.left : Int)])
theorem dcells_len (d : Dk) : (dcells d).length = 68 := by simp [dcells, tcells_len]
theorem dcells_tail (d : Dk) (j : Nat) (hj : j < 64) : (dcells d)[1 + j]? = (tcells d.T 32)[j]? := by
  unfold dcells
  rw [show 1 + j = j + 1 by omega, List.getElem?_cons_succ, List.getElem?_append_left (by rw [tcells_len]; omega)]
theorem dcells_last (d : Dk) (j : Nat) : (dcells d)[65 + j]? = [Value.bool d.dn, .bool d.dm, .int .i64 (d.left : Int)][j]? := by
  unfold dcells
  rw [show 65 + j = 64 + j + 1 by omega, List.getElem?_cons_succ, List.getElem?_append_right (by rw [tcells_len]; omega), tcells_len, show 64 + j - 2 * 32 = j by omega]
theorem DAt.of_row {w : World} {B : Nat} {d : Dk} (h : w.heap[B]? = some (.cells (dcells d).toArray 69 (0, 0))) : DAt w B d := by
  have c : ∀ j, w.cell? ⟨B, j, none⟩ = (dcells d)[j]? := fun j => by rw [cell_of_row w B j _ 69 (0, 0) h]; simp
  refine ⟨c 0, fun i hi => ?_, fun i hi => ?_, (c 65).trans (dcells_last d 0), (c 66).trans (dcells_last d 1), (c 67).trans (dcells_last d 2), fun j => by simp [World.frozen?, h]⟩
  · rw [c, dcells_tail d _ (by omega), tcells_even _ hi]
  · rw [c, show 1 + i * 2 + 1 = 1 + (i * 2 + 1) by omega, dcells_tail d _ (by omega), tcells_odd _ hi]
theorem DAt.whole {w : World} {B : Nat} {d : Dk} (h : DAt w B d) : w.rangeAt B 0 (dcells d) := fun j v hv => by
  rw [Nat.zero_add]
  have hj : j < 68 := by
    rcases Nat.lt_or_ge j 68 with e | e
    · exact e
    · rw [List.getElem?_eq_none (by rw [dcells_len]; exact e)] at hv; cases hv
  rcases Nat.eq_zero_or_pos j with rfl | h0
  · rw [h.cap]; exact hv
  rcases Nat.lt_or_ge j 65 with e | e
  · have := h.range (j - 1) v (by rw [← dcells_tail d _ (by omega), show 1 + (j - 1) = j by omega]; exact hv)
    rwa [show 1 + (j - 1) = j by omega] at this
  · obtain ⟨k, rfl⟩ : ∃ k, j = 65 + k := ⟨j - 65, by omega⟩
    rw [dcells_last] at hv
    match k, hv with
    | 0, hv => rw [h.dn]; exact hv
    | 1, hv => rw [h.dm]; exact hv
    | 2, hv => rw [h.left]; exact hv
    | k + 3, hv => simp at hv
theorem len69 : (Try.prog.info? 69).map (·.size) = some 68 := by kernel_rfl
def d0 (cap : Nat) : Dk := ⟨cap, fun _ => t0, false, false, 0⟩
theorem zero69 : ∃ Z : Array Value, (∀ w, (zeroValue 69).run Try.prog w = .ok (.agg Z) w) ∧ Z.size = 68 := by
  refine ⟨(dcells (d0 0)).toArray, fun w => ?_, by rw [List.size_toArray, dcells_len]⟩
  have := (zero_of_info (P := Try.prog) (t := 69) (v := .agg (dcells (d0 0)).toArray) (n := 68) (by kernel_rfl)).1 w
  exact this
theorem build69 (cap : Nat) (w : World) : (Instr.build 69 #[(0, .int .i64 (cap : Int))]).run Try.prog w = .ok (.agg (dcells (d0 cap)).toArray) w := by
  kernel_rfl
theorem dcells_one (d : Dk) : (dcells d).toArray.all (·.oneCell') = true := by
  refine all_oneCell_toArray fun v hv => ?_
  unfold dcells tcells at hv
  simp only [List.mem_cons, List.mem_append, List.mem_map, List.not_mem_nil, or_false] at hv
  rcases hv with rfl | ⟨j, _, rfl⟩ | rfl | rfl | rfl
  · rfl
  · split <;> rfl
  · rfl
  · rfl
  · rfl
set_option maxHeartbeats 400000 in
theorem copy_any (B : Nat) (d : Dk) (w : World) (h : DAt w B d) : Calls Try.prog 24 #[.pointer (some ⟨B, 0, none⟩)] w fun e w' => e = .returned (.pointer (some ⟨w.heap.size, 0, none⟩)) ∧ DAt w' w.heap.size d ∧ Below w.heap.size w w' := by
  have HR := Lib.hid h.whole
  have HL : Hid ((Try.prog.info? 69).map (·.size) = some (dcells d).length) := Lib.hid (by rw [dcells_len]; exact len69)
  have HO := Lib.hid (dcells_one d)
  have HZ := Lib.hid (dcells_len d)
  have HF : Hid (DAt (w.alloc (.cells (dcells d).toArray 69)) w.heap.size d) := Lib.hid (DAt.of_row (heap_alloc_new _ _))
  obtain ⟨Z, hz, hzs⟩ := zero69
  generalize dcells d = C at *
  have hst : (storeCells ⟨w.heap.size, 0, none⟩ C 0).run Try.prog (w.alloc (.cells Z 69)) = .ok () (w.alloc (.cells C.toArray 69)) := by
    have := run_storeCells_new (P := Try.prog) w 69 Z C.toArray (by rw [HL.out]; simp) (by rw [hzs]; simp [HZ.out]) HO.out
    simpa using this
  have hcl : C.length = 68 := HZ.out
  clear h
  go_enter Try.func24, Try.ntmps24
  go_wp2_with (refine wpList_load_mid rfl 69 _ rfl B 0 rfl _ _ HR.out Try.underlying69 rfl HL.out ?_)
  go_ret
  exact ⟨rfl, HF.out, (Below.refl _ _).alloc (Nat.le_refl _) _⟩
end Go.Proofs.Yticponohbnkgdaa
