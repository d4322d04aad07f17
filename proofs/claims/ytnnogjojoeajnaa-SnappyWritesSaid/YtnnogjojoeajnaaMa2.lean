/- Match; next; strings.Clone. -/
import Derived.Test.YtnnogjojoeajnaaLo
import Derived.Lib.Strings
import Derived.Lib.Walk
import Derived.Lib.BufferWrite
import Derived.Lib.UnsafeStr
import Derived.Laws.MakeOwn
namespace Go.Proofs.Ytnnogjojoeajnaa
open Go.RowKit Go.Shelf Go.Sort
theorem desc_lt : ∀ (a : Nat), ∀ x ∈ desc a, x < a
  | 0, x, hx => by cases hx
  | a + 1, x, hx => by
    rcases List.mem_cons.1 hx with rfl | hx
    · omega
    · have := desc_lt a x hx; omega
/-- A place's match. -/
def mat (l : List UInt8) (a : Nat) : Nat × Nat := lg l a (min 64 (l.length - a)) (desc a) 0 0
set_option maxRecDepth 100000 in
set_option maxHeartbeats 1000000 in
theorem match_in (s : ByteArray) (hs : s.size ≤ 1000000000000) (a : Nat) (ha : a < s.size) (w : World) :
    Calls Try.prog 18 #[.string s, .int .i64 a] w (Two w (mat s.data.toList a)) := by
  have hai : (a : Int) < (s.size : Int) := by omega
  have hl : s.data.toList.length = s.size := by simp
  have HB := Boxed.new w 3 (.int .i64 a)
  have HC := Lib.hid (longest_any s hs a (min 64 (s.size - a)) ha rfl (desc a) (desc_lt a) 64 #[.pointer (some ⟨w.heap.size, 0, none⟩)] (fun j => False) (w.alloc (.cells #[.int .i64 a] 3))
    (enters_of Try.func64 (by kernel_rfl) rfl) (fun j hj => hj.elim) (fun n W hn hb => allAhead_gives n hn a (by omega) _ W _ ((hb.block _ (by simp)).trans HB |> fun h => Boxed.cell (t := 3) h)))
  have HM := Lib.hid (show mat s.data.toList a = lg s.data.toList a (min 64 (s.size - a)) (desc a) 0 0 by unfold mat; rw [hl])
  clear HB hl
  go_enter Try.func18, Try.ntmps18
  go_wp2_with fail
  refine (allAhead_any a w).mono ?_
  rintro e w1 ⟨rfl, rfl⟩
  go_wp2_with fail
  refine HC.out.mono ?_
  rintro e w2 ⟨rfl, hb⟩
  have HB2 := Lib.hid hb
  clear hb
  go_wp2
  go_ret2
  refine ⟨by rw [HM.out]; rfl, ?_⟩
  exact ((Below.refl _ w).alloc (Nat.le_refl _) _).trans (HB2.out.mono (by simp))
set_option maxRecDepth 100000 in
set_option maxHeartbeats 400000 in
theorem match_out (s : ByteArray) (a : Int) (ha : a < 0 ∨ (s.size : Int) ≤ a) (w : World) :
    Calls Try.prog 18 #[.string s, .int .i64 a] w (Two w (0, 0)) := by
  by_cases h : a < 0
  · clear ha
    go_enter Try.func18, Try.ntmps18
    go_wp2
    go_ret2
    exact ⟨rfl, Below.refl _ _⟩
  · have h2 : (s.size : Int) ≤ a := by omega
    clear ha
    go_enter Try.func18, Try.ntmps18
    go_wp2
    go_ret2
    exact ⟨rfl, Below.refl _ _⟩
/-- The next 4 bytes of a place. -/
def nxt (l : List UInt8) (a : Nat) : List UInt8 := (l.drop a).take 4
set_option maxRecDepth 100000 in
set_option maxHeartbeats 400000 in
theorem next_any (s : ByteArray) (hs : s.size ≤ 1000000000000) (a : Nat) (ha : a ≤ s.size) (w : World) :
    Calls Try.prog 60 #[.string s, .int .i64 a] w fun e w' => e = .returned (.string (bs (nxt s.data.toList a))) ∧ w = w' := by
  have hl : s.data.toList.length = s.size := by simp
  by_cases h : (a : Int) + 4 ≤ (s.size : Int)
  · go_enter Try.func60, Try.ntmps60
    go_wp2
    go_ret
    refine ⟨?_, rfl⟩
    show Ending.returned (.string (s.extract a (min ((a : Int) + 4) (s.size : Int)).toNat)) = _
    rw [show (min ((a : Int) + 4) (s.size : Int)).toNat = a + 4 from by omega, extract_bs, Nat.add_sub_cancel_left]
    rfl
  · have h2 : (s.size : Int) < (a : Int) + 4 := by omega
    go_enter Try.func60, Try.ntmps60
    go_wp2
    go_ret
    refine ⟨?_, rfl⟩
    show Ending.returned (.string (s.extract a (min ((a : Int) + 4) (s.size : Int)).toNat)) = _
    rw [show (min ((a : Int) + 4) (s.size : Int)).toNat = s.size from by omega, extract_bs]
    have e : (s.data.toList.drop a).take (s.size - a) = nxt s.data.toList a := by
      unfold nxt
      rw [List.take_of_length_le (by rw [List.length_drop, hl]; omega), List.take_of_length_le (by rw [List.length_drop, hl]; omega)]
    rw [e]
set_option maxRecDepth 100000 in
set_option maxHeartbeats 1000000 in
theorem slite_any (s : ByteArray) (hs : s.size ≤ 1000000000000) (w : World) :
    Calls Try.prog 58 #[.string s] w fun e w' => e = .returned (.string s) ∧ Below w.heap.size w w' := by
  by_cases h0 : s.size = 0
  · obtain rfl := ba_empty h0
    go_enter Try.func58, Try.ntmps58
    go_wp2
    go_ret
    exact ⟨rfl, Below.refl _ _⟩
  · obtain ⟨i0, hi, hz0, hz1, hz2⟩ := info_parts Try.info5
    have hinfo : (Try.prog.info? 5).map (·.size) = some 1 := by rw [hi]; simp [hz1]
    have hco : Try.prog.cellsOf 5 = 1 := by simp [Program.cellsOf, hi, hz1]
    obtain ⟨M, hM⟩ : ∃ M, M = madeCells (Value.int .u8 0).cells (((s.size : Nat) : Int).toNat * i0.size) := ⟨_, rfl⟩
    have hMs : M.size = s.size := by rw [hM, size_madeCells, hz1]; simp
    have hmk : ∀ W : World, (Instr.makeSlice 28 (.int .i64 (s.size : Int)) (.int .i64 (s.size : Int))).run Try.prog W = .ok (.slice (some ⟨W.heap.size, 0, none⟩) s.size s.size) (W.alloc (.cells M 5)) := fun W => by
      have h := run_make (P := Try.prog) W 28 5 i0 (.int .u8 0) Try.underlying28 hi hz0 .i64 .i64 (s.size : Int) (s.size : Int) (by omega) (by omega) (by rw [hz2]; omega) (by omega)
      rw [← hM] at h
      simpa using h
    clear hM
    have hcp := Lib.run_copy_row_string (P := Try.prog) (w.alloc (.cells M 5)) 28 9 3 5 w.heap.size 0 s.size s.size s M 5 Try.underlying28 hinfo (heap_alloc_new w _) (Nat.le_refl _) (by omega)
    obtain ⟨Y, hY⟩ : ∃ Y, Y = (M.toList.take 0 ++ Lib.byteCells s.data.toList ++ M.toList.drop (0 + s.size)).toArray := ⟨_, rfl⟩
    rw [← hY] at hcp
    have hYl : Y.toList = Lib.byteCells s.data.toList := by
      rw [hY, List.toList_toArray, List.take_zero, List.nil_append, List.drop_of_length_le (by rw [Array.length_toList]; omega), List.append_nil]
    have hYs : Y.size = s.size := by rw [← Array.length_toList, hYl, Lib.byteCells_length, ← Lib.size_eq]
    have hgY : ((w.alloc (.cells M 5)).setRow w.heap.size Y).heap[w.heap.size]? = some (.cells Y 5 (0, 0)) := setRow_heap _ _ M _ 5 (0, 0) (heap_alloc_new w _)
    have hne : s.data.toList ≠ [] := fun e => h0 (by rw [Lib.size_eq, e]; rfl)
    have hUS := Lib.run_unsafeString_row (P := Try.prog) ((w.alloc (.cells M 5)).setRow w.heap.size Y) 106 3 9 5 Try.underlying106 hco w.heap.size Y.size (by unfold World.shape?; rw [hgY]) s.data.toList hne (by rw [← Lib.size_eq]; omega) (by rw [← Lib.size_eq]; omega)
      (fun j x hx => Lib.cells_of_row hgY Y.size j _ (by rw [List.take_of_length_le (by rw [Array.length_toList]; exact Nat.le_refl _), hYl]; simp [Lib.byteCells, hx]))
    rw [← Lib.size_eq] at hUS
    clear hY
    go_enter Try.func58, Try.ntmps58
    go_wp2
    go_ret
    have hb1 : Below w.heap.size w (w.alloc (.cells M 5)) := (Below.refl _ w).alloc (Nat.le_refl _) _
    have hb2 : Below w.heap.size (w.alloc (.cells M 5)) ((w.alloc (.cells M 5)).setRow w.heap.size Y) := ⟨rfl, rfl, rfl, by simp, fun k hk => setRow_other _ _ _ _ (by omega)⟩
    exact ⟨rfl, Lib.below_freeze (hb1.trans hb2) (p := ⟨w.heap.size, 0, none⟩) (Nat.le_refl _) _⟩
theorem clone_any (s : ByteArray) (hs : s.size ≤ 1000000000000) (w : World) :
    Calls Try.prog 38 #[.string s] w fun e w' => e = .returned (.string s) ∧ Below w.heap.size w w' := by
  go_enter Try.func38, Try.ntmps38
  go_wp2_with fail
  refine (slite_any s hs w).mono ?_
  rintro e w1 ⟨rfl, hb⟩
  have HB := Lib.hid hb
  clear hb
  go_wp2
  go_ret
  exact ⟨rfl, HB.out⟩
end Go.Proofs.Ytnnogjojoeajnaa
