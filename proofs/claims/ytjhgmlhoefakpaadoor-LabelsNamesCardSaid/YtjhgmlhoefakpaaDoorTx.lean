/- A text read by both readers; the labels of a key. -/
import Derived.Test.YtjhgmlhoefakpaaDoorCj
namespace Go.Proofs.YtjhgmlhoefakpaaDoor
open Go.RowKit
set_option maxRecDepth 100000
set_option maxHeartbeats 1000000
/-- A text at the begin of bytes: which error; or where it begins, and how many bytes it has. -/
def txt (l : List UInt8) (z : Nat) : Except Nat (Nat × Nat) :=
  if (Bt.rd l 0 0).2.2 ≠ 0 then .error (Bt.rd l 0 0).2.2 else if z < (Bt.rd l 0 0).1 then .error 40 else if l.length < (Bt.rd l 0 0).2.1 + (Bt.rd l 0 0).1 then .error 8 else .ok ((Bt.rd l 0 0).2.1, (Bt.rd l 0 0).1)
theorem drop_len (s : ByteArray) (a : Nat) : (s.data.toList.drop a).length = s.size - a := by rw [List.length_drop, Lib.size_eq]
theorem text_is (s : ByteArray) (a : Nat) (ha : a ≤ s.size) (hs : s.size ≤ 140737488351232) (z : Nat) (z1 : z ≤ 1000) :
    (∃ C N, txt (s.data.toList.drop a) z = .ok (C, N) ∧ 1 ≤ C ∧ a + C + N ≤ s.size ∧ N ≤ z ∧ Both 67 54 [.int .i64 z] s a 0 (.string (s.extract (a + C) (a + C + N))) ((a + C + N : Nat) : Int) 0) ∨
    (∃ k : Nat, txt (s.data.toList.drop a) z = .error k ∧ k ≠ 0 ∧ Both 67 54 [.int .i64 z] s a 0 (.string ⟨#[]⟩) a k) := by
  have z0' : (-9223372036854775808 : Int) ≤ (z : Int) := by omega
  have z1' : (z : Int) ≤ 9223372036854775807 := by omega
  have htz : top (z : Int) = (z : Int) := by unfold top; rw [if_pos (by omega)]
  have htop : 0 ≤ top (z : Int) := by omega
  have htop2 : top (z : Int) ≤ 9223372036854775807 := by omega
  have hl := drop_len s a
  rcases uv_cases s a ha hs with ⟨N, C, hr, hT, hN, hC1, hle⟩ | ⟨K, hr, hK, hT⟩
  · have hf := Bt.rd_facts (s.data.toList.drop a) 0 0 (by omega) (by simp)
    rw [hr] at hf
    have hU : TellsU 85 #[.string s, .int .i64 a] N ((a + C : Nat) : Int) 0 := fun w => ruvarint_ok s a w ha hs N C _ hr rfl (hf.2.1 rfl).2.1
    by_cases hN2 : N ≤ z
    · have hN3 : (N : Int) ≤ top (z : Int) := by omega
      have hu := uto_ok s a (top z) N _ hT hN3
      have hq : Meth 71 [.int .u64 (top z)] s a 0 (.int .u64 N) ((a + C : Nat) : Int) 0 := fun w b h => qvarint_ok b s a (top z) N _ w h hN3 hU
      by_cases hr2 : a + C + N ≤ s.size
      · refine .inl ⟨C, N, ?_, hC1, hr2, hN2, fun w b h => mtext_ok b s a z _ _ w h (tto_then s a z N _ _ _ 0 z0' z1' (by omega) (by omega) hu (raw_ok s (a + C) N hr2 hs)), fun w b h => qtext_ok b s a z N (a + C) z0' z1' w h hr2 hs hq⟩
        unfold txt
        rw [hr]
        simp only
        rw [if_neg (by simp), if_neg (by omega), if_neg (by omega)]
      · refine .inr ⟨8, ?_, by omega, fun w b h => mtext_no b s a z 8 w h rfl (tto_then s a z N _ _ _ 8 z0' z1' (by omega) (by omega) hu (raw_short s (a + C) N (by omega) hle (by omega) hs)), fun w b h => qtext_short b s a z N (a + C) z0' z1' w h hle (by omega) (by omega) hs hq⟩
        unfold txt
        rw [hr]
        simp only
        rw [if_neg (by simp), if_neg (by omega), if_pos (by omega)]
    · have hN3 : top (z : Int) < (N : Int) := by omega
      have hq : Meth 71 [.int .u64 (top z)] s a 0 (.int .u64 0) a 40 := fun w b h => qvarint_big b s a (top z) N _ w h (by omega) hU
      refine .inr ⟨40, ?_, by omega, fun w b h => mtext_no b s a z 40 w h rfl (tto_no s a z 40 z0' z1' rfl (uto_big s a (top z) N _ hT (by omega))), fun w b h => qtext_no b s a z 40 z0' z1' w h rfl hq⟩
      unfold txt
      rw [hr]
      simp only
      rw [if_neg (by simp), if_pos (by omega)]
  · have hU : TellsU 85 #[.string s, .int .i64 a] 0 0 K := fun w => ruvarint_no s a w ha hs K (by omega) hr
    have hq : Meth 71 [.int .u64 (top z)] s a 0 (.int .u64 0) a K := fun w b h => qvarint_no b s a (top z) K w h (ne0 hK) hU
    refine .inr ⟨K, ?_, hK, fun w b h => mtext_no b s a z K w h (ne0 hK) (tto_no s a z K z0' z1' (ne0 hK) (uto_no s a (top z) K (eq0 hK) hT)), fun w b h => qtext_no b s a z K z0' z1' w h (ne0 hK) hq⟩
    unfold txt
    rw [hr]
    simp only
    rw [if_pos hK]
/-- The labels of a key, text by text. -/
def lbs : Nat → List UInt8 → Except Nat (List Lb)
  | 0, _ => .ok []
  | f + 1, l => if l = [] then .ok [] else match txt l 64 with
    | .error k => .error k
    | .ok p => match txt (l.drop (p.1 + p.2)) 256 with
      | .error k => .error k
      | .ok q => (lbs f ((l.drop (p.1 + p.2)).drop (q.1 + q.2))).map fun r => mkL ((l.drop p.1).take p.2) (((l.drop (p.1 + p.2)).drop q.1).take q.2) :: r
/-- What Of tells: the labels, the error. -/
def ofK (l : List UInt8) : List Lb × Nat := match lbs l.length l with
  | .error k => ([], k)
  | .ok m => if mayL m then (m, 0) else ([], 4)
theorem mayL_take (m : List Lb) : mayL (m.take 17) = mayL m := by
  rcases Nat.lt_or_ge 16 m.length with h | h
  · rw [mayL_short (.inr h), mayL_short (.inr (by rw [List.length_take]; omega))]
  · rw [List.take_of_length_le (by omega)]
theorem clone_any (s : ByteArray) (hs : s.size ≤ 1000000000000) (w : World) : Calls Tryd.prog 84 #[.string s] w (Ret w (.string s)) := by
  have H := Lib.hid (Tryd.stringslite_Clone s w (by omega))
  go_enter Tryd.func84, Tryd.ntmps84
  go_wp2_with (go_at_call 96; refine H.out.mono ?_; rintro e w' ⟨rfl, hb⟩)
  go_ret
  exact ⟨rfl, hb⟩
theorem cloned_any (a b : ByteArray) (ha : a.size ≤ 1000000000000) (hb : b.size ≤ 1000000000000) (w : World) : Calls Tryd.prog 68 #[.string a, .string b] w (Ret w (lv ⟨a, b⟩)) := by
  have H1 := Lib.hid (fun W => clone_any a ha W)
  have H2 := Lib.hid (fun W => clone_any b hb W)
  go_enter Tryd.func68, Tryd.ntmps68
  go_wp2_with fail
  refine (H1.out _).mono ?_
  rintro e w1 ⟨rfl, hb1⟩
  have HB1 := Lib.hid hb1
  clear hb1
  go_wp2_with fail
  refine (H2.out _).mono ?_
  rintro e w2 ⟨rfl, hb2⟩
  have HB2 := Lib.hid hb2
  clear hb2
  have hblk : w2.heap[w.heap.size]? = some (.cells #[.string ⟨#[]⟩, .string ⟨#[]⟩] 28) := by
    rw [HB2.out.block _ (by have := HB1.out.size; simp at this; omega), HB1.out.block _ (by simp)]
    exact heap_alloc_new w _
  have HK := Lib.hid hblk
  have c0 : w2.cell? ⟨w.heap.size, 0, none⟩ = some (.string ⟨#[]⟩) := by rw [Lib.cell_of_heap hblk]; rfl
  have c1 : w2.cell? ⟨w.heap.size, 1, none⟩ = some (.string ⟨#[]⟩) := by rw [Lib.cell_of_heap hblk]; rfl
  have f0 : w2.frozen? ⟨w.heap.size, 0, none⟩ = false := Lib.frozen_of_heap hblk 0
  have f1 : w2.frozen? ⟨w.heap.size, 1, none⟩ = false := Lib.frozen_of_heap hblk 1
  clear hblk
  go_wp2
  refine bodyPost_ret (results_cell_row Tryd.results68 _ _ w.heap.size 28 #[.string a, .string b] (0, 0) _ rfl ?_ Tryd.underlying28 rfl (by kernel_rfl)) rfl ?_
  · have := HK.out
    simp [World.setCell, Array.getElem?_modify, this]
  · refine ⟨rfl, ?_⟩
    have h1 : Below w.heap.size w w2 := (((Below.refl w.heap.size w).alloc (Nat.le_refl _) _).trans (HB1.out.mono (by simp))).trans (HB2.out.mono (by have := HB1.out.size; simp at this; omega))
    exact (h1.setCell (p := ⟨w.heap.size, 0, none⟩) (Nat.le_refl _) _).setCell (p := ⟨w.heap.size, 1, none⟩) (Nat.le_refl _) _
theorem new_any (s : ByteArray) (w : World) :
    Calls Tryd.prog 49 #[.string s] w fun e w' => e = .returned (.pointer (some ⟨w.heap.size, 0, none⟩)) ∧ w' = w.alloc (.cells #[.string s, .int .i64 0, .int .i64 0] 90) := by
  go_enter Tryd.func49, Tryd.ntmps49
  go_wp2
  go_ret
  exact ⟨rfl, rfl⟩
theorem RdAt.made (s : ByteArray) (w : World) (t : TypeId) : RdAt (w.alloc (.cells #[.string s, .int .i64 0, .int .i64 0] t)) w.heap.size s 0 0 := by
  refine ⟨?_, ?_, ?_, ?_, ?_⟩
  · rw [World.cell?_alloc_mark]; rfl
  · rw [World.cell?_alloc_mark]; rfl
  · rw [World.cell?_alloc_mark]; rfl
  · simp only [World.frozen?, heap_alloc_new]; rfl
  · simp only [World.frozen?, heap_alloc_new]; rfl
end Go.Proofs.YtjhgmlhoefakpaaDoor
