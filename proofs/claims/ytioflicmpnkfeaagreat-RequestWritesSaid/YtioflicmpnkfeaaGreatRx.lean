/- The contracts of the reader's New, of strings.Clone, of readText. -/
/- The contracts of readValue and readField. -/
import Derived.Test.YtioflicmpnkfeaaGreatSu
import Derived.Test.YtioflicmpnkfeaaGreatRd
import Derived.Test.YtioflicmpnkfeaaGreatVa
import Derived.Lib.UnsafeStr
import Derived.Lib.Walk
import Derived.Laws.MakeOwn
import Derived.Lib.BufferWrite
import Derived.Lib.Strings
namespace Go.Proofs.YtioflicmpnkfeaaGreat
open Go.RowKit
theorem ba_empty {t : ByteArray} (h : t.size = 0) : t = ⟨#[]⟩ := by
  cases t with
  | mk d => 
    have : d = #[] := Array.eq_empty_of_size_eq_zero h
    rw [this]
set_option maxRecDepth 100000 in
set_option maxHeartbeats 1000000 in
theorem slite_any (s : ByteArray) (hs : s.size ≤ 1000000000000) (w : World) :
    Calls Tryz.prog 100 #[.string s] w fun e w' => e = .returned (.string s) ∧ Below w.heap.size w w' := by
  by_cases h0 : s.size = 0
  · obtain rfl := ba_empty h0
    go_enter Tryz.func100, Tryz.ntmps100
    go_wp2
    go_ret
    exact ⟨rfl, Below.refl _ _⟩
  · obtain ⟨i0, hi, hz0, hz1, hz2⟩ := info_parts Tryz.info5
    have hinfo : (Tryz.prog.info? 5).map (·.size) = some 1 := by rw [hi]; simp [hz1]
    have hco : Tryz.prog.cellsOf 5 = 1 := by simp [Program.cellsOf, hi, hz1]
    obtain ⟨M, hM⟩ : ∃ M, M = madeCells (Value.int .u8 0).cells (((s.size : Nat) : Int).toNat * i0.size) := ⟨_, rfl⟩
    have hMs : M.size = s.size := by rw [hM, size_madeCells, hz1]; simp
    have hmk : ∀ W : World, (Instr.makeSlice 77 (.int .i64 (s.size : Int)) (.int .i64 (s.size : Int))).run Tryz.prog W = .ok (.slice (some ⟨W.heap.size, 0, none⟩) s.size s.size) (W.alloc (.cells M 5)) := fun W => by
      have h := run_make (P := Tryz.prog) W 77 5 i0 (.int .u8 0) Tryz.underlying77 hi hz0 .i64 .i64 (s.size : Int) (s.size : Int) (by omega) (by omega) (by rw [hz2]; omega) (by omega)
      rw [← hM] at h
      simpa using h
    clear hM
    have hcp := Lib.run_copy_row_string (P := Tryz.prog) (w.alloc (.cells M 5)) 77 9 3 5 w.heap.size 0 s.size s.size s M 5 Tryz.underlying77 hinfo (heap_alloc_new w _) (Nat.le_refl _) (by omega)
    obtain ⟨Y, hY⟩ : ∃ Y, Y = (M.toList.take 0 ++ Lib.byteCells s.data.toList ++ M.toList.drop (0 + s.size)).toArray := ⟨_, rfl⟩
    rw [← hY] at hcp
    have hYl : Y.toList = Lib.byteCells s.data.toList := by
      rw [hY, List.toList_toArray, List.take_zero, List.nil_append, List.drop_of_length_le (by rw [Array.length_toList]; omega), List.append_nil]
    have hYs : Y.size = s.size := by rw [← Array.length_toList, hYl, Lib.byteCells_length, ← Lib.size_eq]
    have hgY : ((w.alloc (.cells M 5)).setRow w.heap.size Y).heap[w.heap.size]? = some (.cells Y 5 (0, 0)) := setRow_heap _ _ M _ 5 (0, 0) (heap_alloc_new w _)
    have hne : s.data.toList ≠ [] := fun e => h0 (by rw [Lib.size_eq, e]; rfl)
    have hUS := Lib.run_unsafeString_row (P := Tryz.prog) ((w.alloc (.cells M 5)).setRow w.heap.size Y) 174 3 9 5 Tryz.underlying174 hco w.heap.size Y.size (by unfold World.shape?; rw [hgY]) s.data.toList hne (by rw [← Lib.size_eq]; omega) (by rw [← Lib.size_eq]; omega)
      (fun j x hx => Lib.cells_of_row hgY Y.size j _ (by rw [List.take_of_length_le (by rw [Array.length_toList]; exact Nat.le_refl _), hYl]; simp [Lib.byteCells, hx]))
    rw [← Lib.size_eq] at hUS
    clear hY
    go_enter Tryz.func100, Tryz.ntmps100
    go_wp2
    go_ret
    have hb1 : Below w.heap.size w (w.alloc (.cells M 5)) := (Below.refl _ w).alloc (Nat.le_refl _) _
    have hb2 : Below w.heap.size (w.alloc (.cells M 5)) ((w.alloc (.cells M 5)).setRow w.heap.size Y) := ⟨rfl, rfl, rfl, by simp, fun k hk => setRow_other _ _ _ _ (by omega)⟩
    exact ⟨rfl, Lib.below_freeze (hb1.trans hb2) (p := ⟨w.heap.size, 0, none⟩) (Nat.le_refl _) _⟩
theorem clone_any (s : ByteArray) (hs : s.size ≤ 1000000000000) (w : World) :
    Calls Tryz.prog 97 #[.string s] w fun e w' => e = .returned (.string s) ∧ Below w.heap.size w w' := by
  go_enter Tryz.func97, Tryz.ntmps97
  go_wp2_with fail
  refine (slite_any s hs w).mono ?_
  rintro e w1 ⟨rfl, hb⟩
  have HB := Lib.hid hb
  clear hb
  go_wp2
  go_ret
  exact ⟨rfl, HB.out⟩
/-- New: a reader in a block of its own. -/
theorem new_any (s : ByteArray) (w : World) :
    Calls Tryz.prog 72 #[.string s] w fun e w' => e = .returned (.pointer (some ⟨w.heap.size, 0, none⟩)) ∧ w' = w.alloc (.cells #[.string s, .int .i64 0, .int .i64 0] 148) := by
  go_enter Tryz.func72, Tryz.ntmps72
  go_wp2
  go_ret
  exact ⟨rfl, rfl⟩
theorem RdAt.made (s : ByteArray) (w : World) : RdAt (w.alloc (.cells #[.string s, .int .i64 0, .int .i64 0] 148)) w.heap.size s 0 0 := by
  refine ⟨?_, ?_, ?_, ?_, ?_⟩
  · rw [World.cell?_alloc_mark]; rfl
  · rw [World.cell?_alloc_mark]; rfl
  · rw [World.cell?_alloc_mark]; rfl
  · simp only [World.frozen?, heap_alloc_new]; rfl
  · simp only [World.frozen?, heap_alloc_new]; rfl
theorem extract_list (s : ByteArray) (i j : Nat) : (s.extract i j).data.toList = (s.data.toList.drop i).take (j - i) := by
  rw [ByteArray.data_extract, Array.toList_extract, List.extract_eq_take_drop]
theorem grown_trans {w w' w'' : World} {r : Option Nat} (h : w.grownBy w' r) (k : w'.grownBy w'' r) : w.grownBy w'' r :=
  ⟨k.os.trans h.os, k.tape.trans h.tape, k.output.trans h.output, Nat.le_trans h.size k.size, fun i hi hne => (k.block i (Nat.lt_of_lt_of_le hi h.size) hne).trans (h.block i hi hne)⟩
theorem grown_below {w w' : World} (h : Below w.heap.size w w') (r : Option Nat) : w.grownBy w' r := ⟨h.os, h.tape, h.output, h.size, fun i hi _ => h.block i hi⟩
theorem RdAt.below {w w' : World} {b n : Nat} {s : ByteArray} {a e : Int} (h : RdAt w b s a e) (hb : Below n w w') (hn : w.heap.size ≤ n) : RdAt w' b s a e := h.congr (hb.block b (Nat.lt_of_lt_of_le h.lt hn))
set_option maxRecDepth 100000 in
set_option maxHeartbeats 1000000 in
/-- The text is read as far as the reader goes. -/
theorem readText_core (b : Nat) (s : ByteArray) (a a1 a2 : Int) (e1 e2 : Int) (n z : Int) (t : ByteArray) (w : World) (h : RdAt w b s a 0) (hz : min n 9223372036854775807 = z) (hz0 : 0 ≤ z) (hz1 : z ≤ 9223372036854775807) (hn1 : n ≤ 18446744073709551615)
    (ht : t.size ≤ 1000000000000)
    (hA : ∀ w, RdAt w b s a 0 → Calls Tryz.prog 84 #[.pointer (some ⟨b, 0, none⟩), .int .u64 18446744073709551615] w (RdRet w b s (.int .u64 n) a1 e1))
    (hB : ∀ w, RdAt w b s a1 e1 → Calls Tryz.prog 98 #[.pointer (some ⟨b, 0, none⟩), .int .i64 z] w (RdRet w b s (.string t) a2 e2)) :
    Calls Tryz.prog 92 #[.pointer (some ⟨b, 0, none⟩)] w (RdRet w b s (.string t) a2 e2) := by
  have H := Lib.hid h; have HA := Lib.hid hA; have HB := Lib.hid hB
  clear h hA hB
  go_enter Tryz.func92, Tryz.ntmps92
  go_wp2_with fail
  refine (HA.out _ H.out).mono ?_
  rintro e w1 ⟨rfl, hr1, hg1⟩
  have HR1 := Lib.hid hr1; have HG1 := Lib.hid hg1
  clear hr1 hg1
  go_wp2_with fail
  refine (HB.out _ HR1.out).mono ?_
  rintro e w2 ⟨rfl, hr2, hg2⟩
  have HR2 := Lib.hid hr2; have HG2 := Lib.hid hg2
  clear hr2 hg2
  go_wp2_with fail
  refine (clone_any t ht _).mono ?_
  rintro e w3 ⟨rfl, hb3⟩
  have HB3 := Lib.hid hb3
  clear hb3
  go_wp2
  go_ret
  exact ⟨rfl, HR2.out.below HB3.out (Nat.le_refl _), grown_trans (grown_trans HG1.out HG2.out) (grown_below HB3.out _)⟩
/-- What is left to read. -/
def lft (s : ByteArray) (A : Nat) : List UInt8 := s.data.toList.drop A
theorem lft_length (s : ByteArray) (A : Nat) : (lft s A).length = s.size - A := by simp [lft]
theorem varint_yes (b : Nat) (s : ByteArray) (A N C : Nat) (hA : A ≤ s.size) (hs : s.size ≤ 140737488351232) (hr : Bt.rd (lft s A) 0 0 = (N, C, 0)) (w : World) (h : RdAt w b s (A : Int) 0) :
    Calls Tryz.prog 84 #[.pointer (some ⟨b, 0, none⟩), .int .u64 18446744073709551615] w (RdRet w b s (.int .u64 (N : Int)) ((A + C : Nat) : Int) 0) := by
  have hf := Bt.rd_facts (lft s A) 0 0 (by omega) (by simp)
  rw [hr] at hf
  exact mvarint_ok b s A 18446744073709551615 N ((A + C : Nat) : Int) w h (uto_ok s A 18446744073709551615 N ((A + C : Nat) : Int) (fun W => uvarint_ok s A W hA hs N C (A + C) hr rfl) (by have := hf.1; omega))
theorem varint_not (b : Nat) (s : ByteArray) (A N C K : Nat) (hA : A ≤ s.size) (hs : s.size ≤ 140737488351232) (hK : K ≠ 0) (hr : Bt.rd (lft s A) 0 0 = (N, C, K)) (w : World) (h : RdAt w b s (A : Int) 0) :
    Calls Tryz.prog 84 #[.pointer (some ⟨b, 0, none⟩), .int .u64 18446744073709551615] w (RdRet w b s (.int .u64 0) (A : Int) (K : Int)) := by
  have hf := (Bt.rd_facts (lft s A) 0 0 (by omega) (by simp)).2.2
  have hk : ((K : Int) != 0) = true := by rw [bne_iff_ne]; omega
  have hk2 : ((K : Int) == 0) = false := by rw [beq_eq_false_iff_ne]; omega
  have h0 : Bt.rd (lft s A) 0 0 = (0, 0, K) := by
    rw [hr] at hf ⊢
    rcases hf with hf | hf | hf
    · exact absurd hf hK
    · simp only [Prod.mk.injEq] at hf
      rw [hf.1, hf.2.1]
    · simp only [Prod.mk.injEq] at hf
      rw [hf.1, hf.2.1]
  exact mvarint_no b s A 18446744073709551615 K w h hk (uto_no s A 18446744073709551615 K hk2 (fun W => uvarint_no s A W hA hs K hK h0))
/-- A text is read. -/
theorem readText_any (b : Nat) (s : ByteArray) (A : Nat) (hA : A ≤ s.size) (hs : s.size ≤ 1000000000000) (w : World) (h : RdAt w b s (A : Int) 0) (v : Nat) (t : List UInt8) (k K : Nat) (hx : rdv 2 (lft s A) = (v, t, k, K)) :
    (K = 0 → Calls Tryz.prog 92 #[.pointer (some ⟨b, 0, none⟩)] w (RdRet w b s (.string (bs t)) ((A + k : Nat) : Int) 0)) ∧ (K ≠ 0 → ∃ a', Calls Tryz.prog 92 #[.pointer (some ⟨b, 0, none⟩)] w (RdRet w b s (.string ⟨#[]⟩) a' (K : Int))) := by
  obtain ⟨N, C, K1, hr⟩ : ∃ N C K1, Bt.rd (lft s A) 0 0 = (N, C, K1) := ⟨_, _, _, rfl⟩
  have hf := Bt.rd_facts (lft s A) 0 0 (by omega) (by simp)
  rw [hr] at hf
  dsimp only at hf
  simp only [rdv, if_true, show ¬ (2 : Nat) = 0 from by decide, show ¬ (2 : Nat) = 1 from by decide, if_false, hr] at hx
  by_cases hK1 : K1 = 0
  · subst hK1
    obtain ⟨-, hC1, hC2⟩ := hf.2.1 rfl
    rw [Nat.zero_add, lft_length] at hC2
    rw [if_neg (by simp)] at hx
    rw [lft_length] at hx
    have hAC : A + C ≤ s.size := by omega
    by_cases hN : s.size - A - C < N
    · rw [if_pos hN] at hx
      simp only [Prod.mk.injEq] at hx
      obtain ⟨-, -, -, rfl⟩ := hx
      refine ⟨fun h0 => (by cases h0), fun _ => ⟨((A + C : Nat) : Int), ?_⟩⟩
      refine readText_core b s A ((A + C : Nat) : Int) ((A + C : Nat) : Int) 0 8 N (min (N : Int) 9223372036854775807) ⟨#[]⟩ w h rfl (by omega) (by omega) (by have := hf.1; omega) (by decide) (varint_yes b s A N C hA (by omega) hr) (fun W hW => ?_)
      exact mraw_no b s ((A + C : Nat) : Int) _ 8 W hW rfl (raw_short s (A + C) _ (by omega) hAC (by omega) (by omega))
    · rw [if_neg hN] at hx
      simp only [Prod.mk.injEq] at hx
      obtain ⟨-, rfl, rfl, rfl⟩ := hx
      refine ⟨fun _ => ?_, fun h0 => absurd rfl h0⟩
      have hbs : bs (List.take N (List.drop C (lft s A))) = s.extract (A + C) (A + C + N) := by
        rw [← bs_of (s.extract (A + C) (A + C + N)), extract_list, lft, List.drop_drop, show A + C + N - (A + C) = N by omega]
      rw [hbs, ← Nat.add_assoc]
      refine readText_core b s A ((A + C : Nat) : Int) ((A + C + N : Nat) : Int) 0 0 N (N : Int) _ w h (by omega) (by omega) (by omega) (by have := hf.1; omega) (by simp; omega) (varint_yes b s A N C hA (by omega) hr) (fun W hW => ?_)
      exact mraw_ok b s ((A + C : Nat) : Int) _ _ _ W hW (raw_ok s (A + C) N (by omega) (by omega))
  · rw [if_pos hK1] at hx
    simp only [Prod.mk.injEq] at hx
    obtain ⟨-, -, -, rfl⟩ := hx
    refine ⟨fun h0 => absurd h0 hK1, fun _ => ⟨(A : Int), ?_⟩⟩
    refine readText_core b s A (A : Int) (A : Int) (K1 : Int) (K1 : Int) 0 0 ⟨#[]⟩ w h (by omega) (by omega) (by omega) (by omega) (by decide) (varint_not b s A N C K1 hA (by omega) hK1 hr) (fun W hW => ?_)
    exact mraw_err b s (A : Int) (K1 : Int) 0 W hW (by rw [bne_iff_ne]; omega)
end Go.Proofs.YtioflicmpnkfeaaGreat

namespace Go.Proofs.YtioflicmpnkfeaaGreat
open Go.RowKit
/-- A value of a wire type. -/
def vlOf (w v : Nat) (t : List UInt8) : Vl := if w = 0 then .va v else if w = 1 then .ei v else if w = 2 then .tx (bs t) else .fo v
/-- A value was not read. -/
def RvE (w : World) (b : Nat) (K : Int) (e : Ending) (w' : World) : Prop := ∃ y : Vl, e = .returned (.tuple #[y.v, .int .i64 K]) ∧ w.grownBy w' (some b)
set_option maxRecDepth 100000 in
set_option maxHeartbeats 1000000 in
theorem rv0 (b : Nat) (s : ByteArray) (a a1 e1 n : Int) (w : World) (h : RdAt w b s a 0)
    (hA : ∀ w, RdAt w b s a 0 → Calls Tryz.prog 84 #[.pointer (some ⟨b, 0, none⟩), .int .u64 18446744073709551615] w (RdRet w b s (.int .u64 n) a1 e1)) :
    Calls Tryz.prog 86 #[.pointer (some ⟨b, 0, none⟩), .int .u64 0] w (RdRet w b s (.tuple #[.iface 84 (.int .u64 n), .int .i64 e1]) a1 e1) := by
  have H := Lib.hid h; have HA := Lib.hid hA
  clear h hA
  go_enter Tryz.func86, Tryz.ntmps86
  go_wp2_with fail
  refine (HA.out _ H.out).mono ?_
  rintro e w1 ⟨rfl, hr1, hg1⟩
  have c2 := hr1.c2
  have HR1 := Lib.hid hr1; have HG1 := Lib.hid hg1
  clear hr1 hg1
  go_wp2_with (go_at_call 85; refine (err_any b e1 _ c2).mono ?_; rintro e w' ⟨rfl, rfl⟩)
  go_ret2
  exact ⟨rfl, HR1.out, HG1.out⟩
set_option maxRecDepth 100000 in
set_option maxHeartbeats 1000000 in
theorem rv1 (b : Nat) (s : ByteArray) (a a1 e1 n : Int) (w : World) (h : RdAt w b s a 0)
    (hA : ∀ w, RdAt w b s a 0 → Calls Tryz.prog 91 #[.pointer (some ⟨b, 0, none⟩), .int .i64 8] w (RdRet w b s (.int .u64 n) a1 e1)) :
    Calls Tryz.prog 86 #[.pointer (some ⟨b, 0, none⟩), .int .u64 1] w (RdRet w b s (.tuple #[.iface 86 (.int .u64 n), .int .i64 e1]) a1 e1) := by
  have H := Lib.hid h; have HA := Lib.hid hA
  clear h hA
  go_enter Tryz.func86, Tryz.ntmps86
  go_wp2_with fail
  refine (HA.out _ H.out).mono ?_
  rintro e w1 ⟨rfl, hr1, hg1⟩
  have c2 := hr1.c2
  have HR1 := Lib.hid hr1; have HG1 := Lib.hid hg1
  clear hr1 hg1
  go_wp2_with (go_at_call 85; refine (err_any b e1 _ c2).mono ?_; rintro e w' ⟨rfl, rfl⟩)
  go_ret2
  exact ⟨rfl, HR1.out, HG1.out⟩
set_option maxRecDepth 100000 in
set_option maxHeartbeats 1000000 in
theorem rv5 (b : Nat) (s : ByteArray) (a a1 e1 n : Int) (hn0 : 0 ≤ n) (hn : n < 4294967296) (w : World) (h : RdAt w b s a 0)
    (hA : ∀ w, RdAt w b s a 0 → Calls Tryz.prog 91 #[.pointer (some ⟨b, 0, none⟩), .int .i64 4] w (RdRet w b s (.int .u64 n) a1 e1)) :
    Calls Tryz.prog 86 #[.pointer (some ⟨b, 0, none⟩), .int .u64 5] w (RdRet w b s (.tuple #[.iface 101 (.int .u32 n), .int .i64 e1]) a1 e1) := by
  have H := Lib.hid h; have HA := Lib.hid hA
  clear h hA
  go_enter Tryz.func86, Tryz.ntmps86
  go_wp2_with fail
  refine (HA.out _ H.out).mono ?_
  rintro e w1 ⟨rfl, hr1, hg1⟩
  have c2 := hr1.c2
  have HR1 := Lib.hid hr1; have HG1 := Lib.hid hg1
  clear hr1 hg1
  go_wp2_with (go_at_call 85; refine (err_any b e1 _ c2).mono ?_; rintro e w' ⟨rfl, rfl⟩)
  go_ret2
  exact ⟨rfl, HR1.out, HG1.out⟩
set_option maxRecDepth 100000 in
set_option maxHeartbeats 1000000 in
theorem rv2 (b : Nat) (s : ByteArray) (a a1 e1 : Int) (t : ByteArray) (w : World) (h : RdAt w b s a 0)
    (hA : Calls Tryz.prog 92 #[.pointer (some ⟨b, 0, none⟩)] w (RdRet w b s (.string t) a1 e1)) :
    Calls Tryz.prog 86 #[.pointer (some ⟨b, 0, none⟩), .int .u64 2] w (RdRet w b s (.tuple #[.iface 59 (.string t), .int .i64 e1]) a1 e1) := by
  have H := Lib.hid h; have HA := Lib.hid hA
  clear h hA
  go_enter Tryz.func86, Tryz.ntmps86
  go_wp2_with fail
  refine HA.out.mono ?_
  rintro e w1 ⟨rfl, hr1, hg1⟩
  have c2 := hr1.c2
  have HR1 := Lib.hid hr1; have HG1 := Lib.hid hg1
  clear hr1 hg1
  go_wp2_with (go_at_call 85; refine (err_any b e1 _ c2).mono ?_; rintro e w' ⟨rfl, rfl⟩)
  go_ret2
  exact ⟨rfl, HR1.out, HG1.out⟩
set_option maxRecDepth 100000 in
set_option maxHeartbeats 1000000 in
theorem rvx (b : Nat) (wi : Int) (h0 : (wi == 0) = false) (h1 : (wi == 1) = false) (h2 : (wi == 2) = false) (h5 : (wi == 5) = false) (w : World) :
    Calls Tryz.prog 86 #[.pointer (some ⟨b, 0, none⟩), .int .u64 wi] w (RvE w b 4) := by
  go_enter Tryz.func86, Tryz.ntmps86
  go_wp2
  go_ret2
  exact ⟨.no, rfl, World.grownBy.refl w _⟩
theorem RvE.of {w w' : World} {b : Nat} {s : ByteArray} {a e1 : Int} {e : Ending} (y : Vl) (h : RdRet w b s (.tuple #[y.v, .int .i64 e1]) a e1 e w') : RvE w b e1 e w' := ⟨y, h.1, h.2.2⟩
theorem fat_lft (s : ByteArray) (A z : Nat) : Bt.fat s.data.toList A z = Bt.fv ((lft s A).take z) := rfl
/-- A value is read, or how it is refused. -/
theorem readValue_any (b : Nat) (s : ByteArray) (A : Nat) (hA : A ≤ s.size) (hs : s.size ≤ 1000000000000) (w : World) (h : RdAt w b s (A : Int) 0) (wi v : Nat) (hw : wi = 0 ∨ wi = 1 ∨ wi = 2 ∨ wi = 5) (t : List UInt8) (k K : Nat) (hx : rdv wi (lft s A) = (v, t, k, K)) :
    (K = 0 → Calls Tryz.prog 86 #[.pointer (some ⟨b, 0, none⟩), .int .u64 (wi : Int)] w (RdRet w b s (.tuple #[(vlOf wi v t).v, .int .i64 0]) ((A + k : Nat) : Int) 0)) ∧ (K ≠ 0 → Calls Tryz.prog 86 #[.pointer (some ⟨b, 0, none⟩), .int .u64 (wi : Int)] w (RvE w b (K : Int))) := by
  have hz : (0 : Int) ≠ 1 := by decide
  rcases hw with rfl | rfl | rfl | rfl
  · obtain ⟨N, C, K1, hr⟩ : ∃ N C K1, Bt.rd (lft s A) 0 0 = (N, C, K1) := ⟨_, _, _, rfl⟩
    simp only [rdv, if_true, hr] at hx
    simp only [Prod.mk.injEq] at hx
    obtain ⟨rfl, rfl, rfl, rfl⟩ := hx
    refine ⟨fun hk => ?_, fun hk => ?_⟩
    · subst hk
      exact rv0 b s A _ _ _ w h (varint_yes b s A N C hA (by omega) hr)
    · exact (rv0 b s A _ _ _ w h (varint_not b s A N C K1 hA (by omega) hk hr)).mono fun e w' h => RvE.of (.va 0) h
  · simp only [rdv, if_true, show ¬ (1 : Nat) = 0 from by decide, if_false, lft_length] at hx
    split at hx
    · rename_i h8
      simp only [Prod.mk.injEq] at hx
      obtain ⟨rfl, rfl, rfl, rfl⟩ := hx
      refine ⟨fun _ => ?_, fun hk => absurd rfl hk⟩
      refine rv1 b s A _ _ _ w h (fun W hW => ?_)
      exact mfixed_ok b s A 8 _ ((A + 8 : Nat) : Int) W hW (fun W => fixed_ok8 s A W (by omega) (by omega))
    · rename_i h8
      simp only [Prod.mk.injEq] at hx
      obtain ⟨rfl, rfl, rfl, rfl⟩ := hx
      refine ⟨fun hk => (by cases hk), fun _ => ?_⟩
      exact (rv1 b s A _ 8 0 w h (fun W hW => mfixed_no b s A 8 8 W hW rfl (fun W => fixed_short8 s A W (by omega) (by omega)))).mono fun e w' h => RvE.of (.ei 0) h
  · have H := readText_any b s A hA hs w h v t k K hx
    refine ⟨fun hk => ?_, fun hk => ?_⟩
    · exact rv2 b s A _ _ _ w h (H.1 hk)
    · obtain ⟨a', h'⟩ := H.2 hk
      exact (rv2 b s A _ _ _ w h h').mono fun e w' h => RvE.of (.tx ⟨#[]⟩) h
  · simp only [rdv, show ¬ (5 : Nat) = 0 from by decide, show ¬ (5 : Nat) = 1 from by decide, show ¬ (5 : Nat) = 2 from by decide, if_false, lft_length] at hx
    split at hx
    · rename_i h8
      simp only [Prod.mk.injEq] at hx
      obtain ⟨rfl, rfl, rfl, rfl⟩ := hx
      refine ⟨fun _ => ?_, fun hk => absurd rfl hk⟩
      have hlt : Bt.fv ((lft s A).take 4) < 4294967296 := by
        have := Bt.fv_lt ((lft s A).take 4)
        rw [List.length_take, lft_length, show min 4 (s.size - A) = 4 by omega, e4] at this
        exact this
      refine rv5 b s A _ _ _ (by omega) (by omega) w h (fun W hW => ?_)
      exact mfixed_ok b s A 4 _ ((A + 4 : Nat) : Int) W hW (fun W => fixed_ok4 s A W (by omega) (by omega))
    · rename_i h8
      simp only [Prod.mk.injEq] at hx
      obtain ⟨rfl, rfl, rfl, rfl⟩ := hx
      refine ⟨fun hk => (by cases hk), fun _ => ?_⟩
      exact (rv5 b s A _ 8 0 (by omega) (by omega) w h (fun W hW => mfixed_no b s A 4 8 W hW rfl (fun W => fixed_short4 s A W (by omega) (by omega)))).mono fun e w' h => RvE.of (.fo 0) h
end Go.Proofs.YtioflicmpnkfeaaGreat
