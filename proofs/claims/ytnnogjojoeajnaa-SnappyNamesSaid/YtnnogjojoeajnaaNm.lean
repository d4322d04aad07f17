/- The law's tables: what each row's block decodes to; parts that may not be; long texts. -/
import Derived.Test.YtnnogjojoeajnaaAw
import Derived.Laws.MakeOwn
namespace Go.Proofs.Ytnnogjojoeajnaa
open Go.RowKit
/-- Elements, with a bound on their number. -/
def itf : Nat → List UInt8 → List (Pt × Int)
  | 0, _ => []
  | _ + 1, [] => []
  | n + 1, c :: r => if (el c r).2.2 then ((el c r).1, 0) :: itf n (r.drop (el c r).2.1) else [((el c r).1, 8)]
theorem its_itf : ∀ (n : Nat) (l : List UInt8), l.length < n → its l = itf n l
  | 0, l, h => by omega
  | n + 1, [], h => by rw [its, itf]
  | n + 1, c :: r, h => by
    rw [its, itf]
    split
    · rw [its_itf n _ (by rw [List.length_drop]; rw [List.length_cons] at h; omega)]
    · rfl
theorem decode_itf (l : List UInt8) (m : Int) (h : l.length < 20) : decode l m = if (szs l).2.2 ≠ 0 then ([], ((szs l).2.2 : Int)) else if m < 0 ∨ m < ((szs l).1 : Int) then ([], 40) else dcd (szs l).1 (itf 20 (l.drop (szs l).2.1)) [] := by
  unfold decode
  rw [its_itf 20 _ (by rw [List.length_drop]; omega)]
/-- A row of the first table. -/
structure Row where
  s : ByteArray
  m : Int
  w : ByteArray
  e : Int
def row (k : Nat) : Row :=
  match k with
  | 0 => ⟨⟨#[]⟩, 9, ⟨#[]⟩, 8⟩
  | 1 => ⟨⟨#[0]⟩, 0, ⟨#[]⟩, 0⟩
  | 2 => ⟨⟨#[0]⟩, -1, ⟨#[]⟩, 40⟩
  | 3 => ⟨⟨#[1]⟩, 9, ⟨#[]⟩, 4⟩
  | 4 => ⟨⟨#[10]⟩, 9, ⟨#[]⟩, 40⟩
  | 5 => ⟨⟨#[128, 128, 128, 128, 16]⟩, 1099511627776, ⟨#[]⟩, 4⟩
  | 6 => ⟨⟨#[3, 8, 97, 98]⟩, 9, ⟨#[]⟩, 8⟩
  | 7 => ⟨⟨#[2, 8, 97, 98, 99]⟩, 9, ⟨#[]⟩, 4⟩
  | 8 => ⟨⟨#[4, 8, 97, 98, 99]⟩, 9, ⟨#[]⟩, 4⟩
  | 9 => ⟨⟨#[5, 1, 1]⟩, 9, ⟨#[]⟩, 4⟩
  | 10 => ⟨⟨#[5, 1]⟩, 9, ⟨#[]⟩, 8⟩
  | 11 => ⟨⟨#[5, 0, 97, 1, 0]⟩, 9, ⟨#[]⟩, 4⟩
  | 12 => ⟨⟨#[5, 0, 97, 1, 2]⟩, 9, ⟨#[]⟩, 4⟩
  | 13 => ⟨⟨#[5, 0, 97, 1, 1]⟩, 9, ⟨#[97, 97, 97, 97, 97]⟩, 0⟩
  | 14 => ⟨⟨#[2, 0, 97, 2, 1, 0]⟩, 9, ⟨#[97, 97]⟩, 0⟩
  | 15 => ⟨⟨#[2, 0, 97, 3, 1, 0, 0, 0]⟩, 9, ⟨#[97, 97]⟩, 0⟩
  | 16 => ⟨⟨#[2, 0, 97, 3, 1, 0, 0]⟩, 9, ⟨#[]⟩, 8⟩
  | 17 => ⟨⟨#[2, 0, 97, 3, 1, 0, 0, 1]⟩, 9, ⟨#[]⟩, 4⟩
  | 18 => ⟨⟨#[2, 240, 1, 97, 98]⟩, 9, ⟨#[97, 98]⟩, 0⟩
  | 19 => ⟨⟨#[2, 244, 1, 0, 97, 98]⟩, 9, ⟨#[97, 98]⟩, 0⟩
  | 20 => ⟨⟨#[2, 248, 1, 0, 0, 97, 98]⟩, 9, ⟨#[97, 98]⟩, 0⟩
  | 21 => ⟨⟨#[2, 252, 1, 0, 0, 0, 97, 98]⟩, 9, ⟨#[97, 98]⟩, 0⟩
  | 22 => ⟨⟨#[2, 252, 1, 0, 0, 1, 97, 98]⟩, 9, ⟨#[]⟩, 8⟩
  | 23 => ⟨⟨#[2, 252, 255, 255, 255, 255, 97, 98]⟩, 9, ⟨#[]⟩, 8⟩
  | _ => ⟨⟨#[130, 0, 4, 97, 98]⟩, 9, ⟨#[97, 98]⟩, 0⟩
theorem row_small (k : Nat) (h : k < 25) : (row k).s.size < 20 ∧ -9223372036854775808 ≤ (row k).m ∧ (row k).m ≤ 9223372036854775807 := by
  match k, h with
  | 0, _ => exact ⟨by decide, by decide, by decide⟩
  | 1, _ => exact ⟨by decide, by decide, by decide⟩
  | 2, _ => exact ⟨by decide, by decide, by decide⟩
  | 3, _ => exact ⟨by decide, by decide, by decide⟩
  | 4, _ => exact ⟨by decide, by decide, by decide⟩
  | 5, _ => exact ⟨by decide, by decide, by decide⟩
  | 6, _ => exact ⟨by decide, by decide, by decide⟩
  | 7, _ => exact ⟨by decide, by decide, by decide⟩
  | 8, _ => exact ⟨by decide, by decide, by decide⟩
  | 9, _ => exact ⟨by decide, by decide, by decide⟩
  | 10, _ => exact ⟨by decide, by decide, by decide⟩
  | 11, _ => exact ⟨by decide, by decide, by decide⟩
  | 12, _ => exact ⟨by decide, by decide, by decide⟩
  | 13, _ => exact ⟨by decide, by decide, by decide⟩
  | 14, _ => exact ⟨by decide, by decide, by decide⟩
  | 15, _ => exact ⟨by decide, by decide, by decide⟩
  | 16, _ => exact ⟨by decide, by decide, by decide⟩
  | 17, _ => exact ⟨by decide, by decide, by decide⟩
  | 18, _ => exact ⟨by decide, by decide, by decide⟩
  | 19, _ => exact ⟨by decide, by decide, by decide⟩
  | 20, _ => exact ⟨by decide, by decide, by decide⟩
  | 21, _ => exact ⟨by decide, by decide, by decide⟩
  | 22, _ => exact ⟨by decide, by decide, by decide⟩
  | 23, _ => exact ⟨by decide, by decide, by decide⟩
  | 24, _ => exact ⟨by decide, by decide, by decide⟩
  | n + 25, h => omega
theorem row_ok (k : Nat) (h : k < 25) : decode (row k).s.data.toList (row k).m = ((row k).w.data.toList, (row k).e) := by
  rw [decode_itf _ _ (by have := (row_small k h).1; simpa using this)]
  match k, h with
  | 0, _ => decide +kernel
  | 1, _ => decide +kernel
  | 2, _ => decide +kernel
  | 3, _ => decide +kernel
  | 4, _ => decide +kernel
  | 5, _ => decide +kernel
  | 6, _ => decide +kernel
  | 7, _ => decide +kernel
  | 8, _ => decide +kernel
  | 9, _ => decide +kernel
  | 10, _ => decide +kernel
  | 11, _ => decide +kernel
  | 12, _ => decide +kernel
  | 13, _ => decide +kernel
  | 14, _ => decide +kernel
  | 15, _ => decide +kernel
  | 16, _ => decide +kernel
  | 17, _ => decide +kernel
  | 18, _ => decide +kernel
  | 19, _ => decide +kernel
  | 20, _ => decide +kernel
  | 21, _ => decide +kernel
  | 22, _ => decide +kernel
  | 23, _ => decide +kernel
  | 24, _ => decide +kernel
  | n + 25, h => omega
def rcells : Array Value := #[.string ⟨#[]⟩, .int .i64 (9), .string ⟨#[]⟩, .int .i64 8, .string ⟨#[0]⟩, .int .i64 (0), .string ⟨#[]⟩, .int .i64 0, .string ⟨#[0]⟩, .int .i64 (-1), .string ⟨#[]⟩, .int .i64 40, .string ⟨#[1]⟩, .int .i64 (9), .string ⟨#[]⟩, .int .i64 4, .string ⟨#[10]⟩, .int .i64 (9), .string ⟨#[]⟩, .int .i64 40, .string ⟨#[128, 128, 128, 128, 16]⟩, .int .i64 (1099511627776), .string ⟨#[]⟩, .int .i64 4, .string ⟨#[3, 8, 97, 98]⟩, .int .i64 (9), .string ⟨#[]⟩, .int .i64 8, .string ⟨#[2, 8, 97, 98, 99]⟩, .int .i64 (9), .string ⟨#[]⟩, .int .i64 4, .string ⟨#[4, 8, 97, 98, 99]⟩, .int .i64 (9), .string ⟨#[]⟩, .int .i64 4, .string ⟨#[5, 1, 1]⟩, .int .i64 (9), .string ⟨#[]⟩, .int .i64 4, .string ⟨#[5, 1]⟩, .int .i64 (9), .string ⟨#[]⟩, .int .i64 8, .string ⟨#[5, 0, 97, 1, 0]⟩, .int .i64 (9), .string ⟨#[]⟩, .int .i64 4, .string ⟨#[5, 0, 97, 1, 2]⟩, .int .i64 (9), .string ⟨#[]⟩, .int .i64 4, .string ⟨#[5, 0, 97, 1, 1]⟩, .int .i64 (9), .string ⟨#[97, 97, 97, 97, 97]⟩, .int .i64 0, .string ⟨#[2, 0, 97, 2, 1, 0]⟩, .int .i64 (9), .string ⟨#[97, 97]⟩, .int .i64 0, .string ⟨#[2, 0, 97, 3, 1, 0, 0, 0]⟩, .int .i64 (9), .string ⟨#[97, 97]⟩, .int .i64 0, .string ⟨#[2, 0, 97, 3, 1, 0, 0]⟩, .int .i64 (9), .string ⟨#[]⟩, .int .i64 8, .string ⟨#[2, 0, 97, 3, 1, 0, 0, 1]⟩, .int .i64 (9), .string ⟨#[]⟩, .int .i64 4, .string ⟨#[2, 240, 1, 97, 98]⟩, .int .i64 (9), .string ⟨#[97, 98]⟩, .int .i64 0, .string ⟨#[2, 244, 1, 0, 97, 98]⟩, .int .i64 (9), .string ⟨#[97, 98]⟩, .int .i64 0, .string ⟨#[2, 248, 1, 0, 0, 97, 98]⟩, .int .i64 (9), .string ⟨#[97, 98]⟩, .int .i64 0, .string ⟨#[2, 252, 1, 0, 0, 0, 97, 98]⟩, .int .i64 (9), .string ⟨#[97, 98]⟩, .int .i64 0, .string ⟨#[2, 252, 1, 0, 0, 1, 97, 98]⟩, .int .i64 (9), .string ⟨#[]⟩, .int .i64 8, .string ⟨#[2, 252, 255, 255, 255, 255, 97, 98]⟩, .int .i64 (9), .string ⟨#[]⟩, .int .i64 8, .string ⟨#[130, 0, 4, 97, 98]⟩, .int .i64 (9), .string ⟨#[97, 98]⟩, .int .i64 0]
theorem rcells_at (k : Nat) (h : k < 25) : rcells[k * 4]? = some (.string (row k).s) ∧ rcells[k * 4 + 1]? = some (.int .i64 (row k).m) ∧ rcells[k * 4 + 2]? = some (.string (row k).w) ∧ rcells[k * 4 + 3]? = some (.int .i64 (row k).e) := by
  match k, h with
  | 0, _ => exact ⟨rfl, rfl, rfl, rfl⟩
  | 1, _ => exact ⟨rfl, rfl, rfl, rfl⟩
  | 2, _ => exact ⟨rfl, rfl, rfl, rfl⟩
  | 3, _ => exact ⟨rfl, rfl, rfl, rfl⟩
  | 4, _ => exact ⟨rfl, rfl, rfl, rfl⟩
  | 5, _ => exact ⟨rfl, rfl, rfl, rfl⟩
  | 6, _ => exact ⟨rfl, rfl, rfl, rfl⟩
  | 7, _ => exact ⟨rfl, rfl, rfl, rfl⟩
  | 8, _ => exact ⟨rfl, rfl, rfl, rfl⟩
  | 9, _ => exact ⟨rfl, rfl, rfl, rfl⟩
  | 10, _ => exact ⟨rfl, rfl, rfl, rfl⟩
  | 11, _ => exact ⟨rfl, rfl, rfl, rfl⟩
  | 12, _ => exact ⟨rfl, rfl, rfl, rfl⟩
  | 13, _ => exact ⟨rfl, rfl, rfl, rfl⟩
  | 14, _ => exact ⟨rfl, rfl, rfl, rfl⟩
  | 15, _ => exact ⟨rfl, rfl, rfl, rfl⟩
  | 16, _ => exact ⟨rfl, rfl, rfl, rfl⟩
  | 17, _ => exact ⟨rfl, rfl, rfl, rfl⟩
  | 18, _ => exact ⟨rfl, rfl, rfl, rfl⟩
  | 19, _ => exact ⟨rfl, rfl, rfl, rfl⟩
  | 20, _ => exact ⟨rfl, rfl, rfl, rfl⟩
  | 21, _ => exact ⟨rfl, rfl, rfl, rfl⟩
  | 22, _ => exact ⟨rfl, rfl, rfl, rfl⟩
  | 23, _ => exact ⟨rfl, rfl, rfl, rfl⟩
  | 24, _ => exact ⟨rfl, rfl, rfl, rfl⟩
  | n + 25, h => omega
def bad (k : Nat) : Pt :=
  match k with
  | 0 => ⟨false, ⟨#[]⟩, 0, 0⟩
  | 1 => ⟨false, ⟨#[97]⟩, 1, 0⟩
  | 2 => ⟨false, ⟨#[97]⟩, 0, 1⟩
  | 3 => ⟨true, ⟨#[]⟩, 1, 0⟩
  | 4 => ⟨true, ⟨#[]⟩, 0, 1⟩
  | 5 => ⟨true, ⟨#[]⟩, 1, 65⟩
  | 6 => ⟨true, ⟨#[]⟩, 4294967296, 1⟩
  | 7 => ⟨true, ⟨#[97]⟩, 1, 1⟩
  | 8 => ⟨true, ⟨#[]⟩, 6, 1⟩
  | _ => ⟨true, ⟨#[]⟩, -1, 4⟩
def abcde : Pt := ⟨false, ⟨#[97, 98, 99, 100, 101]⟩, 0, 0⟩
theorem bad_ok (k : Nat) (h : k < 10) : (bad k).ok := by
  match k, h with
  | 0, _ => exact ⟨by decide, by decide, by decide, by decide, by decide⟩
  | 1, _ => exact ⟨by decide, by decide, by decide, by decide, by decide⟩
  | 2, _ => exact ⟨by decide, by decide, by decide, by decide, by decide⟩
  | 3, _ => exact ⟨by decide, by decide, by decide, by decide, by decide⟩
  | 4, _ => exact ⟨by decide, by decide, by decide, by decide, by decide⟩
  | 5, _ => exact ⟨by decide, by decide, by decide, by decide, by decide⟩
  | 6, _ => exact ⟨by decide, by decide, by decide, by decide, by decide⟩
  | 7, _ => exact ⟨by decide, by decide, by decide, by decide, by decide⟩
  | 8, _ => exact ⟨by decide, by decide, by decide, by decide, by decide⟩
  | 9, _ => exact ⟨by decide, by decide, by decide, by decide, by decide⟩
theorem bad_no (k : Nat) (h : k < 10) : expand 99 [abcde, bad k] [] = ([], 4) := by
  match k, h with
  | 0, _ => decide +kernel
  | 1, _ => decide +kernel
  | 2, _ => decide +kernel
  | 3, _ => decide +kernel
  | 4, _ => decide +kernel
  | 5, _ => decide +kernel
  | 6, _ => decide +kernel
  | 7, _ => decide +kernel
  | 8, _ => decide +kernel
  | 9, _ => decide +kernel
def bcells : Array Value := #[.bool false, .string ⟨#[]⟩, .int .i64 0, .int .i64 0, .bool false, .string ⟨#[97]⟩, .int .i64 1, .int .i64 0, .bool false, .string ⟨#[97]⟩, .int .i64 0, .int .i64 1, .bool true, .string ⟨#[]⟩, .int .i64 1, .int .i64 0, .bool true, .string ⟨#[]⟩, .int .i64 0, .int .i64 1, .bool true, .string ⟨#[]⟩, .int .i64 1, .int .i64 65, .bool true, .string ⟨#[]⟩, .int .i64 4294967296, .int .i64 1, .bool true, .string ⟨#[97]⟩, .int .i64 1, .int .i64 1, .bool true, .string ⟨#[]⟩, .int .i64 6, .int .i64 1, .bool true, .string ⟨#[]⟩, .int .i64 (-1), .int .i64 4]
theorem bcells_at (k : Nat) (h : k < 10) : bcells[k * 4]? = some (.bool (bad k).c) ∧ bcells[k * 4 + 1]? = some (.string (bad k).t) ∧ bcells[k * 4 + 2]? = some (.int .i64 (bad k).o) ∧ bcells[k * 4 + 3]? = some (.int .i64 (bad k).l) := by
  match k, h with
  | 0, _ => exact ⟨rfl, rfl, rfl, rfl⟩
  | 1, _ => exact ⟨rfl, rfl, rfl, rfl⟩
  | 2, _ => exact ⟨rfl, rfl, rfl, rfl⟩
  | 3, _ => exact ⟨rfl, rfl, rfl, rfl⟩
  | 4, _ => exact ⟨rfl, rfl, rfl, rfl⟩
  | 5, _ => exact ⟨rfl, rfl, rfl, rfl⟩
  | 6, _ => exact ⟨rfl, rfl, rfl, rfl⟩
  | 7, _ => exact ⟨rfl, rfl, rfl, rfl⟩
  | 8, _ => exact ⟨rfl, rfl, rfl, rfl⟩
  | 9, _ => exact ⟨rfl, rfl, rfl, rfl⟩
theorem made_at (x : Value) (n j : Nat) (h : j < n) : (madeCells #[x] n)[j]? = some x := by
  unfold madeCells
  rw [Array.getElem?_map, Array.getElem?_range, if_pos h]
  simp [Nat.mod_one]
theorem made_long : ∃ (CZ : Array Value) (Z : ByteArray), Z.size = 65537 ∧
    (∀ W : World, (Instr.makeSlice 28 (.int .i64 65537) (.int .i64 65537)).run Try.prog W = .ok (.slice (some ⟨W.heap.size, 0, none⟩) 65537 65537) (W.alloc (.cells CZ 5))) ∧
    (∀ W : World, Sem.run Try.prog (convert 28 9 (.slice (some ⟨W.heap.size, 0, none⟩) 65537 65537)) (W.alloc (.cells CZ 5)) = .ok (.string Z) (W.alloc (.cells CZ 5))) := by
  obtain ⟨i0, hi, hz0, hz1, hz2⟩ := info_parts Try.info5
  refine ⟨madeCells #[.int .u8 0] 65537, bs (List.replicate 65537 0), by rw [bs_size, List.length_replicate], fun W => ?_, fun W => ?_⟩
  · have h := run_make (P := Try.prog) W 28 5 i0 (.int .u8 0) Try.underlying28 hi hz0 .i64 .i64 65537 65537 (by omega) (by omega) (by rw [hz2]; omega) (by omega)
    rw [hz1] at h
    exact h
  · have h := run_convert_bytes_back (W.alloc (.cells (madeCells #[.int .u8 0] 65537) 5)) 28 9 5 ⟨W.heap.size, 0, none⟩ 65537 (List.replicate 65537 0) Try.underlying28 Try.underlying5 Try.underlying9 (fun j hj => ?_)
    · rw [List.length_replicate] at h
      exact h
    · rw [List.length_replicate] at hj
      have hadd : (⟨W.heap.size, 0, none⟩ : Addr).add j = ⟨W.heap.size, j, none⟩ := by unfold Addr.add; simp <;> omega
      have hc := World.cell?_alloc_mark W (madeCells #[.int .u8 0] 65537) 5 (0, 0) j
      rw [hadd, hc, made_at _ _ _ hj, List.getElem_replicate]
      rfl
end Go.Proofs.Ytnnogjojoeajnaa
