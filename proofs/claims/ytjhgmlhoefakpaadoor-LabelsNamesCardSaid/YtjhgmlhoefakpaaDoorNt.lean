/- The tables of the closed statement: texts that may not be values, texts that may, texts that are not said so; its long texts; its many labels. -/
import Derived.Test.YtjhgmlhoefakpaaDoorKn
import Derived.Test.YtjhgmlhoefakpaaDoorDg
namespace Go.Proofs.YtjhgmlhoefakpaaDoor
open Go.RowKit
set_option maxRecDepth 100000
set_option maxHeartbeats 4000000
/-- A table of texts in memory. -/
def Tbl (g n : Nat) (f : Nat → ByteArray) (W : World) : Prop := ∀ k, k < n → W.cell? ⟨g, k, none⟩ = some (.string (f k))
theorem Tbl.below {g n m : Nat} {f : Nat → ByteArray} {W W' : World} (h : Tbl g n f W) (hb : Below m W W') (hg : g < m) : Tbl g n f W' := fun k hk => by
  have e : ∀ o, W'.cell? ⟨g, o, none⟩ = W.cell? ⟨g, o, none⟩ := fun o => World.cell?_of_block (a := ⟨g, o, none⟩) (hb.block g hg)
  rw [e]
  exact h k hk
theorem Tbl.new {n : Nat} {f : Nat → ByteArray} {cs : Array Value} (h : ∀ k, k < n → cs[k]? = some (.string (f k))) (w : World) (t : TypeId) : Tbl w.heap.size n f (w.alloc (.cells cs t)) := fun k hk => by
  have hc : ∀ j, (w.alloc (.cells cs t)).cell? ⟨w.heap.size, j, none⟩ = _ := fun j => World.cell?_alloc_mark w _ t (0, 0) j
  rw [hc]
  exact h k hk
def badV (k : Nat) : ByteArray :=
  match k with
  | 0 => { data := #[31] }
  | 1 => { data := #[97, 10] }
  | 2 => { data := #[127] }
  | 3 => { data := #[128] }
  | 4 => { data := #[255] }
  | 5 => { data := #[97, 195] }
  | 6 => { data := #[192, 128] }
  | 7 => { data := #[237, 160, 128] }
  | 8 => { data := #[244, 144, 128, 128] }
  | 9 => { data := #[248, 136, 128, 128, 128] }
  | _ => { data := #[226, 130] }
def badV_cells : Array Value := #[.string { data := #[31] }, .string { data := #[97, 10] }, .string { data := #[127] }, .string { data := #[128] }, .string { data := #[255] }, .string { data := #[97, 195] }, .string { data := #[192, 128] }, .string { data := #[237, 160, 128] }, .string { data := #[244, 144, 128, 128] }, .string { data := #[248, 136, 128, 128, 128] }, .string { data := #[226, 130] }]
theorem badV_at (k : Nat) (h : k < 11) : badV_cells[k]? = some (.string (badV k)) := by
  match k, h with
  | 0, _ => rfl
  | 1, _ => rfl
  | 2, _ => rfl
  | 3, _ => rfl
  | 4, _ => rfl
  | 5, _ => rfl
  | 6, _ => rfl
  | 7, _ => rfl
  | 8, _ => rfl
  | 9, _ => rfl
  | 10, _ => rfl
  | n + 11, h => omega
theorem badV_size (k : Nat) (h : k < 11) : (badV k).size ≤ 100 := by
  match k, h with
  | 0, _ => decide
  | 1, _ => decide
  | 2, _ => decide
  | 3, _ => decide
  | 4, _ => decide
  | 5, _ => decide
  | 6, _ => decide
  | 7, _ => decide
  | 8, _ => decide
  | 9, _ => decide
  | 10, _ => decide
  | n + 11, h => omega
theorem badV_is (k : Nat) (h : k < 11) : mayV (badV k).data.toList = false := by
  match k, h with
  | 0, _ => exact (show mayV (ByteArray.mk #[31]).data.toList = false by kernel_rfl)
  | 1, _ => exact (show mayV (ByteArray.mk #[97, 10]).data.toList = false by kernel_rfl)
  | 2, _ => exact (show mayV (ByteArray.mk #[127]).data.toList = false by kernel_rfl)
  | 3, _ => exact (show mayV (ByteArray.mk #[128]).data.toList = false by kernel_rfl)
  | 4, _ => exact (show mayV (ByteArray.mk #[255]).data.toList = false by kernel_rfl)
  | 5, _ => exact (show mayV (ByteArray.mk #[97, 195]).data.toList = false by kernel_rfl)
  | 6, _ => exact (show mayV (ByteArray.mk #[192, 128]).data.toList = false by kernel_rfl)
  | 7, _ => exact (show mayV (ByteArray.mk #[237, 160, 128]).data.toList = false by kernel_rfl)
  | 8, _ => exact (show mayV (ByteArray.mk #[244, 144, 128, 128]).data.toList = false by kernel_rfl)
  | 9, _ => exact (show mayV (ByteArray.mk #[248, 136, 128, 128, 128]).data.toList = false by kernel_rfl)
  | 10, _ => exact (show mayV (ByteArray.mk #[226, 130]).data.toList = false by kernel_rfl)
  | n + 11, h => omega
def goodV (k : Nat) : ByteArray :=
  match k with
  | 0 => { data := #[32] }
  | 1 => { data := #[126] }
  | 2 => { data := #[194, 128] }
  | 3 => { data := #[239, 191, 189] }
  | 4 => { data := #[244, 143, 191, 191] }
  | _ => { data := #[238, 128, 128] }
def goodV_cells : Array Value := #[.string { data := #[32] }, .string { data := #[126] }, .string { data := #[194, 128] }, .string { data := #[239, 191, 189] }, .string { data := #[244, 143, 191, 191] }, .string { data := #[238, 128, 128] }]
theorem goodV_at (k : Nat) (h : k < 6) : goodV_cells[k]? = some (.string (goodV k)) := by
  match k, h with
  | 0, _ => rfl
  | 1, _ => rfl
  | 2, _ => rfl
  | 3, _ => rfl
  | 4, _ => rfl
  | 5, _ => rfl
  | n + 6, h => omega
theorem goodV_size (k : Nat) (h : k < 6) : (goodV k).size ≤ 100 := by
  match k, h with
  | 0, _ => decide
  | 1, _ => decide
  | 2, _ => decide
  | 3, _ => decide
  | 4, _ => decide
  | 5, _ => decide
  | n + 6, h => omega
theorem goodV_is (k : Nat) (h : k < 6) : mayV (goodV k).data.toList = true := by
  match k, h with
  | 0, _ => exact (show mayV (ByteArray.mk #[32]).data.toList = true by kernel_rfl)
  | 1, _ => exact (show mayV (ByteArray.mk #[126]).data.toList = true by kernel_rfl)
  | 2, _ => exact (show mayV (ByteArray.mk #[194, 128]).data.toList = true by kernel_rfl)
  | 3, _ => exact (show mayV (ByteArray.mk #[239, 191, 189]).data.toList = true by kernel_rfl)
  | 4, _ => exact (show mayV (ByteArray.mk #[244, 143, 191, 191]).data.toList = true by kernel_rfl)
  | 5, _ => exact (show mayV (ByteArray.mk #[238, 128, 128]).data.toList = true by kernel_rfl)
  | n + 6, h => omega
def notS (k : Nat) : ByteArray :=
  match k with
  | 0 => { data := #[] }
  | 1 => { data := #[123] }
  | 2 => { data := #[123, 125] }
  | 3 => { data := #[97, 61, 34, 98, 34] }
  | 4 => { data := #[123, 97, 125] }
  | 5 => { data := #[123, 97, 61, 98, 125] }
  | 6 => { data := #[123, 97, 61, 34, 98, 125] }
  | 7 => { data := #[123, 97, 61, 34, 98, 34] }
  | 8 => { data := #[123, 97, 61, 34, 98, 34, 44, 125] }
  | 9 => { data := #[123, 97, 61, 34, 98, 34, 125, 120] }
  | 10 => { data := #[123, 32, 97, 61, 34, 98, 34, 125] }
  | 11 => { data := #[123, 97, 32, 61, 34, 98, 34, 125] }
  | 12 => { data := #[123, 97, 61, 34, 98, 34, 32, 125] }
  | 13 => { data := #[123, 97, 61, 34, 34, 125] }
  | 14 => { data := #[123, 98, 61, 34, 120, 34, 44, 97, 61, 34, 121, 34, 125] }
  | 15 => { data := #[123, 97, 61, 34, 120, 34, 44, 97, 61, 34, 121, 34, 125] }
  | 16 => { data := #[123, 97, 61, 34, 92, 110, 34, 125] }
  | 17 => { data := #[123, 97, 61, 34, 92, 117, 34, 125] }
  | 18 => { data := #[123, 97, 61, 34, 92, 117, 123, 125, 34, 125] }
  | 19 => { data := #[123, 97, 61, 34, 92, 117, 123, 100, 56, 48, 48, 125, 34, 125] }
  | 20 => { data := #[123, 97, 61, 34, 92, 117, 123, 49, 49, 48, 48, 48, 48, 125, 34, 125] }
  | 21 => { data := #[123, 97, 61, 34, 92, 117, 123, 48, 48, 48, 48, 48, 52, 49, 125, 34, 125] }
  | 22 => { data := #[123, 97, 61, 34, 92, 117, 123, 69, 57, 125, 34, 125] }
  | 23 => { data := #[123, 97, 61, 34, 92, 117, 123, 101, 57, 34, 125] }
  | 24 => { data := #[123, 97, 61, 34, 92, 117, 123, 55, 125, 34, 125] }
  | 25 => { data := #[123, 97, 61, 34, 255, 34, 125] }
  | 26 => { data := #[123, 97, 61, 34, 10, 34, 125] }
  | 27 => { data := #[123, 61, 34, 98, 34, 125] }
  | 28 => { data := #[123, 97, 61, 34, 98, 34, 44, 44, 99, 61, 34, 100, 34, 125] }
  | _ => { data := #[123, 97, 61, 34, 98, 34, 99, 61, 34, 100, 34, 125] }
def notS_cells : Array Value := #[.string { data := #[] }, .string { data := #[123] }, .string { data := #[123, 125] }, .string { data := #[97, 61, 34, 98, 34] }, .string { data := #[123, 97, 125] }, .string { data := #[123, 97, 61, 98, 125] }, .string { data := #[123, 97, 61, 34, 98, 125] }, .string { data := #[123, 97, 61, 34, 98, 34] }, .string { data := #[123, 97, 61, 34, 98, 34, 44, 125] }, .string { data := #[123, 97, 61, 34, 98, 34, 125, 120] }, .string { data := #[123, 32, 97, 61, 34, 98, 34, 125] }, .string { data := #[123, 97, 32, 61, 34, 98, 34, 125] }, .string { data := #[123, 97, 61, 34, 98, 34, 32, 125] }, .string { data := #[123, 97, 61, 34, 34, 125] }, .string { data := #[123, 98, 61, 34, 120, 34, 44, 97, 61, 34, 121, 34, 125] }, .string { data := #[123, 97, 61, 34, 120, 34, 44, 97, 61, 34, 121, 34, 125] }, .string { data := #[123, 97, 61, 34, 92, 110, 34, 125] }, .string { data := #[123, 97, 61, 34, 92, 117, 34, 125] }, .string { data := #[123, 97, 61, 34, 92, 117, 123, 125, 34, 125] }, .string { data := #[123, 97, 61, 34, 92, 117, 123, 100, 56, 48, 48, 125, 34, 125] }, .string { data := #[123, 97, 61, 34, 92, 117, 123, 49, 49, 48, 48, 48, 48, 125, 34, 125] }, .string { data := #[123, 97, 61, 34, 92, 117, 123, 48, 48, 48, 48, 48, 52, 49, 125, 34, 125] }, .string { data := #[123, 97, 61, 34, 92, 117, 123, 69, 57, 125, 34, 125] }, .string { data := #[123, 97, 61, 34, 92, 117, 123, 101, 57, 34, 125] }, .string { data := #[123, 97, 61, 34, 92, 117, 123, 55, 125, 34, 125] }, .string { data := #[123, 97, 61, 34, 255, 34, 125] }, .string { data := #[123, 97, 61, 34, 10, 34, 125] }, .string { data := #[123, 61, 34, 98, 34, 125] }, .string { data := #[123, 97, 61, 34, 98, 34, 44, 44, 99, 61, 34, 100, 34, 125] }, .string { data := #[123, 97, 61, 34, 98, 34, 99, 61, 34, 100, 34, 125] }]
theorem notS_at (k : Nat) (h : k < 30) : notS_cells[k]? = some (.string (notS k)) := by
  match k, h with
  | 0, _ => rfl
  | 1, _ => rfl
  | 2, _ => rfl
  | 3, _ => rfl
  | 4, _ => rfl
  | 5, _ => rfl
  | 6, _ => rfl
  | 7, _ => rfl
  | 8, _ => rfl
  | 9, _ => rfl
  | 10, _ => rfl
  | 11, _ => rfl
  | 12, _ => rfl
  | 13, _ => rfl
  | 14, _ => rfl
  | 15, _ => rfl
  | 16, _ => rfl
  | 17, _ => rfl
  | 18, _ => rfl
  | 19, _ => rfl
  | 20, _ => rfl
  | 21, _ => rfl
  | 22, _ => rfl
  | 23, _ => rfl
  | 24, _ => rfl
  | 25, _ => rfl
  | 26, _ => rfl
  | 27, _ => rfl
  | 28, _ => rfl
  | 29, _ => rfl
  | n + 30, h => omega
theorem notS_size (k : Nat) (h : k < 30) : (notS k).size ≤ 100 := by
  match k, h with
  | 0, _ => decide
  | 1, _ => decide
  | 2, _ => decide
  | 3, _ => decide
  | 4, _ => decide
  | 5, _ => decide
  | 6, _ => decide
  | 7, _ => decide
  | 8, _ => decide
  | 9, _ => decide
  | 10, _ => decide
  | 11, _ => decide
  | 12, _ => decide
  | 13, _ => decide
  | 14, _ => decide
  | 15, _ => decide
  | 16, _ => decide
  | 17, _ => decide
  | 18, _ => decide
  | 19, _ => decide
  | 20, _ => decide
  | 21, _ => decide
  | 22, _ => decide
  | 23, _ => decide
  | 24, _ => decide
  | 25, _ => decide
  | 26, _ => decide
  | 27, _ => decide
  | 28, _ => decide
  | 29, _ => decide
  | n + 30, h => omega
theorem notS_is (k : Nat) (h : k < 30) : parseK (notS k).data.toList = ([], 4) := by
  match k, h with
  | 0, _ => exact (show parseK (ByteArray.mk #[]).data.toList = ([], 4) by kernel_rfl)
  | 1, _ => exact (show parseK (ByteArray.mk #[123]).data.toList = ([], 4) by kernel_rfl)
  | 2, _ => exact (show parseK (ByteArray.mk #[123, 125]).data.toList = ([], 4) by kernel_rfl)
  | 3, _ => exact (show parseK (ByteArray.mk #[97, 61, 34, 98, 34]).data.toList = ([], 4) by kernel_rfl)
  | 4, _ => exact (show parseK (ByteArray.mk #[123, 97, 125]).data.toList = ([], 4) by kernel_rfl)
  | 5, _ => exact (show parseK (ByteArray.mk #[123, 97, 61, 98, 125]).data.toList = ([], 4) by kernel_rfl)
  | 6, _ => exact (show parseK (ByteArray.mk #[123, 97, 61, 34, 98, 125]).data.toList = ([], 4) by kernel_rfl)
  | 7, _ => exact (show parseK (ByteArray.mk #[123, 97, 61, 34, 98, 34]).data.toList = ([], 4) by kernel_rfl)
  | 8, _ => exact (show parseK (ByteArray.mk #[123, 97, 61, 34, 98, 34, 44, 125]).data.toList = ([], 4) by kernel_rfl)
  | 9, _ => exact (show parseK (ByteArray.mk #[123, 97, 61, 34, 98, 34, 125, 120]).data.toList = ([], 4) by kernel_rfl)
  | 10, _ => exact (show parseK (ByteArray.mk #[123, 32, 97, 61, 34, 98, 34, 125]).data.toList = ([], 4) by kernel_rfl)
  | 11, _ => exact (show parseK (ByteArray.mk #[123, 97, 32, 61, 34, 98, 34, 125]).data.toList = ([], 4) by kernel_rfl)
  | 12, _ => exact (show parseK (ByteArray.mk #[123, 97, 61, 34, 98, 34, 32, 125]).data.toList = ([], 4) by kernel_rfl)
  | 13, _ => exact (show parseK (ByteArray.mk #[123, 97, 61, 34, 34, 125]).data.toList = ([], 4) by kernel_rfl)
  | 14, _ => exact (show parseK (ByteArray.mk #[123, 98, 61, 34, 120, 34, 44, 97, 61, 34, 121, 34, 125]).data.toList = ([], 4) by kernel_rfl)
  | 15, _ => exact (show parseK (ByteArray.mk #[123, 97, 61, 34, 120, 34, 44, 97, 61, 34, 121, 34, 125]).data.toList = ([], 4) by kernel_rfl)
  | 16, _ => exact (show parseK (ByteArray.mk #[123, 97, 61, 34, 92, 110, 34, 125]).data.toList = ([], 4) by kernel_rfl)
  | 17, _ => exact (show parseK (ByteArray.mk #[123, 97, 61, 34, 92, 117, 34, 125]).data.toList = ([], 4) by kernel_rfl)
  | 18, _ => exact (show parseK (ByteArray.mk #[123, 97, 61, 34, 92, 117, 123, 125, 34, 125]).data.toList = ([], 4) by kernel_rfl)
  | 19, _ => exact (show parseK (ByteArray.mk #[123, 97, 61, 34, 92, 117, 123, 100, 56, 48, 48, 125, 34, 125]).data.toList = ([], 4) by kernel_rfl)
  | 20, _ => exact (show parseK (ByteArray.mk #[123, 97, 61, 34, 92, 117, 123, 49, 49, 48, 48, 48, 48, 125, 34, 125]).data.toList = ([], 4) by kernel_rfl)
  | 21, _ => exact (show parseK (ByteArray.mk #[123, 97, 61, 34, 92, 117, 123, 48, 48, 48, 48, 48, 52, 49, 125, 34, 125]).data.toList = ([], 4) by kernel_rfl)
  | 22, _ => exact (show parseK (ByteArray.mk #[123, 97, 61, 34, 92, 117, 123, 69, 57, 125, 34, 125]).data.toList = ([], 4) by kernel_rfl)
  | 23, _ => exact (show parseK (ByteArray.mk #[123, 97, 61, 34, 92, 117, 123, 101, 57, 34, 125]).data.toList = ([], 4) by kernel_rfl)
  | 24, _ => exact (show parseK (ByteArray.mk #[123, 97, 61, 34, 92, 117, 123, 55, 125, 34, 125]).data.toList = ([], 4) by kernel_rfl)
  | 25, _ => exact (show parseK (ByteArray.mk #[123, 97, 61, 34, 255, 34, 125]).data.toList = ([], 4) by kernel_rfl)
  | 26, _ => exact (show parseK (ByteArray.mk #[123, 97, 61, 34, 10, 34, 125]).data.toList = ([], 4) by kernel_rfl)
  | 27, _ => exact (show parseK (ByteArray.mk #[123, 61, 34, 98, 34, 125]).data.toList = ([], 4) by kernel_rfl)
  | 28, _ => exact (show parseK (ByteArray.mk #[123, 97, 61, 34, 98, 34, 44, 44, 99, 61, 34, 100, 34, 125]).data.toList = ([], 4) by kernel_rfl)
  | 29, _ => exact (show parseK (ByteArray.mk #[123, 97, 61, 34, 98, 34, 99, 61, 34, 100, 34, 125]).data.toList = ([], 4) by kernel_rfl)
  | n + 30, h => omega
def lngN (k : Nat) : ByteArray := bs (List.replicate k 110)
def widN (k : Nat) : ByteArray := bs (flat (List.replicate k 127931))
theorem lngN_zero : lngN 0 = { data := #[] } := rfl
theorem widN_zero : widN 0 = { data := #[] } := rfl
theorem lngN_succ (k : Nat) : lngN k ++ { data := #[110] } = lngN (k + 1) := by
  have h : ({ data := #[110] } : ByteArray) = bs [110] := rfl
  rw [h]
  unfold lngN
  rw [List.replicate_succ']
  apply ByteArray.ext
  rw [ByteArray.data_append]
  apply Array.ext'
  simp [bs]
theorem enc_note : enc 127931 = [240, 159, 142, 187] := by decide
theorem widN_succ (k : Nat) : widN k ++ { data := #[240, 159, 142, 187] } = widN (k + 1) := by
  have h : ({ data := #[240, 159, 142, 187] } : ByteArray) = bs [240, 159, 142, 187] := rfl
  rw [h, ← enc_note]
  unfold widN
  rw [List.replicate_succ', flat_app]
  apply ByteArray.ext
  rw [ByteArray.data_append]
  simp [bs, flat]
theorem lngN_size (k : Nat) : (lngN k).size = k := by unfold lngN; rw [bs_size, List.length_replicate]
theorem flat_rep : ∀ k : Nat, (flat (List.replicate k 127931)).length = 4 * k
  | 0 => rfl
  | k + 1 => by rw [List.replicate_succ, flat_cons, List.length_append, flat_rep k, enc_note]; simp; omega
theorem widN_size (k : Nat) : (widN k).size = 4 * k := by unfold widN; rw [bs_size, flat_rep]
theorem lng_may : mayN (lngN 64).data.toList = true := by kernel_rfl
theorem lng_not : mayN (lngN 64 ++ { data := #[110] }).data.toList = false := by rw [lngN_succ]; kernel_rfl
theorem note_ok : OkR 127931 := .inr ⟨by omega, by omega⟩
theorem wid_may : mayV (widN 64).data.toList = true := by
  have h : (widN 64).data.toList = flat (List.replicate 64 127931) := by simp [widN, bs]
  rw [h, mayV_flat (fun c hc => by rw [List.eq_of_mem_replicate hc]; exact note_ok) (fun c hc => by rw [List.eq_of_mem_replicate hc]; decide) (by simp)]
  simp
theorem wid_not : mayV (widN 64 ++ { data := #[120] }).data.toList = false := by
  have h : (widN 64 ++ { data := #[120] }).data.toList = flat (List.replicate 64 127931 ++ [120]) := by
    rw [ByteArray.data_append, flat_app]
    simp [widN, bs, flat, enc_ascii]
  rw [h, mayV_flat (fun c hc => by
    rcases List.mem_append.1 hc with h | h
    · rw [List.eq_of_mem_replicate h]; exact note_ok
    · rw [List.mem_singleton.1 h]; exact .inl (by omega)) (fun c hc => by
    rcases List.mem_append.1 hc with h | h
    · rw [List.eq_of_mem_replicate h]; decide
    · rw [List.mem_singleton.1 h]; decide) (by simp)]
  simp
/-- The many labels. -/
def manyN (i : Nat) : Lb := ⟨bs [UInt8.ofNat (97 + i)], ⟨#[118]⟩⟩
def manyL (k : Nat) : List Lb := (List.range k).map manyN
theorem manyL_succ (k : Nat) : manyL k ++ [manyN k] = manyL (k + 1) := by unfold manyL; rw [List.range_succ, List.map_append]; rfl
theorem manyL_len (k : Nat) : (manyL k).length = k := by simp [manyL]
theorem many_16 : mayL ((manyL 17).take 16) = true := by kernel_rfl
theorem many_17 : mayL (manyL 17) = false := by kernel_rfl
theorem may_nil : mayL [] = false := rfl
theorem may_00 : mayL [manyN 0, manyN 0] = false := by kernel_rfl
theorem may_10 : mayL [manyN 1, manyN 0] = false := by kernel_rfl
theorem may_a : mayL [⟨⟨#[97]⟩, ⟨#[]⟩⟩] = false := by kernel_rfl
theorem may_v : mayL [⟨⟨#[]⟩, ⟨#[97]⟩⟩] = false := by kernel_rfl
def two : List Lb := [⟨⟨#[97]⟩, ⟨#[65, 34, 92, 240, 159, 142, 187]⟩⟩, ⟨⟨#[98]⟩, ⟨#[61, 44, 125]⟩⟩]
theorem par_two : parseK (ByteArray.mk #[123, 97, 61, 34, 92, 117, 123, 48, 48, 48, 48, 52, 49, 125, 92, 34, 92, 92, 92, 117, 123, 49, 102, 51, 98, 98, 125, 34, 44, 98, 61, 34, 61, 44, 125, 34, 125]).data.toList = (two, 0) := by kernel_rfl
theorem sh_two : showE two = ([123, 97, 61, 34, 65, 92, 34, 92, 92, 92, 117, 123, 49, 102, 51, 98, 98, 125, 34, 44, 98, 61, 34, 61, 44, 125, 34, 125], 0) := by kernel_rfl
theorem sh_nil : showE [] = ([], 4) := rfl
theorem of_0 : ofK (ByteArray.mk #[]).data.toList = ([], 4) := by kernel_rfl
theorem of_1 : ofK (ByteArray.mk #[1, 97, 1]).data.toList = ([], 8) := by kernel_rfl
theorem of_2 : ofK (ByteArray.mk #[65, 97]).data.toList = ([], 40) := by kernel_rfl
theorem of_3 : ofK (ByteArray.mk #[1, 97, 129, 2]).data.toList = ([], 40) := by kernel_rfl
theorem n_0 : mayN (ByteArray.mk #[]).data.toList = false := by kernel_rfl
theorem n_1 : mayN (ByteArray.mk #[95, 57]).data.toList = true := by kernel_rfl
theorem n_2 : mayN (ByteArray.mk #[97, 45, 98]).data.toList = false := by kernel_rfl
theorem n_3 : mayN (ByteArray.mk #[195, 169]).data.toList = false := by kernel_rfl
theorem v_0 : mayV (ByteArray.mk #[]).data.toList = false := by kernel_rfl
end Go.Proofs.YtjhgmlhoefakpaaDoor
