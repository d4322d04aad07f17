/- What a disk tells of itself: how much is used; where a tape stands. -/
import Derived.Test.YticponohbnkgdaaDb
namespace Go.Proofs.Yticponohbnkgdaa
open Go Go.RowKit
set_option maxRecDepth 100000
theorem tcells_even (T : Nat → Tp) {n k : Nat} (hk : k < n) : (tcells T n)[k * 2]? = some (.string (T k).s) := by
  unfold tcells
  rw [List.getElem?_map, List.getElem?_range (by omega), Option.map_some, if_pos (by omega), show k * 2 / 2 = k by omega]
theorem tcells_odd (T : Nat → Tp) {n k : Nat} (hk : k < n) : (tcells T n)[k * 2 + 1]? = some (.int .i64 ((T k).f : Int)) := by
  unfold tcells
  rw [List.getElem?_map, List.getElem?_range (by omega), Option.map_some, if_neg (by omega), show (k * 2 + 1) / 2 = k by omega]
theorem index67 (T : Nat → Tp) (k : Nat) (hk : k < 32) (W : World) : (Instr.index 67 (.agg (tcells T 32).toArray) (.int .i64 (k : Int))).run Try.prog W = .ok (.agg #[.string (T k).s, .int .i64 ((T k).f : Int)]) W := by
  have hx : (tcells T 32).toArray.extract (k * 2) (k * 2 + 2) = #[.string (T k).s, .int .i64 ((T k).f : Int)] := by
    apply Array.ext'
    rw [Array.toList_extract]
    simp only [List.extract]
    have h0 := tcells_even T hk
    have h1 := tcells_odd T hk
    generalize tcells T 32 = C at *
    apply List.ext_getElem?
    intro i
    match i with
    | 0 => simpa [List.getElem?_take, List.getElem?_drop] using h0
    | 1 => simpa [List.getElem?_take, List.getElem?_drop] using h1
    | i + 2 => simp [List.getElem?_take]; omega
  have hagg : (isAgg 66).run Try.prog W = .ok true W := by
    unfold isAgg
    rw [Sem.run_bind, run_underlying Try.underlying66 W]
    rfl
  have hsz : (sizeOf 66).run Try.prog W = .ok 2 W := by
    obtain ⟨i, hi, hs⟩ : ∃ i, Try.prog.info? 66 = some i ∧ i.size = 2 := ⟨_, rfl, rfl⟩
    rw [run_sizeOf W hi]; rfl
  simp only [Instr.index, asIntOf, Sem.run_bind, Sem.run_pure, Result.andThen_ok, run_underlying Try.underlying67 W]
  rw [if_pos (by omega)]
  simp only [Sem.run_bind, Int.toNat_natCast, hsz, Result.andThen_ok, part, hagg, Sem.run_ite, ↓reduceIte, Sem.run_pure, hx]
theorem len67 : (Try.prog.info? 67).map (·.size) = some 64 := by kernel_rfl
set_option maxHeartbeats 400000 in
theorem used_any0 (B : Nat) (d : Dk) (w : World) (h : DAt w B d) (hd : ∀ i < 32, (d.T i).ok) : Calls Try.prog 15 #[.pointer (some ⟨B, 0, none⟩)] w (Ret w (.int .i64 (d.used : Int))) := by
  have HR := Lib.hid h.range
  have HL : Hid ((Try.prog.info? 67).map (·.size) = some (tcells d.T 32).length) := Lib.hid (by rw [tcells_len]; exact len67)
  have hix : ∀ k, k < 32 → ∀ W, _ := fun k hk W => index67 d.T k hk W
  have HIX := Lib.hid hix
  clear hix
  generalize tcells d.T 32 = C at *
  have HS : ∀ k ≤ 32, sumT d.T k ≤ 33554432 := fun k hk => by
    have := sumT_le d.T 1048576 k (fun j hj => (hd j (by omega)).2)
    have : k * 1048576 ≤ 32 * 1048576 := Nat.mul_le_mul_right _ hk
    omega
  have HS := Lib.hid HS
  clear hd h
  unfold Dk.used
  generalize d.T = T at *
  go_enter Try.func15, Try.ntmps15
  go_wp2_with (refine wpList_load_mid rfl 67 _ rfl B 1 rfl _ _ HR.out Try.underlying67 rfl HL.out ?_)
  go_loopw [3, 12] (fun n i wr => ∃ k m : Nat, i = .int .i64 (k : Int) ∧ n = .int .i64 (m : Int) ∧ k ≤ 32 ∧ Hid (m = sumT T k) ∧ Hid (Below w.heap.size w wr)) (fun _ i _ => 32 - (intOf i).toNat)
  case atStart => exact ⟨0, 0, rfl, rfl, by omega, Lib.hid rfl, Lib.hid (Below.refl _ _)⟩
  case round =>
    obtain ⟨k, m, rfl, rfl, hk, HM, HB⟩ := hrel
    by_cases hlt : k < 32
    · have hi := HIX.out k hlt
      have hm : m + (T k).s.size ≤ 33554432 := by have := HS.out (k + 1) (by omega); rw [HM.out]; exact this
      have HM2 : Hid (m + (T k).s.size = sumT T (k + 1)) := Lib.hid (by rw [HM.out]; rfl)
      generalize (T k).f = F at *
      generalize (T k).s = S at *
      go_wp2
      go_roundw
      case rel => exact ⟨k + 1, m + S.size, by go_num, by go_num, by omega, HM2, Lib.hid (HB.out.alloc HB.out.size _)⟩
      case measure => simp [intOf]; omega
    · obtain rfl : k = 32 := by omega
      go_wp2
      go_ret
      exact ⟨by rw [HM.out]; rfl, HB.out⟩
theorem used_any (B : Nat) (d : Dk) (w : World) (h : DAt w B d) (hd : d.ok) : Calls Try.prog 15 #[.pointer (some ⟨B, 0, none⟩)] w (Ret w (.int .i64 (d.used : Int))) := used_any0 B d w h hd.t
end Go.Proofs.Yticponohbnkgdaa
