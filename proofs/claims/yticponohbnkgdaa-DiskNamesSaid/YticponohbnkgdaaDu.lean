/- Nobody's disk. -/
import Derived.Test.YticponohbnkgdaaDt
import Derived.Laws.MakeOwn
import Derived.Laws.IdiomStrings
import Derived.OwnWalk
namespace Go.Proofs.Yticponohbnkgdaa
open Go Go.RowKit
set_option maxRecDepth 100000
theorem nil_ready (w : World) : Calls Try.prog 45 #[.pointer none] w (fun e w' => e = .returned (.int .i64 2) ∧ w = w') := by
  go_enter Try.func45, Try.ntmps45
  go_wp2
  go_ret
  exact ⟨rfl, rfl⟩
theorem nil_at (t : Int) (w : World) : Calls Try.prog 48 #[.pointer none, .int .i64 t] w (fun e w' => e = .returned (.tuple #[.pointer none, .int .i64 2]) ∧ w = w') := by
  go_enter Try.func48, Try.ntmps48
  go_wp2_with fail
  refine (nil_ready _).mono ?_
  rintro e w' ⟨rfl, rfl⟩
  go_wp2
  go_ret2
  exact ⟨rfl, rfl⟩
theorem nil_do (t : Int) (b : Bool) (V : Value) (w : World) : Calls Try.prog 39 #[.pointer none, .int .i64 t, .bool b, V] w (fun e w' => e = .returned (.int .i64 2) ∧ w = w') := by
  go_enter Try.func39, Try.ntmps39
  go_wp2_with fail
  refine (nil_ready _).mono ?_
  rintro e w' ⟨rfl, rfl⟩
  go_wp2
  go_ret
  exact ⟨rfl, rfl⟩
theorem nil_sync (t : Int) (w : World) : Calls Try.prog 16 #[.pointer none, .int .i64 t] w (Ret w (.int .i64 2)) := by
  go_enter Try.func16, Try.ntmps16
  go_wp2_with fail
  refine (nil_do _ _ _ _).mono ?_
  rintro e w' ⟨rfl, rfl⟩
  go_wp2
  go_ret
  exact ⟨rfl, Below.refl _ _⟩
theorem nil_wipe (t : Int) (w : World) : Calls Try.prog 17 #[.pointer none, .int .i64 t] w (Ret w (.int .i64 2)) := by
  go_enter Try.func17, Try.ntmps17
  go_wp2_with fail
  refine (nil_do _ _ _ _).mono ?_
  rintro e w' ⟨rfl, rfl⟩
  go_wp2
  go_ret
  exact ⟨rfl, Below.refl _ _⟩
theorem nil_trim (t n : Int) (w : World) : Calls Try.prog 18 #[.pointer none, .int .i64 t, .int .i64 n] w (Ret w (.int .i64 2)) := by
  have hmf : ∀ (fn : Fn) (first cap : Array Value) (w : World), (Instr.makeFunc fn first cap).run Try.prog w = .ok (.func fn first cap) w := fun _ _ _ _ => rfl
  go_enter Try.func18, Try.ntmps18
  go_wp2_with fail
  refine (nil_do _ _ _ _).mono ?_
  rintro e w' ⟨rfl, rfl⟩
  go_wp2
  go_ret
  exact ⟨rfl, (Below.refl _ _).alloc (Nat.le_refl _) _⟩
theorem nil_write (t : Int) (s : ByteArray) (w : World) : Calls Try.prog 13 #[.pointer none, .int .i64 t, .string s] w (Ret w (.int .i64 2)) := by
  have hmf : ∀ (fn : Fn) (first cap : Array Value) (w : World), (Instr.makeFunc fn first cap).run Try.prog w = .ok (.func fn first cap) w := fun _ _ _ _ => rfl
  go_enter Try.func13, Try.ntmps13
  go_wp2_with fail
  refine (nil_do _ _ _ _).mono ?_
  rintro e w' ⟨rfl, rfl⟩
  go_wp2
  go_ret
  exact ⟨rfl, below_two _ _ _⟩
theorem nil_read (t : Int) (w : World) : Calls Try.prog 22 #[.pointer none, .int .i64 t] w (Ret w (.tuple #[.string ⟨#[]⟩, .int .i64 2])) := by
  go_enter Try.func22, Try.ntmps22
  go_wp2_with fail
  refine (nil_at _ _).mono ?_
  rintro e w' ⟨rfl, rfl⟩
  go_wp2
  go_ret2
  exact ⟨rfl, Below.refl _ _⟩
theorem nil_fail (n : Int) (w : World) : Calls Try.prog 19 #[.pointer none, .int .i64 n] w (Ret w (.int .i64 2)) := by
  go_enter Try.func19, Try.ntmps19
  go_wp2_with fail
  refine (nil_ready _).mono ?_
  rintro e w' ⟨rfl, rfl⟩
  go_wp2
  go_ret
  exact ⟨rfl, Below.refl _ _⟩
theorem nil_up (w : World) : Calls Try.prog 20 #[.pointer none] w (Ret w (.bool false)) := by
  go_enter Try.func20, Try.ntmps20
  go_wp2_with fail
  refine (nil_ready _).mono ?_
  rintro e w' ⟨rfl, rfl⟩
  go_wp2
  go_ret
  exact ⟨rfl, Below.refl _ _⟩
theorem nil_back (w : World) : Calls Try.prog 21 #[.pointer none, .slice none 0 0] w (Ret w (.int .i64 2)) := by
  go_enter Try.func21, Try.ntmps21
  go_wp2
  go_ret
  exact ⟨rfl, Below.refl _ _⟩
theorem nil_used (w : World) : Calls Try.prog 15 #[.pointer none] w (Ret w (.int .i64 0)) := by
  go_enter Try.func15, Try.ntmps15
  go_wp2
  go_ret
  exact ⟨rfl, Below.refl _ _⟩
theorem nil_cap (w : World) : Calls Try.prog 23 #[.pointer none] w (Ret w (.int .i64 0)) := by
  go_enter Try.func23, Try.ntmps23
  go_wp2
  go_ret
  exact ⟨rfl, Below.refl _ _⟩
theorem nil_tapes (w : World) : Calls Try.prog 14 #[.pointer none] w (Ret w (.slice none 0 0)) := by
  go_enter Try.func14, Try.ntmps14
  go_wp2
  go_ret
  exact ⟨rfl, Below.refl _ _⟩
theorem nil_copy (w : World) : Calls Try.prog 24 #[.pointer none] w (Ret w (.pointer none)) := by
  go_enter Try.func24, Try.ntmps24
  go_wp2
  go_ret
  exact ⟨rfl, Below.refl _ _⟩
theorem nil_same (w : World) : Calls Try.prog 25 #[.pointer none, .pointer none] w (Ret w (.bool true)) := by
  go_enter Try.func25, Try.ntmps25
  go_wp2
  go_ret
  exact ⟨rfl, Below.refl _ _⟩
theorem nil_same_l (B : Nat) (w : World) : Calls Try.prog 25 #[.pointer none, .pointer (some ⟨B, 0, none⟩)] w (Ret w (.bool false)) := by
  have hnp : ∀ w : World, (binOp .eql 23 (.pointer none) (.pointer (some ⟨B, 0, none⟩))).run Try.prog w = .ok (.bool false) w := fun w => by kernel_rfl
  go_enter Try.func25, Try.ntmps25
  go_wp2
  go_ret
  exact ⟨rfl, Below.refl _ _⟩
theorem nil_same_r (B : Nat) (w : World) : Calls Try.prog 25 #[.pointer (some ⟨B, 0, none⟩), .pointer none] w (Ret w (.bool false)) := by
  go_enter Try.func25, Try.ntmps25
  go_wp2
  go_ret
  exact ⟨rfl, Below.refl _ _⟩
theorem new_no (w : World) : Calls Try.prog 11 #[.int .i64 (-1)] w (Ret w (.tuple #[.pointer none, .int .i64 1])) := by
  have HL := Lib.hid (load_no (-1) [] (.slice none 0 0) w (At2.nil w) (by decide) (.inl (by decide)))
  go_enter Try.func11, Try.ntmps11
  go_wp2_with fail
  refine HL.out.mono ?_
  rintro e w1 ⟨rfl, rfl⟩
  go_wp2
  go_ret2
  exact ⟨rfl, Below.refl _ _⟩
theorem made_at (x : Value) (n j : Nat) (h : j < n) : (madeCells #[x] n)[j]? = some x := by
  unfold madeCells
  rw [Array.getElem?_map, Array.getElem?_range, if_pos h]
  simp [Nat.mod_one]
/-- A text of as many bytes as a tape may have. -/
theorem made_full : ∃ (Z : Array Value) (F : ByteArray), F.size = 1048576 ∧ (∀ W : World, (Instr.makeSlice 31 (.int .i64 1048576) (.int .i64 1048576)).run Try.prog W = .ok (.slice (some ⟨W.heap.size, 0, none⟩) 1048576 1048576) (W.alloc (.cells Z 5))) ∧ ∀ W : World, Sem.run Try.prog (convert 31 9 (.slice (some ⟨W.heap.size, 0, none⟩) 1048576 1048576)) (W.alloc (.cells Z 5)) = .ok (.string F) (W.alloc (.cells Z 5)) := by
  obtain ⟨i0, hi, hz0, hz1, hz2⟩ : ∃ i, Try.prog.info? 5 = some i ∧ i.zero = some (.int .u8 0) ∧ i.size = 1 ∧ i.bytes = 1 := ⟨_, rfl, rfl, rfl, rfl⟩
  refine ⟨madeCells #[.int .u8 0] 1048576, ⟨(List.replicate 1048576 0).toArray⟩, by show (List.replicate 1048576 (0 : UInt8)).toArray.size = _; rw [List.size_toArray, List.length_replicate], fun W => ?_, fun W => ?_⟩
  · have h := run_make (P := Try.prog) W 31 5 i0 (.int .u8 0) Try.underlying31 hi hz0 .i64 .i64 1048576 1048576 (by omega) (by omega) (by rw [hz2]; omega) (by omega)
    rw [hz1] at h
    exact h
  · have h := run_convert_bytes_back (W.alloc (.cells (madeCells #[.int .u8 0] 1048576) 5)) 31 9 5 ⟨W.heap.size, 0, none⟩ 1048576 (List.replicate 1048576 0) Try.underlying31 Try.underlying5 Try.underlying9 (fun j hj => ?_)
    · rw [List.length_replicate] at h
      exact h
    · rw [List.length_replicate] at hj
      have hadd : (⟨W.heap.size, 0, none⟩ : Addr).add j = ⟨W.heap.size, j, none⟩ := by unfold Addr.add; simp <;> omega
      have hc := World.cell?_alloc_mark W (madeCells #[.int .u8 0] 1048576) 5 (0, 0) j
      rw [hadd, hc, made_at _ _ _ hj, List.getElem_replicate]
      rfl
/-- The great disk: a tape that is full. -/
theorem great_no (F x : ByteArray) (hF : F.size = 1048576) (hx : x.size = 1) : loadE 1073741824 [⟨F, x⟩] = 40 := by
  unfold loadE
  rw [if_neg (by simp), if_pos (by simp [tooLong, hF, hx])]
theorem great_used (F : ByteArray) (hF : F.size = 1048576) : (made0 1073741824 [⟨F, ⟨#[]⟩⟩]).used = 1048576 := by
  have e0 : (made0 1073741824 [⟨F, ⟨#[]⟩⟩]).T 0 = ⟨F ++ ⟨#[]⟩, F.size⟩ := rfl
  have e1 : ∀ j, (made0 1073741824 [⟨F, ⟨#[]⟩⟩]).T (j + 1) = t0 := fun j => rfl
  have key : ∀ n, sumT (made0 1073741824 [⟨F, ⟨#[]⟩⟩]).T (n + 1) = 1048576 := fun n => by
    induction n with
    | zero =>
      show 0 + ((made0 1073741824 [⟨F, ⟨#[]⟩⟩]).T 0).s.size = _
      rw [e0]
      show 0 + (F ++ ⟨#[]⟩).size = _
      rw [ByteArray.size_append, hF]
      rfl
    | succ n ih =>
      show sumT _ (n + 1) + ((made0 1073741824 [⟨F, ⟨#[]⟩⟩]).T (n + 1)).s.size = _
      rw [ih, e1]
      rfl
  exact key 31
theorem great_ok (F : ByteArray) (hF : F.size = 1048576) : loadE 1073741824 [⟨F, ⟨#[]⟩⟩] = 0 := by
  unfold loadE
  have h := great_used F hF
  rw [if_neg (by simp), if_neg (by simp [tooLong, hF]; rfl), if_neg (by show ¬ (1073741824 < (made0 1073741824 [⟨F, ⟨#[]⟩⟩]).used); rw [h]; decide)]
theorem doD_plain {d : Dk} (h1 : d.dn = false) (h2 : d.dm = false) (t : Nat) (ht : t < 32) (torn : Bool) (g : Tp → Tp × Nat) : doD d t torn g = if (g (d.T t)).2 ≠ 0 then (d, (g (d.T t)).2) else ({ d with T := upd d.T t (g (d.T t)).1 }, 0) := by
  have hr : res d (t : Int) g = g (d.T t) := by unfold res; rw [if_pos (by omega), Int.toNat_natCast]
  unfold doD
  rw [if_neg (by rw [h1]; decide), if_neg (fun h => by rw [h2] at h; exact absurd h.1 (by decide)), hr, Int.toNat_natCast]
  by_cases hz : (g (d.T t)).2 ≠ 0
  · rw [if_pos hz, if_pos hz]
  · rw [if_neg hz, if_neg hz, if_neg (by rw [h2]; decide)]
def gr0 (F : ByteArray) : Dk := made0 1073741824 [⟨F, ⟨#[]⟩⟩]
def gr1 (F : ByteArray) : Dk := (doD (gr0 F) 0 true (wf (gr0 F) ⟨#[]⟩)).1
def gr2 (F : ByteArray) : Dk := (doD (gr1 F) 1 true (wf (gr1 F) F)).1
theorem gr0_ok (F : ByteArray) (hF : F.size = 1048576) : (gr0 F).ok := made0_ok (by decide) (great_ok F hF)
theorem gr1_ok (F : ByteArray) (hF : F.size = 1048576) : (gr1 F).ok := doD_ok (gr0_ok F hF) _ _ (fine_wf (gr0_ok F hF) _)
theorem gr2_ok (F : ByteArray) (hF : F.size = 1048576) : (gr2 F).ok := doD_ok (gr1_ok F hF) _ _ (fine_wf (gr1_ok F hF) _)
theorem gr0_T (F : ByteArray) : (gr0 F).T 0 = ⟨F ++ ⟨#[]⟩, F.size⟩ := rfl
theorem gr_x (F x : ByteArray) (hF : F.size = 1048576) (hx : x.size = 1) : doD (gr0 F) 0 true (wf (gr0 F) x) = (gr0 F, 40) := by
  have hz : (F ++ ⟨#[]⟩).size = 1048576 := by rw [ByteArray.size_append, hF]; rfl
  have hw : wf (gr0 F) x ((gr0 F).T 0) = (t0, 40) := by
    unfold wf wr
    rw [gr0_T]
    dsimp only
    rw [hz, hx, if_pos (show 1048576 < 1 + 1048576 by decide), if_neg (by simp)]
  have := doD_plain (d := gr0 F) rfl rfl 0 (by decide) true (wf (gr0 F) x)
  rw [hw, if_pos (by decide)] at this
  exact this
theorem gr_0 (F : ByteArray) (hF : F.size = 1048576) : doD (gr0 F) 0 true (wf (gr0 F) ⟨#[]⟩) = ({ gr0 F with T := upd (gr0 F).T 0 ⟨F ++ ⟨#[]⟩ ++ ⟨#[]⟩, F.size⟩ }, 0) := by
  have hz : (F ++ ⟨#[]⟩).size = 1048576 := by rw [ByteArray.size_append, hF]; rfl
  have hu : (gr0 F).used = 1048576 := great_used F hF
  have hc : (gr0 F).cap = 1073741824 := rfl
  have hw : wf (gr0 F) ⟨#[]⟩ ((gr0 F).T 0) = (⟨F ++ ⟨#[]⟩ ++ ⟨#[]⟩, F.size⟩, 0) := by
    unfold wf wr
    rw [gr0_T, hu, hc]
    dsimp only
    rw [hz, if_neg (show ¬ 1048576 < (⟨#[]⟩ : ByteArray).size + 1048576 by decide), if_neg (by intro h; exact absurd h.2 (by decide))]
  have := doD_plain (d := gr0 F) rfl rfl 0 (by decide) true (wf (gr0 F) ⟨#[]⟩)
  rw [hw, if_neg (by simp)] at this
  exact this
theorem gr1_eq (F : ByteArray) (hF : F.size = 1048576) : gr1 F = { gr0 F with T := upd (gr0 F).T 0 ⟨F ++ ⟨#[]⟩ ++ ⟨#[]⟩, F.size⟩ } := by unfold gr1; rw [gr_0 F hF]
theorem gr1_used (F : ByteArray) (hF : F.size = 1048576) : (gr1 F).used = 1048576 := by
  rw [gr1_eq F hF]
  have hz : (F ++ ⟨#[]⟩).size = 1048576 := by rw [ByteArray.size_append, hF]; rfl
  have hz2 : (F ++ ⟨#[]⟩ ++ ⟨#[]⟩).size = 1048576 := by rw [ByteArray.size_append, hz]; rfl
  have h := sumT_upd (gr0 F).T 0 ⟨F ++ ⟨#[]⟩ ++ ⟨#[]⟩, F.size⟩ 32 (by decide)
  rw [gr0_T] at h
  dsimp only at h
  rw [hz, hz2] at h
  have hu : sumT (gr0 F).T 32 = 1048576 := great_used F hF
  show sumT (upd (gr0 F).T 0 _) 32 = _
  omega
theorem gr_1 (F : ByteArray) (hF : F.size = 1048576) : doD (gr1 F) 1 true (wf (gr1 F) F) = ({ gr1 F with T := upd (gr1 F).T 1 ⟨⟨#[]⟩ ++ F, 0⟩ }, 0) := by
  have hu := gr1_used F hF
  have hc : (gr1 F).cap = 1073741824 := by rw [gr1_eq F hF]; rfl
  have h1 : (gr1 F).T 1 = t0 := by rw [gr1_eq F hF]; rfl
  have hdn : (gr1 F).dn = false := by rw [gr1_eq F hF]; rfl
  have hdm : (gr1 F).dm = false := by rw [gr1_eq F hF]; rfl
  have hw : wf (gr1 F) F ((gr1 F).T 1) = (⟨⟨#[]⟩ ++ F, 0⟩, 0) := by
    have hwr : wr t0 F = (⟨⟨#[]⟩ ++ F, 0⟩, 0) := by
      unfold wr
      rw [if_neg (by rw [hF]; decide)]
      rfl
    unfold wf
    rw [h1, hwr, if_neg (fun h => by rw [hu, hc, hF] at h; exact absurd h.2 (by decide))]
  have := doD_plain (d := gr1 F) hdn hdm 1 (by decide) true (wf (gr1 F) F)
  rw [hw, if_neg (by simp)] at this
  exact this
theorem gr2_used (F : ByteArray) (hF : F.size = 1048576) : (gr2 F).used = 2097152 := by
  unfold gr2
  rw [gr_1 F hF]
  have h1 : (gr1 F).T 1 = t0 := by rw [gr1_eq F hF]; rfl
  have hz : ((⟨#[]⟩ : ByteArray) ++ F).size = 1048576 := by rw [ByteArray.size_append, hF]; rfl
  have h := sumT_upd (gr1 F).T 1 ⟨⟨#[]⟩ ++ F, 0⟩ 32 (by decide)
  rw [h1] at h
  dsimp only [t0] at h
  rw [hz] at h
  have hu : sumT (gr1 F).T 32 = 1048576 := gr1_used F hF
  have h0 : (⟨#[]⟩ : ByteArray).size = 0 := rfl
  show sumT (upd (gr1 F).T 1 _) 32 = _
  omega
end Go.Proofs.Yticponohbnkgdaa
