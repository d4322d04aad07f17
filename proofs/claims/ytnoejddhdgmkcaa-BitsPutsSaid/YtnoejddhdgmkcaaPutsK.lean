/- BitsPuts: what is known of the calls of the law's last statement. -/
import Derived.Test.YtnoejddhdgmkcaaAw
import Derived.Test.YtnoejddhdgmkcaaRv
import Derived.WalkKit
import Derived.ProofKit
import Derived.OpenShut
import Derived.ShutString
namespace Go.Proofs.Ytnoejddhdgmkcaa.bitsPuts
open Go.ChangeShapes Go.WideShapes Go.ChangeAt Go.RowKit
open Go.ChangeMaps (open_string shut_string)
set_option linter.unusedVariables false
/-- A call has handed back bytes; they are made into the string s, now and later; nothing that was there at w has turned. -/
def Bytes (w : World) (s : ByteArray) (e : Ending) (w' : World) : Prop :=
  ∃ v', e = .returned v' ∧ (∀ w'', Below w'.heap.size w' w'' → Sem.run Try.prog (convert 41 9 v') w'' = .ok (.string s) w'') ∧ Below w.heap.size w w'
theorem bytes_of {w W : World} (hB : Below w.heap.size w W) (a : ByteArray) (ha : a.size ≤ 140737488351232) {l : List UInt8} {s : ByteArray} (hs : bs (a.data.toList ++ l) = s) {e : Ending} {w' : World}
    (h : OwnRet (Lib.bytesWorld W 5 a) W.heap.size (.slice (some ⟨W.heap.size, 0, none⟩) a.size (grownCap W a.size 0 5)) (a.data.toList ++ l) e w') : Bytes w s e w' := by
  obtain ⟨v', rfl, hO, hS⟩ := h
  refine ⟨v', rfl, fun w'' hb => ?_, ?_⟩
  · have := run_string_Own (P := Try.prog) w'' W.heap.size 41 9 5 v' _ (hO.below hb (fun k hk => (hO.lt k hk).2)) Try.underlying41 Try.underlying5 Try.underlying9
    rw [← hs]; exact this
  · have h0 := Own.ofString W W.heap.size 5 a (Nat.le_refl _) ha
    have h1 : Below w.heap.size W (Lib.bytesWorld W 5 a) := (Below.refl _ W).grown h0.2 hB.size (fun k hk => by cases hk)
    have h2 : Below w.heap.size (Lib.bytesWorld W 5 a) w' := hS.below (Nat.le_trans hB.size h0.2.size) (fun k hk => by
      simp [Value.ownBlock] at hk
      have := hB.size; omega)
    exact (hB.trans h1).trans h2
theorem put_b {w W : World} (hB : Below w.heap.size w W) (n : Nat) (hn : n ≤ 18446744073709551615) (a s : ByteArray) (ha : a.size ≤ 3000) (hs : bs (a.data.toList ++ Bt.vint n) = s) :
    Calls Try.prog 28 #[.slice (some ⟨W.heap.size, 0, none⟩) a.size (grownCap W a.size 0 5), .int .u64 n] (Lib.bytesWorld W 5 a) (Bytes w s) :=
  (put_own n hn W.heap.size _ a.data.toList _ (Own.ofString W W.heap.size 5 a (Nat.le_refl _) (by omega)).1 (by rw [Lib.bytesWorld_size]; omega) (by simp; omega)).mono fun _ _ h => bytes_of hB a (by omega) hs h
theorem text_b {w W : World} (hB : Below w.heap.size w W) (t a s : ByteArray) (ha : a.size ≤ 3000) (ht : t.size ≤ 3000) (hs : bs (a.data.toList ++ (Bt.vint t.size ++ t.data.toList)) = s) :
    Calls Try.prog 35 #[.slice (some ⟨W.heap.size, 0, none⟩) a.size (grownCap W a.size 0 5), .string t] (Lib.bytesWorld W 5 a) (Bytes w s) :=
  (putText_own t (by omega) W.heap.size _ a.data.toList _ (Own.ofString W W.heap.size 5 a (Nat.le_refl _) (by omega)).1 (by rw [Lib.bytesWorld_size]; omega) (by simp; omega)).mono fun _ _ h => bytes_of hB a (by omega) hs h
/-- What PutFixed puts, by the size: the same as the document's. -/
def fxz (z : Int) (n : Nat) : List UInt8 := if z = 4 then Bt.fx 4 n else if z = 8 then Bt.fx 8 n else []
theorem fixed_b {w W : World} (hB : Below w.heap.size w W) (n : Nat) (z : Int) (hn : n ≤ 18446744073709551615) (a s : ByteArray) (ha : a.size ≤ 3000) (hs : bs (a.data.toList ++ fxz z n) = s) :
    Calls Try.prog 34 #[.slice (some ⟨W.heap.size, 0, none⟩) a.size (grownCap W a.size 0 5), .int .u64 n, .int .i64 z] (Lib.bytesWorld W 5 a) (Bytes w s) := by
  have hO := (Own.ofString W W.heap.size 5 a (Nat.le_refl _) (by omega)).1
  have hb : W.heap.size ≤ (Lib.bytesWorld W 5 a).heap.size := by rw [Lib.bytesWorld_size]; omega
  have hl : a.data.toList.length ≤ 140737488355000 := by simp; omega
  unfold fxz at hs
  by_cases h4 : z = 4
  · subst h4
    rw [if_pos rfl] at hs
    exact (putFixed_4 n W.heap.size _ a.data.toList _ hO hb hl).mono fun _ _ h => bytes_of hB a (by omega) hs h
  · by_cases h8 : z = 8
    · subst h8
      rw [if_neg (by omega), if_pos rfl] at hs
      exact (putFixed_8 n hn W.heap.size _ a.data.toList _ hO hb hl).mono fun _ _ h => bytes_of hB a (by omega) hs h
    · rw [if_neg h4, if_neg h8] at hs
      refine (putFixed_no n z (by rw [beq_eq_false_iff_ne]; exact h4) (by rw [beq_eq_false_iff_ne]; exact h8) W.heap.size _ a.data.toList _ hO).mono fun _ _ h => bytes_of (l := []) hB a (by omega) hs (by rw [List.append_nil]; exact h)

/-- The region of the law: its calls by what is known of them. -/
structure Knows (w : World) (a sv sf st : ByteArray) (n : Nat) (i z zi zn : Int) (t : ByteArray) : Prop where
  p1 : ∀ (W : World) (g : Nat), g = W.heap.size → Below w.heap.size w W → Calls Try.prog 28 #[.slice (some ⟨g, 0, none⟩) a.size (grownCap W a.size 0 5), .int .u64 n] (Lib.bytesWorld W 5 a) (Bytes w (a ++ sv))
  p2 : ∀ (W : World) (g : Nat), g = W.heap.size → Below w.heap.size w W → Calls Try.prog 34 #[.slice (some ⟨g, 0, none⟩) a.size (grownCap W a.size 0 5), .int .u64 n, .int .i64 z] (Lib.bytesWorld W 5 a) (Bytes w (a ++ sf))
  p3 : ∀ (W : World) (g : Nat), g = W.heap.size → Below w.heap.size w W → Calls Try.prog 35 #[.slice (some ⟨g, 0, none⟩) a.size (grownCap W a.size 0 5), .string t] (Lib.bytesWorld W 5 a) (Bytes w (a ++ st))
  q1 : ∀ W, Calls Try.prog 29 #[.int .u64 n] W fun e w' => e = .returned (.string sv) ∧ Below W.heap.size W w'
  q2 : ∀ W, Calls Try.prog 13 #[.int .u64 n] W fun e w' => e = .returned (.int .i64 sv.size) ∧ W = w'
  q4 : ∀ W, Calls Try.prog 36 #[.string t] W fun e w' => e = .returned (.string st) ∧ Below W.heap.size W w'
  z0 : ∀ W, Calls Try.prog 30 #[.int .i64 i] W fun e w' => e = .returned (.int .u64 zi) ∧ W = w'
  z1 : ∀ W, Calls Try.prog 31 #[.int .i64 i] W fun e w' => e = .returned (.int .u64 zi) ∧ W = w'
  z2 : ∀ W, Calls Try.prog 32 #[.int .u64 n] W fun e w' => e = .returned (.int .i64 zn) ∧ W = w'
  z3 : ∀ W, Calls Try.prog 33 #[.int .u64 n] W fun e w' => e = .returned (.int .i64 zn) ∧ W = w'
theorem Bytes.use {w : World} {s : ByteArray} {e : Ending} {w' : World} (h : Bytes w s e w') : ∃ v', e = .returned v' ∧ (∀ w'', Below w'.heap.size w' w'' → Sem.run Try.prog (convert 41 9 v') w'' = .ok (.string s) w'') ∧ Below w.heap.size w w' := h

end Go.Proofs.Ytnoejddhdgmkcaa.bitsPuts
