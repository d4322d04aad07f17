/- The contracts of the document's reader, over the seat's own program. -/
import Derived.Test.YtpcpbdcdapmlnaaDoorRd
import Derived.Test.YtpcpbdcdapmlnaaDoorSu
import Derived.Test.YtpcpbdcdapmlnaaDoorRv
namespace Go.Proofs.YtpcpbdcdapmlnaaDoor
open Go.RowKit
theorem RdAt.alloc {w : World} {b : Nat} {s : ByteArray} {a e : Int} (h : RdAt w b s a e) (o : Obj) : RdAt (w.alloc o) b s a e := h.congr (Below.heap_alloc w o b h.lt)
theorem grown_alloc {w w' : World} {b : Nat} {o : Obj} (h : (w.alloc o).grownBy w' (some b)) : w.grownBy w' (some b) :=
  ⟨h.os, h.tape, h.output, Nat.le_trans (by simp) h.size, fun k hk hne => (h.block k (by simp; omega) hne).trans (Below.heap_alloc w o k hk)⟩
/-- A method's contract at one state of the reader. -/
def Meth (f : Nat) (args : List Value) (s : ByteArray) (a e : Int) (v : Value) (a' e' : Int) : Prop :=
  ∀ (w : World) (b : Nat), RdAt w b s a e → Calls Tryd.prog f (.pointer (some ⟨b, 0, none⟩) :: args).toArray w (RdRet w b s v a' e')
/-- What a varint's place tells: a number, or an error. -/
theorem uv_cases (s : ByteArray) (a : Nat) (ha : a ≤ s.size) (hs : s.size ≤ 140737488351232) :
    (∃ N C : Nat, Bt.rd (s.data.toList.drop a) 0 0 = (N, C, 0) ∧ TellsU 87 #[.string s, .int .i64 a] N ((a + C : Nat) : Int) 0 ∧ N ≤ 18446744073709551615 ∧ 1 ≤ C ∧ a + C ≤ s.size) ∨
    (∃ K : Nat, Bt.rd (s.data.toList.drop a) 0 0 = (0, 0, K) ∧ K ≠ 0 ∧ TellsU 87 #[.string s, .int .i64 a] 0 0 K) := by
  have hf := Bt.rd_facts (s.data.toList.drop a) 0 0 (by omega) (by simp)
  have hl : (s.data.toList.drop a).length = s.size - a := by simp
  rcases hr : Bt.rd (s.data.toList.drop a) 0 0 with ⟨N, C, K⟩
  rw [hr] at hf
  simp only at hf
  by_cases hK : K = 0
  · subst hK
    have h2 := hf.2.1 rfl
    exact .inl ⟨N, C, rfl, fun w => uvarint_ok s a w ha hs N C _ hr rfl, by omega, by omega, by omega⟩
  · have hz : N = 0 ∧ C = 0 := by
      rcases hf.2.2 with h | h | h
      · exact absurd h hK
      · simp at h; omega
      · simp at h; omega
    obtain ⟨rfl, rfl⟩ := hz
    exact .inr ⟨K, rfl, hK, fun w => uvarint_no s a w ha hs K hK hr⟩
theorem ne0 {k : Nat} (h : k ≠ 0) : ((k : Int) != 0) = true := by rw [bne_iff_ne]; omega
theorem eq0 {k : Nat} (h : k ≠ 0) : ((k : Int) == 0) = false := by rw [beq_eq_false_iff_ne]; omega
set_option maxRecDepth 100000 in
set_option maxHeartbeats 400000 in
theorem wrong_any (b : Nat) (s : ByteArray) (a e k : Int) (w : World) (h : RdAt w b s a e) :
    Calls Tryd.prog 81 #[.pointer (some ⟨b, 0, none⟩), .int .i64 k] w fun en w' => en = .returned (.tuple #[]) ∧ w.setCell ⟨b, 2, none⟩ (.int .i64 k) = w' := by
  have c2 := h.c2
  have f2 := h.f2
  clear h
  go_enter Tryd.func81, Tryd.ntmps81
  go_wp2
  go_end0
  exact ⟨rfl, rfl⟩
set_option maxRecDepth 100000 in
set_option maxHeartbeats 400000 in
theorem qvarint_ok (b : Nat) (s : ByteArray) (a : Int) (most : Int) (n : Int) (x : Int) (w : World) (h : RdAt w b s a 0) (hm : n ≤ most)
    (hT : TellsU 80 #[.string s, .int .i64 a] n x 0) :
    Calls Tryd.prog 59 #[.pointer (some ⟨b, 0, none⟩), .int .u64 most] w (RdRet w b s (.int .u64 n) x 0) := by
  have c0 := h.c0
  have c1 := h.c1
  have c2 := h.c2
  have f1 := h.f1
  have H := Lib.hid h
  have T := Lib.hid hT
  clear h hT
  go_enter Tryd.func59, Tryd.ntmps59
  go_wp2
  go_quiet ((go_at_call 80; exact Calls.quiet_of_same ((T.out _).mono fun _ _ h => ⟨h.1, h.2.symm⟩)))
  rename_i nq
  have c1' := (H.out.drewN nq).c1
  have f1' := (H.out.drewN nq).f1
  go_wp2
  go_ret
  exact ⟨rfl, (H.out.drewN _).at, grown_set _ _ _ _ _⟩
set_option maxRecDepth 100000 in
set_option maxHeartbeats 400000 in
theorem qvarint_no (b : Nat) (s : ByteArray) (a : Int) (most : Int) (k : Int) (w : World) (h : RdAt w b s a 0) (hk : (k != 0) = true)
    (hT : TellsU 80 #[.string s, .int .i64 a] 0 0 k) :
    Calls Tryd.prog 59 #[.pointer (some ⟨b, 0, none⟩), .int .u64 most] w (RdRet w b s (.int .u64 0) a k) := by
  have c0 := h.c0
  have c1 := h.c1
  have c2 := h.c2
  have f1 := h.f1
  have H := Lib.hid h
  have T := Lib.hid hT
  clear h hT
  go_enter Tryd.func59, Tryd.ntmps59
  go_wp2
  go_quiet ((go_at_call 80; exact Calls.quiet_of_same ((T.out _).mono fun _ _ h => ⟨h.1, h.2.symm⟩)))
  rename_i nq
  have c1' := (H.out.drewN nq).c1
  have f1' := (H.out.drewN nq).f1
  go_wp2_with (go_at_call 81; refine (wrong_any b s a 0 _ _ (H.out.drewN nq)).mono ?_; rintro e1 w' ⟨rfl, rfl⟩)
  go_ret
  exact ⟨rfl, (H.out.drewN _).err, grown_set _ _ _ _ _⟩
set_option maxRecDepth 100000 in
set_option maxHeartbeats 400000 in
theorem qvarint_big (b : Nat) (s : ByteArray) (a : Int) (most : Int) (n x : Int) (w : World) (h : RdAt w b s a 0) (hm : most < n)
    (hT : TellsU 80 #[.string s, .int .i64 a] n x 0) :
    Calls Tryd.prog 59 #[.pointer (some ⟨b, 0, none⟩), .int .u64 most] w (RdRet w b s (.int .u64 0) a 40) := by
  have c0 := h.c0
  have c1 := h.c1
  have c2 := h.c2
  have f1 := h.f1
  have H := Lib.hid h
  have T := Lib.hid hT
  clear h hT
  go_enter Tryd.func59, Tryd.ntmps59
  go_wp2
  go_quiet ((go_at_call 80; exact Calls.quiet_of_same ((T.out _).mono fun _ _ h => ⟨h.1, h.2.symm⟩)))
  rename_i nq
  have c1' := (H.out.drewN nq).c1
  have f1' := (H.out.drewN nq).f1
  go_wp2_with (first | (go_at_call 81; refine (wrong_any b s a 0 _ _ (H.out.drewN nq)).mono ?_; rintro e1 w' ⟨rfl, rfl⟩))
  go_ret
  exact ⟨rfl, (H.out.drewN _).err, grown_set _ _ _ _ _⟩
set_option maxRecDepth 100000 in
set_option maxHeartbeats 400000 in
theorem qvarint_err (b : Nat) (s : ByteArray) (a e : Int) (most : Int) (w : World) (h : RdAt w b s a e) (he : (e != 0) = true) :
    Calls Tryd.prog 59 #[.pointer (some ⟨b, 0, none⟩), .int .u64 most] w (RdRet w b s (.int .u64 0) a e) := by
  have c2 := h.c2
  have H := Lib.hid h
  clear h
  go_enter Tryd.func59, Tryd.ntmps59
  go_wp2
  go_ret
  exact ⟨rfl, H.out, World.grownBy.refl w _⟩
theorem grown_trans2 {w w1 w2 : World} {b : Nat} (h : w.grownBy w1 (some b)) (k : w1.grownBy w2 (some b)) : w.grownBy w2 (some b) :=
  ⟨k.os.trans h.os, k.tape.trans h.tape, k.output.trans h.output, Nat.le_trans h.size k.size, fun i hi hne => (k.block i (Nat.lt_of_lt_of_le hi h.size) hne).trans (h.block i hi hne)⟩
end Go.Proofs.YtpcpbdcdapmlnaaDoor
