/- The contracts of the document's reader, over the seat's own program. -/
import Derived.Test.YtjhgmlhoefakpaaDoorRd
import Derived.Test.YtjhgmlhoefakpaaDoorSu
import Derived.Test.YtjhgmlhoefakpaaDoorRv
namespace Go.Proofs.YtjhgmlhoefakpaaDoor
open Go.RowKit
theorem RdAt.alloc {w : World} {b : Nat} {s : ByteArray} {a e : Int} (h : RdAt w b s a e) (o : Obj) : RdAt (w.alloc o) b s a e := h.congr (Below.heap_alloc w o b h.lt)
theorem grown_alloc {w w' : World} {b : Nat} {o : Obj} (h : (w.alloc o).grownBy w' (some b)) : w.grownBy w' (some b) :=
  ⟨h.os, h.tape, h.output, Nat.le_trans (by simp) h.size, fun k hk hne => (h.block k (by simp; omega) hne).trans (Below.heap_alloc w o k hk)⟩
/-- A method's contract at one state of the reader. -/
def Meth (f : Nat) (args : List Value) (s : ByteArray) (a e : Int) (v : Value) (a' e' : Int) : Prop :=
  ∀ (w : World) (b : Nat), RdAt w b s a e → Calls Tryd.prog f (.pointer (some ⟨b, 0, none⟩) :: args).toArray w (RdRet w b s v a' e')
/-- What a varint's place tells: a number, or an error. -/
theorem uv_cases (s : ByteArray) (a : Nat) (ha : a ≤ s.size) (hs : s.size ≤ 140737488351232) :
    (∃ N C : Nat, Bt.rd (s.data.toList.drop a) 0 0 = (N, C, 0) ∧ TellsU 110 #[.string s, .int .i64 a] N ((a + C : Nat) : Int) 0 ∧ N ≤ 18446744073709551615 ∧ 1 ≤ C ∧ a + C ≤ s.size) ∨
    (∃ K : Nat, Bt.rd (s.data.toList.drop a) 0 0 = (0, 0, K) ∧ K ≠ 0 ∧ TellsU 110 #[.string s, .int .i64 a] 0 0 K) := by
  have hf := Bt.rd_facts (s.data.toList.drop a) 0 0 (by omega) (by simp)
  have hl : (s.data.toList.drop a).length = s.size - a := by simp
  rcases hr : Bt.rd (s.data.toList.drop a) 0 0 with ⟨N, C, K⟩
  rw [hr] at hf
  simp only at hf
  by_cases hK : K = 0
  · subst hK
    have h2 := hf.2.1 rfl
    exact .inl ⟨N, C, rfl, fun w => uvarint_ok s a w ha hs N C _ hr rfl, by omega, by omega, by omega⟩
  · have hz : N = 0 ∧ C = 0 := by
      rcases hf.2.2 with h | h | h
      · exact absurd h hK
      · simp at h; omega
      · simp at h; omega
    obtain ⟨rfl, rfl⟩ := hz
    exact .inr ⟨K, rfl, hK, fun w => uvarint_no s a w ha hs K hK hr⟩
theorem ne0 {k : Nat} (h : k ≠ 0) : ((k : Int) != 0) = true := by rw [bne_iff_ne]; omega
theorem eq0 {k : Nat} (h : k ≠ 0) : ((k : Int) == 0) = false := by rw [beq_eq_false_iff_ne]; omega
set_option maxRecDepth 100000 in
set_option maxHeartbeats 400000 in
theorem wrong_any (b : Nat) (s : ByteArray) (a e k : Int) (w : World) (h : RdAt w b s a e) :
    Calls Tryd.prog 72 #[.pointer (some ⟨b, 0, none⟩), .int .i64 k] w fun en w' => en = .returned (.tuple #[]) ∧ w.setCell ⟨b, 2, none⟩ (.int .i64 k) = w' := by
  have c2 := h.c2
  have f2 := h.f2
  clear h
  go_enter Tryd.func72, Tryd.ntmps72
  go_wp2
  go_end0
  exact ⟨rfl, rfl⟩
set_option maxRecDepth 100000 in
set_option maxHeartbeats 400000 in
theorem qvarint_ok (b : Nat) (s : ByteArray) (a : Int) (most : Int) (n : Int) (x : Int) (w : World) (h : RdAt w b s a 0) (hm : n ≤ most)
    (hT : TellsU 85 #[.string s, .int .i64 a] n x 0) :
    Calls Tryd.prog 71 #[.pointer (some ⟨b, 0, none⟩), .int .u64 most] w (RdRet w b s (.int .u64 n) x 0) := by
  have c0 := h.c0
  have c1 := h.c1
  have c2 := h.c2
  have f1 := h.f1
  have H := Lib.hid h
  have T := Lib.hid hT
  clear h hT
  go_enter Tryd.func71, Tryd.ntmps71
  go_wp2
  go_quiet ((go_at_call 85; exact Calls.quiet_of_same ((T.out _).mono fun _ _ h => ⟨h.1, h.2.symm⟩)))
  rename_i nq
  have c1' := (H.out.drewN nq).c1
  have f1' := (H.out.drewN nq).f1
  go_wp2
  go_ret
  exact ⟨rfl, (H.out.drewN _).at, grown_set _ _ _ _ _⟩
set_option maxRecDepth 100000 in
set_option maxHeartbeats 400000 in
theorem qvarint_no (b : Nat) (s : ByteArray) (a : Int) (most : Int) (k : Int) (w : World) (h : RdAt w b s a 0) (hk : (k != 0) = true)
    (hT : TellsU 85 #[.string s, .int .i64 a] 0 0 k) :
    Calls Tryd.prog 71 #[.pointer (some ⟨b, 0, none⟩), .int .u64 most] w (RdRet w b s (.int .u64 0) a k) := by
  have c0 := h.c0
  have c1 := h.c1
  have c2 := h.c2
  have f1 := h.f1
  have H := Lib.hid h
  have T := Lib.hid hT
  clear h hT
  go_enter Tryd.func71, Tryd.ntmps71
  go_wp2
  go_quiet ((go_at_call 85; exact Calls.quiet_of_same ((T.out _).mono fun _ _ h => ⟨h.1, h.2.symm⟩)))
  rename_i nq
  have c1' := (H.out.drewN nq).c1
  have f1' := (H.out.drewN nq).f1
  go_wp2_with (go_at_call 72; refine (wrong_any b s a 0 _ _ (H.out.drewN nq)).mono ?_; rintro e1 w' ⟨rfl, rfl⟩)
  go_ret
  exact ⟨rfl, (H.out.drewN _).err, grown_set _ _ _ _ _⟩
set_option maxRecDepth 100000 in
set_option maxHeartbeats 400000 in
theorem qvarint_big (b : Nat) (s : ByteArray) (a : Int) (most : Int) (n x : Int) (w : World) (h : RdAt w b s a 0) (hm : most < n)
    (hT : TellsU 85 #[.string s, .int .i64 a] n x 0) :
    Calls Tryd.prog 71 #[.pointer (some ⟨b, 0, none⟩), .int .u64 most] w (RdRet w b s (.int .u64 0) a 40) := by
  have c0 := h.c0
  have c1 := h.c1
  have c2 := h.c2
  have f1 := h.f1
  have H := Lib.hid h
  have T := Lib.hid hT
  clear h hT
  go_enter Tryd.func71, Tryd.ntmps71
  go_wp2
  go_quiet ((go_at_call 85; exact Calls.quiet_of_same ((T.out _).mono fun _ _ h => ⟨h.1, h.2.symm⟩)))
  rename_i nq
  have c1' := (H.out.drewN nq).c1
  have f1' := (H.out.drewN nq).f1
  go_wp2_with (first | (go_at_call 72; refine (wrong_any b s a 0 _ _ (H.out.drewN nq)).mono ?_; rintro e1 w' ⟨rfl, rfl⟩))
  go_ret
  exact ⟨rfl, (H.out.drewN _).err, grown_set _ _ _ _ _⟩
set_option maxRecDepth 100000 in
set_option maxHeartbeats 400000 in
theorem qvarint_err (b : Nat) (s : ByteArray) (a e : Int) (most : Int) (w : World) (h : RdAt w b s a e) (he : (e != 0) = true) :
    Calls Tryd.prog 71 #[.pointer (some ⟨b, 0, none⟩), .int .u64 most] w (RdRet w b s (.int .u64 0) a e) := by
  have c2 := h.c2
  have H := Lib.hid h
  clear h
  go_enter Tryd.func71, Tryd.ntmps71
  go_wp2
  go_ret
  exact ⟨rfl, H.out, World.grownBy.refl w _⟩
set_option maxRecDepth 100000 in
set_option maxHeartbeats 400000 in
theorem qraw_err (b : Nat) (s : ByteArray) (a e z : Int) (w : World) (h : RdAt w b s a e) (he : (e != 0) = true) :
    Calls Tryd.prog 73 #[.pointer (some ⟨b, 0, none⟩), .int .i64 z] w (RdRet w b s (.string ⟨#[]⟩) a e) := by
  have c2 := h.c2
  have H := Lib.hid h
  clear h
  go_enter Tryd.func73, Tryd.ntmps73
  go_wp2
  go_ret
  exact ⟨rfl, H.out, World.grownBy.refl w _⟩
set_option maxRecDepth 100000 in
set_option maxHeartbeats 400000 in
theorem qraw_arg (b : Nat) (s : ByteArray) (a z : Int) (w : World) (h : RdAt w b s a 0) (hz : z < 0) :
    Calls Tryd.prog 73 #[.pointer (some ⟨b, 0, none⟩), .int .i64 z] w (RdRet w b s (.string ⟨#[]⟩) a 1) := by
  have c2 := h.c2
  have H := Lib.hid h
  clear h
  go_enter Tryd.func73, Tryd.ntmps73
  go_wp2_with (go_at_call 72; refine (wrong_any b s a 0 _ _ H.out).mono ?_; rintro e1 w' ⟨rfl, rfl⟩)
  go_ret
  exact ⟨rfl, H.out.err, grown_set w 0 _ _ _⟩
set_option maxRecDepth 100000 in
set_option maxHeartbeats 400000 in
theorem qraw_short (b : Nat) (s : ByteArray) (a : Nat) (z : Int) (w : World) (h : RdAt w b s a 0) (hz : 0 ≤ z) (ha : a ≤ s.size) (hl : (s.size : Int) - (a : Int) < z) (hs : s.size ≤ 140737488351232) :
    Calls Tryd.prog 73 #[.pointer (some ⟨b, 0, none⟩), .int .i64 z] w (RdRet w b s (.string ⟨#[]⟩) a 8) := by
  have c0 := h.c0
  have c1 := h.c1
  have c2 := h.c2
  have H := Lib.hid h
  clear h
  go_enter Tryd.func73, Tryd.ntmps73
  go_wp2
  go_quiet (fail)
  rename_i nq
  go_wp2_with (go_at_call 72; refine (wrong_any b s a 0 _ _ (H.out.drewN nq)).mono ?_; rintro e1 w' ⟨rfl, rfl⟩)
  go_ret
  exact ⟨rfl, (H.out.drewN _).err, grown_set _ _ _ _ _⟩
set_option maxRecDepth 100000 in
set_option maxHeartbeats 400000 in
theorem qraw_ok (b : Nat) (s : ByteArray) (a z : Nat) (w : World) (h : RdAt w b s a 0) (ha : a + z ≤ s.size) (hs : s.size ≤ 140737488351232) :
    Calls Tryd.prog 73 #[.pointer (some ⟨b, 0, none⟩), .int .i64 z] w (RdRet w b s (.string (s.extract a (a + z))) ((a + z : Nat) : Int) 0) := by
  have c0 := h.c0
  have c1 := h.c1
  have c2 := h.c2
  have f1 := h.f1
  have H := Lib.hid h
  clear h
  have g1 : (z : Int) ≤ (s.size : Int) - (a : Int) := by omega
  have g2 : IntKind.i64.wrap ((a : Int) + (z : Int)) = (a : Int) + (z : Int) := IntWalk.i64_in _ (by omega)
  have g3 : (0 : Int) ≤ (a : Int) + (z : Int) := by omega
  have g4 : (a : Int) ≤ (a : Int) + (z : Int) := by omega
  have g5 : (a : Int) + (z : Int) ≤ (s.size : Int) := by omega
  go_enter Tryd.func73, Tryd.ntmps73
  go_wp2
  go_quiet (fail)
  go_wp2
  go_quiet (fail)
  rename_i nq
  have c1' := (H.out.drewN nq).c1
  have f1' := (H.out.drewN nq).f1
  go_wp2
  go_ret
  exact ⟨rfl, (H.out.drewN _).at, grown_set _ _ _ _ _⟩
set_option maxRecDepth 100000 in
set_option maxHeartbeats 400000 in
theorem qtext_no (b : Nat) (s : ByteArray) (a z k : Int) (z0 : -9223372036854775808 ≤ z) (z1 : z ≤ 9223372036854775807) (w : World) (h : RdAt w b s a 0) (hk : (k != 0) = true)
    (hM : Meth 71 [.int .u64 (top z)] s a 0 (.int .u64 0) a k) :
    Calls Tryd.prog 54 #[.pointer (some ⟨b, 0, none⟩), .int .i64 z] w (RdRet w b s (.string ⟨#[]⟩) a k) := by
  have c1 := h.c1
  have H := Lib.hid h
  have M := Lib.hid hM
  clear h hM
  by_cases hz : 0 ≤ z
  · unfold top at M
    rw [if_pos hz] at M
    go_enter Tryd.func54, Tryd.ntmps54
    go_wp2_with (go_at_call 71; refine (M.out _ b H.out).mono ?_; rintro e1 w1 ⟨rfl, hR, hG⟩; have c2 := hR.c2; have R := Lib.hid hR; have G := Lib.hid hG; clear hR hG)
    go_ret
    exact ⟨rfl, R.out, G.out⟩
  · unfold top at M
    rw [if_neg hz] at M
    have hz' : z < 0 := by omega
    clear hz
    go_enter Tryd.func54, Tryd.ntmps54
    go_wp2_with (go_at_call 71; refine (M.out _ b H.out).mono ?_; rintro e1 w1 ⟨rfl, hR, hG⟩; have c2 := hR.c2; have R := Lib.hid hR; have G := Lib.hid hG; clear hR hG)
    go_ret
    exact ⟨rfl, R.out, G.out⟩
theorem grown_trans2 {w w1 w2 : World} {b : Nat} (h : w.grownBy w1 (some b)) (k : w1.grownBy w2 (some b)) : w.grownBy w2 (some b) :=
  ⟨k.os.trans h.os, k.tape.trans h.tape, k.output.trans h.output, Nat.le_trans h.size k.size, fun i hi hne => (k.block i (Nat.lt_of_lt_of_le hi h.size) hne).trans (h.block i hi hne)⟩
set_option maxRecDepth 100000 in
set_option maxHeartbeats 400000 in
theorem qtext_short (b : Nat) (s : ByteArray) (a z : Int) (n x : Nat) (z0 : -9223372036854775808 ≤ z) (z1 : z ≤ 9223372036854775807) (w : World) (h : RdAt w b s a 0) (hx : x ≤ s.size) (hn : s.size < x + n) (hn2 : n ≤ 9223372036854775807) (hs : s.size ≤ 140737488351232)
    (hM : Meth 71 [.int .u64 (top z)] s a 0 (.int .u64 n) x 0) :
    Calls Tryd.prog 54 #[.pointer (some ⟨b, 0, none⟩), .int .i64 z] w (RdRet w b s (.string ⟨#[]⟩) a 8) := by
  have c1 := h.c1
  have H := Lib.hid h
  have M := Lib.hid hM
  clear h hM
  have g1 : IntKind.i64.wrap ((s.size : Int) - (x : Int)) = (s.size : Int) - (x : Int) := IntWalk.i64_in _ (by omega)
  have g2 : IntKind.u64.wrap ((s.size : Int) - (x : Int)) = (s.size : Int) - (x : Int) := by rw [IntKind.wrap_u64]; omega
  have g3 : (s.size : Int) - (x : Int) < (n : Int) := by omega
  by_cases hz : 0 ≤ z
  · unfold top at M
    rw [if_pos hz] at M
    go_enter Tryd.func54, Tryd.ntmps54
    go_wp2_with (go_at_call 71; refine (M.out _ b H.out).mono ?_; rintro e1 w1 ⟨rfl, hR, hG⟩; have d0 := hR.c0; have d1 := hR.c1; have c2 := hR.c2; have R := Lib.hid hR; have G := Lib.hid hG; clear hR hG)
    go_quiet (fail)
    rename_i nq
    have f1 := (R.out.drewN nq).f1
    have e1 := (R.out.drewN nq).c1
    go_wp2_with (go_at_call 72; refine (wrong_any b s a 0 _ _ (R.out.drewN nq).at).mono ?_; rintro e1 w' ⟨rfl, rfl⟩)
    go_ret
    exact ⟨rfl, (R.out.drewN nq).at.err, grown_trans2 (grown_trans2 G.out (grown_set _ nq _ _ _)) (grown_set _ 0 _ _ _)⟩
  · unfold top at M
    rw [if_neg hz] at M
    have hz' : z < 0 := by omega
    clear hz
    go_enter Tryd.func54, Tryd.ntmps54
    go_wp2_with (go_at_call 71; refine (M.out _ b H.out).mono ?_; rintro e1 w1 ⟨rfl, hR, hG⟩; have d0 := hR.c0; have d1 := hR.c1; have c2 := hR.c2; have R := Lib.hid hR; have G := Lib.hid hG; clear hR hG)
    go_quiet (fail)
    rename_i nq
    have f1 := (R.out.drewN nq).f1
    have e1 := (R.out.drewN nq).c1
    go_wp2_with (go_at_call 72; refine (wrong_any b s a 0 _ _ (R.out.drewN nq).at).mono ?_; rintro e1 w' ⟨rfl, rfl⟩)
    go_ret
    exact ⟨rfl, (R.out.drewN nq).at.err, grown_trans2 (grown_trans2 G.out (grown_set _ nq _ _ _)) (grown_set _ 0 _ _ _)⟩
set_option maxRecDepth 100000 in
set_option maxHeartbeats 400000 in
theorem qtext_ok (b : Nat) (s : ByteArray) (a z : Int) (n x : Nat) (z0 : -9223372036854775808 ≤ z) (z1 : z ≤ 9223372036854775807) (w : World) (h : RdAt w b s a 0) (hx : x + n ≤ s.size) (hs : s.size ≤ 140737488351232)
    (hM : Meth 71 [.int .u64 (top z)] s a 0 (.int .u64 n) x 0) :
    Calls Tryd.prog 54 #[.pointer (some ⟨b, 0, none⟩), .int .i64 z] w (RdRet w b s (.string (s.extract x (x + n))) ((x + n : Nat) : Int) 0) := by
  have c1 := h.c1
  have H := Lib.hid h
  have M := Lib.hid hM
  clear h hM
  have g1 : IntKind.i64.wrap ((s.size : Int) - (x : Int)) = (s.size : Int) - (x : Int) := IntWalk.i64_in _ (by omega)
  have g2 : IntKind.u64.wrap ((s.size : Int) - (x : Int)) = (s.size : Int) - (x : Int) := by rw [IntKind.wrap_u64]; omega
  have g3 : (n : Int) ≤ (s.size : Int) - (x : Int) := by omega
  by_cases hz : 0 ≤ z
  · unfold top at M
    rw [if_pos hz] at M
    go_enter Tryd.func54, Tryd.ntmps54
    go_wp2_with (go_at_call 71; refine (M.out _ b H.out).mono ?_; rintro e1 w1 ⟨rfl, hR, hG⟩; have d0 := hR.c0; have d1 := hR.c1; have c2 := hR.c2; have R := Lib.hid hR; have G := Lib.hid hG; clear hR hG)
    go_quiet (fail)
    rename_i nq
    go_wp2_with (go_at_call 73; refine (qraw_ok b s x n _ (R.out.drewN nq) hx hs).mono ?_; rintro e1 w2 ⟨rfl, hR, hG⟩; have R2 := Lib.hid hR; have G2 := Lib.hid hG; clear hR hG)
    go_ret
    exact ⟨rfl, R2.out, grown_trans2 G.out (grown_trans2 (grown_drewN _ nq _) G2.out)⟩
  · unfold top at M
    rw [if_neg hz] at M
    have hz' : z < 0 := by omega
    clear hz
    go_enter Tryd.func54, Tryd.ntmps54
    go_wp2_with (go_at_call 71; refine (M.out _ b H.out).mono ?_; rintro e1 w1 ⟨rfl, hR, hG⟩; have d0 := hR.c0; have d1 := hR.c1; have c2 := hR.c2; have R := Lib.hid hR; have G := Lib.hid hG; clear hR hG)
    go_quiet (fail)
    rename_i nq
    go_wp2_with (go_at_call 73; refine (qraw_ok b s x n _ (R.out.drewN nq) hx hs).mono ?_; rintro e1 w2 ⟨rfl, hR, hG⟩; have R2 := Lib.hid hR; have G2 := Lib.hid hG; clear hR hG)
    go_ret
    exact ⟨rfl, R2.out, grown_trans2 G.out (grown_trans2 (grown_drewN _ nq _) G2.out)⟩
end Go.Proofs.YtjhgmlhoefakpaaDoor
