/- The contracts of the document's reader, over the seat's own program. -/
import Derived.Test.YtnoejddhdgmkcaaAs
import Derived.Test.YtnoejddhdgmkcaaRv
namespace Go.Proofs.Ytnoejddhdgmkcaa
open Go.RowKit
set_option maxRecDepth 100000 in
set_option maxHeartbeats 400000 in
theorem wrong_any (b : Nat) (s : ByteArray) (a e k : Int) (w : World) (h : RdAt w b s a e) :
    Calls Try.prog 61 #[.pointer (some ⟨b, 0, none⟩), .int .i64 k] w fun en w' => en = .returned (.tuple #[]) ∧ w.setCell ⟨b, 2, none⟩ (.int .i64 k) = w' := by
  have c2 := h.c2
  have f2 := h.f2
  clear h
  go_enter Try.func61, Try.ntmps61
  go_wp2
  go_end0
  exact ⟨rfl, rfl⟩
set_option maxRecDepth 100000 in
set_option maxHeartbeats 400000 in
theorem qvarint_ok (b : Nat) (s : ByteArray) (a : Int) (most : Int) (n : Int) (x : Int) (w : World) (h : RdAt w b s a 0) (hm : n ≤ most)
    (hT : TellsU 37 #[.string s, .int .i64 a] n x 0) :
    Calls Try.prog 55 #[.pointer (some ⟨b, 0, none⟩), .int .u64 most] w (RdRet w b s (.int .u64 n) x 0) := by
  have c0 := h.c0
  have c1 := h.c1
  have c2 := h.c2
  have f1 := h.f1
  have H := Lib.hid h
  have T := Lib.hid hT
  clear h hT
  go_enter Try.func55, Try.ntmps55
  go_wp2
  go_quiet ((go_at_call 37; exact Calls.quiet_of_same ((T.out _).mono fun _ _ h => ⟨h.1, h.2.symm⟩)))
  rename_i nq
  have c1' := (H.out.drewN nq).c1
  have f1' := (H.out.drewN nq).f1
  go_wp2
  go_ret
  exact ⟨rfl, (H.out.drewN _).at, grown_set _ _ _ _ _⟩
set_option maxRecDepth 100000 in
set_option maxHeartbeats 400000 in
theorem qvarint_no (b : Nat) (s : ByteArray) (a : Int) (most : Int) (k : Int) (w : World) (h : RdAt w b s a 0) (hk : (k != 0) = true)
    (hT : TellsU 37 #[.string s, .int .i64 a] 0 0 k) :
    Calls Try.prog 55 #[.pointer (some ⟨b, 0, none⟩), .int .u64 most] w (RdRet w b s (.int .u64 0) a k) := by
  have c0 := h.c0
  have c1 := h.c1
  have c2 := h.c2
  have f1 := h.f1
  have H := Lib.hid h
  have T := Lib.hid hT
  clear h hT
  go_enter Try.func55, Try.ntmps55
  go_wp2
  go_quiet ((go_at_call 37; exact Calls.quiet_of_same ((T.out _).mono fun _ _ h => ⟨h.1, h.2.symm⟩)))
  rename_i nq
  have c1' := (H.out.drewN nq).c1
  have f1' := (H.out.drewN nq).f1
  go_wp2_with (go_at_call 61; refine (wrong_any b s a 0 _ _ (H.out.drewN nq)).mono ?_; rintro e1 w' ⟨rfl, rfl⟩)
  go_ret
  exact ⟨rfl, (H.out.drewN _).err, grown_set _ _ _ _ _⟩
set_option maxRecDepth 100000 in
set_option maxHeartbeats 400000 in
theorem qvarint_big (b : Nat) (s : ByteArray) (a : Int) (most : Int) (n x : Int) (w : World) (h : RdAt w b s a 0) (hm : most < n)
    (hT : TellsU 37 #[.string s, .int .i64 a] n x 0) :
    Calls Try.prog 55 #[.pointer (some ⟨b, 0, none⟩), .int .u64 most] w (RdRet w b s (.int .u64 0) a 40) := by
  have c0 := h.c0
  have c1 := h.c1
  have c2 := h.c2
  have f1 := h.f1
  have H := Lib.hid h
  have T := Lib.hid hT
  clear h hT
  go_enter Try.func55, Try.ntmps55
  go_wp2
  go_quiet ((go_at_call 37; exact Calls.quiet_of_same ((T.out _).mono fun _ _ h => ⟨h.1, h.2.symm⟩)))
  rename_i nq
  have c1' := (H.out.drewN nq).c1
  have f1' := (H.out.drewN nq).f1
  go_wp2_with (first | (go_at_call 61; refine (wrong_any b s a 0 _ _ (H.out.drewN nq)).mono ?_; rintro e1 w' ⟨rfl, rfl⟩))
  go_ret
  exact ⟨rfl, (H.out.drewN _).err, grown_set _ _ _ _ _⟩
set_option maxRecDepth 100000 in
set_option maxHeartbeats 400000 in
theorem qvarint_err (b : Nat) (s : ByteArray) (a e : Int) (most : Int) (w : World) (h : RdAt w b s a e) (he : (e != 0) = true) :
    Calls Try.prog 55 #[.pointer (some ⟨b, 0, none⟩), .int .u64 most] w (RdRet w b s (.int .u64 0) a e) := by
  have c2 := h.c2
  have H := Lib.hid h
  clear h
  go_enter Try.func55, Try.ntmps55
  go_wp2
  go_ret
  exact ⟨rfl, H.out, World.grownBy.refl w _⟩
set_option maxRecDepth 100000 in
set_option maxHeartbeats 400000 in
theorem qzag_ok (b : Nat) (s : ByteArray) (a : Int) (lo hi : Int) (n : Int) (x : Int) (w : World) (h : RdAt w b s a 0) (n0 : 0 ≤ n) (n1 : n ≤ 18446744073709551615) (hlo : lo ≤ Bt.zag n) (hhi : Bt.zag n ≤ hi)
    (hT : TellsU 37 #[.string s, .int .i64 a] n x 0) :
    Calls Try.prog 56 #[.pointer (some ⟨b, 0, none⟩), .int .i64 lo, .int .i64 hi] w (RdRet w b s (.int .i64 (Bt.zag n)) x 0) := by
  have Z0 := fun w => Lib.hid (rzag_any n w n0 n1)
  generalize Bt.zag n = z at *
  have Z := Lib.hid Z0
  clear Z0
  have c0 := h.c0
  have c1 := h.c1
  have c2 := h.c2
  have f1 := h.f1
  have H := Lib.hid h
  have T := Lib.hid hT
  clear h hT
  go_enter Try.func56, Try.ntmps56
  go_wp2
  go_quiet ((go_at_call 37; exact Calls.quiet_of_same ((T.out _).mono fun _ _ h => ⟨h.1, h.2.symm⟩)))
  rename_i nq
  have c1' := (H.out.drewN nq).c1
  have f1' := (H.out.drewN nq).f1
  go_wp2_with (go_at_call 33; refine (Z.out _).out.mono ?_; rintro e2 w3 ⟨rfl, rfl⟩)
  go_ret
  exact ⟨rfl, (H.out.drewN _).at, grown_set _ _ _ _ _⟩
set_option maxRecDepth 100000 in
set_option maxHeartbeats 400000 in
theorem qzag_no (b : Nat) (s : ByteArray) (a : Int) (lo hi : Int) (k : Int) (w : World) (h : RdAt w b s a 0) (hk : (k != 0) = true)
    (hT : TellsU 37 #[.string s, .int .i64 a] 0 0 k) :
    Calls Try.prog 56 #[.pointer (some ⟨b, 0, none⟩), .int .i64 lo, .int .i64 hi] w (RdRet w b s (.int .i64 0) a k) := by
  have c0 := h.c0
  have c1 := h.c1
  have c2 := h.c2
  have f1 := h.f1
  have H := Lib.hid h
  have T := Lib.hid hT
  clear h hT
  go_enter Try.func56, Try.ntmps56
  go_wp2
  go_quiet ((go_at_call 37; exact Calls.quiet_of_same ((T.out _).mono fun _ _ h => ⟨h.1, h.2.symm⟩)))
  rename_i nq
  have c1' := (H.out.drewN nq).c1
  have f1' := (H.out.drewN nq).f1
  go_wp2_with (go_at_call 61; refine (wrong_any b s a 0 _ _ (H.out.drewN nq)).mono ?_; rintro e1 w' ⟨rfl, rfl⟩)
  go_ret
  exact ⟨rfl, (H.out.drewN _).err, grown_set _ _ _ _ _⟩
set_option maxRecDepth 100000 in
set_option maxHeartbeats 400000 in
theorem qzag_low (b : Nat) (s : ByteArray) (a : Int) (lo hi : Int) (n x : Int) (w : World) (h : RdAt w b s a 0) (n0 : 0 ≤ n) (n1 : n ≤ 18446744073709551615) (hm : Bt.zag n < lo)
    (hT : TellsU 37 #[.string s, .int .i64 a] n x 0) :
    Calls Try.prog 56 #[.pointer (some ⟨b, 0, none⟩), .int .i64 lo, .int .i64 hi] w (RdRet w b s (.int .i64 0) a 40) := by
  have Z0 := fun w => Lib.hid (rzag_any n w n0 n1)
  generalize Bt.zag n = z at *
  have Z := Lib.hid Z0
  clear Z0
  have c0 := h.c0
  have c1 := h.c1
  have c2 := h.c2
  have f1 := h.f1
  have H := Lib.hid h
  have T := Lib.hid hT
  clear h hT
  go_enter Try.func56, Try.ntmps56
  go_wp2
  go_quiet ((go_at_call 37; exact Calls.quiet_of_same ((T.out _).mono fun _ _ h => ⟨h.1, h.2.symm⟩)))
  rename_i nq
  have c1' := (H.out.drewN nq).c1
  have f1' := (H.out.drewN nq).f1
  go_wp2_with (first | (go_at_call 61; refine (wrong_any b s a 0 _ _ (H.out.drewN nq)).mono ?_; rintro e1 w' ⟨rfl, rfl⟩) | (go_at_call 33; refine (Z.out _).out.mono ?_; rintro e2 w3 ⟨rfl, rfl⟩))
  go_ret
  exact ⟨rfl, (H.out.drewN _).err, grown_set _ _ _ _ _⟩
set_option maxRecDepth 100000 in
set_option maxHeartbeats 400000 in
theorem qzag_high (b : Nat) (s : ByteArray) (a : Int) (lo hi : Int) (n x : Int) (w : World) (h : RdAt w b s a 0) (n0 : 0 ≤ n) (n1 : n ≤ 18446744073709551615) (hl : lo ≤ Bt.zag n) (hm : hi < Bt.zag n)
    (hT : TellsU 37 #[.string s, .int .i64 a] n x 0) :
    Calls Try.prog 56 #[.pointer (some ⟨b, 0, none⟩), .int .i64 lo, .int .i64 hi] w (RdRet w b s (.int .i64 0) a 40) := by
  have Z0 := fun w => Lib.hid (rzag_any n w n0 n1)
  generalize Bt.zag n = z at *
  have Z := Lib.hid Z0
  clear Z0
  have c0 := h.c0
  have c1 := h.c1
  have c2 := h.c2
  have f1 := h.f1
  have H := Lib.hid h
  have T := Lib.hid hT
  clear h hT
  go_enter Try.func56, Try.ntmps56
  go_wp2
  go_quiet ((go_at_call 37; exact Calls.quiet_of_same ((T.out _).mono fun _ _ h => ⟨h.1, h.2.symm⟩)))
  rename_i nq
  have c1' := (H.out.drewN nq).c1
  have f1' := (H.out.drewN nq).f1
  go_wp2_with (first | (go_at_call 61; refine (wrong_any b s a 0 _ _ (H.out.drewN nq)).mono ?_; rintro e1 w' ⟨rfl, rfl⟩) | (go_at_call 33; refine (Z.out _).out.mono ?_; rintro e2 w3 ⟨rfl, rfl⟩))
  go_ret
  exact ⟨rfl, (H.out.drewN _).err, grown_set _ _ _ _ _⟩
set_option maxRecDepth 100000 in
set_option maxHeartbeats 400000 in
theorem qzag_err (b : Nat) (s : ByteArray) (a e : Int) (lo hi : Int) (w : World) (h : RdAt w b s a e) (he : (e != 0) = true) :
    Calls Try.prog 56 #[.pointer (some ⟨b, 0, none⟩), .int .i64 lo, .int .i64 hi] w (RdRet w b s (.int .i64 0) a e) := by
  have c2 := h.c2
  have H := Lib.hid h
  clear h
  go_enter Try.func56, Try.ntmps56
  go_wp2
  go_ret
  exact ⟨rfl, H.out, World.grownBy.refl w _⟩
set_option maxRecDepth 100000 in
set_option maxHeartbeats 400000 in
theorem qfixed_ok (b : Nat) (s : ByteArray) (a : Int) (z : Int) (n : Int) (x : Int) (w : World) (h : RdAt w b s a 0) 
    (hT : TellsU 38 #[.string s, .int .i64 a, .int .i64 z] n x 0) :
    Calls Try.prog 57 #[.pointer (some ⟨b, 0, none⟩), .int .i64 z] w (RdRet w b s (.int .u64 n) x 0) := by
  have c0 := h.c0
  have c1 := h.c1
  have c2 := h.c2
  have f1 := h.f1
  have H := Lib.hid h
  have T := Lib.hid hT
  clear h hT
  go_enter Try.func57, Try.ntmps57
  go_wp2
  go_quiet ((go_at_call 38; exact Calls.quiet_of_same ((T.out _).mono fun _ _ h => ⟨h.1, h.2.symm⟩)))
  rename_i nq
  have c1' := (H.out.drewN nq).c1
  have f1' := (H.out.drewN nq).f1
  go_wp2
  go_ret
  exact ⟨rfl, (H.out.drewN _).at, grown_set _ _ _ _ _⟩
set_option maxRecDepth 100000 in
set_option maxHeartbeats 400000 in
theorem qfixed_no (b : Nat) (s : ByteArray) (a : Int) (z : Int) (k : Int) (w : World) (h : RdAt w b s a 0) (hk : (k != 0) = true)
    (hT : TellsU 38 #[.string s, .int .i64 a, .int .i64 z] 0 0 k) :
    Calls Try.prog 57 #[.pointer (some ⟨b, 0, none⟩), .int .i64 z] w (RdRet w b s (.int .u64 0) a k) := by
  have c0 := h.c0
  have c1 := h.c1
  have c2 := h.c2
  have f1 := h.f1
  have H := Lib.hid h
  have T := Lib.hid hT
  clear h hT
  go_enter Try.func57, Try.ntmps57
  go_wp2
  go_quiet ((go_at_call 38; exact Calls.quiet_of_same ((T.out _).mono fun _ _ h => ⟨h.1, h.2.symm⟩)))
  rename_i nq
  have c1' := (H.out.drewN nq).c1
  have f1' := (H.out.drewN nq).f1
  go_wp2_with (go_at_call 61; refine (wrong_any b s a 0 _ _ (H.out.drewN nq)).mono ?_; rintro e1 w' ⟨rfl, rfl⟩)
  go_ret
  exact ⟨rfl, (H.out.drewN _).err, grown_set _ _ _ _ _⟩
set_option maxRecDepth 100000 in
set_option maxHeartbeats 400000 in
theorem qfixed_err (b : Nat) (s : ByteArray) (a e : Int) (z : Int) (w : World) (h : RdAt w b s a e) (he : (e != 0) = true) :
    Calls Try.prog 57 #[.pointer (some ⟨b, 0, none⟩), .int .i64 z] w (RdRet w b s (.int .u64 0) a e) := by
  have c2 := h.c2
  have H := Lib.hid h
  clear h
  go_enter Try.func57, Try.ntmps57
  go_wp2
  go_ret
  exact ⟨rfl, H.out, World.grownBy.refl w _⟩
set_option maxRecDepth 100000 in
set_option maxHeartbeats 400000 in
theorem qraw_err (b : Nat) (s : ByteArray) (a e z : Int) (w : World) (h : RdAt w b s a e) (he : (e != 0) = true) :
    Calls Try.prog 59 #[.pointer (some ⟨b, 0, none⟩), .int .i64 z] w (RdRet w b s (.string ⟨#[]⟩) a e) := by
  have c2 := h.c2
  have H := Lib.hid h
  clear h
  go_enter Try.func59, Try.ntmps59
  go_wp2
  go_ret
  exact ⟨rfl, H.out, World.grownBy.refl w _⟩
set_option maxRecDepth 100000 in
set_option maxHeartbeats 400000 in
theorem qraw_arg (b : Nat) (s : ByteArray) (a z : Int) (w : World) (h : RdAt w b s a 0) (hz : z < 0) :
    Calls Try.prog 59 #[.pointer (some ⟨b, 0, none⟩), .int .i64 z] w (RdRet w b s (.string ⟨#[]⟩) a 1) := by
  have c2 := h.c2
  have H := Lib.hid h
  clear h
  go_enter Try.func59, Try.ntmps59
  go_wp2_with (go_at_call 61; refine (wrong_any b s a 0 _ _ H.out).mono ?_; rintro e1 w' ⟨rfl, rfl⟩)
  go_ret
  exact ⟨rfl, H.out.err, grown_set w 0 _ _ _⟩
set_option maxRecDepth 100000 in
set_option maxHeartbeats 400000 in
theorem qraw_short (b : Nat) (s : ByteArray) (a : Nat) (z : Int) (w : World) (h : RdAt w b s a 0) (hz : 0 ≤ z) (ha : a ≤ s.size) (hl : (s.size : Int) - (a : Int) < z) (hs : s.size ≤ 140737488351232) :
    Calls Try.prog 59 #[.pointer (some ⟨b, 0, none⟩), .int .i64 z] w (RdRet w b s (.string ⟨#[]⟩) a 8) := by
  have c0 := h.c0
  have c1 := h.c1
  have c2 := h.c2
  have H := Lib.hid h
  clear h
  go_enter Try.func59, Try.ntmps59
  go_wp2
  go_quiet (fail)
  rename_i nq
  go_wp2_with (go_at_call 61; refine (wrong_any b s a 0 _ _ (H.out.drewN nq)).mono ?_; rintro e1 w' ⟨rfl, rfl⟩)
  go_ret
  exact ⟨rfl, (H.out.drewN _).err, grown_set _ _ _ _ _⟩
set_option maxRecDepth 100000 in
set_option maxHeartbeats 400000 in
theorem qraw_ok (b : Nat) (s : ByteArray) (a z : Nat) (w : World) (h : RdAt w b s a 0) (ha : a + z ≤ s.size) (hs : s.size ≤ 140737488351232) :
    Calls Try.prog 59 #[.pointer (some ⟨b, 0, none⟩), .int .i64 z] w (RdRet w b s (.string (s.extract a (a + z))) ((a + z : Nat) : Int) 0) := by
  have c0 := h.c0
  have c1 := h.c1
  have c2 := h.c2
  have f1 := h.f1
  have H := Lib.hid h
  clear h
  have g1 : (z : Int) ≤ (s.size : Int) - (a : Int) := by omega
  have g2 : IntKind.i64.wrap ((a : Int) + (z : Int)) = (a : Int) + (z : Int) := IntWalk.i64_in _ (by omega)
  have g3 : (0 : Int) ≤ (a : Int) + (z : Int) := by omega
  have g4 : (a : Int) ≤ (a : Int) + (z : Int) := by omega
  have g5 : (a : Int) + (z : Int) ≤ (s.size : Int) := by omega
  go_enter Try.func59, Try.ntmps59
  go_wp2
  go_quiet (fail)
  go_wp2
  go_quiet (fail)
  rename_i nq
  have c1' := (H.out.drewN nq).c1
  have f1' := (H.out.drewN nq).f1
  go_wp2
  go_ret
  exact ⟨rfl, (H.out.drewN _).at, grown_set _ _ _ _ _⟩
set_option maxRecDepth 100000 in
set_option maxHeartbeats 400000 in
theorem qtext_no (b : Nat) (s : ByteArray) (a z k : Int) (z0 : -9223372036854775808 ≤ z) (z1 : z ≤ 9223372036854775807) (w : World) (h : RdAt w b s a 0) (hk : (k != 0) = true)
    (hM : Meth 55 [.int .u64 (top z)] s a 0 (.int .u64 0) a k) :
    Calls Try.prog 60 #[.pointer (some ⟨b, 0, none⟩), .int .i64 z] w (RdRet w b s (.string ⟨#[]⟩) a k) := by
  have c1 := h.c1
  have H := Lib.hid h
  have M := Lib.hid hM
  clear h hM
  by_cases hz : 0 ≤ z
  · unfold top at M
    rw [if_pos hz] at M
    go_enter Try.func60, Try.ntmps60
    go_wp2_with (go_at_call 55; refine (M.out _ b H.out).mono ?_; rintro e1 w1 ⟨rfl, hR, hG⟩; have c2 := hR.c2; have R := Lib.hid hR; have G := Lib.hid hG; clear hR hG)
    go_ret
    exact ⟨rfl, R.out, G.out⟩
  · unfold top at M
    rw [if_neg hz] at M
    have hz' : z < 0 := by omega
    clear hz
    go_enter Try.func60, Try.ntmps60
    go_wp2_with (go_at_call 55; refine (M.out _ b H.out).mono ?_; rintro e1 w1 ⟨rfl, hR, hG⟩; have c2 := hR.c2; have R := Lib.hid hR; have G := Lib.hid hG; clear hR hG)
    go_ret
    exact ⟨rfl, R.out, G.out⟩
theorem grown_trans2 {w w1 w2 : World} {b : Nat} (h : w.grownBy w1 (some b)) (k : w1.grownBy w2 (some b)) : w.grownBy w2 (some b) :=
  ⟨k.os.trans h.os, k.tape.trans h.tape, k.output.trans h.output, Nat.le_trans h.size k.size, fun i hi hne => (k.block i (Nat.lt_of_lt_of_le hi h.size) hne).trans (h.block i hi hne)⟩
set_option maxRecDepth 100000 in
set_option maxHeartbeats 400000 in
theorem qtext_short (b : Nat) (s : ByteArray) (a z : Int) (n x : Nat) (z0 : -9223372036854775808 ≤ z) (z1 : z ≤ 9223372036854775807) (w : World) (h : RdAt w b s a 0) (hx : x ≤ s.size) (hn : s.size < x + n) (hn2 : n ≤ 9223372036854775807) (hs : s.size ≤ 140737488351232)
    (hM : Meth 55 [.int .u64 (top z)] s a 0 (.int .u64 n) x 0) :
    Calls Try.prog 60 #[.pointer (some ⟨b, 0, none⟩), .int .i64 z] w (RdRet w b s (.string ⟨#[]⟩) a 8) := by
  have c1 := h.c1
  have H := Lib.hid h
  have M := Lib.hid hM
  clear h hM
  have g1 : IntKind.i64.wrap ((s.size : Int) - (x : Int)) = (s.size : Int) - (x : Int) := IntWalk.i64_in _ (by omega)
  have g2 : IntKind.u64.wrap ((s.size : Int) - (x : Int)) = (s.size : Int) - (x : Int) := by rw [IntKind.wrap_u64]; omega
  have g3 : (s.size : Int) - (x : Int) < (n : Int) := by omega
  by_cases hz : 0 ≤ z
  · unfold top at M
    rw [if_pos hz] at M
    go_enter Try.func60, Try.ntmps60
    go_wp2_with (go_at_call 55; refine (M.out _ b H.out).mono ?_; rintro e1 w1 ⟨rfl, hR, hG⟩; have d0 := hR.c0; have d1 := hR.c1; have c2 := hR.c2; have R := Lib.hid hR; have G := Lib.hid hG; clear hR hG)
    go_quiet (fail)
    rename_i nq
    have f1 := (R.out.drewN nq).f1
    have e1 := (R.out.drewN nq).c1
    go_wp2_with (go_at_call 61; refine (wrong_any b s a 0 _ _ (R.out.drewN nq).at).mono ?_; rintro e1 w' ⟨rfl, rfl⟩)
    go_ret
    exact ⟨rfl, (R.out.drewN nq).at.err, grown_trans2 (grown_trans2 G.out (grown_set _ nq _ _ _)) (grown_set _ 0 _ _ _)⟩
  · unfold top at M
    rw [if_neg hz] at M
    have hz' : z < 0 := by omega
    clear hz
    go_enter Try.func60, Try.ntmps60
    go_wp2_with (go_at_call 55; refine (M.out _ b H.out).mono ?_; rintro e1 w1 ⟨rfl, hR, hG⟩; have d0 := hR.c0; have d1 := hR.c1; have c2 := hR.c2; have R := Lib.hid hR; have G := Lib.hid hG; clear hR hG)
    go_quiet (fail)
    rename_i nq
    have f1 := (R.out.drewN nq).f1
    have e1 := (R.out.drewN nq).c1
    go_wp2_with (go_at_call 61; refine (wrong_any b s a 0 _ _ (R.out.drewN nq).at).mono ?_; rintro e1 w' ⟨rfl, rfl⟩)
    go_ret
    exact ⟨rfl, (R.out.drewN nq).at.err, grown_trans2 (grown_trans2 G.out (grown_set _ nq _ _ _)) (grown_set _ 0 _ _ _)⟩
set_option maxRecDepth 100000 in
set_option maxHeartbeats 400000 in
theorem qtext_ok (b : Nat) (s : ByteArray) (a z : Int) (n x : Nat) (z0 : -9223372036854775808 ≤ z) (z1 : z ≤ 9223372036854775807) (w : World) (h : RdAt w b s a 0) (hx : x + n ≤ s.size) (hs : s.size ≤ 140737488351232)
    (hM : Meth 55 [.int .u64 (top z)] s a 0 (.int .u64 n) x 0) :
    Calls Try.prog 60 #[.pointer (some ⟨b, 0, none⟩), .int .i64 z] w (RdRet w b s (.string (s.extract x (x + n))) ((x + n : Nat) : Int) 0) := by
  have c1 := h.c1
  have H := Lib.hid h
  have M := Lib.hid hM
  clear h hM
  have g1 : IntKind.i64.wrap ((s.size : Int) - (x : Int)) = (s.size : Int) - (x : Int) := IntWalk.i64_in _ (by omega)
  have g2 : IntKind.u64.wrap ((s.size : Int) - (x : Int)) = (s.size : Int) - (x : Int) := by rw [IntKind.wrap_u64]; omega
  have g3 : (n : Int) ≤ (s.size : Int) - (x : Int) := by omega
  by_cases hz : 0 ≤ z
  · unfold top at M
    rw [if_pos hz] at M
    go_enter Try.func60, Try.ntmps60
    go_wp2_with (go_at_call 55; refine (M.out _ b H.out).mono ?_; rintro e1 w1 ⟨rfl, hR, hG⟩; have d0 := hR.c0; have d1 := hR.c1; have c2 := hR.c2; have R := Lib.hid hR; have G := Lib.hid hG; clear hR hG)
    go_quiet (fail)
    rename_i nq
    go_wp2_with (go_at_call 59; refine (qraw_ok b s x n _ (R.out.drewN nq) hx hs).mono ?_; rintro e1 w2 ⟨rfl, hR, hG⟩; have R2 := Lib.hid hR; have G2 := Lib.hid hG; clear hR hG)
    go_ret
    exact ⟨rfl, R2.out, grown_trans2 G.out (grown_trans2 (grown_drewN _ nq _) G2.out)⟩
  · unfold top at M
    rw [if_neg hz] at M
    have hz' : z < 0 := by omega
    clear hz
    go_enter Try.func60, Try.ntmps60
    go_wp2_with (go_at_call 55; refine (M.out _ b H.out).mono ?_; rintro e1 w1 ⟨rfl, hR, hG⟩; have d0 := hR.c0; have d1 := hR.c1; have c2 := hR.c2; have R := Lib.hid hR; have G := Lib.hid hG; clear hR hG)
    go_quiet (fail)
    rename_i nq
    go_wp2_with (go_at_call 59; refine (qraw_ok b s x n _ (R.out.drewN nq) hx hs).mono ?_; rintro e1 w2 ⟨rfl, hR, hG⟩; have R2 := Lib.hid hR; have G2 := Lib.hid hG; clear hR hG)
    go_ret
    exact ⟨rfl, R2.out, grown_trans2 G.out (grown_trans2 (grown_drewN _ nq _) G2.out)⟩
end Go.Proofs.Ytnoejddhdgmkcaa
