/- The contracts of readValue and readField. -/
import Derived.Test.YtknfodpegkpjnaaRx
namespace Go.Proofs.Ytknfodpegkpjnaa
open Go.RowKit
/-- A value of a wire type. -/
def vlOf (w v : Nat) (t : List UInt8) : Vl := if w = 0 then .va v else if w = 1 then .ei v else if w = 2 then .tx (bs t) else .fo v
/-- A value was not read. -/
def RvE (w : World) (b : Nat) (K : Int) (e : Ending) (w' : World) : Prop := ∃ y : Vl, e = .returned (.tuple #[y.v, .int .i64 K]) ∧ w.grownBy w' (some b)
set_option maxRecDepth 100000 in
set_option maxHeartbeats 1000000 in
theorem rv0 (b : Nat) (s : ByteArray) (a a1 e1 n : Int) (w : World) (h : RdAt w b s a 0)
    (hA : ∀ w, RdAt w b s a 0 → Calls Try.prog 95 #[.pointer (some ⟨b, 0, none⟩), .int .u64 18446744073709551615] w (RdRet w b s (.int .u64 n) a1 e1)) :
    Calls Try.prog 97 #[.pointer (some ⟨b, 0, none⟩), .int .u64 0] w (RdRet w b s (.tuple #[.iface 128 (.int .u64 n), .int .i64 e1]) a1 e1) := by
  have H := Lib.hid h; have HA := Lib.hid hA
  clear h hA
  go_enter Try.func97, Try.ntmps97
  go_wp2_with fail
  refine (HA.out _ H.out).mono ?_
  rintro e w1 ⟨rfl, hr1, hg1⟩
  have c2 := hr1.c2
  have HR1 := Lib.hid hr1; have HG1 := Lib.hid hg1
  clear hr1 hg1
  go_wp2_with (go_at_call 96; refine (err_any b e1 _ c2).mono ?_; rintro e w' ⟨rfl, rfl⟩)
  go_ret2
  exact ⟨rfl, HR1.out, HG1.out⟩
set_option maxRecDepth 100000 in
set_option maxHeartbeats 1000000 in
theorem rv1 (b : Nat) (s : ByteArray) (a a1 e1 n : Int) (w : World) (h : RdAt w b s a 0)
    (hA : ∀ w, RdAt w b s a 0 → Calls Try.prog 104 #[.pointer (some ⟨b, 0, none⟩), .int .i64 8] w (RdRet w b s (.int .u64 n) a1 e1)) :
    Calls Try.prog 97 #[.pointer (some ⟨b, 0, none⟩), .int .u64 1] w (RdRet w b s (.tuple #[.iface 127 (.int .u64 n), .int .i64 e1]) a1 e1) := by
  have H := Lib.hid h; have HA := Lib.hid hA
  clear h hA
  go_enter Try.func97, Try.ntmps97
  go_wp2_with fail
  refine (HA.out _ H.out).mono ?_
  rintro e w1 ⟨rfl, hr1, hg1⟩
  have c2 := hr1.c2
  have HR1 := Lib.hid hr1; have HG1 := Lib.hid hg1
  clear hr1 hg1
  go_wp2_with (go_at_call 96; refine (err_any b e1 _ c2).mono ?_; rintro e w' ⟨rfl, rfl⟩)
  go_ret2
  exact ⟨rfl, HR1.out, HG1.out⟩
set_option maxRecDepth 100000 in
set_option maxHeartbeats 1000000 in
theorem rv5 (b : Nat) (s : ByteArray) (a a1 e1 n : Int) (hn0 : 0 ≤ n) (hn : n < 4294967296) (w : World) (h : RdAt w b s a 0)
    (hA : ∀ w, RdAt w b s a 0 → Calls Try.prog 104 #[.pointer (some ⟨b, 0, none⟩), .int .i64 4] w (RdRet w b s (.int .u64 n) a1 e1)) :
    Calls Try.prog 97 #[.pointer (some ⟨b, 0, none⟩), .int .u64 5] w (RdRet w b s (.tuple #[.iface 161 (.int .u32 n), .int .i64 e1]) a1 e1) := by
  have H := Lib.hid h; have HA := Lib.hid hA
  clear h hA
  go_enter Try.func97, Try.ntmps97
  go_wp2_with fail
  refine (HA.out _ H.out).mono ?_
  rintro e w1 ⟨rfl, hr1, hg1⟩
  have c2 := hr1.c2
  have HR1 := Lib.hid hr1; have HG1 := Lib.hid hg1
  clear hr1 hg1
  go_wp2_with (go_at_call 96; refine (err_any b e1 _ c2).mono ?_; rintro e w' ⟨rfl, rfl⟩)
  go_ret2
  exact ⟨rfl, HR1.out, HG1.out⟩
set_option maxRecDepth 100000 in
set_option maxHeartbeats 1000000 in
theorem rv2 (b : Nat) (s : ByteArray) (a a1 e1 : Int) (t : ByteArray) (w : World) (h : RdAt w b s a 0)
    (hA : Calls Try.prog 105 #[.pointer (some ⟨b, 0, none⟩)] w (RdRet w b s (.string t) a1 e1)) :
    Calls Try.prog 97 #[.pointer (some ⟨b, 0, none⟩), .int .u64 2] w (RdRet w b s (.tuple #[.iface 82 (.string t), .int .i64 e1]) a1 e1) := by
  have H := Lib.hid h; have HA := Lib.hid hA
  clear h hA
  go_enter Try.func97, Try.ntmps97
  go_wp2_with fail
  refine HA.out.mono ?_
  rintro e w1 ⟨rfl, hr1, hg1⟩
  have c2 := hr1.c2
  have HR1 := Lib.hid hr1; have HG1 := Lib.hid hg1
  clear hr1 hg1
  go_wp2_with (go_at_call 96; refine (err_any b e1 _ c2).mono ?_; rintro e w' ⟨rfl, rfl⟩)
  go_ret2
  exact ⟨rfl, HR1.out, HG1.out⟩
set_option maxRecDepth 100000 in
set_option maxHeartbeats 1000000 in
theorem rvx (b : Nat) (wi : Int) (h0 : (wi == 0) = false) (h1 : (wi == 1) = false) (h2 : (wi == 2) = false) (h5 : (wi == 5) = false) (w : World) :
    Calls Try.prog 97 #[.pointer (some ⟨b, 0, none⟩), .int .u64 wi] w (RvE w b 4) := by
  go_enter Try.func97, Try.ntmps97
  go_wp2
  go_ret2
  exact ⟨.no, rfl, World.grownBy.refl w _⟩
theorem RvE.of {w w' : World} {b : Nat} {s : ByteArray} {a e1 : Int} {e : Ending} (y : Vl) (h : RdRet w b s (.tuple #[y.v, .int .i64 e1]) a e1 e w') : RvE w b e1 e w' := ⟨y, h.1, h.2.2⟩
theorem fat_lft (s : ByteArray) (A z : Nat) : Bt.fat s.data.toList A z = Bt.fv ((lft s A).take z) := rfl
/-- A value is read, or how it is refused. -/
theorem readValue_any (b : Nat) (s : ByteArray) (A : Nat) (hA : A ≤ s.size) (hs : s.size ≤ 1000000000000) (w : World) (h : RdAt w b s (A : Int) 0) (wi v : Nat) (hw : wi = 0 ∨ wi = 1 ∨ wi = 2 ∨ wi = 5) (t : List UInt8) (k K : Nat) (hx : rdv wi (lft s A) = (v, t, k, K)) :
    (K = 0 → Calls Try.prog 97 #[.pointer (some ⟨b, 0, none⟩), .int .u64 (wi : Int)] w (RdRet w b s (.tuple #[(vlOf wi v t).v, .int .i64 0]) ((A + k : Nat) : Int) 0)) ∧ (K ≠ 0 → Calls Try.prog 97 #[.pointer (some ⟨b, 0, none⟩), .int .u64 (wi : Int)] w (RvE w b (K : Int))) := by
  have hz : (0 : Int) ≠ 1 := by decide
  rcases hw with rfl | rfl | rfl | rfl
  · obtain ⟨N, C, K1, hr⟩ : ∃ N C K1, Bt.rd (lft s A) 0 0 = (N, C, K1) := ⟨_, _, _, rfl⟩
    simp only [rdv, if_true, hr] at hx
    simp only [Prod.mk.injEq] at hx
    obtain ⟨rfl, rfl, rfl, rfl⟩ := hx
    refine ⟨fun hk => ?_, fun hk => ?_⟩
    · subst hk
      exact rv0 b s A _ _ _ w h (varint_yes b s A N C hA (by omega) hr)
    · exact (rv0 b s A _ _ _ w h (varint_not b s A N C K1 hA (by omega) hk hr)).mono fun e w' h => RvE.of (.va 0) h
  · simp only [rdv, if_true, show ¬ (1 : Nat) = 0 from by decide, if_false, lft_length] at hx
    split at hx
    · rename_i h8
      simp only [Prod.mk.injEq] at hx
      obtain ⟨rfl, rfl, rfl, rfl⟩ := hx
      refine ⟨fun _ => ?_, fun hk => absurd rfl hk⟩
      refine rv1 b s A _ _ _ w h (fun W hW => ?_)
      exact mfixed_ok b s A 8 _ ((A + 8 : Nat) : Int) W hW (fun W => fixed_ok8 s A W (by omega) (by omega))
    · rename_i h8
      simp only [Prod.mk.injEq] at hx
      obtain ⟨rfl, rfl, rfl, rfl⟩ := hx
      refine ⟨fun hk => (by cases hk), fun _ => ?_⟩
      exact (rv1 b s A _ 8 0 w h (fun W hW => mfixed_no b s A 8 8 W hW rfl (fun W => fixed_short8 s A W (by omega) (by omega)))).mono fun e w' h => RvE.of (.ei 0) h
  · have H := readText_any b s A hA hs w h v t k K hx
    refine ⟨fun hk => ?_, fun hk => ?_⟩
    · exact rv2 b s A _ _ _ w h (H.1 hk)
    · obtain ⟨a', h'⟩ := H.2 hk
      exact (rv2 b s A _ _ _ w h h').mono fun e w' h => RvE.of (.tx ⟨#[]⟩) h
  · simp only [rdv, show ¬ (5 : Nat) = 0 from by decide, show ¬ (5 : Nat) = 1 from by decide, show ¬ (5 : Nat) = 2 from by decide, if_false, lft_length] at hx
    split at hx
    · rename_i h8
      simp only [Prod.mk.injEq] at hx
      obtain ⟨rfl, rfl, rfl, rfl⟩ := hx
      refine ⟨fun _ => ?_, fun hk => absurd rfl hk⟩
      have hlt : Bt.fv ((lft s A).take 4) < 4294967296 := by
        have := Bt.fv_lt ((lft s A).take 4)
        rw [List.length_take, lft_length, show min 4 (s.size - A) = 4 by omega, e4] at this
        exact this
      refine rv5 b s A _ _ _ (by omega) (by omega) w h (fun W hW => ?_)
      exact mfixed_ok b s A 4 _ ((A + 4 : Nat) : Int) W hW (fun W => fixed_ok4 s A W (by omega) (by omega))
    · rename_i h8
      simp only [Prod.mk.injEq] at hx
      obtain ⟨rfl, rfl, rfl, rfl⟩ := hx
      refine ⟨fun hk => (by cases hk), fun _ => ?_⟩
      exact (rv5 b s A _ 8 0 (by omega) (by omega) w h (fun W hW => mfixed_no b s A 4 8 W hW rfl (fun W => fixed_short4 s A W (by omega) (by omega)))).mono fun e w' h => RvE.of (.fo 0) h
end Go.Proofs.Ytknfodpegkpjnaa
