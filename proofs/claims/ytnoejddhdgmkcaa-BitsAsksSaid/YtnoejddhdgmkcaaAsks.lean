/- BitsAsks: for every text and every list of asks the law answers true. No condition. -/
import Derived.Test.YtnoejddhdgmkcaaRows
import Derived.Test.YtnoejddhdgmkcaaAw
import Derived.Test.YtnoejddhdgmkcaaRt
import Derived.Test.YtnoejddhdgmkcaaSticks
import Derived.WalkKit
import Derived.ProofKit
import Derived.OpenShut
import Derived.ShutString
namespace Go.Proofs.Ytnoejddhdgmkcaa
open Go.RowKit
set_option maxRecDepth 100000 in
set_option maxHeartbeats 400000 in
theorem qend_err (b : Nat) (s : ByteArray) (a e : Int) (w : World) (h : RdAt w b s a e) (he : (e == 0) = false) :
    Calls Try.prog 41 #[.pointer (some ⟨b, 0, none⟩)] w fun en w' => en = .returned (.int .i64 e) ∧ ∃ m, w' = w.drewN m := by
  have c0 := h.c0
  have c1 := h.c1
  have c2 := h.c2
  clear h
  go_enter Try.func41, Try.ntmps41
  go_wp2
  go_quiet (fail)
  go_wp2
  go_ret
  exact ⟨rfl, _, rfl⟩
set_option maxRecDepth 100000 in
set_option maxHeartbeats 400000 in
theorem qend_more (b : Nat) (s : ByteArray) (a : Nat) (w : World) (h : RdAt w b s a 0) (ha : a < s.size) :
    Calls Try.prog 41 #[.pointer (some ⟨b, 0, none⟩)] w fun en w' => en = .returned (.int .i64 4) ∧ ∃ m, w' = w.drewN m := by
  have c0 := h.c0
  have c1 := h.c1
  have c2 := h.c2
  have hd : decide (a < s.size) = true := decide_eq_true ha
  clear h
  go_enter Try.func41, Try.ntmps41
  go_wp2
  go_quiet (fail)
  go_wp2
  go_ret
  exact ⟨rfl, _, rfl⟩
set_option maxRecDepth 100000 in
set_option maxHeartbeats 400000 in
theorem qend_all (b : Nat) (s : ByteArray) (w : World) (h : RdAt w b s (s.size : Int) 0) :
    Calls Try.prog 41 #[.pointer (some ⟨b, 0, none⟩)] w fun en w' => en = .returned (.int .i64 0) ∧ ∃ m, w' = w.drewN m := by
  have c0 := h.c0
  have c1 := h.c1
  have c2 := h.c2
  clear h
  go_enter Try.func41, Try.ntmps41
  go_wp2
  go_quiet (fail)
  go_wp2
  go_ret
  exact ⟨rfl, _, rfl⟩
/-- The end, told by both. -/
def EndAt (f : Nat) (s : ByteArray) (a e E : Int) : Prop := ∀ (w : World) (b : Nat), RdAt w b s a e → Calls Try.prog f #[.pointer (some ⟨b, 0, none⟩)] w fun en w' => en = .returned (.int .i64 E) ∧ ∃ m, w' = w.drewN m
theorem end_both (s : ByteArray) (a e : Nat) (ha : a ≤ s.size) (hs : s.size ≤ 3000) : ∃ E : Int, EndAt 21 s a e E ∧ EndAt 41 s a e E := by
  by_cases he : e = 0
  · subst he
    by_cases hl : a < s.size
    · exact ⟨4, fun w b h => end_more b s a w h (by omega) (by omega) (by omega), fun w b h => qend_more b s a w h hl⟩
    · obtain rfl : a = s.size := by omega
      exact ⟨0, fun w b h => end_all b s w h (by omega), fun w b h => qend_all b s w h⟩
  · exact ⟨e, fun w b h => (end_err b e w h.c2 (ne0 he)).mono fun _ _ h => ⟨h.1, 0, h.2.symm⟩, fun w b h => qend_err b s a e w h (eq0 he)⟩
theorem RdAt.newT (w : World) (s : ByteArray) (T : TypeId) : RdAt (w.alloc (.cells #[.string s, .int .i64 0, .int .i64 0] T)) w.heap.size s 0 0 := by
  have hat : (w.alloc (.cells #[.string s, .int .i64 0, .int .i64 0] T)).heap[w.heap.size]? = some (.cells #[.string s, .int .i64 0, .int .i64 0] T (0, 0)) := heap_alloc_new w _
  refine ⟨?_, ?_, ?_, ?_, ?_⟩
  · simp only [World.cell?, hat]; rfl
  · simp only [World.cell?, hat]; rfl
  · simp only [World.cell?, hat]; rfl
  · simp only [World.frozen?, hat]; rfl
  · simp only [World.frozen?, hat]; rfl
namespace bitsAsks
open Go.ChangeShapes Go.WideShapes Go.ChangeAt Go.RowKit
open Go.ChangeMaps (open_string shut_string)
set_option linter.unusedVariables false
theorem RdAt_other {w w' : World} {b c : Nat} {s : ByteArray} {a e : Int} (h : RdAt w b s a e) (hg : w.grownBy w' (some c)) (hne : b ≠ c) : RdAt w' b s a e :=
  h.congr (hg.block b h.lt (fun h => by cases h; exact hne rfl))
set_option maxRecDepth 100000 in
set_option maxHeartbeats 4000000 in
theorem main (s : ByteArray) (bl off len cap : Nat) (q : Nat → Quad) (hs : s.size ≤ 3000) (hl : len ≤ 200) (hp : 0 < len) (w : World) (hA : AsksAt w bl off len q) :
    Calls Try.prog 6 #[.string s, .slice (some ⟨bl, off, none⟩) len cap] w fun e w' => e = .returned (.bool true) ∧ Below w.heap.size w w' := by
  have hbl := hA.lt hp
  have HA := Lib.hid hA
  clear hA
  have R1 := Lib.hid ((RdAt.newT w s 75).alloc (.cells #[.string s, .int .i64 0, .int .i64 0] 54))
  have R2 : Hid (RdAt ((w.alloc (.cells #[.string s, .int .i64 0, .int .i64 0] 75)).alloc (.cells #[.string s, .int .i64 0, .int .i64 0] 54)) (w.heap.size + 1) s 0 0) := by
    have h := RdAt.newT (w.alloc (.cells #[.string s, .int .i64 0, .int .i64 0] 75)) s 54
    rw [World.size_alloc] at h
    exact h
  have HB : Hid (Below w.heap.size w ((w.alloc (.cells #[.string s, .int .i64 0, .int .i64 0] 75)).alloc (.cells #[.string s, .int .i64 0, .int .i64 0] 54))) := Lib.hid (((Below.refl _ _).alloc (Nat.le_refl _) _).alloc (by simp) _)
  go_enter Try.func6, Try.ntmps6
  go_wp2_with fail
  refine (new_any s _).mono ?_
  rintro e w2 ⟨rfl, rfl⟩
  go_wp2
  go_loopw [7] (fun i wr => ∃ (k a e : Nat), i = .int .i64 k ∧ k ≤ len ∧ a ≤ s.size ∧ Hid (RdAt wr w.heap.size s a e) ∧ Hid (RdAt wr (w.heap.size + 1) s a e) ∧ Hid (Below w.heap.size w wr)) (fun i _ => len - (intOf i).toNat)
  case atStart => exact ⟨0, 0, 0, rfl, by omega, by omega, R1, R2, HB⟩
  case round =>
    obtain ⟨k, a, e, rfl, hk, ha, R1, R2, HB⟩ := hrel
    by_cases hlt : k < len
    · have hAr := HA.out.c k hlt
      rcases hq : q k with ⟨W, N, A, B⟩
      rw [hq] at hAr
      clear hq
      obtain ⟨x0, x1, x2, x3, ok⟩ := hAr
      simp only at x0 x1 x2 x3
      have hN := Go.bounds_u64 ok.n
      have hAA := Go.bounds_i64 ok.a
      simp only at hN hAA
      obtain ⟨n, t, a', e', hAsk, hTell, ha'⟩ := both_spec s a e ha hs W N A B hN.1 hAA.1 hAA.2
      obtain ⟨E, hE1, hE2⟩ := end_both s a' e' ha' hs
      have HAsk := Lib.hid hAsk
      have HTell := Lib.hid hTell
      have HE1 := Lib.hid hE1
      have HE2 := Lib.hid hE2
      clear hAsk hTell ok hN hAA hE1 hE2
      rw [Nat.add_zero] at x0
      have X0 := Lib.hid x0
      have X1 : Hid (w.cell? ⟨bl, off + k * 4 + 1, none⟩ = some (.int .u64 N)) := x1
      have X2 : Hid (w.cell? ⟨bl, off + k * 4 + 2, none⟩ = some (.int .i64 A)) := x2
      have X3 : Hid (w.cell? ⟨bl, off + k * 4 + 3, none⟩ = some (.int .i64 B)) := x3
      clear x0 x1 x2 x3
      have c0 := (HB.out.cell (p := ⟨bl, off + k * 4, none⟩) hbl).trans X0.out
      have c1 := (HB.out.cell (p := ⟨bl, off + k * 4 + 1, none⟩) hbl).trans X1.out
      have c2 := (HB.out.cell (p := ⟨bl, off + k * 4 + 2, none⟩) hbl).trans X2.out
      have c3 := (HB.out.cell (p := ⟨bl, off + k * 4 + 3, none⟩) hbl).trans X3.out
      go_wp2_with fail
      refine (HAsk.out _ _ R1.out).mono ?_
      rintro e1 w3 ⟨rfl, hR, hG⟩
      have R2 := Lib.hid (RdAt_other R2.out hG (by omega))
      have R1 := Lib.hid hR
      have HB := Lib.hid (HB.out.grown hG HB.out.size (fun _ h => by cases h; exact Nat.le_refl _))
      clear hR hG c0 c1 c2 c3
      have c0 := (HB.out.cell (p := ⟨bl, off + k * 4, none⟩) hbl).trans X0.out
      have c1 := (HB.out.cell (p := ⟨bl, off + k * 4 + 1, none⟩) hbl).trans X1.out
      have c2 := (HB.out.cell (p := ⟨bl, off + k * 4 + 2, none⟩) hbl).trans X2.out
      have c3 := (HB.out.cell (p := ⟨bl, off + k * 4 + 3, none⟩) hbl).trans X3.out
      go_wp2_with fail
      refine (HTell.out _ _ R2.out).mono ?_
      rintro e1 w4 ⟨rfl, hR, hG⟩
      have R1 := Lib.hid (RdAt_other R1.out hG (by omega))
      have R2 := Lib.hid hR
      have HB := Lib.hid (HB.out.grown hG HB.out.size (fun _ h => by cases h; omega))
      clear hR hG c0 c1 c2 c3
      have d1 := R2.out.c1
      have d2 := R2.out.c2
      go_wp2_with fail
      go_quiet ((first
        | (go_at_call 19; exact Calls.quiet_of_same ((at_any _ _ _ (R1.out.drewN _).c1).mono fun _ _ h => ⟨h.1, h.2.symm⟩))
        | (go_at_call 18; exact Calls.quiet_of_same ((err_any _ _ _ (R1.out.drewN _).c2).mono fun _ _ h => ⟨h.1, h.2.symm⟩))
        | (go_at_call 22; exact Calls.quiet_of (left_any _ s _ _ (R1.out.drewN _).c0 (R1.out.drewN _).c1 (by omega) (by omega) (by omega)))
        | (go_at_call 21; exact Calls.quiet_of (HE1.out _ _ (R1.out.drewN _)))
        | (go_at_call 41; exact Calls.quiet_of (HE2.out _ _ (R2.out.drewN _)))))
      rename_i nq
      go_wp2
      go_roundw
      case rel => exact ⟨k + 1, a', e', by go_num, by omega, ha', Lib.hid (R1.out.drewN _), Lib.hid (R2.out.drewN _), Lib.hid (below_drewN HB.out _)⟩
      case measure => simp [intOf]; omega
    · obtain rfl : k = len := by omega
      go_wp2_with fail
      refine (awake_any _).mono ?_
      rintro e1 w3 ⟨rfl, hb1⟩
      have HB3 := Lib.hid hb1; clear hb1
      go_wp2
      go_ret
      exact ⟨rfl, HB.out.trans (HB3.out.mono HB.out.size)⟩
set_option maxRecDepth 100000 in
set_option maxHeartbeats 2000000 in
theorem long (s : ByteArray) (a0 : Option Addr) (len cap : Nat) (h : 3000 < s.size ∨ 200 < len) (w : World) :
    Calls Try.prog 6 #[.string s, .slice a0 len cap] w fun e w' => e = .returned (.bool true) ∧ Below w.heap.size w w' := by
  by_cases hs : 3000 < s.size
  · go_enter Try.func6, Try.ntmps6
    go_wp2_with fail
    refine (awake_any _).mono ?_
    rintro e w1 ⟨rfl, hb1⟩
    have HB1 := Lib.hid hb1; clear hb1
    go_wp2
    go_ret
    exact ⟨rfl, HB1.out⟩
  · have hl : 200 < len := by omega
    clear h
    go_enter Try.func6, Try.ntmps6
    go_wp2_with fail
    refine (awake_any _).mono ?_
    rintro e w1 ⟨rfl, hb1⟩
    have HB1 := Lib.hid hb1; clear hb1
    go_wp2
    go_ret
    exact ⟨rfl, HB1.out⟩
set_option maxRecDepth 100000 in
set_option maxHeartbeats 2000000 in
theorem nothing (s : ByteArray) (a0 : Option Addr) (cap : Nat) (hs : s.size ≤ 3000) (w : World) :
    Calls Try.prog 6 #[.string s, .slice a0 0 cap] w fun e w' => e = .returned (.bool true) ∧ Below w.heap.size w w' := by
  have HB : Hid (Below w.heap.size w ((w.alloc (.cells #[.string s, .int .i64 0, .int .i64 0] 75)).alloc (.cells #[.string s, .int .i64 0, .int .i64 0] 54))) := Lib.hid (((Below.refl _ _).alloc (Nat.le_refl _) _).alloc (by simp) _)
  go_enter Try.func6, Try.ntmps6
  go_wp2_with fail
  refine (new_any s _).mono ?_
  rintro e w2 ⟨rfl, rfl⟩
  go_wp2
  refine wp_loop_rounds 1 ?_
  rw [rounds_succ]
  go_wp2_with fail
  refine (awake_any _).mono ?_
  rintro e1 w3 ⟨rfl, hb1⟩
  have HB3 := Lib.hid hb1; clear hb1
  go_wp2
  go_ret
  exact ⟨rfl, HB.out.trans (HB3.out.mono HB.out.size)⟩
theorem core (s : ByteArray) (v : Value) (u : Unit) (w0 : s.size ≤ maxLen) (w : World) (h : Asks w v) :
    Calls Try.prog 6 #[.string s, v] w fun e w' => e = .returned (.bool true) ∧ Below w.heap.size w w' := by
  by_cases hs : 3000 < s.size
  · rcases h with ⟨a, cap, rfl⟩ | ⟨b, off, len, cap, q, rfl, _, _⟩
    · exact long s _ _ _ (.inl hs) w
    · exact long s _ _ _ (.inl hs) w
  · rcases h with ⟨a, cap, rfl⟩ | ⟨b, off, len, cap, q, rfl, hp, hA⟩
    · exact nothing s a cap (by omega) w
    · by_cases hl : 200 < len
      · exact long s _ _ _ (.inr hl) w
      · exact main s b off len cap q (by omega) (by omega) hp w hA
theorem own : ownKnob Try.prog.godebug = none := by kernel_rfl
theorem laidOut : laidOutB Try.prog = true := by kernel_rfl
set_option maxRecDepth 100000 in
theorem lifted (os : Os) (started : os.Started) (H : Type) (enc : TypeId × Value → H) :
    ReturnsInHanded {} Try.checked os 6 .any (Rows.bitsAsksSpec.pre6 enc Try.prog Try.f6 Rows.bitsAsksRow.domain false) (Rows.bitsAsksSpec.post enc Try.prog Try.f6 false true false false) := by
  refine returnsInHanded_of_change (C := Try.checked) own started (by kernel_rfl) Try.func6
    (ChangeSpec.witness6 (enc := enc) (C := Try.checked) false ⟨#[], #[.string ByteArray.empty, .slice none 0 0], []⟩ 8 (by kernel_rfl) (by kernel_rfl) (by kernel_rfl) (by kernel_rfl)) ?_
  intro W base args ds gs before hval0 hW hcnd _
  have hval : ∀ (j : Nat) t v, Try.f6.params[j]? = some t → args[j]? = some v → Value.okWide Try.prog W .any base t v := hval0
  have hW' := hW
  obtain ⟨p, q, hA0, hV, rfl, hfz, hnd⟩ := hW
  have hA : DataW.TrodAll enc Try.prog W 0 (fun _ => true) true Try.f6.params.toList args.toList ds p := hA0
  rw [Try.params6] at hA hval
  obtain ⟨v0, vs0, d0, ds0, p0, q0, hargs, rfl, rfl, h0, r0⟩ := trodAll_cons hA
  obtain ⟨v1, vs1, d1, ds1, p1, q1, rfl, rfl, rfl, h1, r1⟩ := trodAll_cons r0
  obtain ⟨rfl, rfl, rfl⟩ := trodAll_nil r1
  obtain rfl : args = #[v0, v1] := by cases args; simp_all
  obtain ⟨rfl, rfl⟩ := trodVars_none hV
  have k0 := h0
  have lt0 : ∀ x ∈ p0, x.block < W.heap.size := by obtain ⟨m, hm⟩ := k0; exact DataW.trod_lt m _ _ _ hm
  have k1 := h1
  have lt1 : ∀ x ∈ p1, x.block < W.heap.size := by obtain ⟨m, hm⟩ := k1; exact DataW.trod_lt m _ _ _ hm
  obtain ⟨a0, rfl, rfl, rfl, w0⟩ := open_string Try.underlying9 (hval 0 9 v0 rfl rfl) h0
  obtain ⟨a1, w1⟩ := open_asks (hval 1 51 v1 rfl rfl) h1
  clear hA0 hval0
  refine (core a0 v1 a1 w0 W w1).mono fun e W' ⟨he, bel⟩ => ?_
  subst he
  exact ⟨_, rfl, _, _, _, [], _, [], hW', trodAll_mk1 (shut_bool Try.underlying4 _), (trodAll_cons_mk (Below.trod laidOut (by kernel_rfl) (of_decide_eq_true (by kernel_rfl)) k0 bel lt0) (trodAll_cons_mk (Below.trod laidOut (by kernel_rfl) (of_decide_eq_true (by kernel_rfl)) k1 bel lt1) trodAll_mk0)), rfl, bel.frame _, fun h => by cases h⟩
theorem over : Rows.bitsAsksRow.holds Try.pinned (OpenSpec.ofChange Rows.bitsAsksSpec) :=
  OpenClaim.holds_of_wide 6 Try.f6 rfl rfl rfl rfl rfl rfl rfl ⟨rfl, rfl, rfl, rfl, rfl⟩ rfl rfl rfl rfl rfl (by kernel_rfl) Try.func6 (by kernel_rfl)
    (of_decide_eq_true (by kernel_rfl)) (by unfold Func.isWrapper; first | (rw [if_pos (by decide +kernel)]; kernel_rfl) | (rw [if_neg (by decide +kernel)]; exact ⟨rfl, rfl⟩))
    (fun os started H enc _ => lifted os started H enc)
theorem proved : Rows.BitsAsksSaid := over
end bitsAsks
end Go.Proofs.Ytnoejddhdgmkcaa
