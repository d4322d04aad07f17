/- The contract of Decode, whatever it is handed. -/
import Derived.Test.YtnnogjojoeajnaaDc
namespace Go.Proofs.Ytnnogjojoeajnaa
open Go.RowKit Go.Shelf Go.Sort
attribute [local go_sem] Oper.semAt_some
theorem szs_no {l : List UInt8} {N C K : Nat} (h : szs l = (N, C, K)) (hK : K ≠ 0) : N = 0 := by
  unfold szs at h
  generalize Bt.rd l 0 0 = r at *
  obtain ⟨a, b, c⟩ := r
  dsimp only at h
  split at h
  · simp only [Prod.mk.injEq] at h; omega
  · split at h
    · simp only [Prod.mk.injEq] at h; omega
    · simp only [Prod.mk.injEq] at h; omega
theorem ret13 {w W : World} {n : Nat} {a : Act} {x : List UInt8 × Int} (h0 : Boxed W w.heap.size 9 (.string (bs x.1))) (h1 : Boxed W (w.heap.size + 1) 23 (.int .i64 x.2)) (hb : Below w.heap.size w W)
    (ha4 : a.tmps.getD 4 undef = .pointer (some ⟨w.heap.size, 0, none⟩)) (ha5 : a.tmps.getD 5 undef = .pointer (some ⟨w.heap.size + 1, 0, none⟩)) (hd : a.defers = []) :
    bodyPostM Fence.wide n Try.prog Try.f13 (Told w x) .ret a W := by
  obtain ⟨tm, df⟩ := a
  dsimp only at ha4 ha5 hd
  subst hd
  exact ⟨_, results13 _ w.heap.size (w.heap.size + 1) _ _ h0.cell h1.cell _ ha4 ha5, rfl, hb⟩
theorem box13 (w : World) (y : Int) : Boxed ((w.alloc (.cells #[.string ⟨#[]⟩] 9)).alloc (.cells #[.int .i64 y] 23)) w.heap.size 9 (.string (bs [])) ∧ Boxed ((w.alloc (.cells #[.string ⟨#[]⟩] 9)).alloc (.cells #[.int .i64 y] 23)) (w.heap.size + 1) 23 (.int .i64 y) ∧
    Below w.heap.size w ((w.alloc (.cells #[.string ⟨#[]⟩] 9)).alloc (.cells #[.int .i64 y] 23)) := by
  refine ⟨(Boxed.new w 9 _).alloc _, ?_, ((Below.refl _ w).alloc (Nat.le_refl _) _).alloc (by simp) _⟩
  have := Boxed.new (w.alloc (.cells #[.string ⟨#[]⟩] 9)) 23 (.int .i64 y)
  rw [World.size_alloc] at this
  exact this
set_option maxRecDepth 100000 in
set_option maxHeartbeats 400000 in
theorem decode_any (s : ByteArray) (hs : s.size ≤ 1000000000000) (most : Int) (hm1 : -9223372036854775808 ≤ most) (hm2 : most ≤ 9223372036854775807) (w : World) :
    Calls Try.prog 13 #[.string s, .int .i64 most] w (Told w (decode s.data.toList most)) := by
  unfold decode
  obtain ⟨N, C, K, hz⟩ : ∃ N C K, szs s.data.toList = (N, C, K) := ⟨_, _, _, rfl⟩
  have HZ := size_any s (by omega) w
  rw [hz] at HZ ⊢
  dsimp only at HZ ⊢
  by_cases hK : K = 0
  · subst hK
    rw [if_neg (by simp)]
    have hN : N < 4294967296 := szs_lt hz
    by_cases hm : most < 0 ∨ most < (N : Int)
    · rw [if_pos hm]
      have hN1 : (N : Int) < 4294967296 := by omega
      have hN0 : 0 ≤ (N : Int) := by omega
      clear hN
      have HQ : Hid (∀ W, Calls Try.prog 19 #[.string s] W fun e w' => e = .returned (.tuple #[.int .u64 (N : Int), .int .i64 ((0 : Nat) : Int)]) ∧ W = w') := Lib.hid (fun W => by have := size_any s (by omega) W; rw [hz] at this; exact this)
      clear HZ hz
      generalize (N : Int) = M at *
      have key : most < 0 ∨ (0 ≤ most ∧ most < M) := by omega
      clear hm
      rcases key with hm | ⟨hm, hm'⟩
      · refine (callsIn_wide (n := 5)).1 ?_
        refine callsIn_of_wp_marks Try.func13 rfl trivial ?_ rfl
        simp only [Try.ntmps13, List.size_toArray, List.length_cons, List.length_nil, Nat.reduceAdd, Nat.reduceSub, Array.replicate_succ, Array.replicate_zero, List.push_toArray, List.append_toArray, List.nil_append, List.cons_append]
        gi_wp2_with fail
        refine ⟨trivial, (callsIn_wide.2 (HQ.out _)).mono ?_⟩
        rintro e w1 ⟨rfl, rfl⟩
        gi_wp2
        exact ret13 (x := ([], 40)) ((box13 w 40).1.alloc _) ((box13 w 40).2.1.alloc _) ((box13 w 40).2.2.alloc (by simp; omega) _) rfl rfl rfl
      · refine (callsIn_wide (n := 5)).1 ?_
        refine callsIn_of_wp_marks Try.func13 rfl trivial ?_ rfl
        simp only [Try.ntmps13, List.size_toArray, List.length_cons, List.length_nil, Nat.reduceAdd, Nat.reduceSub, Array.replicate_succ, Array.replicate_zero, List.push_toArray, List.append_toArray, List.nil_append, List.cons_append]
        gi_wp2_with fail
        refine ⟨trivial, (callsIn_wide.2 (HQ.out _)).mono ?_⟩
        rintro e w1 ⟨rfl, rfl⟩
        gi_wp2
        exact ret13 (x := ([], 40)) ((box13 w 40).1.alloc _) ((box13 w 40).2.1.alloc _) ((box13 w 40).2.2.alloc (by simp; omega) _) rfl rfl rfl
    · rw [if_neg hm]
      exact decode_walk s (by omega) hs most N C hz hN (by omega) (by omega) hm2 w
  · rw [if_pos hK]
    have HQ : Hid (∀ W, Calls Try.prog 19 #[.string s] W fun e w' => e = .returned (.tuple #[.int .u64 0, .int .i64 (K : Int)]) ∧ W = w') := Lib.hid (fun W => by have := size_any s (by omega) W; rw [hz, szs_no hz hK] at this; exact this)
    have hK1 : ((K : Int) != 0) = true := by rw [bne_iff_ne]; omega
    clear HZ hz
    generalize (K : Int) = k at *
    refine (callsIn_wide (n := 5)).1 ?_
    refine callsIn_of_wp_marks Try.func13 rfl trivial ?_ rfl
    simp only [Try.ntmps13, List.size_toArray, List.length_cons, List.length_nil, Nat.reduceAdd, Nat.reduceSub, Array.replicate_succ, Array.replicate_zero, List.push_toArray, List.append_toArray, List.nil_append, List.cons_append]
    gi_wp2_with fail
    refine ⟨trivial, (callsIn_wide.2 (HQ.out _)).mono ?_⟩
    rintro e w1 ⟨rfl, rfl⟩
    gi_wp2
    exact ret13 (x := ([], k)) ((box13 w k).1.alloc _) ((box13 w k).2.1.alloc _) ((box13 w k).2.2.alloc (by simp; omega) _) rfl rfl rfl
end Go.Proofs.Ytnnogjojoeajnaa
