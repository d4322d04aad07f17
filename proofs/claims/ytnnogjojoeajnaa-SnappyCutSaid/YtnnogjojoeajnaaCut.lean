/- SnappyCut: for any text, any place, any byte the law answers true. No condition. -/
import Derived.Test.YtnnogjojoeajnaaRows
import Derived.Test.YtnnogjojoeajnaaAw
import Derived.WalkKit
import Derived.ProofKit
import Derived.OpenShut
import Derived.ShutString
import Derived.Lib.BufferWrite
namespace Go.Proofs.Ytnnogjojoeajnaa.snappyCut
open Go.ChangeShapes Go.WideShapes Go.ChangeAt Go.RowKit
open Go.ChangeMaps (open_string shut_string)
set_option linter.unusedVariables false
theorem rd_pre : ∀ (l : List UInt8) (i n N C : Nat), Bt.rd l i n = (N, C, 0) → i < C ∧ C ≤ i + l.length ∧ (∀ j, j + i < C → (Bt.rd (l.take j) i n).2.2 = 8) ∧ ∀ r, Bt.rd (l.take (C - i) ++ r) i n = (N, C, 0)
  | [], i, n, N, C, h => by rw [Bt.rd] at h; simp at h
  | b :: l, i, n, N, C, h => by
    rw [Bt.rd] at h
    by_cases h1 : i = 9 ∧ 1 < b.toNat
    · rw [if_pos h1] at h; simp at h
    · rw [if_neg h1] at h
      by_cases h2 : b.toNat < 128
      · rw [if_pos h2] at h
        simp only [Prod.mk.injEq, and_true] at h
        obtain ⟨rfl, rfl⟩ := h
        refine ⟨by omega, by simp, fun j hj => ?_, fun r => ?_⟩
        · obtain rfl : j = 0 := by omega
          rfl
        · rw [show i + 1 - i = 1 by omega, List.take_succ_cons, List.take_zero, List.cons_append, Bt.rd, if_neg h1, if_pos h2]
      · rw [if_neg h2] at h
        obtain ⟨a1, a2, a3, a4⟩ := rd_pre l _ _ _ _ h
        refine ⟨by omega, by rw [List.length_cons]; omega, fun j hj => ?_, fun r => ?_⟩
        · cases j with
          | zero => rfl
          | succ j =>
            rw [List.take_succ_cons, Bt.rd, if_neg h1, if_neg h2]
            exact a3 j (by omega)
        · rw [show C - i = (C - (i + 1)) + 1 by omega, List.take_succ_cons, List.cons_append, Bt.rd, if_neg h1, if_neg h2]
          exact a4 r
theorem lit_take {r : List UInt8} {K n : Nat} {p : Pt} {k : Nat} (h : lit r K n = (p, k, true)) : k = K + n ∧ k ≤ r.length ∧ (∀ j, k ≤ j → ∀ z, lit (r.take j ++ z) K n = (p, k, true)) ∧ ∀ j, j < k → (lit (r.take j) K n).2.2 = false := by
  unfold lit at h
  split at h
  · rename_i h1
    simp only [Prod.mk.injEq, and_true] at h
    obtain ⟨rfl, rfl⟩ := h
    refine ⟨rfl, h1, fun j hj z => ?_, fun j hj => ?_⟩
    · unfold lit
      rw [if_pos (by rw [List.length_append, List.length_take]; omega)]
      have : ((r.take j ++ z).drop K).take n = (r.drop K).take n := by
        rw [List.drop_append_of_le_length (by rw [List.length_take]; omega), List.take_append_of_le_length (by rw [List.length_drop, List.length_take]; omega), List.drop_take, List.take_take, show min n (j - K) = n by omega]
      rw [this]
    · unfold lit
      rw [if_neg (by rw [List.length_take]; omega)]
  · simp at h
theorem take_pre' {r z : List UInt8} {k j : Nat} (h : k ≤ j) (hr : k ≤ r.length) : (r.take j ++ z).take k = r.take k := by
  rw [List.take_append_of_le_length (by rw [List.length_take]; omega), List.take_take, show min k j = k by omega]
theorem cpy_take {r : List UInt8} {l o k k' : Nat} {p : Pt} (h : cpy r l o k = (p, k', true)) : k' = k ∧ k ≤ r.length ∧ p = ⟨true, bs [], o, l⟩ := by
  unfold cpy at h
  split at h
  · rename_i h1
    simp only [Prod.mk.injEq, and_true] at h
    exact ⟨h.2.symm, h1, h.1.symm⟩
  · simp at h
theorem cpy_yes {r : List UInt8} {l o k : Nat} (h : k ≤ r.length) : cpy r l o k = (⟨true, bs [], o, l⟩, k, true) := by unfold cpy; rw [if_pos h]
theorem cpy_no {r : List UInt8} {l o k : Nat} (h : r.length < k) : (cpy r l o k).2.2 = false := by unfold cpy; rw [if_neg (by omega)]
/-- An element hangs on its own bytes alone, and has one at least that it stands for. -/
theorem el_take {c : UInt8} {r : List UInt8} {p : Pt} {k : Nat} (h : el c r = (p, k, true)) : k ≤ r.length ∧ 1 ≤ cnt p ∧ 0 ≤ p.l ∧ (∀ j, k ≤ j → ∀ z, el c (r.take j ++ z) = (p, k, true)) ∧ ∀ j, j < k → (el c (r.take j)).2.2 = false := by
  unfold el at h ⊢
  by_cases h0 : c.toNat % 4 = 0
  · simp only [if_pos h0] at h ⊢
    by_cases h1 : c.toNat / 4 < 60
    · simp only [if_pos h1] at h ⊢
      obtain ⟨a1, a2, a3, a4⟩ := lit_take h
      refine ⟨a2, ?_, ?_, a3, a4⟩
      · unfold lit at h
        rw [if_pos (by omega)] at h
        simp only [Prod.mk.injEq, and_true] at h
        rw [← h.1]
        unfold cnt
        simp only [Bool.false_eq_true, if_false, bs_size, List.length_take, List.length_drop]
        omega
      · unfold lit at h
        rw [if_pos (by omega)] at h
        simp only [Prod.mk.injEq, and_true] at h
        rw [← h.1]
        exact Int.le_refl _
    · simp only [if_neg h1] at h ⊢
      by_cases h2 : c.toNat / 4 - 59 ≤ r.length
      · simp only [if_pos h2] at h
        obtain ⟨a1, a2, a3, a4⟩ := lit_take h
        refine ⟨a2, ?_, ?_, fun j hj z => ?_, fun j hj => ?_⟩
        · unfold lit at h
          rw [if_pos (by omega)] at h
          simp only [Prod.mk.injEq, and_true] at h
          rw [← h.1]
          unfold cnt
          simp only [Bool.false_eq_true, if_false, bs_size, List.length_take, List.length_drop]
          omega
        · unfold lit at h
          rw [if_pos (by omega)] at h
          simp only [Prod.mk.injEq, and_true] at h
          rw [← h.1]
          exact Int.le_refl _
        · rw [if_pos (by rw [List.length_append, List.length_take]; omega), take_pre' (by omega) h2]
          exact a3 j hj z
        · by_cases h3 : c.toNat / 4 - 59 ≤ (r.take j).length
          · rw [if_pos h3]
            have : (r.take j).take (c.toNat / 4 - 59) = r.take (c.toNat / 4 - 59) := by
              rw [List.take_take]
              rw [List.length_take] at h3
              rw [show min (c.toNat / 4 - 59) j = c.toNat / 4 - 59 by omega]
            rw [this]
            exact a4 j hj
          · rw [if_neg h3]
      · simp only [if_neg h2] at h
        simp at h
  · simp only [if_neg h0] at h ⊢
    by_cases h1 : c.toNat % 4 = 1
    · simp only [if_pos h1] at h ⊢
      obtain ⟨rfl, a2, rfl⟩ := cpy_take h
      refine ⟨a2, by unfold cnt; simp; omega, by simp; omega, fun j hj z => ?_, fun j hj => cpy_no (by rw [List.length_take]; omega)⟩
      rw [take_pre' (by omega) a2]
      exact cpy_yes (by rw [List.length_append, List.length_take]; omega)
    · simp only [if_neg h1] at h ⊢
      by_cases h2 : c.toNat % 4 = 2
      · simp only [if_pos h2] at h ⊢
        obtain ⟨rfl, a2, rfl⟩ := cpy_take h
        refine ⟨a2, by unfold cnt; simp; omega, by simp; omega, fun j hj z => ?_, fun j hj => cpy_no (by rw [List.length_take]; omega)⟩
        rw [take_pre' (by omega) a2]
        exact cpy_yes (by rw [List.length_append, List.length_take]; omega)
      · simp only [if_neg h2] at h ⊢
        obtain ⟨rfl, a2, rfl⟩ := cpy_take h
        refine ⟨a2, by unfold cnt; simp; omega, by simp; omega, fun j hj z => ?_, fun j hj => cpy_no (by rw [List.length_take]; omega)⟩
        rw [take_pre' (by omega) a2]
        exact cpy_yes (by rw [List.length_append, List.length_take]; omega)
theorem el_none (c : UInt8) : (el c []).2.2 = false := by
  unfold el lit cpy
  (repeat' split) <;> simp_all <;> omega
/-- A refusal by ErrForm, or by ErrShort. -/
def Bad (x : List UInt8 × Int) : Prop := x.2 = 4 ∨ x.2 = 8
theorem its_cons_yes {c : UInt8} {r : List UInt8} {p : Pt} {k : Nat} (h : el c r = (p, k, true)) : its (c :: r) = (p, 0) :: its (r.drop k) := by rw [its, h]; rfl
theorem its_cons_no {c : UInt8} {r : List UInt8} (h : (el c r).2.2 = false) : its (c :: r) = [((el c r).1, 8)] := by rw [its, h]; rfl
theorem dcd_no {N : Nat} {p : Pt} {b : List UInt8} : dcd N [(p, 8)] b = ([], 8) := by rw [dcd, if_pos (by decide)]
theorem dcd_yes {N : Nat} {p : Pt} {r : List (Pt × Int)} {b out : List UInt8} (h : dcd N ((p, 0) :: r) b = (out, 0)) : here p b.length = true ∧ (b.length : Int) + cnt p ≤ N ∧ dcd N r (gro b p) = (out, 0) := by
  rw [dcd, if_neg (by decide)] at h
  split at h
  · simp at h
  · rename_i h1
    simp only [Bool.or_eq_true, Bool.not_eq_true', decide_eq_true_eq, not_or, Bool.not_eq_false] at h1
    exact ⟨h1.1, by omega, h⟩
theorem dcd_step {N : Nat} {p : Pt} {r : List (Pt × Int)} {b : List UInt8} (h1 : here p b.length = true) (h2 : (b.length : Int) + cnt p ≤ N) : dcd N ((p, 0) :: r) b = dcd N r (gro b p) := by
  rw [dcd, if_neg (by decide), h1, if_neg (by simp; omega)]
theorem cut_dcd (N : Nat) : ∀ (n : Nat) (u : List UInt8) (b out : List UInt8), u.length ≤ n → dcd N (its u) b = (out, 0) → ∀ j, j < u.length → Bad (dcd N (its (u.take j)) b)
  | 0, u, b, out, hn, h, j, hj => by omega
  | n + 1, [], b, out, hn, h, j, hj => by simp at hj
  | n + 1, c :: r, b, out, hn, h, j, hj => by
    obtain ⟨p, k, f, he⟩ : ∃ p k f, el c r = (p, k, f) := ⟨_, _, _, rfl⟩
    cases f with
    | false =>
      rw [its_cons_no (by rw [he]), dcd_no] at h
      simp at h
    | true =>
      obtain ⟨k1, k2, k3, k4, k5⟩ := el_take he
      rw [its_cons_yes he] at h
      obtain ⟨d1, d2, d3⟩ := dcd_yes h
      cases j with
      | zero =>
        rw [List.take_zero, its, dcd, if_pos (by omega)]
        exact .inl rfl
      | succ j =>
        rw [List.take_succ_cons]
        by_cases hjk : k ≤ j
        · have e := k4 j hjk []
          rw [List.append_nil] at e
          rw [its_cons_yes e, dcd_step d1 d2, List.drop_take]
          rw [List.length_cons] at hj hn
          exact cut_dcd N n _ _ _ (by rw [List.length_drop]; omega) d3 _ (by rw [List.length_drop]; omega)
        · rw [its_cons_no (k5 j (by omega)), dcd_no]
          exact .inr rfl
theorem more_dcd (N : Nat) (z : UInt8) : ∀ (n : Nat) (u : List UInt8) (b out : List UInt8), u.length ≤ n → dcd N (its u) b = (out, 0) → Bad (dcd N (its (u ++ [z])) b)
  | n, [], b, out, hn, h => by
    rw [List.nil_append, its_cons_no (el_none z), dcd_no]
    exact .inr rfl
  | 0, c :: r, b, out, hn, h => by simp at hn
  | n + 1, c :: r, b, out, hn, h => by
    obtain ⟨p, k, f, he⟩ : ∃ p k f, el c r = (p, k, f) := ⟨_, _, _, rfl⟩
    cases f with
    | false =>
      rw [its_cons_no (by rw [he]), dcd_no] at h
      simp at h
    | true =>
      obtain ⟨k1, k2, k3, k4, k5⟩ := el_take he
      rw [its_cons_yes he] at h
      obtain ⟨d1, d2, d3⟩ := dcd_yes h
      have e := k4 r.length k1 [z]
      rw [List.take_length] at e
      rw [List.cons_append, its_cons_yes e, dcd_step d1 d2, List.drop_append_of_le_length k1]
      rw [List.length_cons] at hn
      exact more_dcd N z n _ _ _ (by rw [List.length_drop]; omega) d3
theorem szs_ok {l : List UInt8} {N C K : Nat} (h : szs l = (N, C, K)) (hK : K = 0) : Bt.rd l 0 0 = (N, C, 0) ∧ N < 4294967296 := by
  subst hK
  unfold szs at h
  generalize Bt.rd l 0 0 = r at *
  obtain ⟨a, b, c⟩ := r
  dsimp only at h
  split at h
  · rename_i hc
    simp only [Prod.mk.injEq] at h
    omega
  · rename_i hc
    have hc : c = 0 := by omega
    subst hc
    split at h
    · simp at h
    · simp only [Prod.mk.injEq, and_true] at h
      obtain ⟨rfl, rfl⟩ := h
      exact ⟨rfl, by omega⟩
theorem szs_of {l : List UInt8} {N C : Nat} (h : Bt.rd l 0 0 = (N, C, 0)) (hN : N < 4294967296) : szs l = (N, C, 0) := by
  unfold szs
  rw [h]
  dsimp only
  rw [if_neg (by decide), if_neg (by omega)]
theorem decode_ok {l : List UInt8} {m : Int} {out : List UInt8} (h : decode l m = (out, 0)) : ∃ N C, Bt.rd l 0 0 = (N, C, 0) ∧ N < 4294967296 ∧ 0 ≤ m ∧ (N : Int) ≤ m ∧ dcd N (its (l.drop C)) [] = (out, 0) := by
  unfold decode at h
  obtain ⟨N, C, K, hz⟩ : ∃ N C K, szs l = (N, C, K) := ⟨_, _, _, rfl⟩
  rw [hz] at h
  dsimp only at h
  split at h
  · rename_i hK
    simp only [Prod.mk.injEq] at h
    omega
  · rename_i hK
    split at h
    · simp at h
    · obtain ⟨h1, h2⟩ := szs_ok hz (by omega)
      exact ⟨N, C, h1, h2, by omega, by omega, h⟩
theorem decode_of {l : List UInt8} {m : Int} {N C : Nat} (h : Bt.rd l 0 0 = (N, C, 0)) (hN : N < 4294967296) (h0 : 0 ≤ m) (hm : (N : Int) ≤ m) : decode l m = dcd N (its (l.drop C)) [] := by
  unfold decode
  rw [szs_of h hN]
  dsimp only
  rw [if_neg (by decide), if_neg (by omega)]
theorem cut_decode {l : List UInt8} {m : Int} {out : List UInt8} (h : decode l m = (out, 0)) (j : Nat) (hj : j < l.length) : Bad (decode (l.take j) m) := by
  obtain ⟨N, C, h1, h2, h3, h4, h5⟩ := decode_ok h
  obtain ⟨a1, a2, a3, a4⟩ := rd_pre l 0 0 N C h1
  by_cases hc : j < C
  · have e := a3 j (by omega)
    unfold decode
    have : (szs (l.take j)).2.2 = 8 := by
      unfold szs
      rw [if_pos (by rw [e]; decide)]
      exact e
    rw [this, if_pos (by decide)]
    exact .inr rfl
  · have e : l.take j = l.take C ++ (l.drop C).take (j - C) := by
      rw [← List.take_add]
      congr 1
      omega
    have e1 : Bt.rd (l.take j) 0 0 = (N, C, 0) := by rw [e]; exact a4 _
    rw [decode_of e1 h2 h3 h4, List.drop_take]
    exact cut_dcd N _ _ _ _ (Nat.le_refl _) h5 _ (by rw [List.length_drop]; omega)
theorem more_decode {l : List UInt8} {m : Int} {out : List UInt8} (h : decode l m = (out, 0)) (z : UInt8) : Bad (decode (l ++ [z]) m) := by
  obtain ⟨N, C, h1, h2, h3, h4, h5⟩ := decode_ok h
  obtain ⟨a1, a2, a3, a4⟩ := rd_pre l 0 0 N C h1
  have e1 : Bt.rd (l ++ [z]) 0 0 = (N, C, 0) := by
    have := a4 (l.drop C ++ [z])
    rw [← List.append_assoc, Nat.sub_zero, List.take_append_drop] at this
    exact this
  rw [decode_of e1 h2 h3 h4, List.drop_append_of_le_length (by omega)]
  exact more_dcd N z _ _ _ _ (Nat.le_refl _) h5
theorem decode_pos {l : List UInt8} {m : Int} {out : List UInt8} (h : decode l m = (out, 0)) : 0 < l.length := by
  obtain ⟨N, C, h1, h2, h3, h4, h5⟩ := decode_ok h
  obtain ⟨a1, a2, a3, a4⟩ := rd_pre l 0 0 N C h1
  omega
theorem decode_refused {l : List UInt8} {m : Int} (h : (decode l m).2 ≠ 0) : (decode l m).1 = [] := by
  revert h
  unfold decode
  split
  · exact fun _ => rfl
  · split
    · exact fun _ => rfl
    · generalize its (l.drop (szs l).2.1) = L
      generalize (szs l).1 = N
      suffices ∀ (L : List (Pt × Int)) (b : List UInt8), (dcd N L b).2 ≠ 0 → (dcd N L b).1 = [] from this L []
      intro L
      induction L with
      | nil =>
        intro b h
        rw [dcd] at h ⊢
        split
        · rfl
        · rename_i hc
          rw [if_neg hc] at h
          exact absurd rfl h
      | cons x L ih =>
        intro b h
        obtain ⟨p, e⟩ := x
        rw [dcd] at h ⊢
        split
        · rfl
        · rename_i hc
          rw [if_neg hc] at h
          split
          · rfl
          · rename_i hd
            rw [if_neg hd] at h
            exact ih _ h
theorem cut_extract (s : ByteArray) (j : Nat) : s.extract 0 j = bs (s.data.toList.take j) := by
  rw [extract_bs, List.drop_zero, Nat.sub_zero]
theorem bs_app (a b : List UInt8) : bs a ++ bs b = bs (a ++ b) := by
  apply ByteArray.ext; simp [bs]
theorem more_append (s : ByteArray) (z : UInt8) : s ++ bs [z] = bs (s.data.toList ++ [z]) := bs_app s.data.toList [z]
/-- string(b) of one byte, wherever it lies. -/
theorem run_string_one (c : UInt8) (x : Int) (hx : x = (c.toNat : Int)) (W : World) (g : Nat) (h : W.cell? ⟨g, 0, none⟩ = some (.int .u8 x)) :
    Sem.run Try.prog (convert 28 9 (.slice (some ⟨g, 0, none⟩) 1 1)) W = .ok (.string (bs [c])) W := by
  refine run_convert_bytes_back W 28 9 5 ⟨g, 0, none⟩ 1 [c] Try.underlying28 Try.underlying5 Try.underlying9 (fun j hj => ?_)
  have : j = 0 := by simpa using hj
  subst this
  have hadd : (⟨g, 0, none⟩ : Addr).add 0 = ⟨g, 0, none⟩ := by unfold Addr.add; simp
  rw [hadd, h, hx]
  rfl
theorem bad_or {e : Int} (h : e = 4 ∨ e = 8) : (if (e == 8) = true then true else e == 4) = true := by rcases h with rfl | rfl <;> decide
set_option maxRecDepth 100000 in
set_option maxHeartbeats 2000000 in
theorem core (s : ByteArray) (c z : Int) (hs : s.size ≤ maxLen) (wc : (Lit.int .i64 c).wf = true) (wz : (Lit.int .u8 z).wf = true) (w : World) :
    Calls Try.prog 10 #[.string s, .int .i64 c, .int .u8 z] w fun e w' => e = .returned (.bool true) ∧ Below w.heap.size w w' := by
  by_cases hb : 3000 < s.size
  · have hsi : (3000 : Int) < (s.size : Int) := by omega
    go_enter Try.func10, Try.ntmps10
    go_wp2_with fail
    refine (awake_any _).mono ?_
    rintro e w1 ⟨rfl, hb1⟩
    have HB1 := Lib.hid hb1
    clear hb1
    go_wp2
    go_ret
    exact ⟨rfl, HB1.out⟩
  · have hl0 : s.data.toList.length = s.size := by simp
    have hsi : ¬ (3000 : Int) < (s.size : Int) := by omega
    have HD := fun w => Lib.hid (decode_any s (by omega) 20000 (by omega) (by omega) w)
    obtain ⟨out, er, hd⟩ : ∃ out er, decode s.data.toList 20000 = (out, er) := ⟨_, _, rfl⟩
    by_cases her : er = 0
    · subst her
      have hpos := decode_pos hd
      rw [hd] at HD
      obtain ⟨c0, c1⟩ := bounds_i64 wc
      obtain ⟨z0, z1⟩ := bounds_u8 wz
      obtain ⟨M, hM⟩ := Int.eq_ofNat_of_zero_le (show 0 ≤ c % 18446744073709551616 from Int.emod_nonneg _ (by decide))
      have hMlt : M < 18446744073709551616 := by have := Int.emod_lt_of_pos c (show (0 : Int) < 18446744073709551616 by decide); omega
      have hw : IntKind.u64.wrap c = (M : Int) := by rw [IntKind.wrap_u64, hM]
      have hJ : (M : Int).tmod (s.size : Int) = ((M % s.size : Nat) : Int) := by rw [Int.tmod_eq_emod_of_nonneg (by omega)]; exact (Int.natCast_emod _ _).symm
      have hJlt : M % s.size < s.size := Nat.mod_lt _ (by omega)
      clear hM
      generalize M % s.size = J at *
      have hc := cut_decode hd J (by omega)
      obtain ⟨Z, rfl⟩ := Int.eq_ofNat_of_zero_le z0
      have hm := more_decode hd (UInt8.ofNat Z)
      have HX := fun w => Lib.hid (decode_any (s.extract 0 J) (by simp; omega) 20000 (by omega) (by omega) w)
      have HY := fun w => Lib.hid (decode_any (s ++ bs [UInt8.ofNat Z]) (by simp [bs_size]; omega) 20000 (by omega) (by omega) w)
      have e1 : (s.extract 0 J).data.toList = s.data.toList.take J := by rw [cut_extract]; rfl
      have e2 : (s ++ bs [UInt8.ofNat Z]).data.toList = s.data.toList ++ [UInt8.ofNat Z] := by rw [more_append]; rfl
      rw [e1] at HX
      rw [e2] at HY
      unfold Bad at hc hm
      obtain ⟨o1, r1, h1⟩ : ∃ o1 r1, decode (s.data.toList.take J) 20000 = (o1, r1) := ⟨_, _, rfl⟩
      obtain ⟨o2, r2, h2⟩ : ∃ o2 r2, decode (s.data.toList ++ [UInt8.ofNat Z]) 20000 = (o2, r2) := ⟨_, _, rfl⟩
      rw [h1] at HX hc
      rw [h2] at HY hm
      dsimp only at hc hm
      have hz1 : (bs [UInt8.ofNat Z]).size = 1 := rfl
      have hcv := run_string_one (UInt8.ofNat Z) (Z : Int) (Bt.ofNat_toNat (by omega)).symm
      generalize bs [UInt8.ofNat Z] = ZB at *
      clear hd h1 h2 e1 e2
      have hJ2 : (J : Int) < (s.size : Int) := by omega
      have hsp : (0 : Int) < (s.size : Int) := by omega
      have hs3 : (s.size : Int) ≤ 3000 := by omega
      rcases hc with rfl | rfl <;> rcases hm with rfl | rfl
      all_goals
        go_enter Try.func10, Try.ntmps10
        go_wp2_with fail
        refine (awake_any _).mono ?_
        rintro e w1 ⟨rfl, hb1⟩
        have HB1 := Lib.hid hb1
        clear hb1
        go_wp2_with fail
        refine (HD _).out.mono ?_
        rintro e w2 ⟨rfl, hb2⟩
        have HB2 := Lib.hid hb2
        clear hb2
        go_wp2_with fail
        refine (HX _).out.mono ?_
        rintro e w3 ⟨rfl, hb3⟩
        have HB3 := Lib.hid hb3
        clear hb3
        go_wp2_with fail
        refine (HY _).out.mono ?_
        rintro e w4 ⟨rfl, hb4⟩
        have HB4 := Lib.hid hb4
        clear hb4
        go_wp2
        go_ret
        have t2 := HB1.out.trans (HB2.out.mono HB1.out.size)
        have t3 := t2.trans (HB3.out.mono t2.size)
        have t4 := (t3.alloc t3.size _).trans (HB4.out.mono (Nat.le_trans t3.size (by simp)))
        exact ⟨rfl, t4⟩
    · have hout : out = [] := by
        have := decode_refused (l := s.data.toList) (m := 20000) (by rw [hd]; exact her)
        rw [hd] at this
        exact this
      subst hout
      rw [hd] at HD
      have her' : (er != 0) = true := by rw [bne_iff_ne]; exact her
      clear hd her
      go_enter Try.func10, Try.ntmps10
      go_wp2_with fail
      refine (awake_any _).mono ?_
      rintro e w1 ⟨rfl, hb1⟩
      have HB1 := Lib.hid hb1
      clear hb1
      go_wp2_with fail
      refine (HD _).out.mono ?_
      rintro e w2 ⟨rfl, hb2⟩
      have HB2 := Lib.hid hb2
      clear hb2
      go_wp2
      go_ret
      refine ⟨?_, HB1.out.trans (HB2.out.mono HB1.out.size)⟩
      show Ending.returned (Value.bool (bs []).toList.isEmpty) = _
      rw [bs_toList]
      rfl
theorem own : ownKnob Try.prog.godebug = none := by kernel_rfl
theorem laidOut : laidOutB Try.prog = true := by kernel_rfl
set_option maxRecDepth 100000 in
theorem lifted (os : Os) (started : os.Started) (H : Type) (enc : TypeId × Value → H) :
    ReturnsInHanded {} Try.checked os 10 .any (Rows.snappyCutSpec.pre6 enc Try.prog Try.f10 Rows.snappyCutRow.domain false) (Rows.snappyCutSpec.post enc Try.prog Try.f10 false true false false) := by
  refine returnsInHanded_of_change (C := Try.checked) own started (by kernel_rfl) Try.func10
    (ChangeSpec.witness6 (enc := enc) (C := Try.checked) false ⟨#[], #[.string ByteArray.empty, .int .i64 0, .int .u8 0], []⟩ 8 (by kernel_rfl) (by kernel_rfl) (by kernel_rfl) (by kernel_rfl)) ?_
  intro W base args ds gs before hval0 hW hcnd _
  have hval : ∀ (j : Nat) t v, Try.f10.params[j]? = some t → args[j]? = some v → Value.okWide Try.prog W .any base t v := hval0
  have hW' := hW
  obtain ⟨p, q, hA0, hV, rfl, hfz, hnd⟩ := hW
  have hA : DataW.TrodAll enc Try.prog W 0 (fun _ => true) true Try.f10.params.toList args.toList ds p := hA0
  rw [Try.params10] at hA hval
  obtain ⟨v0, vs0, d0, ds0, p0, q0, hargs, rfl, rfl, h0, r0⟩ := trodAll_cons hA
  obtain ⟨v1, vs1, d1, ds1, p1, q1, rfl, rfl, rfl, h1, r1⟩ := trodAll_cons r0
  obtain ⟨v2, vs2, d2, ds2, p2, q2, rfl, rfl, rfl, h2, r2⟩ := trodAll_cons r1
  obtain ⟨rfl, rfl, rfl⟩ := trodAll_nil r2
  obtain rfl : args = #[v0, v1, v2] := by cases args; simp_all
  obtain ⟨rfl, rfl⟩ := trodVars_none hV
  have k0 := h0
  have lt0 : ∀ x ∈ p0, x.block < W.heap.size := by obtain ⟨m, hm⟩ := k0; exact DataW.trod_lt m _ _ _ hm
  have k1 := h1
  have lt1 : ∀ x ∈ p1, x.block < W.heap.size := by obtain ⟨m, hm⟩ := k1; exact DataW.trod_lt m _ _ _ hm
  have k2 := h2
  have lt2 : ∀ x ∈ p2, x.block < W.heap.size := by obtain ⟨m, hm⟩ := k2; exact DataW.trod_lt m _ _ _ hm
  obtain ⟨a0, rfl, rfl, rfl, w0⟩ := open_string Try.underlying9 (hval 0 9 v0 rfl rfl) h0
  obtain ⟨a1, rfl, rfl, rfl, w1⟩ := open_int Try.underlying3 (hval 1 3 v1 rfl rfl) h1
  obtain ⟨a2, rfl, rfl, rfl, w2⟩ := open_int Try.underlying5 (hval 2 5 v2 rfl rfl) h2
  clear hA0 hval0
  refine (core a0 a1 a2 w0 w1 w2 W).mono fun e W' ⟨he, bel⟩ => ?_
  subst he
  exact ⟨_, rfl, _, _, _, [], _, [], hW', trodAll_mk1 (shut_bool Try.underlying4 _), (trodAll_cons_mk (Below.trod laidOut (by kernel_rfl) (of_decide_eq_true (by kernel_rfl)) k0 bel lt0) (trodAll_cons_mk (Below.trod laidOut (by kernel_rfl) (of_decide_eq_true (by kernel_rfl)) k1 bel lt1) (trodAll_cons_mk (Below.trod laidOut (by kernel_rfl) (of_decide_eq_true (by kernel_rfl)) k2 bel lt2) trodAll_mk0))), rfl, bel.frame _, fun h => by cases h⟩
theorem over : Rows.snappyCutRow.holds Try.pinned (OpenSpec.ofChange Rows.snappyCutSpec) :=
  OpenClaim.holds_of_wide 10 Try.f10 rfl rfl rfl rfl rfl rfl rfl ⟨rfl, rfl, rfl, rfl, rfl⟩ rfl rfl rfl rfl rfl (by kernel_rfl) Try.func10 (by kernel_rfl)
    (of_decide_eq_true (by kernel_rfl)) (by unfold Func.isWrapper; first | (rw [if_pos (by decide +kernel)]; kernel_rfl) | (rw [if_neg (by decide +kernel)]; exact ⟨rfl, rfl⟩))
    (fun os started H enc _ => lifted os started H enc)
theorem proved : Rows.SnappyCutSaid := over
end Go.Proofs.Ytnnogjojoeajnaa.snappyCut
