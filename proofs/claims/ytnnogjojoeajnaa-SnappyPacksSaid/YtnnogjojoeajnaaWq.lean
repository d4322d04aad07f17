/- The contract of Encode. -/
import Derived.Test.YtnnogjojoeajnaaWp
import Derived.Test.YtnnogjojoeajnaaWr
import Derived.Laws.OwnMore
namespace Go.Proofs.Ytnnogjojoeajnaa
open Go.RowKit
theorem cells4_at : ∀ (l : List Pt) (j : Nat) (h : j < l.length), (cells4 l)[j * 4]? = some (.bool l[j].c) ∧ (cells4 l)[j * 4 + 1]? = some (.string l[j].t) ∧ (cells4 l)[j * 4 + 2]? = some (.int .i64 l[j].o) ∧ (cells4 l)[j * 4 + 3]? = some (.int .i64 l[j].l)
  | [], j, h => by simp at h
  | p :: l, 0, h => by simp [cells4]
  | p :: l, j + 1, h => by
    have ih := cells4_at l j (by simpa using h)
    have e : cells4 (p :: l) = .bool p.c :: .string p.t :: .int .i64 p.o :: .int .i64 p.l :: cells4 l := rfl
    rw [e, show (j + 1) * 4 = j * 4 + 4 by omega, show j * 4 + 4 + 1 = (j * 4 + 1) + 4 by omega, show j * 4 + 4 + 2 = (j * 4 + 2) + 4 by omega, show j * 4 + 4 + 3 = (j * 4 + 3) + 4 by omega]
    simpa using ih
theorem partsAt_of {w : World} {base : Nat} {v : Value} {l : List Pt} (h : Ol w base v l) : PartsAt w v l := by
  have h0 := h
  unfold Ol at h0
  rcases h0.2 with ⟨rfl, hn⟩ | ⟨g, cap, cur, rfl, _⟩
  · exact .inl ⟨List.eq_nil_of_length_eq_zero hn, 0, rfl⟩
  · refine .inr ⟨g, cap, rfl, fun j hj => ?_⟩
    obtain ⟨c0, c1, c2, c3⟩ := cells4_at l j hj
    rw [h0.cellAt _ (by omega), h0.cellAt _ (by omega), h0.cellAt _ (by omega), h0.cellAt _ (by omega)]
    exact ⟨c0, c1, c2, c3⟩
set_option maxRecDepth 100000 in
set_option maxHeartbeats 1000000 in
theorem pack_big (s : ByteArray) (hs : 65536 < s.size) (w : World) :
    Calls Try.prog 15 #[.string s] w fun e w' => e = .returned (.tuple #[.slice none 0 0, .int .i64 40]) ∧ Below w.heap.size w w' := by
  have hsi : (65536 : Int) < (s.size : Int) := by omega
  go_enter Try.func15, Try.ntmps15
  go_wp2
  go_ret2
  exact ⟨rfl, (Below.refl _ w).alloc (Nat.le_refl _) _⟩
theorem pk_length_le (l : List UInt8) : ∀ (k a p : Nat) (ps : List Pt), l.length - a = k → p ≤ a → a ≤ l.length → ps.length ≤ 2 * a → (pk l a p ps).length ≤ 2 * l.length + 1 := by
  intro k
  induction k using Nat.strongRecOn with
  | _ k ih =>
    intro a p ps hk hpa ha he
    by_cases hlt : a < l.length
    · by_cases h4 : 4 ≤ (mat l a).2
      · rcases mat_says l a hlt with h | h
        · rw [h] at h4; omega
        · have := h.fits
          rw [pk_copy l a p ps hlt h4]
          refine ih _ ?_ _ _ _ rfl (Nat.le_refl _) (by omega) ?_
          · omega
          · have := litp_length l p a
            simp only [List.length_append, List.length_singleton]
            omega
      · rw [pk_lit l a p ps hlt h4]
        exact ih _ (by omega) _ _ _ rfl (by omega) (by omega) (by omega)
    · rw [pk_end l a p ps hlt, List.length_append]
      have := litp_length l p l.length
      omega
theorem pk_length (l : List UInt8) : (pk l 0 0 []).length ≤ 2 * l.length + 1 := pk_length_le l _ 0 0 [] rfl (Nat.le_refl _) (Nat.zero_le _) (by simp)
theorem pk_may (l : List UInt8) (hl : l.length ≤ 65536) : ∀ p ∈ pk l 0 0 [], may p = true := expand_may (pack_back (most := 65536) l hl (by omega))
set_option maxRecDepth 100000 in
set_option maxHeartbeats 1000000 in
theorem encode_any (s : ByteArray) (w : World) :
    Calls Try.prog 14 #[.string s] w (Told w (encode s.data.toList)) := by
  have hl0 : s.data.toList.length = s.size := by simp
  unfold encode
  by_cases hs : 65536 < s.size
  · rw [if_pos (by omega)]
    go_enter Try.func14, Try.ntmps14
    go_wp2_with fail
    refine (pack_big s hs _).mono ?_
    rintro e w1 ⟨rfl, hb1⟩
    have HB1 := Lib.hid hb1
    clear hb1
    go_wp2
    go_ret2
    exact ⟨rfl, HB1.out⟩
  · rw [if_neg (by omega)]
    have HW := Lib.hid (write_pk s.data.toList (by omega))
    have HL := Lib.hid (pk_length s.data.toList)
    have HM := Lib.hid (pk_may s.data.toList (by omega))
    have HP := Lib.hid (pack_any s (by omega))
    generalize pk s.data.toList 0 0 [] = P at *
    generalize blk P s.data.toList = X at *
    have hs2 : s.size ≤ 65536 := by omega
    clear hs
    go_enter Try.func14, Try.ntmps14
    go_wp2_with fail
    refine (HP.out _).mono ?_
    rintro e w1 ⟨v, rfl, ho1, hb1⟩
    have HO1 := Lib.hid ho1
    have HB1 := Lib.hid hb1
    clear ho1 hb1
    have HWW := Lib.hid (write_any P (by have := HL.out; omega) (fun p hp => may_ok (HM.out p hp)) v w1 (partsAt_of HO1.out))
    rw [HW.out] at HWW
    go_wp2_with fail
    refine HWW.out.mono ?_
    rintro e w2 ⟨rfl, hb2⟩
    have HB2 := Lib.hid hb2
    clear hb2
    go_wp2
    go_ret2
    exact ⟨rfl, HB1.out.trans (HB2.out.mono HB1.out.size)⟩
end Go.Proofs.Ytnnogjojoeajnaa
