/- Messages, plainly: all fields of bytes; what is written is read; joined; cut; longer. Nothing of the program. -/
import Derived.Test.YtioflicmpnkfeaaGreatPn4
namespace Go.Proofs.YtioflicmpnkfeaaGreat
open Go Go.RowKit
/-- The fields that bytes are, behind others; or how they are refused. -/
def msg (l : List UInt8) (acc : List Fd) : List Fd × Nat :=
  match l with
  | [] => (acc, 0)
  | c :: r => if (rdf (c :: r)).2.2 ≠ 0 then ([], (rdf (c :: r)).2.2) else msg ((c :: r).drop (max 1 (rdf (c :: r)).2.1)) (acc ++ [(rdf (c :: r)).1])
termination_by l.length
decreasing_by simp; omega
theorem msg_nil (acc : List Fd) : msg [] acc = (acc, 0) := by rw [msg]
theorem msg_ok {l : List UInt8} (hl : l ≠ []) {f : Fd} {k : Nat} (h : rdf l = (f, k, 0)) (hk : 1 ≤ k) (acc : List Fd) : msg l acc = msg (l.drop k) (acc ++ [f]) := by
  cases l with
  | nil => exact absurd rfl hl
  | cons c r =>
    rw [msg, h]
    dsimp only
    rw [if_neg (by decide), show max 1 k = k by omega]
theorem msg_no {l : List UInt8} (hl : l ≠ []) {e : Nat} (h : (rdf l).2.2 = e) (he : e ≠ 0) (acc : List Fd) : msg l acc = ([], e) := by
  cases l with
  | nil => exact absurd rfl hl
  | cons c r => rw [msg, h, if_pos he]
theorem fby_pos (f : Fd) : 1 ≤ (fby f).length := by
  unfold fby
  rw [List.length_append, Bt.vint_length]
  have := Bt.vlen_pos (f.n * 8 + f.w)
  omega
theorem fby_ne (f : Fd) (r : List UInt8) : fby f ++ r ≠ [] := by
  have := fby_pos f
  intro h
  have := congrArg List.length h
  rw [List.length_append, List.length_nil] at this
  omega
/-- What is written is read as it is. -/
theorem msg_back : ∀ (fs acc : List Fd) (r : List UInt8), (∀ f ∈ fs, f.ok) → msg (fs.flatMap fby ++ r) acc = msg r (acc ++ fs)
  | [], acc, r, _ => by rw [List.flatMap_nil, List.nil_append, List.append_nil]
  | f :: fs, acc, r, h => by
    have hf := rdf_fby f (h f (by simp)) (fs.flatMap fby ++ r)
    rw [List.flatMap_cons, List.append_assoc, msg_ok (fby_ne f _) hf (fby_pos f), drop_pre0 rfl, msg_back fs _ r (fun g hg => h g (by simp [hg])), List.append_assoc]
    rfl
theorem msg_write (fs : List Fd) (h : ∀ f ∈ fs, f.ok) : msg (fs.flatMap fby) [] = (fs, 0) := by
  have := msg_back fs [] [] h
  rw [List.append_nil, msg_nil, List.nil_append] at this
  exact this
/-- What is read behind others. -/
theorem msg_acc : ∀ (n : Nat) (l : List UInt8) (acc : List Fd), l.length ≤ n → l.length < 18446744073709551616 → msg l acc = if (msg l []).2 = 0 then (acc ++ (msg l []).1, 0) else ([], (msg l []).2)
  | n, [], acc, _, _ => by rw [msg_nil, msg_nil, if_pos rfl, List.append_nil]
  | 0, c :: r, acc, h, _ => by simp at h
  | n + 1, c :: r, acc, h, h64 => by
    obtain ⟨f, k, e, hx⟩ : ∃ f k e, rdf (c :: r) = (f, k, e) := ⟨_, _, _, rfl⟩
    by_cases he : e = 0
    · subst he
      have R := rdf_facts h64 hx
      have hp := R.pos
      have hd : ((c :: r).drop k).length ≤ n := by rw [List.length_drop, List.length_cons]; rw [List.length_cons] at h; omega
      have hd64 : ((c :: r).drop k).length < 18446744073709551616 := by rw [List.length_drop]; omega
      rw [msg_ok (by simp) hx hp, msg_ok (by simp) hx hp, msg_acc n _ (acc ++ [f]) hd hd64, msg_acc n _ ([] ++ [f]) hd hd64]
      split
      · rw [if_pos rfl, List.append_assoc]
        rfl
      · rename_i hc
        rfl
    · have h2 : (rdf (c :: r)).2.2 = e := by rw [hx]
      rw [msg_no (by simp) h2 he, msg_no (by simp) h2 he, if_neg he]
/-- What is read may be, and is written by no more bytes. -/
theorem msg_facts : ∀ (n : Nat) (l : List UInt8) (acc fs : List Fd), l.length ≤ n → l.length < 18446744073709551616 → msg l acc = (fs, 0) → ∃ gs, fs = acc ++ gs ∧ (∀ f ∈ gs, f.ok) ∧ (gs.flatMap fby).length ≤ l.length
  | n, [], acc, fs, _, _, h => by
    rw [msg_nil] at h
    simp only [Prod.mk.injEq, and_true] at h
    exact ⟨[], by rw [List.append_nil]; exact h.symm, fun f hf => (by cases hf), by simp⟩
  | 0, c :: r, acc, fs, h, _, _ => by simp at h
  | n + 1, c :: r, acc, fs, hn, h64, h => by
    obtain ⟨f, k, e, hx⟩ : ∃ f k e, rdf (c :: r) = (f, k, e) := ⟨_, _, _, rfl⟩
    by_cases he : e = 0
    · subst he
      have R := rdf_facts h64 hx
      have hp := R.pos
      have hfit := R.fits
      have hd : ((c :: r).drop k).length ≤ n := by rw [List.length_drop, List.length_cons]; rw [List.length_cons] at hn; omega
      rw [msg_ok (by simp) hx hp] at h
      obtain ⟨gs, h1, h2, h3⟩ := msg_facts n _ _ _ hd (by rw [List.length_drop]; omega) h
      refine ⟨f :: gs, by rw [h1, List.append_assoc]; rfl, fun g hg => ?_, ?_⟩
      · rcases List.mem_cons.1 hg with rfl | hg
        · exact R.ok
        · exact h2 g hg
      · have := R.short
        rw [List.length_drop] at h3
        rw [List.flatMap_cons, List.length_append]
        omega
    · have h2 : (rdf (c :: r)).2.2 = e := by rw [hx]
      rw [msg_no (by simp) h2 he] at h
      simp only [Prod.mk.injEq] at h
      exact absurd h.2 he
/-- A message, and another one behind it. -/
theorem msg_join : ∀ (n : Nat) (a b : List UInt8) (acc fs : List Fd), a.length ≤ n → a.length < 18446744073709551616 → msg a acc = (fs, 0) → msg (a ++ b) acc = msg b fs
  | n, [], b, acc, fs, _, _, h => by
    rw [msg_nil] at h
    simp only [Prod.mk.injEq, and_true] at h
    rw [List.nil_append, h]
  | 0, c :: r, b, acc, fs, h, _, _ => by simp at h
  | n + 1, c :: r, b, acc, fs, hn, h64, h => by
    obtain ⟨f, k, e, hx⟩ : ∃ f k e, rdf (c :: r) = (f, k, e) := ⟨_, _, _, rfl⟩
    by_cases he : e = 0
    · subst he
      have R := rdf_facts h64 hx
      have hp := R.pos
      have hfit := R.fits
      have hd : ((c :: r).drop k).length ≤ n := by rw [List.length_drop, List.length_cons]; rw [List.length_cons] at hn; omega
      rw [msg_ok (by simp) hx hp] at h
      have ho := R.own ((c :: r).drop k ++ b)
      rw [← List.append_assoc, List.take_append_drop] at ho
      rw [msg_ok (by simp) ho hp, List.drop_append_of_le_length hfit]
      exact msg_join n _ b _ _ hd (by rw [List.length_drop]; omega) h
    · have h2 : (rdf (c :: r)).2.2 = e := by rw [hx]
      rw [msg_no (by simp) h2 he] at h
      simp only [Prod.mk.injEq] at h
      exact absurd h.2 he
/-- What is refused by its form stays so, whatever follows. -/
theorem msg_bad : ∀ (n : Nat) (a b : List UInt8) (acc : List Fd), a.length ≤ n → a.length < 18446744073709551616 → (msg a acc).2 = 4 → msg (a ++ b) acc = ([], 4)
  | n, [], b, acc, _, _, h => by rw [msg_nil] at h; simp at h
  | 0, c :: r, b, acc, h, _, _ => by simp at h
  | n + 1, c :: r, b, acc, hn, h64, h => by
    obtain ⟨f, k, e, hx⟩ : ∃ f k e, rdf (c :: r) = (f, k, e) := ⟨_, _, _, rfl⟩
    by_cases he : e = 0
    · subst he
      have R := rdf_facts h64 hx
      have hp := R.pos
      have hfit := R.fits
      have hd : ((c :: r).drop k).length ≤ n := by rw [List.length_drop, List.length_cons]; rw [List.length_cons] at hn; omega
      rw [msg_ok (by simp) hx hp] at h
      have ho := R.own ((c :: r).drop k ++ b)
      rw [← List.append_assoc, List.take_append_drop] at ho
      rw [msg_ok (by simp) ho hp, List.drop_append_of_le_length hfit]
      exact msg_bad n _ b _ hd (by rw [List.length_drop]; omega) h
    · have h2 : (rdf (c :: r)).2.2 = e := by rw [hx]
      rw [msg_no (by simp) h2 he] at h
      dsimp only at h
      subst h
      exact msg_no (by simp) (rdf_bad b h2) (by decide) acc
theorem msg_err : ∀ (n : Nat) (a : List UInt8) (acc : List Fd), a.length ≤ n → a.length < 18446744073709551616 → (msg a acc).2 = 0 ∨ msg a acc = ([], 4) ∨ msg a acc = ([], 8)
  | n, [], acc, _, _ => by rw [msg_nil]; exact .inl rfl
  | 0, c :: r, acc, h, _ => by simp at h
  | n + 1, c :: r, acc, hn, h64 => by
    obtain ⟨f, k, e, hx⟩ : ∃ f k e, rdf (c :: r) = (f, k, e) := ⟨_, _, _, rfl⟩
    have h2 : (rdf (c :: r)).2.2 = e := by rw [hx]
    have h3 := rdf_err (c :: r)
    rw [h2] at h3
    by_cases he : e = 0
    · subst he
      have R := rdf_facts h64 hx
      have hp := R.pos
      have hd : ((c :: r).drop k).length ≤ n := by rw [List.length_drop, List.length_cons]; rw [List.length_cons] at hn; omega
      rw [msg_ok (by simp) hx hp]
      exact msg_err n _ _ hd (by rw [List.length_drop]; omega)
    · rw [msg_no (by simp) h2 he]
      rcases h3 with h3 | h3 | h3
      · exact absurd h3 he
      · rw [h3]; exact .inr (.inl rfl)
      · rw [h3]; exact .inr (.inr rfl)
/-- Cut short within a field: the fields ahead, and bytes of that one, not all. -/
theorem msg_cut (fs : List Fd) (f : Fd) (h : ∀ g ∈ fs, g.ok) (hf : f.ok) (h64 : (fby f).length < 18446744073709551616) (j : Nat) (h0 : 0 < j) (hj : j < (fby f).length) : msg (fs.flatMap fby ++ (fby f).take j) [] = ([], 8) := by
  have hx := rdf_fby f hf []
  rw [List.append_nil] at hx
  have R := rdf_facts h64 hx
  have hc := R.cut j hj
  rw [msg_back fs [] _ h]
  refine msg_no (fun e => ?_) hc (by decide) _
  have := congrArg List.length e
  rw [List.length_take, List.length_nil] at this
  omega
/-- By varints of more bytes a number's field is the same. -/
theorem rdf_long0 {n v : Nat} (hm : mayk n 0 = true) (hv : v < 18446744073709551616) {kb vb : List UInt8} (hk : Bt.Vi (n * 8) kb) (hk10 : kb.length ≤ 10) (hb : Bt.Vi v vb) (hb10 : vb.length ≤ 10) (r : List UInt8) :
    rdf (kb ++ vb ++ r) = (⟨n, 0, v, []⟩, (kb ++ vb).length, 0) := by
  obtain ⟨m1, m2, -⟩ := mayk_w hm
  have h1 := (Bt.vi_rd hk (by omega) (vb ++ r)).1 hk10
  have h2 := (Bt.vi_rd hb hv r).1 hb10
  unfold rdf
  rw [List.append_assoc, h1]
  dsimp only
  rw [if_neg (by decide), show n * 8 / 8 = n by omega, show n * 8 % 8 = 0 by omega, if_neg (by rw [hm]; simp; omega), drop_pre0 rfl]
  simp only [rdv, if_true]
  rw [h2]
  dsimp only
  rw [if_neg (by decide), List.length_append]
/-- Likewise a text's. -/
theorem rdf_long2 {n : Nat} (hm : mayk n 2 = true) {t : List UInt8} (ht : t.length < 18446744073709551616) {kb sb : List UInt8} (hk : Bt.Vi (n * 8 + 2) kb) (hk10 : kb.length ≤ 10) (hb : Bt.Vi t.length sb) (hb10 : sb.length ≤ 10) (r : List UInt8) :
    rdf (kb ++ sb ++ t ++ r) = (⟨n, 2, 0, t⟩, (kb ++ sb ++ t).length, 0) := by
  obtain ⟨m1, m2, -⟩ := mayk_w hm
  have h1 := (Bt.vi_rd hk (by omega) (sb ++ (t ++ r))).1 hk10
  have h2 := (Bt.vi_rd hb ht (t ++ r)).1 hb10
  unfold rdf
  rw [List.append_assoc, List.append_assoc, h1]
  dsimp only
  rw [if_neg (by decide), show (n * 8 + 2) / 8 = n by omega, show (n * 8 + 2) % 8 = 2 by omega, if_neg (by rw [hm]; simp; omega), drop_pre0 rfl]
  simp only [rdv, if_true, show ¬ (2 : Nat) = 0 from by decide, show ¬ (2 : Nat) = 1 from by decide, if_false]
  rw [h2]
  dsimp only
  have e1 : ¬ ((sb ++ (t ++ r)).length - sb.length < t.length) := by rw [List.length_append, List.length_append]; omega
  simp only [ne_eq, not_true_eq_false, if_false, if_neg e1, drop_pre0 (rfl : sb.length = sb.length), take_pre0 (rfl : t.length = t.length)]
  rw [List.length_append, List.length_append, Nat.add_assoc]
end Go.Proofs.YtioflicmpnkfeaaGreat
