/- Package keys: the document's keys, End, and Read: the contracts. -/
import Derived.Test.YtbiokdphjildcaaKc
namespace Go.Proofs.Ytbiokdphjildcaa
open Go Go.RowKit
set_option maxRecDepth 100000
set_option maxHeartbeats 1000000
theorem rclusters_any (t : ByteArray) (w : World) : Calls Try.prog 27 #[.string t] w fun e w' => e = .returned (.string (clsB t)) ∧ w = w' := by
  have H := Lib.hid (rname_any t)
  have hz := nameB_size (t := t)
  unfold clsB
  generalize nameB t.data.toList = b at H hz ⊢
  cases b
  · rw [if_neg (by decide)]
    go_enter Try.func27, Try.ntmps27
    go_wp2_with fail
    refine (H.out _).mono ?_
    rintro e w' ⟨rfl, rfl⟩
    go_wp2
    go_ret
    exact ⟨rfl, rfl⟩
  · have hz := (hz rfl).1
    rw [if_pos rfl]
    go_enter Try.func27, Try.ntmps27
    go_wp2_with fail
    refine (H.out _).mono ?_
    rintro e w' ⟨rfl, rfl⟩
    go_wp2
    go_ret
    exact ⟨rfl, rfl⟩
theorem rtenant_any (t : ByteArray) (w : World) : Calls Try.prog 28 #[.string t] w fun e w' => e = .returned (.string (tenB t)) ∧ w = w' := by
  have H := Lib.hid (rname_any t)
  have hz := nameB_size (t := t)
  unfold tenB
  generalize nameB t.data.toList = b at H hz ⊢
  cases b
  · rw [if_neg (by decide)]
    go_enter Try.func28, Try.ntmps28
    go_wp2_with fail
    refine (H.out _).mono ?_
    rintro e w' ⟨rfl, rfl⟩
    go_wp2
    go_ret
    exact ⟨rfl, rfl⟩
  · have hz := (hz rfl).1
    rw [if_pos rfl]
    go_enter Try.func28, Try.ntmps28
    go_wp2_with fail
    refine (H.out _).mono ?_
    rintro e w' ⟨rfl, rfl⟩
    go_wp2
    go_ret
    exact ⟨rfl, rfl⟩
theorem rcluster_any (t c : ByteArray) (w : World) : Calls Try.prog 26 #[.string t, .string c] w fun e w' => e = .returned (.string (cluB t c)) ∧ w = w' := by
  have H := Lib.hid (rname_any t)
  have K := Lib.hid (rname_any c)
  unfold cluB
  have hz := nameB_size (t := t)
  have hy := nameB_size (t := c)
  generalize nameB t.data.toList = a at H hz ⊢
  generalize nameB c.data.toList = b at K hy ⊢
  cases a
  · rw [if_neg (by rw [Bool.false_and]; decide)]
    go_enter Try.func26, Try.ntmps26
    go_wp2_with fail
    refine (H.out _).mono ?_
    rintro e w' ⟨rfl, rfl⟩
    go_wp2
    go_ret
    exact ⟨rfl, rfl⟩
  · cases b
    · rw [if_neg (by decide)]
      go_enter Try.func26, Try.ntmps26
      go_wp2_with fail
      refine (H.out _).mono ?_
      rintro e w' ⟨rfl, rfl⟩
      go_wp2_with fail
      refine (K.out _).mono ?_
      rintro e w' ⟨rfl, rfl⟩
      go_wp2
      go_ret
      exact ⟨rfl, rfl⟩
    · have hz := (hz rfl).1
      have hy := (hy rfl).1
      rw [if_pos (by decide)]
      go_enter Try.func26, Try.ntmps26
      go_wp2_with fail
      refine (H.out _).mono ?_
      rintro e w' ⟨rfl, rfl⟩
      go_wp2_with fail
      refine (K.out _).mono ?_
      rintro e w' ⟨rfl, rfl⟩
      go_wp2
      go_ret
      exact ⟨rfl, rfl⟩
theorem rend_any (s : ByteArray) (w : World) : Calls Try.prog 24 #[.string s] w fun e w' => e = .returned (.string (bs (endL s.data.toList))) ∧ Below w.heap.size w w' := by
  have hsz := Lib.size_eq s
  by_cases h0 : s.size = 0
  · have he : ((s.size : Int) == 0) = true := by rw [beq_iff_eq]; omega
    have HE : Hid (bs (endL s.data.toList) = ⟨#[]⟩) := Lib.hid (by unfold endL; rw [if_neg (by omega)]; rfl)
    clear hsz h0
    go_enter Try.func24, Try.ntmps24
    go_wp2
    go_ret
    exact ⟨ret_s HE.out.symm, Below.refl _ _⟩
  have he : ((s.size : Int) == 0) = false := by rw [beq_eq_false_iff_ne]; omega
  have HP := Lib.hid (rprefix_any s)
  by_cases hp : prefB s.data.toList = true
  · rw [hp] at HP
    have hlen : s.size ≤ 64 := by unfold prefB at hp; simp only [Bool.and_eq_true, decide_eq_true_eq] at hp; omega
    obtain ⟨k, hk⟩ : ∃ k, s.size = k + 1 := ⟨s.size - 1, by omega⟩
    have hk' : k < s.size := by omega
    obtain ⟨x, hx⟩ : ∃ x : UInt8, s[k]'hk' = x := ⟨_, rfl⟩
    have hgd : s.data.toList.getD k 0 = x := by
      rw [List.getD_eq_getElem?_getD, List.getElem?_eq_getElem (by omega)]; exact hx
    have hx2 : kyc x = true := by
      unfold prefB allK at hp
      simp only [Bool.and_eq_true, decide_eq_true_eq, List.all_eq_true] at hp
      apply hp.2
      rw [← hgd, List.getD_eq_getElem?_getD, List.getElem?_eq_getElem (by omega)]
      exact List.getElem_mem _
    have hx3 : x.toNat ≤ 122 := by unfold kyc at hx2; exact wh_lt (of_decide_eq_true hx2)
    have HE : Hid (bs (endL s.data.toList) = s.extract 0 k ++ bs [x + 1]) := Lib.hid (by
      unfold endL
      rw [if_pos ⟨by omega, hp⟩, ← hsz, show s.size - 1 = k from by omega, hgd]
      symm
      apply bs_ext
      rw [bs_app, bs_cut, bs_data, bs_data]
      simp)
    have hw : (x + 1).toNat = x.toNat + 1 := by rw [UInt8.toNat_add]; simp; omega
    have hcv := run_string_one (x + 1) ((x.toNat : Int) + 1) (by rw [hw]; rfl)
    have hz1 : (bs [x + 1]).size = 1 := rfl
    have hwr : IntKind.u8.wrap ((x.toNat : Int) + 1) = (x.toNat : Int) + 1 := by rw [wrap_u8]; omega
    generalize bs [x + 1] = U at *
    have e1 : ((s.size : Int) - 1) = (k : Int) := by omega
    clear hsz h0 hp hgd hx2 hw hk
    go_enter Try.func24, Try.ntmps24
    go_wp2_with fail
    refine (HP.out _).mono ?_
    rintro e w' ⟨rfl, rfl⟩
    go_wp2
    go_region
    go_wp2
    go_ret
    exact ⟨ret_s HE.out.symm, ((Below.refl _ _).alloc (Nat.le_refl _) _).drew⟩
  · rw [show prefB s.data.toList = false from by simpa using hp] at HP
    have HE : Hid (bs (endL s.data.toList) = ⟨#[]⟩) := Lib.hid (by unfold endL; rw [if_neg (fun h => hp h.2)]; rfl)
    clear hsz h0 hp
    go_enter Try.func24, Try.ntmps24
    go_wp2_with fail
    refine (HP.out _).mono ?_
    rintro e w' ⟨rfl, rfl⟩
    go_wp2
    go_ret
    exact ⟨ret_s HE.out.symm, Below.refl _ _⟩
/- What is cut. -/
theorem ct_at {x y : List UInt8} (h : ∀ b ∈ x, b ≠ 47) : ct1 (x ++ 47 :: y) = x ∧ ct2 (x ++ 47 :: y) = y := by
  unfold ct1 ct2
  induction x with
  | nil => exact ⟨rfl, rfl⟩
  | cons a x ih =>
    have ha : (a != 47) = true := by simpa using h a (by simp)
    have := ih fun b hb => h b (by simp [hb])
    rw [List.cons_append, List.takeWhile_cons, List.dropWhile_cons, ha, if_pos rfl, if_pos rfl, this.1]
    exact ⟨rfl, this.2⟩
theorem ct_split (l : List UInt8) : (l = ct1 l ++ 47 :: ct2 l) ∨ (ct2 l = []) := by
  induction l with
  | nil => exact .inr rfl
  | cons a l ih =>
    by_cases ha : a = 47
    · left; rw [ha]; rfl
    · have ha' : (a != 47) = true := by simpa using ha
      have e1 : ct1 (a :: l) = a :: ct1 l := by unfold ct1; rw [List.takeWhile_cons, ha', if_pos rfl]
      have e2 : ct2 (a :: l) = ct2 l := by unfold ct2; rw [List.dropWhile_cons, ha', if_pos rfl]
      rw [e1, e2]
      rcases ih with h | h
      · left; rw [List.cons_append, ← h]
      · exact .inr h
theorem nmc47 : nmc 47 = false := by decide
theorem name_ns {l : List UInt8} (h : nameB l = true) : ∀ b ∈ l, b ≠ 47 := by
  intro b hb e
  unfold nameB allN at h
  simp only [Bool.and_eq_true, List.all_eq_true] at h
  have := h.2 b hb
  rw [e, nmc47] at this
  cases this
theorem name_len {l : List UInt8} (h : nameB l = true) : 0 < l.length ∧ l.length ≤ 24 := by
  unfold nameB at h
  simp only [Bool.and_eq_true, decide_eq_true_eq] at h
  exact h.1
theorem name_nil : nameB [] = false := rfl
theorem rd_t {t : List UInt8} (h : nameB t = true) : rd (116 :: 47 :: t) = (t, [], true) := by
  have := ct_at (x := [116]) (y := t) (by simp)
  rw [List.singleton_append] at this
  unfold rd
  rw [this.1, this.2, if_neg (by decide), if_pos rfl, if_pos h]
theorem rd_c {t c : List UInt8} (h : nameB t = true) (k : nameB c = true) : rd (99 :: 47 :: (t ++ 47 :: c)) = (t, c, true) := by
  have := ct_at (x := [99]) (y := t ++ 47 :: c) (by simp)
  have h2 := ct_at (y := c) (name_ns h)
  rw [List.singleton_append] at this
  unfold rd
  rw [this.1, this.2, if_pos rfl, h2.1, h2.2, h, k]; rfl
theorem rd_cases (l : List UInt8) : rd l = ([], [], false) ∨ (∃ t, l = 116 :: 47 :: t ∧ nameB t = true ∧ rd l = (t, [], true)) ∨ ∃ t c, l = 99 :: 47 :: (t ++ 47 :: c) ∧ nameB t = true ∧ nameB c = true ∧ rd l = (t, c, true) := by
  have e : ∀ x, x = rd l → x = ([], [], false) ∨ (∃ t, l = 116 :: 47 :: t ∧ nameB t = true ∧ x = (t, [], true)) ∨ ∃ t c, l = 99 :: 47 :: (t ++ 47 :: c) ∧ nameB t = true ∧ nameB c = true ∧ x = (t, c, true) := by
    intro x hx
    unfold rd at hx
    split at hx
    · rename_i hc
      split at hx
      · rename_i hn
        right; right
        simp only [Bool.and_eq_true] at hn
        refine ⟨_, _, ?_, hn.1, hn.2, hx⟩
        rcases ct_split l with h | h
        · rcases ct_split (ct2 l) with h2 | h2
          · rw [hc] at h
            rw [← h2]; exact h
          · rw [h2, name_nil] at hn; cases hn.2
        · rw [h] at hn; cases hn.1
      · exact .inl hx
    · split at hx
      · rename_i hc ht
        split at hx
        · rename_i hn
          right; left
          refine ⟨_, ?_, hn, hx⟩
          rcases ct_split l with h | h
          · rw [ht] at h; exact h
          · rw [h, name_nil] at hn; cases hn
        · exact .inl hx
      · exact .inl hx
  exact e _ rfl
end Go.Proofs.Ytbiokdphjildcaa
