/- Plain mathematics of keys: read again, unlike, as short as can be; how long what is shown may be. -/
import Derived.Test.YtjhgmlhoefakpaaDoorCj
import Derived.Test.YtjhgmlhoefakpaaDoorOf
import Derived.Test.YtjhgmlhoefakpaaDoorSh2
namespace Go.Proofs.YtjhgmlhoefakpaaDoor
set_option maxRecDepth 100000
theorem txtB_length (s : ByteArray) : (txtB s).length = Bt.vlen s.size + s.size := by
  unfold txtB; rw [List.length_append, Bt.vint_length, ← Lib.size_eq]
theorem txtB_pos (s : ByteArray) : 1 ≤ (txtB s).length := by
  rw [txtB_length]; have := Bt.vlen_pos s.size; omega
theorem rd_txt (s : ByteArray) (hs : s.size < 18446744073709551616) (t : List UInt8) : Bt.rd (txtB s ++ t) 0 0 = (s.size, Bt.vlen s.size, 0) := by
  unfold txtB; rw [List.append_assoc]; exact Bt.rd_put hs _
theorem txt_put (s : ByteArray) (hs : s.size < 18446744073709551616) (t : List UInt8) (z : Nat) : txt (txtB s ++ t) z = if z < s.size then .error 40 else .ok (Bt.vlen s.size, s.size) := by
  unfold txt
  rw [rd_txt s hs t]
  simp only
  rw [if_neg (by simp)]
  by_cases h : z < s.size
  · rw [if_pos h, if_pos h]
  · rw [if_neg h, if_neg h, if_neg (by rw [List.length_append, txtB_length]; omega)]
theorem drop_txt (s : ByteArray) (t : List UInt8) : (txtB s ++ t).drop (Bt.vlen s.size + s.size) = t := by rw [← txtB_length]; exact List.drop_left
theorem body_txt (s : ByteArray) (t : List UInt8) : ((txtB s ++ t).drop (Bt.vlen s.size)).take s.size = s.data.toList := by
  have e : (txtB s ++ t).drop (Bt.vlen s.size) = s.data.toList ++ t := by
    unfold txtB
    rw [List.append_assoc, ← Bt.vint_length]
    exact List.drop_left
  rw [e, Lib.size_eq]
  exact List.take_left
theorem keyL_cons (x : Lb) (r : List Lb) : keyL (x :: r) = txtB x.n ++ (txtB x.v ++ keyL r) := by
  show keyB x ++ keyL r = _
  unfold keyB; rw [List.append_assoc]
def Small (l : List Lb) : Prop := ∀ x ∈ l, x.n.size ≤ 64 ∧ x.v.size ≤ 256
theorem lbs_key : ∀ (l : List Lb) (f : Nat), tot l ≤ 1000000000000 → l.length ≤ f → (Small l ∧ lbs f (keyL l) = .ok l) ∨ (¬ Small l ∧ lbs f (keyL l) = .error 40)
  | [], f, _, _ => .inl ⟨(fun x hx => absurd hx (by simp)), lbs_end f⟩
  | x :: r, 0, _, h => by simp at h
  | x :: r, f + 1, ht, h => by
    rw [tot] at ht
    have hne : keyL (x :: r) ≠ [] := by
      rw [keyL_cons]
      intro e
      have e1 := congrArg List.length e
      rw [List.length_append, List.length_nil] at e1
      have := txtB_pos x.n
      omega
    rw [keyL_cons] at hne ⊢
    have h1 := txt_put x.n (by omega) (txtB x.v ++ keyL r) 64
    by_cases a : 64 < x.n.size
    · rw [if_pos a] at h1
      exact .inr ⟨fun hs => by have := (hs x (by simp)).1; omega, lbs_bad1 hne h1⟩
    · rw [if_neg a] at h1
      have hd := drop_txt x.n (txtB x.v ++ keyL r)
      have h2 := txt_put x.v (by omega) (keyL r) 256
      by_cases b : 256 < x.v.size
      · rw [if_pos b] at h2
        exact .inr ⟨fun hs => by have := (hs x (by simp)).2; omega, lbs_bad2 hne h1 (by rw [hd]; exact h2)⟩
      · rw [if_neg b] at h2
        have hd2 := drop_txt x.v (keyL r)
        have h3 := lbs_more (f := f) hne h1 (by rw [hd]; exact h2)
        rw [hd, hd2, body_txt, body_txt, mkL_eq] at h3
        rw [h3]
        rcases lbs_key r f (by omega) (by simpa using h) with ⟨s, e⟩ | ⟨s, e⟩
        · left
          refine ⟨?_, by rw [e]; rfl⟩
          intro y hy
          rcases List.mem_cons.1 hy with rfl | hy
          · exact ⟨by omega, by omega⟩
          · exact s y hy
        · right
          exact ⟨fun hs => s (fun y hy => hs y (by simp [hy])), by rw [e]; rfl⟩
theorem may_small {l : List Lb} (h : mayL l = true) : Small l := by
  intro x hx
  obtain ⟨h1, h2⟩ := mayL_mem h x hx
  have h3 := mayN_len h1
  have h4 := mayV_len h2
  rw [← Lib.size_eq] at h3 h4
  exact ⟨h3.2, h4.2⟩
theorem len_key : ∀ l : List Lb, l.length ≤ (keyL l).length
  | [] => Nat.le_refl _
  | x :: r => by
    have := len_key r
    have := txtB_pos x.n
    rw [keyL_cons, List.length_append, List.length_append, List.length_cons]
    omega
theorem ofK_key (l : List Lb) (ht : tot l ≤ 1000000000000) : (mayL l = true → ofK (keyL l) = (l, 0)) ∧ (mayL l = false → ∃ k, k ≠ 0 ∧ ofK (keyL l) = ([], k)) := by
  unfold ofK
  rcases lbs_key l _ ht (len_key l) with ⟨s, e⟩ | ⟨s, e⟩
  · rw [e]
    exact ⟨fun h => by simp [h], fun h => ⟨4, by decide, by simp [h]⟩⟩
  · rw [e]
    exact ⟨fun h => absurd (may_small h) s, fun _ => ⟨40, by decide, rfl⟩⟩
theorem rd_pow : ∀ (l : List UInt8) (i n : Nat), i ≤ 9 → n < 128 ^ i → (Bt.rd l i n).2.2 = 0 → (Bt.rd l i n).1 < 128 ^ (Bt.rd l i n).2.1
  | [], i, n, _, _, h => by simp [Bt.rd] at h
  | b :: r, i, n, hi, hn, h => by
    by_cases h1 : i = 9 ∧ 1 < b.toNat
    · rw [Bt.rd, if_pos h1] at h; simp at h
    · by_cases h2 : b.toNat < 128
      · rw [Bt.rd_end r i n h1 h2]
        simp only
        by_cases h8 : i ≤ 8
        · exact (Bt.fits n b.toNat i h8 hn h2).1
        · obtain rfl : i = 9 := by omega
          have e9 : (128 : Nat) ^ 9 = 9223372036854775808 := by decide
          have e10 : (128 : Nat) ^ (9 + 1) = 1180591620717411303424 := by decide
          rw [e9] at hn ⊢
          rw [e10]
          omega
      · rw [Bt.rd_more r i n h1 (by omega)] at h ⊢
        have hf := Bt.fits n (b.toNat - 128) i (by omega) hn (by have := b.toNat_lt; omega)
        exact rd_pow r (i + 1) _ (by omega) hf.1 h
theorem txt_vlen {l : List UInt8} {z C N : Nat} (h : txt l z = .ok (C, N)) : Bt.vlen N ≤ C ∧ C + N ≤ l.length := by
  unfold txt at h
  split at h
  · cases h
  · rename_i h1
    split at h
    · cases h
    · split at h
      · cases h
      · rename_i h3
        have hz : (Bt.rd l 0 0).2.2 = 0 := Decidable.not_not.1 h1
        have v := rd_pow l 0 0 (by omega) (by decide) hz
        have f := (Bt.rd_facts l 0 0 (by omega) (by decide)).2.1 hz
        cases h
        generalize (Bt.rd l 0 0).2.1 = C at *
        generalize (Bt.rd l 0 0).1 = N at *
        obtain ⟨k, rfl⟩ : ∃ k, C = k + 1 := ⟨C - 1, by omega⟩
        exact ⟨Bt.vlen_le k N v, by omega⟩
theorem lbs_len : ∀ (f : Nat) (l : List UInt8) (m : List Lb), lbs f l = .ok m → (keyL m).length ≤ l.length
  | 0, l, m, h => by cases h; exact Nat.zero_le _
  | f + 1, l, m, h => by
    rw [lbs_succ] at h
    split at h
    · cases h; exact Nat.zero_le _
    · split at h
      · cases h
      · rename_i p hp
        split at h
        · cases h
        · rename_i q hq
          obtain ⟨C, N⟩ := p
          obtain ⟨D, M⟩ := q
          simp only at hq h
          have v1 := txt_vlen hp
          have v2 := txt_vlen hq
          cases e : lbs f ((l.drop (C + N)).drop (D + M)) with
          | error k => rw [e] at h; cases h
          | ok m' =>
            rw [e] at h
            cases h
            have ih := lbs_len f _ m' e
            rw [List.length_drop] at v2
            rw [List.length_drop, List.length_drop] at ih
            have s1 : (mkL ((l.drop C).take N) (((l.drop (C + N)).drop D).take M)).n.size = N := by
              rw [(mkL_size _ _).1, List.length_take, List.length_drop]; omega
            have s2 : (mkL ((l.drop C).take N) (((l.drop (C + N)).drop D).take M)).v.size = M := by
              rw [(mkL_size _ _).2, List.length_take, List.length_drop, List.length_drop]; omega
            rw [keyL_cons, List.length_append, List.length_append, txtB_length, txtB_length, s1, s2]
            omega
theorem txt_inj {a b : ByteArray} {s t : List UInt8} (ha : a.size < 18446744073709551616) (hb : b.size < 18446744073709551616) (h : txtB a ++ s = txtB b ++ t) : a = b ∧ s = t := by
  have e1 := rd_txt a ha s
  rw [h, rd_txt b hb t] at e1
  have hsz : b.size = a.size := congrArg Prod.fst e1
  obtain ⟨h1, h2⟩ := List.append_inj h (by rw [txtB_length, txtB_length, hsz])
  refine ⟨?_, h2⟩
  unfold txtB at h1
  rw [hsz] at h1
  have h3 := List.append_cancel_left h1
  obtain ⟨⟨x⟩⟩ := a
  obtain ⟨⟨y⟩⟩ := b
  simp only at h3
  rw [h3]
theorem key_pre : ∀ (a b : List Lb) (t : List UInt8), tot a ≤ 1000000000000 → tot b ≤ 1000000000000 → keyL b = keyL a ++ t → a.length ≤ b.length ∧ b.take a.length = a
  | [], b, t, _, _, _ => ⟨Nat.zero_le _, rfl⟩
  | x :: r, [], t, _, _, h => by
    rw [keyL_cons] at h
    have e := congrArg List.length h
    rw [List.length_append, List.length_append] at e
    have := txtB_pos x.n
    have z : (keyL []).length = 0 := rfl
    omega
  | x :: r, y :: q, t, ha, hb, h => by
    rw [tot] at ha hb
    rw [keyL_cons, keyL_cons, List.append_assoc, List.append_assoc] at h
    obtain ⟨e1, h⟩ := txt_inj (by omega) (by omega) h
    obtain ⟨e2, h⟩ := txt_inj (by omega) (by omega) h
    obtain ⟨i1, i2⟩ := key_pre r q t (by omega) (by omega) h
    refine ⟨by simpa using i1, ?_⟩
    rw [List.length_cons, List.take_succ_cons, i2, Lb.eq e1 e2]
theorem keyL_inj {a b : List Lb} (ha : tot a ≤ 1000000000000) (hb : tot b ≤ 1000000000000) (h : keyL a = keyL b) : a = b := by
  obtain ⟨h1, h2⟩ := key_pre a b [] ha hb (by rw [List.append_nil, h])
  obtain ⟨h3, _⟩ := key_pre b a [] hb ha (by rw [List.append_nil, h])
  rw [← h2]
  exact List.take_of_length_le h3
theorem key_beq {a b : List Lb} (ha : tot a ≤ 1000000000000) (hb : tot b ≤ 1000000000000) : ((bs (keyL a)).toList == (bs (keyL b)).toList) = sameL a b := by
  rw [bs_toList, bs_toList]
  unfold sameL
  by_cases h : a = b
  · subst h; simp
  · rw [decide_eq_false h, beq_eq_false_iff_ne]
    exact fun e => h (keyL_inj ha hb e)
theorem tot_small : ∀ l : List Lb, Small l → tot l ≤ 340 * l.length
  | [], _ => Nat.le_refl _
  | x :: r, h => by
    have h1 := h x (by simp)
    have h2 := tot_small r (fun y hy => h y (by simp [hy]))
    rw [tot, List.length_cons]
    omega
theorem tot_may {l : List Lb} (h : mayL l = true) : tot l ≤ 5440 := by
  have := tot_small l (may_small h)
  have := mayL_len h
  omega
theorem small_wide {l : List Lb} (h : Small l) : Wide l := fun p hp => by
  have := h p hp
  exact ⟨by omega, by omega⟩
theorem body_len {x : Lb} (hn : mayN x.n.data.toList = true) (hv : mayV x.v.data.toList = true) : (body x).length ≤ 707 := by
  unfold body
  have h1 := mayN_len hn
  obtain ⟨rs, e, ha, _, _, h2⟩ := mayV_iff.1 hv
  rw [e, showV_flat ha]
  have := showR_flat_len rs
  simp only [List.length_append, List.length_cons, List.length_nil]
  omega
theorem showA_len : ∀ (l : List Lb) (a : UInt8), (∀ y ∈ l, mayN y.n.data.toList = true ∧ mayV y.v.data.toList = true) → (showA a l).length ≤ 708 * l.length
  | [], _, _ => Nat.le_refl _
  | x :: r, a, h => by
    have h1 := body_len (h x (by simp)).1 (h x (by simp)).2
    have h2 := showA_len r 44 (fun y hy => h y (by simp [hy]))
    rw [showA_cons, List.length_cons, List.length_append, List.length_cons]
    omega
theorem shows_len {l : List Lb} (h : mayL l = true) : (shows l).length ≤ 11329 := by
  have := showA_len l 123 (mayL_mem h)
  have := mayL_len h
  unfold shows
  rw [List.length_append, List.length_singleton]
  omega
theorem lat_take {W : World} {p : Option Addr} {L c : Nat} {b : List Lb} (h : LAt W (.slice p L c) b) (k c' : Nat) (hk : k ≤ b.length) : LAt W (.slice p k c') (b.take k) := by
  have hl : (b.take k).length = k := by rw [List.length_take]; omega
  rcases h with ⟨rfl, _⟩ | ⟨g, o, c0, e, hc⟩
  · have : k = 0 := by simpa using hk
    subst this
    exact .inl ⟨rfl, _, _, rfl⟩
  · cases e
    refine .inr ⟨g, o, c', by rw [hl], fun j hj => ?_⟩
    rw [hl] at hj
    rw [List.getElem_take]
    exact hc j (by omega)
theorem txt_nz {l : List UInt8} {z k : Nat} (h : txt l z = .error k) : k ≠ 0 := by
  unfold txt at h
  split at h
  · rename_i h1
    cases h
    exact h1
  · split at h
    · cases h; decide
    · split at h
      · cases h; decide
      · cases h
theorem lbs_nz : ∀ (f : Nat) (l : List UInt8) (k : Nat), lbs f l = .error k → k ≠ 0
  | 0, _, _, h => by cases h
  | f + 1, l, k, h => by
    rw [lbs_succ] at h
    split at h
    · cases h
    · split at h
      · rename_i hp; cases h; exact txt_nz hp
      · rename_i p hp
        split at h
        · rename_i hq; cases h; exact txt_nz hq
        · rename_i q hq
          cases e : lbs f ((l.drop (p.1 + p.2)).drop (q.1 + q.2)) with
          | error k' => rw [e] at h; cases h; exact lbs_nz f _ _ e
          | ok m => rw [e] at h; cases h
/-- An argument that is labels, with its capacity. -/
structure Arg2 (w : World) (v : Value) (l : List Lb) : Prop where
  arg : Arg w v l
  cap : ∃ a c, v = .slice a l.length c ∧ l.length ≤ c ∧ c ≤ maxLen ∧ (a = none → c = 0)
open Go.ChangeShapes Go.WideShapes Go.Deep Go.RowKit in
theorem open_labels2 {H : Type} {enc : TypeId × Value → H} {w : World} {base b0 : Nat} {spare : Nat → Bool} {held : Bool} {r : Reach} {v : Value} {d : DataW H} {p : List MemPlace} (hv : Value.okWide Tryd.prog w r b0 25 v) (h : DataW.Trod enc Tryd.prog w base spare held 25 v d p) : ∃ l : List Lb, Arg2 w v l := by
  obtain ⟨l, hl⟩ := open_labels hv h
  refine ⟨l, hl, ?_⟩
  obtain ⟨a0, l0, c0, rfl⟩ := okWide_slice Tryd.underlying25 hv
  obtain ⟨a1, c1, e1⟩ := hl.at'.slice
  obtain ⟨fuel, hf⟩ := h
  cases e1
  rcases open_rows Tryd.underlying25 Tryd.underlying28 one28 (by kernel_rfl) (by decide) hf with h0 | ⟨a, len, cap, h0, hlc, hcm, _, _⟩
  · injection h0 with h1 h2 h3
    exact ⟨_, _, rfl, by omega, by rw [h3]; exact Nat.zero_le _, fun _ => h3⟩
  · injection h0 with h1 h2 h3
    exact ⟨_, _, rfl, by omega, by omega, fun h => by rw [h] at h1; cases h1⟩
theorem cut_list (t : ByteArray) (n : Nat) : (t.extract 0 n).toList = t.data.toList.take n := by
  have e := extract_eq t 0 0 n
  simp only [Nat.zero_add, List.drop_zero] at e
  rw [e]
  exact bs_toList _
theorem key_cut {a b : List Lb} (h : b.take a.length = a) : (bs (keyL a)).size ≤ (bs (keyL b)).size ∧ (((bs (keyL b)).extract 0 (bs (keyL a)).size).toList != (bs (keyL a)).toList) = false := by
  have e : keyL b = keyL a ++ keyL (b.drop a.length) := by
    conv => lhs; rw [← List.take_append_drop a.length b, keyL_app, h]
  rw [cut_list, bs_size, bs_size, bs_data, bs_toList, e]
  exact ⟨by rw [List.length_append]; omega, by rw [List.take_left]; simp⟩
theorem key_nocut {a b : List Lb} (ha : tot a ≤ 1000000000000) (hb : tot b ≤ 1000000000000) (h : ¬ (a.length ≤ b.length ∧ b.take a.length = a)) (hk : (bs (keyL a)).size ≤ (bs (keyL b)).size) :
    (((bs (keyL b)).extract 0 (bs (keyL a)).size).toList != (bs (keyL a)).toList) = true := by
  rw [cut_list, bs_size, bs_data, bs_toList, bne_iff_ne]
  intro e
  refine h (key_pre a b ((keyL b).drop (keyL a).length) ha hb ?_)
  conv => lhs; rw [← List.take_append_drop (keyL a).length (keyL b), e]
theorem ofK_parts {l : List UInt8} {m : List Lb} {K : Nat} (h : ofK l = (m, K)) : (K ≠ 0 ∧ m = []) ∨ (K = 0 ∧ mayL m = true ∧ (keyL m).length ≤ l.length) := by
  unfold ofK at h
  cases e : lbs l.length l with
  | error k =>
    rw [e] at h
    simp only [Prod.mk.injEq] at h
    obtain ⟨rfl, rfl⟩ := h
    exact .inl ⟨lbs_nz _ _ _ e, rfl⟩
  | ok m' =>
    rw [e] at h
    simp only at h
    cases hm : mayL m' with
    | true =>
      rw [if_pos hm] at h
      cases h
      exact .inr ⟨rfl, hm, lbs_len _ _ _ e⟩
    | false =>
      rw [hm] at h
      simp at h
      exact .inl ⟨by omega, h.1⟩
end Go.Proofs.YtjhgmlhoefakpaaDoor
