/- Runes of values: how many begin, and what a cut leaves; the contract of 'starts'. -/
import Derived.Test.YtjhgmlhoefakpaaDoorAw
namespace Go.Proofs.YtjhgmlhoefakpaaDoor
open Go.RowKit
set_option maxRecDepth 100000
set_option maxHeartbeats 1000000
def st : List UInt8 → Nat
  | [] => 0
  | c :: t => (if cont c then 0 else 1) + st t
theorem st_app : ∀ a b : List UInt8, st (a ++ b) = st a + st b
  | [], b => by simp [st]
  | c :: t, b => by rw [List.cons_append, st, st, st_app t b]; omega
theorem st_le : ∀ l : List UInt8, st l ≤ l.length
  | [] => Nat.le_refl _
  | c :: t => by have := st_le t; rw [st, List.length_cons]; split <;> omega
theorem st_cont : ∀ l : List UInt8, (∀ x ∈ l, cont x = true) → st l = 0
  | [], _ => rfl
  | c :: t, h => by rw [st, if_pos (h c (by simp)), st_cont t (fun x hx => h x (by simp [hx]))]
theorem st_enc {c : Nat} (h : OkR c) : st (enc c) = 1 := by
  obtain ⟨x, t, e, hx⟩ := enc_head h
  have ht := enc_cont h
  rw [e] at ht ⊢
  rw [st, hx, st_cont t (by simpa using ht)]
  rfl
theorem st_flat : ∀ rs : List Nat, AllR rs → st (flat rs) = rs.length
  | [], _ => rfl
  | c :: r, h => by
    rw [flat_cons, st_app, st_enc (h c (by simp)), st_flat r (fun x hx => h x (by simp [hx])), List.length_cons]; omega
/-- A text of whole runes begins by no byte that goes on with none. -/
theorem flat_head {rs : List Nat} (h : AllR rs) {y : UInt8} {z : List UInt8} (e : flat rs = y :: z) : cont y = false := by
  cases rs with
  | nil => cases e
  | cons c r =>
    obtain ⟨x, t, e2, hx⟩ := enc_head (h c (by simp))
    rw [flat_cons, e2, List.cons_append] at e
    cases e
    exact hx
theorem flat_split : ∀ (rs : List Nat) (k : Nat), AllR rs → k < (flat rs).length → cont ((flat rs).getD k 0) = false → ∃ p q, rs = p ++ q ∧ (flat rs).take k = flat p ∧ (flat rs).drop k = flat q ∧ q ≠ []
  | [], k, _, hk, _ => by simp [flat] at hk
  | c :: r, k, h, hk, hc => by
    by_cases h0 : k = 0
    · subst h0
      exact ⟨[], c :: r, rfl, rfl, rfl, by simp⟩
    rw [flat_cons] at hk hc ⊢
    have hn := enc_length c
    by_cases hlt : k < (enc c).length
    · exfalso
      have ht := enc_cont (h c (by simp))
      rw [List.getD_eq_getElem?_getD, List.getElem?_append_left hlt, List.getElem?_eq_getElem hlt, Option.getD_some] at hc
      have hm : (enc c)[k] ∈ (enc c).tail := by
        have e : (enc c).tail[k - 1]'(by rw [List.length_tail]; omega) = (enc c)[k] := by
          rw [List.getElem_tail]; congr 1; omega
        rw [← e]; exact List.getElem_mem _
      rw [ht _ hm] at hc
      cases hc
    · obtain ⟨d, rfl⟩ : ∃ d, k = (enc c).length + d := ⟨k - (enc c).length, by omega⟩
      rw [List.getD_eq_getElem?_getD, List.getElem?_append_right (by omega), Nat.add_sub_cancel_left, ← List.getD_eq_getElem?_getD] at hc
      rw [List.length_append] at hk
      obtain ⟨p, q, e, h1, h2, h3⟩ := flat_split r d (fun x hx => h x (by simp [hx])) (by omega) hc
      refine ⟨c :: p, q, by rw [e]; rfl, ?_, ?_, h3⟩
      · rw [List.take_length_add_append, h1, flat_cons]
      · rw [List.drop_append, List.drop_of_length_le (by omega), List.nil_append, Nat.add_sub_cancel_left, h2]
theorem mayV_cont {y : UInt8} {z : List UInt8} (h : cont y = true) : mayV (y :: z) = false := by
  cases hm : mayV (y :: z) with
  | false => rfl
  | true =>
    obtain ⟨rs, e, ha, _⟩ := mayV_iff.1 hm
    have := flat_head ha e.symm
    rw [h] at this; cases this
theorem mayV_drop {a : List UInt8} {k : Nat} (h : mayV a = true) (hk : k < a.length) : mayV (a.drop k) = !cont (a.getD k 0) := by
  obtain ⟨rs, rfl, ha, hv, h1, h2⟩ := mayV_iff.1 h
  cases hc : cont ((flat rs).getD k 0) with
  | true =>
    rw [List.drop_eq_getElem_cons hk]
    rw [List.getD_eq_getElem?_getD, List.getElem?_eq_getElem hk, Option.getD_some] at hc
    exact mayV_cont hc
  | false =>
    obtain ⟨p, q, e, h3, h4, h5⟩ := flat_split rs k ha hk hc
    rw [h4]
    have hq : 1 ≤ q.length := by cases q with | nil => exact absurd rfl h5 | cons => simp
    have hl : rs.length = p.length + q.length := by rw [e, List.length_append]
    rw [mayV_flat (fun c hc => ha c (by rw [e]; simp [hc])) (fun c hc => hv c (by rw [e]; simp [hc])) hq]
    simp; omega
theorem mayV_take {a : List UInt8} {k : Nat} (h : mayV a = true) (hk : k < a.length) : mayV (a.take k) = (decide (0 < k) && !cont (a.getD k 0)) := by
  obtain ⟨rs, rfl, ha, hv, h1, h2⟩ := mayV_iff.1 h
  by_cases h0 : k = 0
  · subst h0; rfl
  rw [decide_eq_true (by omega : 0 < k), Bool.true_and]
  cases hc : cont ((flat rs).getD k 0) with
  | true =>
    cases hm : mayV ((flat rs).take k) with
    | false => rfl
    | true =>
      obtain ⟨ps, e, hp, _⟩ := mayV_iff.1 hm
      obtain ⟨suf, h3, h4⟩ := flat_pre ps rs ((flat rs).drop k) ha hp (by rw [← e, List.take_append_drop])
      rw [List.drop_eq_getElem_cons hk] at h4
      rw [List.getD_eq_getElem?_getD, List.getElem?_eq_getElem hk, Option.getD_some] at hc
      have := flat_head (fun c hc => ha c (by rw [h3]; simp [hc])) h4.symm
      rw [hc] at this; cases this
  | false =>
    obtain ⟨p, q, e, h3, h4, h5⟩ := flat_split rs k ha hk hc
    rw [h3]
    have hl : rs.length = p.length + q.length := by rw [e, List.length_append]
    have hp : 1 ≤ p.length := by
      cases p with
      | nil =>
        have := congrArg List.length h3
        rw [List.length_take, show flat [] = [] from rfl, List.length_nil] at this
        omega
      | cons => simp
    rw [mayV_flat (fun c hc => ha c (by rw [e]; simp [hc])) (fun c hc => hv c (by rw [e]; simp [hc])) hp]
    simp; omega
theorem mayV_join {a b : List UInt8} (h : mayV a = true) (k : mayV b = true) : mayV (a ++ b) = decide (st a + st b ≤ 64) := by
  obtain ⟨rs, rfl, ha, hv, h1, h2⟩ := mayV_iff.1 h
  obtain ⟨ps, rfl, hb, hw, k1, k2⟩ := mayV_iff.1 k
  rw [st_flat rs ha, st_flat ps hb, ← flat_app, mayV_flat (fun c hc => (List.mem_append.1 hc).elim (ha c) (hb c)) (fun c hc => (List.mem_append.1 hc).elim (hv c) (hw c)) (by rw [List.length_append]; omega), List.length_append]
theorem mayV_behind {a : List UInt8} (h : mayV a = true) : mayV (a ++ [128]) = false := by
  obtain ⟨rs, rfl, ha, hv, h1, h2⟩ := mayV_iff.1 h
  cases hm : mayV (flat rs ++ [128]) with
  | false => rfl
  | true =>
    obtain ⟨ps, e, hp, _⟩ := mayV_iff.1 hm
    obtain ⟨suf, h3, h4⟩ := flat_pre rs ps [128] hp ha e.symm
    have := flat_head (fun c hc => hp c (by rw [h3]; simp [hc])) h4.symm
    cases this
theorem mayV_ahead {a : List UInt8} (h : mayV a = true) : mayV (10 :: a) = false := by
  obtain ⟨rs, rfl, ha, hv, h1, h2⟩ := mayV_iff.1 h
  have e : (10 :: flat rs : List UInt8) = flat ([] ++ 10 :: rs) := rfl
  rw [e]
  exact mayV_bad (fun c hc => by
    rcases List.mem_cons.1 hc with rfl | hc
    · exact .inl (by omega)
    · exact ha c hc) (by decide)
theorem st_take {l : List UInt8} {k : Nat} (h : k < l.length) : st (l.take (k + 1)) = st (l.take k) + (if cont l[k] then 0 else 1) := by
  rw [List.take_succ_eq_append_getElem h, st_app]; rfl
/-- The statement's own count. -/
theorem starts_any (s : ByteArray) (hs : s.size ≤ 9223372036854775807) (w : World) : Calls Tryd.prog 37 #[.string s] w fun e w' => e = .returned (.int .i64 (st s.data.toList : Nat)) ∧ w = w' := by
  have HSZ := Lib.hid (Lib.size_eq s)
  go_enter Tryd.func37, Tryd.ntmps37
  go_wp2
  go_loopw [3, 4] (fun n i wr => ∃ (k N : Nat), n = .int .i64 (N : Int) ∧ i = .int .i64 (k : Int) ∧ k ≤ s.size ∧ N ≤ k ∧ wr = w ∧ Hid (N = st (s.data.toList.take k))) (fun _ i _ => s.size - (intOf i).toNat)
  case atStart => exact ⟨0, 0, rfl, rfl, by omega, by omega, rfl, Lib.hid rfl⟩
  case round =>
    obtain ⟨k, N, rfl, rfl, hk, hN, rfl, HE⟩ := hrel
    by_cases hlt : k < s.size
    · have hkl : k < s.data.toList.length := by have := HSZ.out; omega
      have HT := Lib.hid (st_take hkl)
      rw [el_at s k hlt] at HT
      obtain ⟨x, hx⟩ : ∃ x : UInt8, s[k]'hlt = x := ⟨_, rfl⟩
      rw [hx] at HT
      have hb : x.toNat < 256 := UInt8.toNat_lt x
      by_cases hA : x.toNat < 128
      · have hc : cont x = false := by unfold cont; exact decide_eq_false (by omega)
        rw [hc] at HT
        clear hc
        go_wp2
        go_roundw
        case rel => exact ⟨k + 1, N + 1, by go_num, by go_num, by omega, by omega, by first | rfl | trivial, Lib.hid (by rw [HT.out, HE.out]; rfl)⟩
        case measure => (try simp [intOf]); (try omega)
      · by_cases hB : x.toNat < 192
        · have hc : cont x = true := by unfold cont; exact decide_eq_true (by omega)
          rw [hc] at HT
          clear hc
          go_wp2
          go_roundw
          case rel => exact ⟨k + 1, N, by go_num, by go_num, by omega, by omega, by first | rfl | trivial, Lib.hid (by rw [HT.out, HE.out]; rfl)⟩
          case measure => (try simp [intOf]); (try omega)
        · have hc : cont x = false := by unfold cont; exact decide_eq_false (by omega)
          rw [hc] at HT
          clear hc
          go_wp2
          go_roundw
          case rel => exact ⟨k + 1, N + 1, by go_num, by go_num, by omega, by omega, by first | rfl | trivial, Lib.hid (by rw [HT.out, HE.out]; rfl)⟩
          case measure => (try simp [intOf]); (try omega)
    · obtain rfl : k = s.size := by omega
      have HR : Hid (N = st s.data.toList) := Lib.hid (by
        have := HE.out
        rwa [List.take_of_length_le (by have := HSZ.out; omega)] at this)
      go_wp2
      go_ret
      exact ⟨by rw [HR.out]; rfl, rfl⟩
end Go.Proofs.YtjhgmlhoefakpaaDoor
