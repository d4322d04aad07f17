/- Package keys: the document's Read: the contract. -/
import Derived.Test.YtbiokdphjildcaaKd
namespace Go.Proofs.Ytbiokdphjildcaa
open Go Go.RowKit
set_option maxRecDepth 100000
set_option maxHeartbeats 1000000
theorem rd_long {l : List UInt8} (h : l.length < 3 ∨ 64 < l.length) : rd l = ([], [], false) := by
  rcases rd_cases l with e | ⟨t, rfl, hn, _⟩ | ⟨t, c, rfl, hn, hc, _⟩
  · exact e
  · have := name_len hn; simp at h; omega
  · have := name_len hn; have := name_len hc; simp at h; omega
theorem two_of {s : ByteArray} {a b : UInt8} (h : ((s.extract 0 2).toList == [a, b]) = true) : s.data.toList = a :: b :: s.data.toList.drop 2 := by
  rw [beq_iff_eq, Lib.extract_toList] at h
  simp only [Nat.sub_zero, List.drop_zero] at h
  have := List.take_append_drop 2 s.data.toList
  rw [h] at this
  exact this.symm
theorem two_no {s : ByteArray} {a b : UInt8} {r : List UInt8} (h : ((s.extract 0 2).toList == [a, b]) = false) : s.data.toList ≠ a :: b :: r := by
  rw [beq_eq_false_iff_ne, Lib.extract_toList] at h
  intro e
  apply h
  rw [e]; rfl
/-- What the document asks at a place. -/
def Pl (l : List UInt8) (k : Nat) : Bool := decide (l[k]? = some 47) && nameB ((l.drop 2).take (k - 2)) && nameB (l.drop (k + 1))
theorem rd_no {l : List UInt8} (ht : ∀ r, l = 116 :: 47 :: r → nameB r = false) (hc : ∀ r k, l = 99 :: 47 :: r → 3 ≤ k → k < l.length → Pl l k = false) : rd l = ([], [], false) := by
  rcases rd_cases l with e | ⟨t, e, hn, _⟩ | ⟨t, c, e, hn, hk, _⟩
  · exact e
  · rw [ht t e] at hn; cases hn
  · exfalso
    have h1 := name_len hn
    have h2 := hc _ (t.length + 2) e (by omega) (by rw [e]; simp)
    have h3 : Pl l (t.length + 2) = true := by
      rw [e]
      unfold Pl
      have e1 : (99 :: 47 :: (t ++ 47 :: c))[t.length + 2]? = some 47 := by simp
      have e2 : ((99 :: 47 :: (t ++ 47 :: c)).drop 2).take (t.length + 2 - 2) = t := by simp
      have e3 : (99 :: 47 :: (t ++ 47 :: c)).drop (t.length + 2 + 1) = c := by
        simp
      rw [e1, e2, e3, hn, hk]; simp
    rw [h3] at h2; cases h2
theorem rd_pl {l : List UInt8} {k : Nat} (hl : l = 99 :: 47 :: l.drop 2) (hk : 3 ≤ k) (hkl : k < l.length) (h : Pl l k = true) : rd l = ((l.drop 2).take (k - 2), l.drop (k + 1), true) := by
  unfold Pl at h
  simp only [Bool.and_eq_true, decide_eq_true_eq] at h
  have e : l.drop 2 = (l.drop 2).take (k - 2) ++ 47 :: l.drop (k + 1) := by
    have e1 := List.take_append_drop (k - 2) (l.drop 2)
    rw [List.drop_drop, show 2 + (k - 2) = k from by omega] at e1
    have e2 : l.drop k = 47 :: l.drop (k + 1) := by
      rw [List.drop_eq_getElem_cons hkl]
      have := h.1.1
      rw [List.getElem?_eq_getElem hkl] at this
      injection this with this
      rw [this]
    rw [e2] at e1
    exact e1.symm
  have e4 : l = 99 :: 47 :: ((l.drop 2).take (k - 2) ++ 47 :: l.drop (k + 1)) := by rw [← e]; exact hl
  have := rd_c h.1.2 h.2
  rw [← e4] at this
  exact this
theorem ret_n3 (l : List UInt8) (h : rd l = ([], [], false)) : Ending.returned (.tuple #[.string ⟨#[]⟩, .string ⟨#[]⟩, .bool false]) = .returned (.tuple #[.string (bs (rd l).1), .string (bs (rd l).2.1), .bool (rd l).2.2]) := by rw [h]; rfl
theorem rread_any (s : ByteArray) (w : World) :
    Calls Try.prog 25 #[.string s] w fun e w' => e = .returned (.tuple #[.string (bs (rd s.data.toList).1), .string (bs (rd s.data.toList).2.1), .bool (rd s.data.toList).2.2]) ∧ Below w.heap.size w w' := by
  have hsz := Lib.size_eq s
  by_cases h3 : s.size < 3
  · have HF := Lib.hid (ret_n3 _ (rd_long (l := s.data.toList) (.inl (by omega))))
    clear hsz
    have h4 : decide ((s.size : Int) < 3) = true := decide_eq_true (by omega)
    go_enter Try.func25, Try.ntmps25
    go_wp2
    go_ret3
    exact ⟨HF.out, Below.refl _ _⟩
  by_cases h6 : 64 < s.size
  · have HF := Lib.hid (ret_n3 _ (rd_long (l := s.data.toList) (.inr (by omega))))
    clear hsz
    have h4 : decide ((64 : Int) < (s.size : Int)) = true := decide_eq_true (by omega)
    go_enter Try.func25, Try.ntmps25
    go_wp2
    go_ret3
    exact ⟨HF.out, Below.refl _ _⟩
  have hs3 : 3 ≤ s.size := by omega
  have hs64 : s.size ≤ 64 := by omega
  clear h3 h6
  have HN2 := Lib.hid (rname_any (s.extract 2 s.size))
  have e2 : (s.extract 2 s.size).data.toList = s.data.toList.drop 2 := by rw [← Lib.toList_data, Lib.extract_toList, List.take_of_length_le (by simp)]
  rw [e2] at HN2
  have eb : s.extract 2 s.size = bs (s.data.toList.drop 2) := bs_ext e2
  clear e2
  -- the loop's end, whatever the beginning is
  cases ht : ((s.extract 0 2).toList == [116, 47]) with
  | true =>
    have ht2 := two_of ht
    have hc : ((s.extract 0 2).toList == [99, 47]) = false := by
      rw [beq_iff_eq] at ht; rw [ht]; rfl
    cases hn : nameB (s.data.toList.drop 2) with
    | true =>
      have hrd : rd s.data.toList = (s.data.toList.drop 2, [], true) := by
        have := rd_t hn
        rw [← ht2] at this
        exact this
      have HF : Hid (Ending.returned (.tuple #[.string (s.extract 2 s.size), .string ⟨#[]⟩, .bool true]) = .returned (.tuple #[.string (bs (rd s.data.toList).1), .string (bs (rd s.data.toList).2.1), .bool (rd s.data.toList).2.2])) := Lib.hid (by rw [hrd, eb]; rfl)
      rw [hn] at HN2
      clear hsz ht2 hc hn hrd eb
      go_enter Try.func25, Try.ntmps25
      go_wp2_with fail
      refine (HN2.out _).mono ?_
      rintro e w' ⟨rfl, rfl⟩
      go_wp2
      go_ret3
      exact ⟨HF.out, Below.refl _ _⟩
    | false =>
      have HF := Lib.hid (ret_n3 _ (rd_no (l := s.data.toList) (fun r hr => by rw [hr] at hn; exact hn) (fun r k hr => absurd hr (two_no hc))))
      rw [hn] at HN2
      clear hsz ht2 hn eb
      go_enter Try.func25, Try.ntmps25
      go_wp2_with fail
      refine (HN2.out _).mono ?_
      rintro e w' ⟨rfl, rfl⟩
      go_wp2
      go_loopw [5] (fun i wr => ∃ k : Nat, i = .int .i64 k ∧ k ≤ s.size ∧ wr = w) (fun i _ => s.size - (intOf i).toNat)
      case atStart => exact ⟨3, rfl, by omega, rfl⟩
      case round =>
        obtain ⟨k, rfl, hk, rfl⟩ := hrel
        by_cases hlt : k < s.size
        · go_wp2
          go_roundw
          case rel => exact ⟨k + 1, by simp, by omega, (by first | rfl | trivial)⟩
          case measure => (try simp [intOf]); (try omega)
        · go_wp2
          go_ret3
          exact ⟨HF.out, Below.refl _ _⟩
  | false =>
    cases hc : ((s.extract 0 2).toList == [99, 47]) with
    | false =>
      have HF := Lib.hid (ret_n3 _ (rd_no (l := s.data.toList) (fun r hr => absurd hr (two_no ht)) (fun r k hr => absurd hr (two_no hc))))
      clear hsz eb HN2
      go_enter Try.func25, Try.ntmps25
      go_wp2
      go_loopw [5] (fun i wr => ∃ k : Nat, i = .int .i64 k ∧ k ≤ s.size ∧ wr = w) (fun i _ => s.size - (intOf i).toNat)
      case atStart => exact ⟨3, rfl, by omega, rfl⟩
      case round =>
        obtain ⟨k, rfl, hk, rfl⟩ := hrel
        by_cases hlt : k < s.size
        · go_wp2
          go_roundw
          case rel => exact ⟨k + 1, by simp, by omega, (by first | rfl | trivial)⟩
          case measure => (try simp [intOf]); (try omega)
        · go_wp2
          go_ret3
          exact ⟨HF.out, Below.refl _ _⟩
    | true =>
      have HC2 := Lib.hid (two_of hc)
      have HT : Hid ((∀ k, 3 ≤ k → k < s.size → Pl s.data.toList k = false) → Ending.returned (.tuple #[.string ⟨#[]⟩, .string ⟨#[]⟩, .bool false]) = .returned (.tuple #[.string (bs (rd s.data.toList).1), .string (bs (rd s.data.toList).2.1), .bool (rd s.data.toList).2.2])) :=
        Lib.hid (fun h => ret_n3 _ (rd_no (fun r hr => absurd hr (two_no ht)) (fun r k hr h3 hk => h k h3 (by omega))))
      have HY : Hid (∀ k, 3 ≤ k → k < s.size → Pl s.data.toList k = true → Ending.returned (.tuple #[.string (s.extract 2 k), .string (s.extract (k + 1) s.size), .bool true]) = .returned (.tuple #[.string (bs (rd s.data.toList).1), .string (bs (rd s.data.toList).2.1), .bool (rd s.data.toList).2.2])) :=
        Lib.hid (fun k h3 hk h => by
          rw [rd_pl HC2.out h3 (by omega) h, bs_cut, bs_cut, List.take_of_length_le (l := s.data.toList.drop (k + 1)) (by simp)])
      have HP : Hid (∀ k (h : k < s.size), Pl s.data.toList k = (decide (s[k] = 47) && nameB (s.extract 2 k).data.toList && nameB (s.extract (k + 1) s.size).data.toList)) := Lib.hid (fun k h => by
        unfold Pl
        rw [bs_cut, bs_cut, bs_data, bs_data, List.take_of_length_le (l := s.data.toList.drop (k + 1)) (by simp), List.getElem?_eq_getElem (by omega)]
        have e : s.data.toList[k]'(by omega) = s[k] := rfl
        rw [e]
        have e5 : decide (some s[k] = some 47) = decide (s[k] = 47) := by
          rw [Bool.eq_iff_iff, decide_eq_true_eq, decide_eq_true_eq, Option.some_inj]
        rw [e5])
      clear hsz eb HN2 HC2
      go_enter Try.func25, Try.ntmps25
      go_wp2
      go_loopw [5] (fun i wr => ∃ k : Nat, i = .int .i64 k ∧ 3 ≤ k ∧ k ≤ s.size ∧ wr = w ∧ Hid (∀ j, 3 ≤ j → j < s.size → j < k → Pl s.data.toList j = false)) (fun i _ => s.size - (intOf i).toNat)
      case atStart => exact ⟨3, rfl, by omega, by omega, rfl, Lib.hid fun j h1 h2 h3 => by omega⟩
      case round =>
        obtain ⟨k, rfl, hk3, hk, rfl, HK⟩ := hrel
        by_cases hlt : k < s.size
        · obtain ⟨x, hx⟩ : ∃ x : UInt8, s[k]'hlt = x := ⟨_, rfl⟩
          have HPk := Lib.hid (HP.out k hlt)
          have HYk := Lib.hid (HY.out k hk3 hlt)
          have HN1 := Lib.hid (rname_any (s.extract 2 k))
          have HN2 := Lib.hid (rname_any (s.extract (k + 1) s.size))
          rw [hx] at HPk
          have hq : ((x.toNat : Int) == 47) = (x == 47) := u8_eq x 47
          have hstep : Pl s.data.toList k = false → Hid (∀ j, 3 ≤ j → j < s.size → j < k + 1 → Pl s.data.toList j = false) := fun h => Lib.hid fun j h1 h2 h3 => by
            rcases Nat.lt_or_ge j k with h4 | h4
            · exact HK.out j h1 h2 h4
            · obtain rfl : j = k := by omega
              exact h
          generalize nameB (s.extract 2 k).data.toList = p at *
          generalize nameB (s.extract (k + 1) s.size).data.toList = q at *
          cases hxc : (x == 47) with
          | false =>
            rw [hxc] at hq
            have HS := hstep (by rw [HPk.out, decide_eq_false (by simpa using hxc)]; rfl)
            clear hxc hstep
            go_wp2
            go_roundw
            case rel => exact ⟨k + 1, by simp, by omega, by omega, (by first | rfl | trivial), HS⟩
            case measure => (try simp [intOf]); (try omega)
          | true =>
            rw [hxc] at hq
            have hx47 : decide (x = 47) = true := by simpa using hxc
            rw [hx47] at HPk
            clear hxc hx47
            cases p with
            | false =>
              have HS := hstep (by rw [HPk.out]; rfl)
              clear hstep
              go_wp2_with fail
              refine (HN1.out _).mono ?_
              rintro e w' ⟨rfl, rfl⟩
              go_wp2
              go_roundw
              case rel => exact ⟨k + 1, by simp, by omega, by omega, (by first | rfl | trivial), HS⟩
              case measure => (try simp [intOf]); (try omega)
            | true =>
              cases q with
              | false =>
                have HS := hstep (by rw [HPk.out]; rfl)
                clear hstep
                go_wp2_with fail
                refine (HN1.out _).mono ?_
                rintro e w' ⟨rfl, rfl⟩
                go_wp2_with fail
                refine (HN2.out _).mono ?_
                rintro e w' ⟨rfl, rfl⟩
                go_wp2
                go_roundw
                case rel => exact ⟨k + 1, by simp, by omega, by omega, (by first | rfl | trivial), HS⟩
                case measure => (try simp [intOf]); (try omega)
              | true =>
                have HZ := Lib.hid (HYk.out (by rw [HPk.out]; rfl))
                clear hstep
                go_wp2_with fail
                refine (HN1.out _).mono ?_
                rintro e w' ⟨rfl, rfl⟩
                go_wp2_with fail
                refine (HN2.out _).mono ?_
                rintro e w' ⟨rfl, rfl⟩
                go_wp2
                go_region
                go_wp2
                go_ret3
                exact ⟨HZ.out, (Below.refl _ _).drew⟩
        · have HZ := Lib.hid (HT.out fun j h1 h2 => HK.out j h1 h2 (by omega))
          go_wp2
          go_ret3
          exact ⟨HZ.out, Below.refl _ _⟩
end Go.Proofs.Ytbiokdphjildcaa
