/- The contract of the document's value. -/
import Derived.Test.YtjhgmlhoefakpaaDoorSh2
import Derived.Test.YtjhgmlhoefakpaaDoorPe
namespace Go.Proofs.YtjhgmlhoefakpaaDoor
open Go.RowKit
set_option maxRecDepth 100000
set_option maxHeartbeats 4000000
theorem D_eq {n : Nat} {l : List UInt8} (h : l.length ≤ n) : D n l = Dl l := by
  apply Option.ext
  intro o
  exact ⟨fun h1 => D_fuel _ _ _ h1, fun h1 => D_le h h1⟩
theorem Dl_none {l : List UInt8} (h : (rn l).2 = 0) : Dl l = none := by
  unfold Dl
  cases l with
  | nil => rfl
  | cons c t => show D (t.length + 1) _ = none; rw [D, if_pos h]
theorem rn_pos {l : List UInt8} (h : (rn l).2 ≠ 0) : ∃ m, l.length = m + 1 ∧ (l.drop (rn l).2).length ≤ m := by
  obtain ⟨h1, h2, h3⟩ := rn_inv h
  have h4 := congrArg List.length h2
  have h5 := enc_length (rn l).1
  rw [List.length_append] at h4
  exact ⟨l.length - 1, by omega, by omega⟩
theorem Dl_quote {l : List UInt8} {k : Nat} (h : rn l = (34, k)) (hk : k ≠ 0) : Dl l = some ([], l.drop k) := by
  obtain ⟨m, hm, _⟩ := rn_pos (l := l) (by rw [h]; exact hk)
  unfold Dl
  rw [hm, D, h]
  simp only
  rw [if_neg hk, if_pos trivial]
theorem esc_len {l t : List UInt8} {x : Nat} (h : esc l = some (x, t)) : t.length ≤ l.length := by have := (esc_le h).1; omega
theorem Dl_esc {l : List UInt8} {k : Nat} (h : rn l = (92, k)) (hk : k ≠ 0) : Dl l = (esc (l.drop k)).bind fun x => (Dl x.2).map fun o => (enc x.1 ++ o.1, o.2) := by
  obtain ⟨m, hm, hl⟩ := rn_pos (l := l) (by rw [h]; exact hk)
  rw [h] at hl
  unfold Dl
  rw [hm, D, h]
  simp only
  rw [if_neg hk, if_neg (by omega), if_pos trivial]
  cases e : esc (l.drop k) with
  | none => rfl
  | some x =>
    obtain ⟨x, t⟩ := x
    have := esc_len e
    simp only [Option.bind_some]
    rw [D_eq (n := m) (l := t) (by simp only at hl; omega)]
    rfl
theorem Dl_rune {l : List UInt8} {c k : Nat} (h : rn l = (c, k)) (hk : k ≠ 0) (h1 : c ≠ 34) (h2 : c ≠ 92) : Dl l = (Dl (l.drop k)).map fun o => (enc c ++ o.1, o.2) := by
  obtain ⟨m, hm, hl⟩ := rn_pos (l := l) (by rw [h]; exact hk)
  rw [h] at hl
  conv => lhs; unfold Dl
  rw [hm, D, h]
  simp only
  rw [if_neg hk, if_neg h1, if_neg h2, D_eq (n := m) hl]
/-- What has been read, ahead of what is read still. -/
def mp (acc : ByteArray) (o : Option (List UInt8 × List UInt8)) : Option (List UInt8 × List UInt8) := o.map fun p => (acc.data.toList ++ p.1, p.2)
theorem mp_nil (o : Option (List UInt8 × List UInt8)) : mp { data := #[] } o = o := by cases o <;> rfl
theorem mp_more (acc : ByteArray) (c : Nat) (o : Option (List UInt8 × List UInt8)) : mp (acc ++ bs (enc c)) o = mp acc (o.map fun p => (enc c ++ p.1, p.2)) := by
  cases o with
  | none => rfl
  | some p => simp [mp, bs]
def vRes (n : Nat) : Option (List UInt8 × List UInt8) → Value
  | none => .tuple #[.string { data := #[] }, .int .i64 (-1)]
  | some p => .tuple #[.string (bs p.1), .int .i64 ((n - p.2.length : Nat) : Int)]
theorem bs_back (a : ByteArray) : bs (a.data.toList ++ []) = a := by simp [bs]
theorem esc_u {u : List UInt8} : esc (117 :: 123 :: u) = hexR u := rfl
theorem hexGo_lt : ∀ (n a b : Nat) (l : List UInt8), a < 16 ^ b → (hexGo n a l).1 < 16 ^ (b + n)
  | 0, a, b, l, h => h
  | n + 1, a, b, [], h => Nat.lt_of_lt_of_le h (Nat.pow_le_pow_right (by decide) (by omega))
  | n + 1, a, b, c :: t, h => by
    rw [hexGo_cons]
    cases e : hexd c with
    | none => exact Nat.lt_of_lt_of_le h (Nat.pow_le_pow_right (by decide) (by omega))
    | some d =>
      have hd : d < 16 := by
        unfold hexd at e
        split at e
        · cases e; omega
        · split at e
          · cases e; omega
          · cases e
      have := hexGo_lt n (a * 16 + d) (b + 1) t (by rw [Nat.pow_succ]; omega)
      rw [show b + 1 + n = b + (n + 1) by omega] at this
      exact this
theorem hexR_no {u : List UInt8} (h : (hexGo 6 0 u).2.length = u.length ∨ (hexGo 6 0 u).2 = [] ∨ (∃ c t, (hexGo 6 0 u).2 = c :: t ∧ c ≠ 125) ∨ ¬ OkR (hexGo 6 0 u).1) : hexR u = none := by
  rw [hexR_eq]
  rcases h with h | h | ⟨c, t, h, h2⟩ | h
  · rw [if_pos h]
  · split
    · rfl
    · rw [h]
  · split
    · rfl
    · rw [h]; simp only; rw [if_neg (fun e => h2 e.1)]
  · split
    · rfl
    · split
      · rfl
      · rw [if_neg (fun e => h e.2)]
theorem drop_at {s : ByteArray} {A : Nat} (h : A < s.size) : s.data.toList.drop A = s[A] :: s.data.toList.drop (A + 1) := by
  rw [List.drop_eq_getElem_cons (by rw [← Lib.size_eq]; exact h), el_at s A h]
theorem drop_no {s : ByteArray} {A : Nat} (h : s.size ≤ A) : s.data.toList.drop A = [] := List.drop_of_length_le (by rw [← Lib.size_eq]; exact h)
theorem mp_none {acc : ByteArray} {o G : Option (List UInt8 × List UInt8)} (h : o = none) (e : mp acc o = G) : G = none := by rw [← e, h]; rfl
theorem rune_at (s : ByteArray) (A : Nat) (hs : s.size ≤ 100000000) {c k : Nat} (h : rn (s.data.toList.drop A) = (c, k)) : Hid (∀ W, Calls Tryd.prog 50 #[.string (s.extract A s.size)] W fun e w' => e = .returned (.tuple #[.int .i64 c, .int .i64 k]) ∧ W = w') := Lib.hid fun W => by
  have h1 := rune_any (s.extract A s.size) W (by rw [ByteArray.size_extract]; omega)
  rw [Lib.ext_list, h] at h1
  exact h1
theorem bytes_at (c : Nat) (h : OkR c) : Hid (∀ W, Calls Tryd.prog 75 #[.int .i64 c] W (Ret W (.string (bs (enc c))))) := Lib.hid fun W => bytes_any c h W
theorem hex_at (x : UInt8) : Hid (∀ W, Calls Tryd.prog 74 #[.int .u8 x.toNat] W fun e w' => e = .returned (.int .i64 (hexI x)) ∧ W = w') := Lib.hid fun W => by
  have := hex_any x W
  refine this.mono ?_
  rintro e w' ⟨h1, h2⟩
  exact ⟨h1, h2.symm ▸ rfl⟩
theorem rvalue_any (s : ByteArray) (hs : s.size ≤ 100000000) (A0 : Nat) (hA0 : A0 ≤ s.size) (w : World) :
    Calls Tryd.prog 56 #[.string s, .int .i64 A0] w (Ret w (vRes s.size (Dl (s.data.toList.drop A0)))) := by
  have HSZ := Lib.hid (Lib.size_eq s)
  obtain ⟨G, hG⟩ : ∃ G, Dl (s.data.toList.drop A0) = G := ⟨_, rfl⟩
  have HG := Lib.hid hG
  rw [hG]
  clear hG
  go_enter Tryd.func56, Tryd.ntmps56
  go_wp2
  go_loopw [1, 6] (fun a b wr => ∃ (A : Nat) (acc : ByteArray), a = .int .i64 (A : Int) ∧ b = .string acc ∧ A ≤ s.size ∧ acc.size ≤ 4 * A ∧ Hid (mp acc (Dl (s.data.toList.drop A)) = G) ∧ Hid (Below w.heap.size w wr)) (fun a _ _ => s.size - (intOf a).toNat)
  case atStart => exact ⟨A0, { data := #[] }, rfl, rfl, hA0, (by show 0 ≤ 4 * A0; omega), Lib.hid (by rw [mp_nil]; exact HG.out), Lib.hid (Below.refl _ _)⟩
  case round =>
    obtain ⟨A, acc, rfl, rfl, hA, hacc, HE, HB⟩ := hrel
    have hacc9 : acc.size ≤ 400000000 := by omega
    have HAC := Lib.hid hacc
    clear hacc
    by_cases hlt : A < s.size
    · obtain ⟨c, k, hrn⟩ : ∃ c k, rn (s.data.toList.drop A) = (c, k) := ⟨_, _, rfl⟩
      have HR := rune_at s A hs hrn
      have HRN := Lib.hid hrn
      have hk4 : k ≠ 0 → OkR c ∧ (s.data.toList.drop A) = enc c ++ (s.data.toList.drop A).drop k ∧ k = (enc c).length := fun h => by
        have := rn_inv (l := s.data.toList.drop A) (by rw [hrn]; exact h)
        rw [hrn] at this
        exact this
      clear hrn
      by_cases hk0 : k = 0
      · have HN : Hid (G = none) := Lib.hid (mp_none (Dl_none (by rw [HRN.out]; exact hk0)) HE.out)
        have hki : ((k : Int) == 0) = true := by rw [hk0]; rfl
        clear hk4 hk0
        go_wp2_with fail
        refine (HR.out _).mono ?_
        rintro e w' ⟨rfl, rfl⟩
        go_wp2
        go_ret2
        exact ⟨by rw [HN.out]; rfl, HB.out⟩
      have hki : ((k : Int) == 0) = false := by rw [beq_eq_false_iff_ne]; omega
      obtain ⟨hok, hl1, hl2⟩ := hk4 hk0
      have hkl := enc_length c
      rw [← hl2] at hkl
      have hAk : A + k ≤ s.size := by
        have h1 := congrArg List.length hl1
        rw [List.length_append, ← hl2, List.length_drop, ← HSZ.out] at h1
        omega
      have hdd : (s.data.toList.drop A).drop k = s.data.toList.drop (A + k) := by rw [List.drop_drop]
      obtain ⟨A1, hA1⟩ : ∃ A1, A + k = A1 := ⟨_, rfl⟩
      have hA1z : (A : Int) + (k : Int) = (A1 : Int) := by omega
      rw [hA1] at hAk hdd
      have HAk := Lib.hid (show A < A1 ∧ A1 ≤ A + 4 by omega)
      have HK0 := Lib.hid hk0
      have HDD := Lib.hid hdd
      have HL2 := Lib.hid hl2
      have HOK := Lib.hid hok
      have hcb : c ≤ 1114111 := by unfold OkR at hok; omega
      clear hk4 hk0 hl1 hl2 hkl hA1 hdd hok
      by_cases h34 : c = 34
      · have HN : Hid (G = some (acc.data.toList ++ [], s.data.toList.drop A1)) := Lib.hid (by
          rw [← HE.out, Dl_quote (by rw [HRN.out, h34]) HK0.out, HDD.out]; rfl)
        have e34 : ((c : Int) == 34) = true := by rw [h34]; rfl
        clear h34
        go_wp2_with fail
        refine (HR.out _).mono ?_
        rintro e w' ⟨rfl, rfl⟩
        go_wp2
        go_ret2
        refine ⟨?_, HB.out⟩
        rw [HN.out]
        show _ = Ending.returned (.tuple #[.string (bs (acc.data.toList ++ [])), .int .i64 ((s.size - (s.data.toList.drop A1).length : Nat) : Int)])
        rw [bs_back, List.length_drop, ← HSZ.out, show s.size - (s.size - A1) = A1 by omega]
        rfl
      have e34 : ((c : Int) == 34) = false := by rw [beq_eq_false_iff_ne]; omega
      by_cases h92 : c = 92
      · have e92 : ((c : Int) == 92) = true := by rw [h92]; rfl
        have HE2 : Hid (mp acc ((esc (s.data.toList.drop A1)).bind fun x => (Dl x.2).map fun o => (enc x.1 ++ o.1, o.2)) = G) := Lib.hid (by
          rw [← HE.out, Dl_esc (by rw [HRN.out, h92]) HK0.out, HDD.out])
        clear h92 HRN HDD HL2 HOK HE HK0
        by_cases h1 : A1 < s.size
        · have hd1 := drop_at h1
          obtain ⟨x, hx⟩ : ∃ x : UInt8, s[A1]'h1 = x := ⟨_, rfl⟩
          rw [hx] at hd1
          have hxb : x.toNat < 256 := UInt8.toNat_lt x
          have g1 : decide ((s.size : Int) ≤ (A1 : Int)) = false := decide_eq_false (by omega)
          have g1n : decide (s.size ≤ A1) = false := decide_eq_false (by omega)
          rw [hd1] at HE2
          clear hd1
          by_cases hu : x = 117
          · have hx3 := hu
            subst hx3
            have hu1 : (((117 : UInt8).toNat : Int) == 117) = true := rfl
            by_cases h2 : A1 + 1 < s.size
            · have hd2 := drop_at h2
              obtain ⟨y, hy⟩ : ∃ y : UInt8, s[A1 + 1]'h2 = y := ⟨_, rfl⟩
              rw [hy] at hd2
              have hyb : y.toNat < 256 := UInt8.toNat_lt y
              rw [hd2] at HE2
              clear hd2
              have g2 : decide ((s.size : Int) ≤ (A1 : Int) + 1) = false := decide_eq_false (by omega)
              by_cases hy1 : y = 123
              · subst hy1
                have hy2 : (((123 : UInt8).toNat : Int) != 123) = false := rfl
                rw [esc_u] at HE2
                obtain ⟨F, hF⟩ : ∃ F, A1 + 2 = F := ⟨_, rfl⟩
                rw [show A1 + 1 + 1 = F by omega] at HE2
                have hFz : (A1 : Int) + 1 + 1 = (F : Int) := by omega
                have hFs : F ≤ s.size := by omega
                have HF := Lib.hid hF
                clear hF
                go_wp2_with fail
                refine (HR.out _).mono ?_
                rintro e w' ⟨rfl, rfl⟩
                obtain ⟨wo, hwo⟩ : ∃ wo, wo = wr := ⟨_, rfl⟩
                subst hwo
                go_wp2
                go_loopw [1, 7] (fun a b wr => ∃ (B C J : Nat), a = .int .i64 (B : Int) ∧ b = .int .i64 (C : Int) ∧ B ≤ s.size ∧ J ≤ 6 ∧ (B : Int) - (F : Int) = (J : Int) ∧ C ≤ 16777215 ∧ wr = wo ∧ Hid (F + J = B ∧ C < 16 ^ J ∧ hexGo (6 - J) C (s.data.toList.drop B) = hexGo 6 0 (s.data.toList.drop F))) (fun a _ _ => s.size - (intOf a).toNat)
                case atStart => exact ⟨F, 0, 0, rfl, rfl, hFs, by omega, by omega, by omega, rfl, Lib.hid ⟨rfl, by decide, rfl⟩⟩
                case round =>
                  obtain ⟨B, C, J, rfl, rfl, hB, hJ, hJz, hC, rfl, HX⟩ := hrel
                  by_cases hlt2 : B < s.size
                  · have hdB := drop_at hlt2
                    obtain ⟨z, hz⟩ : ∃ z : UInt8, s[B]'hlt2 = z := ⟨_, rfl⟩
                    rw [hz] at hdB
                    have HDB := Lib.hid hdB
                    clear hdB
                    have hzb : z.toNat < 256 := UInt8.toNat_lt z
                    have g3 : decide ((s.size : Int) ≤ (B : Int)) = false := decide_eq_false (by omega)
                    have HXZ := hex_at z
                    by_cases hJ6 : J < 6
                    · cases hh : hexd z with
                      | some d =>
                        have hd16 : d < 16 := by
                          unfold hexd at hh
                          split at hh
                          · cases hh; omega
                          · split at hh
                            · cases hh; omega
                            · cases hh
                        have hI : hexI z = (d : Int) := by unfold hexI; rw [hh]
                        rw [hI] at HXZ
                        obtain ⟨C1, hC1⟩ : ∃ C1, C * 16 = C1 := ⟨_, rfl⟩
                        have hC1z : (C : Int) * 16 = (C1 : Int) := by omega
                        obtain ⟨C2, hC2⟩ : ∃ C2, C1 + d = C2 := ⟨_, rfl⟩
                        have hC2z : (C1 : Int) + (d : Int) = (C2 : Int) := by omega
                        have hC2b : C2 < 16 ^ (J + 1) := by have := HX.out.2.1; rw [Nat.pow_succ]; omega
                        have hC2l : C2 ≤ 16777215 := by
                          have : 16 ^ (J + 1) ≤ 16 ^ 6 := Nat.pow_le_pow_right (by decide) (by omega)
                          have h6 : (16 : Nat) ^ 6 = 16777216 := by decide
                          omega
                        have HX2 : Hid (F + (J + 1) = B + 1 ∧ C2 < 16 ^ (J + 1) ∧ hexGo (6 - (J + 1)) C2 (s.data.toList.drop (B + 1)) = hexGo 6 0 (s.data.toList.drop F)) := Lib.hid ⟨by have := HX.out.1; omega, hC2b, by
                          have h1 := HX.out.2.2
                          rw [HDB.out, show 6 - J = (6 - (J + 1)) + 1 by omega, hexGo_cons, hh] at h1
                          rw [← h1, ← hC2, ← hC1]⟩
                        clear hh hI hC1 hC2 hC2b
                        go_wp2_with fail
                        refine (HXZ.out _).mono ?_
                        rintro e w' ⟨rfl, rfl⟩
                        go_wp2_with fail
                        refine (HXZ.out _).mono ?_
                        rintro e w' ⟨rfl, rfl⟩
                        go_wp2
                        go_roundw
                        case rel => exact ⟨B + 1, C2, J + 1, by first | rfl | go_num, rfl, by omega, by omega, by omega, hC2l, by first | rfl | trivial, HX2⟩
                        case measure => (try simp [intOf]); (try omega)
                      | none =>
                        have hI : hexI z = -1 := by unfold hexI; rw [hh]
                        rw [hI] at HXZ
                        have HQ : Hid (hexGo 6 0 (s.data.toList.drop F) = (C, s.data.toList.drop B)) := Lib.hid (by
                          rw [← HX.out.2.2, HDB.out, show 6 - J = (6 - (J + 1)) + 1 by omega, hexGo_cons, hh])
                        have HFJ := Lib.hid HX.out.1
                        clear hh hI HX
                        by_cases hJ0 : J = 0
                        · have e0 : ((B : Int) == (F : Int)) = true := by rw [beq_iff_eq]; omega
                          have HN : Hid (G = none) := Lib.hid (mp_none (by rw [hexR_no (.inl (by rw [HQ.out, show B = F from by have := HFJ.out; omega]))]; rfl) HE2.out)
                          clear hJ0
                          go_wp2_with fail
                          refine (HXZ.out _).mono ?_
                          rintro e w' ⟨rfl, rfl⟩
                          go_wp2
                          go_ret2
                          exact ⟨by rw [HN.out]; rfl, HB.out⟩
                        have e0 : ((B : Int) == (F : Int)) = false := by rw [beq_eq_false_iff_ne]; omega
                        by_cases hz5 : z = 125
                        · subst hz5
                          have hz6 : (((125 : UInt8).toNat : Int) != 125) = false := rfl
                          by_cases hm1 : 1114111 < C
                          · have g4 : decide ((1114111 : Int) < (C : Int)) = true := decide_eq_true (by omega)
                            have HN : Hid (G = none) := Lib.hid (mp_none (by rw [hexR_no (.inr (.inr (.inr (by rw [HQ.out]; unfold OkR; simp only; omega))))]; rfl) HE2.out)
                            go_wp2_with fail
                            refine (HXZ.out _).mono ?_
                            rintro e w' ⟨rfl, rfl⟩
                            go_wp2
                            go_ret2
                            exact ⟨by rw [HN.out]; rfl, HB.out⟩
                          have g4 : decide ((1114111 : Int) < (C : Int)) = false := decide_eq_false (by omega)
                          by_cases hm2 : 55296 ≤ C
                          · have g5 : decide ((55296 : Int) ≤ (C : Int)) = true := decide_eq_true (by omega)
                            by_cases hm3 : C ≤ 57343
                            · have g6 : decide ((C : Int) ≤ 57343) = true := decide_eq_true (by omega)
                              have HN : Hid (G = none) := Lib.hid (mp_none (by rw [hexR_no (.inr (.inr (.inr (by rw [HQ.out]; unfold OkR; simp only; omega))))]; rfl) HE2.out)
                              go_wp2_with fail
                              refine (HXZ.out _).mono ?_
                              rintro e w' ⟨rfl, rfl⟩
                              go_wp2
                              go_ret2
                              exact ⟨by rw [HN.out]; rfl, HB.out⟩
                            · have g6 : decide ((C : Int) ≤ 57343) = false := decide_eq_false (by omega)
                              have hokC : OkR C := by unfold OkR; omega
                              have HBY := bytes_at C hokC
                              have HE3 : Hid (mp (acc ++ bs (enc C)) (Dl (s.data.toList.drop (B + 1))) = G) := Lib.hid (by
                                rw [mp_more, ← HE2.out, hexR_eq, HQ.out]
                                simp only
                                rw [if_neg (by have := HFJ.out; rw [List.length_drop, List.length_drop, ← HSZ.out]; omega), HDB.out]
                                simp only
                                rw [if_pos ⟨trivial, hokC⟩]
                                rfl)
                              have hbz : (bs (enc C)).size ≤ 4 := by rw [bs_size]; exact (enc_length C).2
                              generalize bs (enc C) = T at *
                              clear HE2 HQ hokC
                              go_wp2_with fail
                              refine (HXZ.out _).mono ?_
                              rintro e w' ⟨rfl, rfl⟩
                              go_wp2_with fail
                              refine (HBY.out _).mono ?_
                              rintro e w1 ⟨rfl, hb⟩
                              have HB1 : Hid (Below w.heap.size w w1) := Lib.hid (below_trans' HB.out hb)
                              clear hb
                              go_wp2
                              go_roundw
                              case rel => exact ⟨B + 1, _, by first | rfl | go_num, rfl, by omega, (by have := HAk.out; have := HAC.out; have := HF.out; have := HFJ.out; rw [ByteArray.size_append]; omega), HE3, HB1⟩
                              case measure => (try simp [intOf]); have := HAk.out; have := HF.out; have := HFJ.out; (try omega)
                          · have g5 : decide ((55296 : Int) ≤ (C : Int)) = false := decide_eq_false (by omega)
                            have hokC : OkR C := by unfold OkR; omega
                            have HBY := bytes_at C hokC
                            have HE3 : Hid (mp (acc ++ bs (enc C)) (Dl (s.data.toList.drop (B + 1))) = G) := Lib.hid (by
                              rw [mp_more, ← HE2.out, hexR_eq, HQ.out]
                              simp only
                              rw [if_neg (by have := HFJ.out; rw [List.length_drop, List.length_drop, ← HSZ.out]; omega), HDB.out]
                              simp only
                              rw [if_pos ⟨trivial, hokC⟩]
                              rfl)
                            have hbz : (bs (enc C)).size ≤ 4 := by rw [bs_size]; exact (enc_length C).2
                            generalize bs (enc C) = T at *
                            clear HE2 HQ hokC
                            go_wp2_with fail
                            refine (HXZ.out _).mono ?_
                            rintro e w' ⟨rfl, rfl⟩
                            go_wp2_with fail
                            refine (HBY.out _).mono ?_
                            rintro e w1 ⟨rfl, hb⟩
                            have HB1 : Hid (Below w.heap.size w w1) := Lib.hid (below_trans' HB.out hb)
                            clear hb
                            go_wp2
                            go_roundw
                            case rel => exact ⟨B + 1, _, by first | rfl | go_num, rfl, by omega, (by have := HAk.out; have := HAC.out; have := HF.out; have := HFJ.out; rw [ByteArray.size_append]; omega), HE3, HB1⟩
                            case measure => (try simp [intOf]); have := HAk.out; have := HF.out; have := HFJ.out; (try omega)
                        · have hz6 : ((z.toNat : Int) != 125) = true := by
                            rw [bne_iff_ne]
                            intro e
                            exact hz5 (UInt8.toNat_inj.1 (by show z.toNat = 125; omega))
                          have HN : Hid (G = none) := Lib.hid (mp_none (by rw [hexR_no (.inr (.inr (.inl ⟨z, _, by rw [HQ.out, HDB.out], hz5⟩)))]; rfl) HE2.out)
                          clear hz5
                          go_wp2_with fail
                          refine (HXZ.out _).mono ?_
                          rintro e w' ⟨rfl, rfl⟩
                          go_wp2
                          go_ret2
                          exact ⟨by rw [HN.out]; rfl, HB.out⟩
                    · have HQ : Hid (hexGo 6 0 (s.data.toList.drop F) = (C, s.data.toList.drop B)) := Lib.hid (by
                        rw [← HX.out.2.2, show 6 - J = 0 by omega]; rfl)
                      have HFJ := Lib.hid HX.out.1
                      have hJ66 : J = 6 := by omega
                      subst hJ66
                      clear HX HXZ hJ6 hJ
                      have e0 : ((B : Int) == (F : Int)) = false := by rw [beq_eq_false_iff_ne]; omega
                      by_cases hz5 : z = 125
                      · subst hz5
                        have hz6 : (((125 : UInt8).toNat : Int) != 125) = false := rfl
                        by_cases hm1 : 1114111 < C
                        · have g4 : decide ((1114111 : Int) < (C : Int)) = true := decide_eq_true (by omega)
                          have HN : Hid (G = none) := Lib.hid (mp_none (by rw [hexR_no (.inr (.inr (.inr (by rw [HQ.out]; unfold OkR; simp only; omega))))]; rfl) HE2.out)
                          go_wp2
                          go_ret2
                          exact ⟨by rw [HN.out]; rfl, HB.out⟩
                        have g4 : decide ((1114111 : Int) < (C : Int)) = false := decide_eq_false (by omega)
                        by_cases hm2 : 55296 ≤ C
                        · have g5 : decide ((55296 : Int) ≤ (C : Int)) = true := decide_eq_true (by omega)
                          by_cases hm3 : C ≤ 57343
                          · have g6 : decide ((C : Int) ≤ 57343) = true := decide_eq_true (by omega)
                            have HN : Hid (G = none) := Lib.hid (mp_none (by rw [hexR_no (.inr (.inr (.inr (by rw [HQ.out]; unfold OkR; simp only; omega))))]; rfl) HE2.out)
                            go_wp2
                            go_ret2
                            exact ⟨by rw [HN.out]; rfl, HB.out⟩
                          · have g6 : decide ((C : Int) ≤ 57343) = false := decide_eq_false (by omega)
                            have hokC : OkR C := by unfold OkR; omega
                            have HBY := bytes_at C hokC
                            have HE3 : Hid (mp (acc ++ bs (enc C)) (Dl (s.data.toList.drop (B + 1))) = G) := Lib.hid (by
                              rw [mp_more, ← HE2.out, hexR_eq, HQ.out]
                              simp only
                              rw [if_neg (by have := HFJ.out; rw [List.length_drop, List.length_drop, ← HSZ.out]; omega), HDB.out]
                              simp only
                              rw [if_pos ⟨trivial, hokC⟩]
                              rfl)
                            have hbz : (bs (enc C)).size ≤ 4 := by rw [bs_size]; exact (enc_length C).2
                            generalize bs (enc C) = T at *
                            clear HE2 HQ hokC
                            skip
                            go_wp2_with fail
                            refine (HBY.out _).mono ?_
                            rintro e w1 ⟨rfl, hb⟩
                            have HB1 : Hid (Below w.heap.size w w1) := Lib.hid (below_trans' HB.out hb)
                            clear hb
                            go_wp2
                            go_roundw
                            case rel => exact ⟨B + 1, _, by first | rfl | go_num, rfl, by omega, (by have := HAk.out; have := HAC.out; have := HF.out; have := HFJ.out; rw [ByteArray.size_append]; omega), HE3, HB1⟩
                            case measure => (try simp [intOf]); have := HAk.out; have := HF.out; have := HFJ.out; (try omega)
                        · have g5 : decide ((55296 : Int) ≤ (C : Int)) = false := decide_eq_false (by omega)
                          have hokC : OkR C := by unfold OkR; omega
                          have HBY := bytes_at C hokC
                          have HE3 : Hid (mp (acc ++ bs (enc C)) (Dl (s.data.toList.drop (B + 1))) = G) := Lib.hid (by
                            rw [mp_more, ← HE2.out, hexR_eq, HQ.out]
                            simp only
                            rw [if_neg (by have := HFJ.out; rw [List.length_drop, List.length_drop, ← HSZ.out]; omega), HDB.out]
                            simp only
                            rw [if_pos ⟨trivial, hokC⟩]
                            rfl)
                          have hbz : (bs (enc C)).size ≤ 4 := by rw [bs_size]; exact (enc_length C).2
                          generalize bs (enc C) = T at *
                          clear HE2 HQ hokC
                          skip
                          go_wp2_with fail
                          refine (HBY.out _).mono ?_
                          rintro e w1 ⟨rfl, hb⟩
                          have HB1 : Hid (Below w.heap.size w w1) := Lib.hid (below_trans' HB.out hb)
                          clear hb
                          go_wp2
                          go_roundw
                          case rel => exact ⟨B + 1, _, by first | rfl | go_num, rfl, by omega, (by have := HAk.out; have := HAC.out; have := HF.out; have := HFJ.out; rw [ByteArray.size_append]; omega), HE3, HB1⟩
                          case measure => (try simp [intOf]); have := HAk.out; have := HF.out; have := HFJ.out; (try omega)
                      · have hz6 : ((z.toNat : Int) != 125) = true := by
                          rw [bne_iff_ne]
                          intro e
                          exact hz5 (UInt8.toNat_inj.1 (by show z.toNat = 125; omega))
                        have HN : Hid (G = none) := Lib.hid (mp_none (by rw [hexR_no (.inr (.inr (.inl ⟨z, _, by rw [HQ.out, HDB.out], hz5⟩)))]; rfl) HE2.out)
                        clear hz5
                        go_wp2
                        go_ret2
                        exact ⟨by rw [HN.out]; rfl, HB.out⟩
                  · obtain rfl : B = s.size := by omega
                    have g3 : decide ((s.size : Int) ≤ (s.size : Int)) = true := decide_eq_true (by omega)
                    have HQ : Hid (hexGo 6 0 (s.data.toList.drop F) = (C, [])) := Lib.hid (by
                      rw [← HX.out.2.2, drop_no (Nat.le_refl _)]
                      cases 6 - J <;> rfl)
                    have HN : Hid (G = none) := Lib.hid (mp_none (by rw [hexR_no (.inr (.inl (by rw [HQ.out])))]; rfl) HE2.out)
                    clear HX HQ
                    by_cases hJ0 : J = 0
                    · have e0 : (((s.size : Nat) : Int) == (F : Int)) = true := by rw [beq_iff_eq]; omega
                      clear hJ0
                      go_wp2
                      go_ret2
                      exact ⟨by rw [HN.out]; rfl, HB.out⟩
                    · have e0 : (((s.size : Nat) : Int) == (F : Int)) = false := by rw [beq_eq_false_iff_ne]; omega
                      clear hJ0
                      go_wp2
                      go_ret2
                      exact ⟨by rw [HN.out]; rfl, HB.out⟩
              · have hy2 : ((y.toNat : Int) != 123) = true := by
                  rw [bne_iff_ne]
                  intro e
                  exact hy1 (UInt8.toNat_inj.1 (by show y.toNat = 123; omega))
                have HN : Hid (G = none) := Lib.hid (mp_none (by
                  show (if y = 123 then _ else none : Option (Nat × List UInt8)).bind _ = none
                  rw [if_neg hy1]; rfl) HE2.out)
                clear hy1
                go_wp2_with fail
                refine (HR.out _).mono ?_
                rintro e w' ⟨rfl, rfl⟩
                go_wp2
                go_ret2
                exact ⟨by rw [HN.out]; rfl, HB.out⟩
            · have g2 : decide ((s.size : Int) ≤ (A1 : Int) + 1) = true := decide_eq_true (by omega)
              have HN : Hid (G = none) := Lib.hid (mp_none (by rw [drop_no (s := s) (A := A1 + 1) (by omega)]; rfl) HE2.out)
              go_wp2_with fail
              refine (HR.out _).mono ?_
              rintro e w' ⟨rfl, rfl⟩
              go_wp2
              go_ret2
              exact ⟨by rw [HN.out]; rfl, HB.out⟩
          · have eu : ((x.toNat : Int) == 117) = false := by
              rw [beq_eq_false_iff_ne]
              intro e
              exact hu (UInt8.toNat_inj.1 (by show x.toNat = 117; omega))
            by_cases h34x : x = 34 ∨ x = 92
            · rcases h34x with hx34 | hx34
              · have e1 : ((x.toNat : Int) == 34) = true := by rw [hx34]; rfl
                have HE3 : Hid (mp (acc ++ bs (enc 34)) (Dl (s.data.toList.drop (A1 + 1))) = G) := Lib.hid (by
                  rw [mp_more, ← HE2.out, hx34]; rfl)
                have HBY := bytes_at 34 (.inl (by omega))
                have exn : (x.toNat : Int) = ((34 : Nat) : Int) := by rw [hx34]; rfl
                have hbz : (bs (enc 34)).size ≤ 4 := by rw [bs_size]; exact (enc_length 34).2
                generalize bs (enc 34) = T at *
                clear HE2 hu
                go_wp2_with fail
                refine (HR.out _).mono ?_
                rintro e w' ⟨rfl, rfl⟩
                go_wp2_with fail
                refine (HBY.out _).mono ?_
                rintro e w1 ⟨rfl, hb⟩
                have HB1 : Hid (Below w.heap.size w w1) := Lib.hid (below_trans' HB.out hb)
                clear hb
                go_wp2
                go_roundw
                case rel => exact ⟨A1 + 1, _, by first | rfl | go_num, rfl, by omega, (by have := HAk.out; have := HAC.out; rw [ByteArray.size_append]; omega), HE3, HB1⟩
                case measure => (try simp [intOf]); have := HAk.out; (try omega)
              · have e1 : ((x.toNat : Int) == 34) = false := by rw [hx34]; rfl
                have HE3 : Hid (mp (acc ++ bs (enc 92)) (Dl (s.data.toList.drop (A1 + 1))) = G) := Lib.hid (by
                  rw [mp_more, ← HE2.out, hx34]; rfl)
                have HBY := bytes_at 92 (.inl (by omega))
                have exn : (x.toNat : Int) = ((92 : Nat) : Int) := by rw [hx34]; rfl
                have hbz : (bs (enc 92)).size ≤ 4 := by rw [bs_size]; exact (enc_length 92).2
                generalize bs (enc 92) = T at *
                clear HE2 hu
                go_wp2_with fail
                refine (HR.out _).mono ?_
                rintro e w' ⟨rfl, rfl⟩
                go_wp2_with fail
                refine (HBY.out _).mono ?_
                rintro e w1 ⟨rfl, hb⟩
                have HB1 : Hid (Below w.heap.size w w1) := Lib.hid (below_trans' HB.out hb)
                clear hb
                go_wp2
                go_roundw
                case rel => exact ⟨A1 + 1, _, by first | rfl | go_num, rfl, by omega, (by have := HAk.out; have := HAC.out; rw [ByteArray.size_append]; omega), HE3, HB1⟩
                case measure => (try simp [intOf]); have := HAk.out; (try omega)
            · have e1 : ((x.toNat : Int) == 34) = false := by
                rw [beq_eq_false_iff_ne]
                intro e
                exact h34x (.inl (UInt8.toNat_inj.1 (by show x.toNat = 34; omega)))
              have e2 : ((x.toNat : Int) == 92) = false := by
                rw [beq_eq_false_iff_ne]
                intro e
                exact h34x (.inr (UInt8.toNat_inj.1 (by show x.toNat = 92; omega)))
              have e1b : ((x.toNat : Int) != 34) = true := by rw [bne, e1]; rfl
              have e2b : ((x.toNat : Int) != 92) = true := by rw [bne, e2]; rfl
              have HN : Hid (G = none) := Lib.hid (mp_none (by rw [esc_cons, if_neg (fun e => h34x (.inr e)), if_neg (fun e => h34x (.inl e)), if_neg hu]; rfl) HE2.out)
              clear h34x hu
              go_wp2_with fail
              refine (HR.out _).mono ?_
              rintro e w' ⟨rfl, rfl⟩
              go_wp2
              go_ret2
              exact ⟨by rw [HN.out]; rfl, HB.out⟩
        · have HN : Hid (G = none) := Lib.hid (mp_none (by rw [drop_no (by omega)]; rfl) HE2.out)
          have g1 : decide ((s.size : Int) ≤ (A1 : Int)) = true := decide_eq_true (by omega)
          go_wp2_with fail
          refine (HR.out _).mono ?_
          rintro e w' ⟨rfl, rfl⟩
          go_wp2
          go_ret2
          exact ⟨by rw [HN.out]; rfl, HB.out⟩
      · have e92 : ((c : Int) == 92) = false := by rw [beq_eq_false_iff_ne]; omega
        have HBY := bytes_at c HOK.out
        have HE2 : Hid (mp (acc ++ bs (enc c)) (Dl (s.data.toList.drop A1)) = G) := Lib.hid (by
          rw [mp_more, ← HE.out, Dl_rune HRN.out HK0.out h34 h92, HDD.out])
        have hbz : (bs (enc c)).size ≤ 4 := by rw [bs_size]; exact (enc_length c).2
        generalize bs (enc c) = T at *
        clear h34 h92 HRN HDD HL2 HOK HE HK0
        go_wp2_with fail
        refine (HR.out _).mono ?_
        rintro e w' ⟨rfl, rfl⟩
        go_wp2_with fail
        refine (HBY.out _).mono ?_
        rintro e w1 ⟨rfl, hb⟩
        have HB1 : Hid (Below w.heap.size w w1) := Lib.hid (below_trans' HB.out hb)
        clear hb
        go_wp2
        go_roundw
        case rel => exact ⟨A1, _, by first | rfl | go_num, rfl, hAk, (by have := HAk.out; have := HAC.out; rw [ByteArray.size_append]; omega), HE2, HB1⟩
        case measure => (try simp [intOf]); have := HAk.out; (try omega)
    · obtain rfl : A = s.size := by omega
      have HN : Hid (G = none) := Lib.hid (mp_none (by rw [drop_no (Nat.le_refl _)]; rfl) HE.out)
      go_wp2
      go_ret2
      exact ⟨by rw [HN.out]; rfl, HB.out⟩
end Go.Proofs.YtjhgmlhoefakpaaDoor
