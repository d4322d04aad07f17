/- The contract of the document's Parse. -/
import Derived.Test.YtjhgmlhoefakpaaDoorDv
import Derived.Test.YtjhgmlhoefakpaaDoorPp
namespace Go.Proofs.YtjhgmlhoefakpaaDoor
open Go.RowKit
set_option maxRecDepth 100000
set_option maxHeartbeats 4000000
theorem hexR_suffix {u t : List UInt8} {m : Nat} (h : hexR u = some (m, t)) : t <:+ u := by
  rw [hexR_eq] at h
  have hs := hexGo_suffix 6 0 u
  split at h
  · cases h
  · split at h
    · cases h
    · rename_i c t' e
      split at h
      · cases h
        rw [e] at hs
        exact (List.suffix_cons c _).trans hs
      · cases h
theorem esc_suffix {l t : List UInt8} {x : Nat} (h : esc l = some (x, t)) : t <:+ l := by
  cases l with
  | nil => cases h
  | cons c r =>
    rw [esc_cons] at h
    split at h
    · cases h; exact List.suffix_cons c _
    · split at h
      · cases h; exact List.suffix_cons c _
      · split at h
        · cases r with
          | nil => cases h
          | cons d u =>
            unfold escU at h
            simp only at h
            split at h
            · exact (hexR_suffix h).trans ((List.suffix_cons d u).trans (List.suffix_cons c _))
            · cases h
        · cases h
theorem D_suffix : ∀ (n : Nat) (l a b : List UInt8), D n l = some (a, b) → b <:+ l
  | 0, _, _, _, h => by cases h
  | n + 1, l, a, b, h => by
    rw [D] at h
    split at h
    · cases h
    · split at h
      · cases h; exact List.drop_suffix _ _
      · split at h
        · obtain ⟨x, hx, h⟩ := Option.bind_eq_some_iff.1 h
          obtain ⟨x, t⟩ := x
          obtain ⟨p, hp, e⟩ := Option.map_eq_some_iff.1 h
          obtain ⟨p, q⟩ := p
          cases e
          exact (D_suffix n t p _ hp).trans ((esc_suffix hx).trans (List.drop_suffix _ _))
        · obtain ⟨p, hp, e⟩ := Option.map_eq_some_iff.1 h
          obtain ⟨p, q⟩ := p
          cases e
          exact (D_suffix n _ p _ hp).trans (List.drop_suffix _ _)
theorem Dl_suffix {s : ByteArray} {B : Nat} {a b : List UInt8} (h : Dl (s.data.toList.drop B) = some (a, b)) : b = s.data.toList.drop (s.size - b.length) ∧ b.length ≤ s.size - B := by
  have h1 := D_suffix _ _ _ _ h
  have h2 := h1.length_le
  rw [List.length_drop, ← Lib.size_eq] at h2
  refine ⟨?_, h2⟩
  have h3 := h1.trans (List.drop_suffix B s.data.toList)
  have h4 := List.suffix_iff_eq_drop.1 h3
  rw [← Lib.size_eq] at h4
  exact h4
theorem Dl_long {t a b : List UInt8} (h : Dl t = some (a, b)) : a.length ≤ 4 * t.length := by
  have h1 : V t.length t = some (a, b) := Dl_Vl h
  have := V_long _ _ _ _ h1
  omega
theorem go_none {f : Nat} {pre : List Lb} {l : List UInt8} {Q : Option (List Lb)} (h : lab Dl l = none) (e : fin ((labs Dl f l).map fun p => (pre ++ p.1, p.2)) = Q) : Q = none := by
  rw [← e]
  cases f with
  | zero => rfl
  | succ n =>
    have : labs Dl (n + 1) l = none := by
      show (lab Dl l).bind _ = none
      rw [h]; rfl
    rw [this]; rfl
theorem go_end {f : Nat} {pre : List Lb} {l r : List UInt8} {x : Lb} {Q : Option (List Lb)} (hf : 0 < f) (h : lab Dl l = some (x, r)) (hb : behind 44 r = none) (e : fin ((labs Dl f l).map fun p => (pre ++ p.1, p.2)) = Q) : Q = fin (some (pre ++ [x], r)) := by
  obtain ⟨n, rfl⟩ : ∃ n, f = n + 1 := ⟨f - 1, by omega⟩
  have h1 : labs Dl (n + 1) l = some ([x], r) := by
    show (lab Dl l).bind _ = _
    rw [h]
    show (match behind 44 r with | some t => _ | none => _) = _
    rw [hb]
  rw [← e, h1]; rfl
theorem go_on {f : Nat} {pre : List Lb} {l t : List UInt8} {x : Lb} {Q : Option (List Lb)} (hf : 0 < f) (h : lab Dl l = some (x, 44 :: t)) (e : fin ((labs Dl f l).map fun p => (pre ++ p.1, p.2)) = Q) : fin ((labs Dl (f - 1) t).map fun p => ((pre ++ [x]) ++ p.1, p.2)) = Q := by
  obtain ⟨n, rfl⟩ : ∃ n, f = n + 1 := ⟨f - 1, by omega⟩
  have h1 : labs Dl (n + 1) l = (labs Dl n t).map fun p => (x :: p.1, p.2) := by
    show (lab Dl l).bind _ = _
    rw [h]
    simp only [Option.bind_some, show behind 44 (44 :: t) = some t from behind_some.2 rfl]
  rw [← e, h1, Nat.add_sub_cancel]
  cases labs Dl n t with
  | none => rfl
  | some p => simp
theorem behind_ne {a c : UInt8} {t : List UInt8} (h : c ≠ a) : behind a (c :: t) = none := if_neg h
theorem fin_none {l : List Lb} {r : List UInt8} (h : behind 125 r = none) : fin (some (l, r)) = none := fin_no fun p e => by cases e; exact h
theorem lab_no {l : List UInt8} (h : l.dropWhile (· != 61) = [] ∨ l.dropWhile (· != 61) = [61] ∨ (∃ c t, l.dropWhile (· != 61) = 61 :: c :: t ∧ c ≠ 34) ∨ ∃ t, l.dropWhile (· != 61) = 61 :: 34 :: t ∧ Dl t = none) : lab Dl l = none := by
  unfold lab
  rcases h with h | h | ⟨c, t, h, hc⟩ | ⟨t, h, hd⟩
  · rw [h]; rfl
  · rw [h]; rfl
  · rw [h, behind_some.2 rfl]
    show (behind 34 (c :: t)).bind _ = none
    rw [behind_ne hc]; rfl
  · rw [h, behind_some.2 rfl]
    simp only [Option.bind_some, show behind 34 (34 :: t) = some t from behind_some.2 rfl, hd]
    rfl
theorem ext_mid (s : ByteArray) (A B : Nat) : s.extract A B = bs ((s.data.toList.drop A).take (B - A)) := by
  have h : (s.extract A B).data.toList = (s.data.toList.drop A).take (B - A) := by
    rw [ByteArray.data_extract, Array.toList_extract, List.extract_eq_take_drop]
  show _ = (⟨((s.data.toList.drop A).take (B - A)).toArray⟩ : ByteArray)
  rw [← h]
def ofQ : Option (List Lb) → List Lb × Nat
  | some m => (m, 0)
  | none => ([], 4)
theorem parseK_q (l : List UInt8) : parseK l = ofQ (parse l) := by
  unfold parseK
  cases parse l <;> rfl
/-- How far the name goes. -/
structure Nm (L : List UInt8) (A B : Nat) : Prop where
  tw : (L.drop A).takeWhile (· != 61) = (L.drop A).take (B - A) ++ (L.drop B).takeWhile (· != 61)
  dw : (L.drop A).dropWhile (· != 61) = (L.drop B).dropWhile (· != 61)
theorem Nm.zero (L : List UInt8) (A : Nat) : Nm L A A := ⟨by simp, rfl⟩
theorem Nm.step {L : List UInt8} {A B : Nat} {c : UInt8} (h : Nm L A B) (hAB : A ≤ B) (hc : L.drop B = c :: L.drop (B + 1)) (h1 : (c != 61) = true) : Nm L A (B + 1) := by
  refine ⟨?_, ?_⟩
  · rw [h.tw, hc, List.takeWhile_cons, if_pos h1]
    have h3 : (L.drop A).drop (B - A) = c :: L.drop (B + 1) := by rw [List.drop_drop, show A + (B - A) = B by omega, hc]
    rw [show B + 1 - A = (B - A) + 1 by omega, List.take_add_one]
    have h4 : (L.drop A)[B - A]? = some c := by
      have h5 := congrArg List.head? h3
      rw [List.head?_drop] at h5
      exact h5
    rw [h4]
    simp
  · rw [h.dw, hc, List.dropWhile_cons, if_pos h1]
theorem LsRet.no {w w' : World} {P : List Lb × Nat} (hP : P = ([], 4)) (hb : Below w.heap.size w w') : LsRet w P (.returned (.tuple #[.slice none 0 0, .int .i64 4])) w' := by
  subst hP
  exact ⟨_, rfl, ol_nil _ _, hb⟩
theorem rparse_any (s : ByteArray) (hs : s.size ≤ 100000000) (w : World) : Calls Tryd.prog 36 #[.string s] w (LsRet w (parseK s.data.toList)) := by
  have HSZ := Lib.hid (Lib.size_eq s)
  obtain ⟨P, hP⟩ : ∃ P, parseK s.data.toList = P := ⟨_, rfl⟩
  rw [hP]
  by_cases h0 : s.size = 0
  · have he := emp_t h0
    have hn : s.data.toList = [] := List.length_eq_zero_iff.1 (by rw [← Lib.size_eq]; exact h0)
    have HN : Hid (P = ([], 4)) := Lib.hid (by rw [← hP, hn]; kernel_rfl)
    clear hP hn h0
    go_enter Tryd.func36, Tryd.ntmps36
    go_wp2
    go_ret2
    exact LsRet.no HN.out (Below.refl _ _)
  have he := emp_f h0
  have hpos : 0 < s.size := by omega
  have hd0 := drop_at hpos
  rw [List.drop_zero] at hd0
  obtain ⟨x0, hx0⟩ : ∃ x : UInt8, s[0]'hpos = x := ⟨_, rfl⟩
  rw [hx0] at hd0
  have hx0b : x0.toNat < 256 := UInt8.toNat_lt x0
  by_cases h123 : x0 = 123
  · subst h123
    have e123 : (((123 : UInt8).toNat : Int) != 123) = false := rfl
    obtain ⟨Q, hQ⟩ : ∃ Q, parse s.data.toList = Q := ⟨_, rfl⟩
    have HPQ : Hid (P = ofQ Q) := Lib.hid (by rw [← hP, ← hQ]; exact parseK_q _)
    have HQ0 : Hid (fin ((labs Dl s.size (s.data.toList.drop 1)).map fun p => ([] ++ p.1, p.2)) = Q) := Lib.hid (by
      rw [← hQ]
      unfold parse pars
      rw [behind_some.2 (by rw [hd0]), Option.bind_some, Lib.size_eq]
      cases labs Dl s.data.toList.length (s.data.toList.drop 1) <;> rfl)
    clear hP hQ hd0 h0
    go_enter Tryd.func36, Tryd.ntmps36
    go_wp2
    go_loopw [4, 5] (fun u a wr => ∃ (pre : List Lb) (A f : Nat), a = .int .i64 (A : Int) ∧ A ≤ s.size ∧ pre.length ≤ A ∧ Hid (Ol wr w.heap.size u pre) ∧ Hid (Below w.heap.size w wr) ∧ Hid (s.size < f + A ∧ Wide pre ∧ fin ((labs Dl f (s.data.toList.drop A)).map fun p => (pre ++ p.1, p.2)) = Q)) (fun _ a _ => s.size - (intOf a).toNat)
    case atStart => exact ⟨[], 1, s.size, rfl, by omega, by simp, Lib.hid (ol_nil _ _), Lib.hid (Below.refl _ _), Lib.hid ⟨by omega, (fun p hp => by cases hp), HQ0.out⟩⟩
    case round =>
      obtain ⟨pre, A, f, rfl, hA, hpl, HO, HB, HE⟩ := hrel
      obtain ⟨wo, hwo⟩ : ∃ wo, wo = wr := ⟨_, rfl⟩
      subst hwo
      have HF : Hid (A < s.size → 0 < f) := Lib.hid fun h => by have := HE.out.1; omega
      have HN := Lib.hid (fun (h : lab Dl (s.data.toList.drop A) = none) => go_none h HE.out.2.2)
      have HP4 : Hid (Q = none → P = ([], 4)) := Lib.hid fun h => by rw [HPQ.out, h]; rfl
      go_wp2
      go_loopw [5] (fun a wr => ∃ (B : Nat), a = .int .i64 (B : Int) ∧ A ≤ B ∧ B ≤ s.size ∧ wr = wo ∧ Hid (Nm s.data.toList A B)) (fun a _ => s.size - (intOf a).toNat)
      case atStart => exact ⟨A, rfl, Nat.le_refl _, hA, rfl, Lib.hid (Nm.zero _ _)⟩
      case round =>
        obtain ⟨B, rfl, hAB, hB, rfl, HM⟩ := hrel
        by_cases hlt : B < s.size
        · have hdB := drop_at hlt
          obtain ⟨x, hx⟩ : ∃ x : UInt8, s[B]'hlt = x := ⟨_, rfl⟩
          rw [hx] at hdB
          have HDB := Lib.hid hdB
          clear hdB
          have hxb : x.toNat < 256 := UInt8.toNat_lt x
          by_cases hx61 : x = 61
          · subst hx61
            have e61 : (((61 : UInt8).toNat : Int) != 61) = false := rfl
            have HDW : Hid ((s.data.toList.drop A).dropWhile (· != 61) = 61 :: s.data.toList.drop (B + 1)) := Lib.hid (by rw [HM.out.dw, HDB.out]; rfl)
            have HTW : Hid (bs ((s.data.toList.drop A).takeWhile (· != 61)) = s.extract A B) := Lib.hid (by
              have h1 := HM.out.tw
              rw [HDB.out] at h1
              have h2 : ((61 : UInt8) :: s.data.toList.drop (B + 1)).takeWhile (· != 61) = [] := rfl
              rw [h2, List.append_nil] at h1
              rw [h1, ext_mid])
            clear HM HDB
            by_cases h1 : B + 1 < s.size
            · have g1 : decide ((s.size : Int) ≤ (B : Int) + 1) = false := decide_eq_false (by omega)
              have g1n : decide (s.size ≤ B + 1) = false := decide_eq_false (by omega)
              have hd1 := drop_at h1
              obtain ⟨y, hy⟩ : ∃ y : UInt8, s[B + 1]'h1 = y := ⟨_, rfl⟩
              rw [hy] at hd1
              have hyb : y.toNat < 256 := UInt8.toNat_lt y
              have HD1 := Lib.hid hd1
              clear hd1
              by_cases hy34 : y = 34
              · subst hy34
                have e34 : (((34 : UInt8).toNat : Int) != 34) = false := rfl
                obtain ⟨B2, hB2⟩ : ∃ B2, B + 2 = B2 := ⟨_, rfl⟩
                have hB2z : (B : Int) + 2 = (B2 : Int) := by omega
                have hB2s : B2 ≤ s.size := by omega
                have HB2 := Lib.hid hB2
                have HDW2 : Hid ((s.data.toList.drop A).dropWhile (· != 61) = 61 :: 34 :: s.data.toList.drop B2) := Lib.hid (by
                  rw [HDW.out, HD1.out, ← hB2])
                clear HDW HD1 hB2
                have hval := rvalue_any s hs B2 hB2s
                cases hD : Dl (s.data.toList.drop B2) with
                | none =>
                  rw [hD] at hval
                  have HVAL : Hid (∀ W, Calls Tryd.prog 56 #[.string s, .int .i64 B2] W (Ret W (.tuple #[.string { data := #[] }, .int .i64 (-1)]))) := Lib.hid hval
                  have HX : Hid (P = ([], 4)) := Lib.hid (HP4.out (HN.out (lab_no (.inr (.inr (.inr ⟨_, HDW2.out, hD⟩))))))
                  clear hval hD HDW2 HTW
                  go_wp2_with fail
                  refine (HVAL.out _).mono ?_
                  rintro e w1 ⟨rfl, hb⟩
                  have HB1 : Hid (Below w.heap.size w w1) := Lib.hid (below_trans' HB.out hb)
                  clear hb
                  go_wp2
                  go_ret2
                  exact LsRet.no HX.out HB1.out
                | some q =>
                  obtain ⟨v, r⟩ := q
                  rw [hD] at hval
                  obtain ⟨hr, hrl⟩ := Dl_suffix hD
                  obtain ⟨N, hNr⟩ : ∃ N, s.size - r.length = N := ⟨_, rfl⟩
                  rw [hNr] at hr
                  have HVAL : Hid (∀ W, Calls Tryd.prog 56 #[.string s, .int .i64 B2] W (Ret W (.tuple #[.string (bs v), .int .i64 (N : Int)]))) := Lib.hid (by
                    rw [← hNr]; exact hval)
                  have HL : Hid (lab Dl (s.data.toList.drop A) = some (⟨s.extract A B, bs v⟩, s.data.toList.drop N)) := Lib.hid (lab_some.2 ⟨_, _, HDW2.out, (by rw [← hr]; exact hD), (by rw [← HTW.out]; rfl)⟩)
                  have hvl : (bs v).size ≤ 400000000 := by
                    have h2 := Dl_long hD
                    rw [List.length_drop, ← Lib.size_eq] at h2
                    rw [bs_size]; omega
                  have hNB : B2 ≤ N := by omega
                  have hNs : N ≤ s.size := by omega
                  clear hval hD HDW2 HTW hr hrl hNr
                  generalize bs v = V at *
                  by_cases hNlt : N < s.size
                  · have g2 : decide ((s.size : Int) ≤ (N : Int)) = false := decide_eq_false (by omega)
                    have g2n : decide (s.size ≤ N) = false := decide_eq_false (by omega)
                    have hdN := drop_at hNlt
                    obtain ⟨z, hz⟩ : ∃ z : UInt8, s[N]'hNlt = z := ⟨_, rfl⟩
                    rw [hz] at hdN
                    have hzb : z.toNat < 256 := UInt8.toNat_lt z
                    rw [hdN] at HL
                    clear hdN
                    have HBm := Lib.hid (show A < N from by have := HB2.out; omega)
                    have hnz : (s.extract A B).size ≤ 100000000 := by rw [ByteArray.size_extract]; omega
                    have HWd : Hid (Wide (pre ++ [⟨s.extract A B, V⟩])) := Lib.hid fun p hp => by
                      rcases List.mem_append.1 hp with h | h
                      · exact HE.out.2.1 p h
                      · rw [List.mem_singleton] at h
                        subst h
                        exact ⟨by simp only; omega, by simp only; omega⟩
                    go_wp2_with fail
                    refine (HVAL.out _).mono ?_
                    rintro e w1 ⟨rfl, hb⟩
                    have HB1 : Hid (Below w.heap.size w w1) := Lib.hid (below_trans' HB.out hb)
                    have HO1 := Lib.hid (HO.out.below hb (Nat.le_refl _))
                    clear hb
                    obtain ⟨ao, ac, hu⟩ := HO1.out.shape
                    subst hu
                    go_wp2_with (at_builtin; refine wpList_append_l _ _ rfl rfl w.heap.size _ pre rfl (HO1.out.below ((Below.refl w1.heap.size w1).alloc (Nat.le_refl _) _) (Nat.le_refl _)) _ [⟨s.extract A B, V⟩] rfl (.inr ⟨_, 0, 1, rfl, fun j hj => ?cz⟩) (by simp; omega) (by have := HB1.out.size; simp; omega) ?_)
                    case cz =>
                      obtain rfl : j = 0 := by simp at hj; omega
                      exact ⟨by simp, by simp⟩
                    intro v' w4 hown hgr hblk
                    have HO4 := Lib.hid hown
                    have HB4 : Hid (Below w.heap.size w w4) := Lib.hid ((HB1.out.alloc HB1.out.size (.cells #[.string (s.extract A B), .string V] 28)).trans (below_grown hgr (by have := HB1.out.size; simp; omega) (fun g hg => (own_lt HO1.out g hg).1)))
                    clear hown hgr hblk
                    by_cases hz125 : z = 125
                    · subst hz125
                      have e125 : (((125 : UInt8).toNat : Int) == 125) = true := rfl
                      have HX : Hid (Q = fin (some (pre ++ [⟨s.extract A B, V⟩], 125 :: s.data.toList.drop (N + 1)))) := Lib.hid (go_end (HF.out (by omega)) HL.out (behind_ne (by decide)) HE.out.2.2)
                      rw [fin_pre] at HX
                      by_cases hN1 : N + 1 < s.size
                      · have HX2 : Hid (P = ([], 4)) := Lib.hid (HP4.out (by
                          rw [HX.out, if_neg]
                          rintro ⟨h, _⟩
                          have := congrArg List.length h
                          rw [List.length_drop, ← HSZ.out] at this
                          simp only [List.length_nil] at this
                          omega))
                        have g3 : decide ((N : Int) + 1 < (s.size : Int)) = true := decide_eq_true (by omega)
                        have g3n : decide (N + 1 < s.size) = true := decide_eq_true (by omega)
                        clear HX
                        go_wp2
                        go_ret2
                        exact LsRet.no HX2.out HB4.out
                      · have g3 : decide ((N : Int) + 1 < (s.size : Int)) = false := decide_eq_false (by omega)
                        have g3n : decide (N + 1 < s.size) = false := decide_eq_false (by omega)
                        have HX2 : Hid (Q = if mayL (pre ++ [⟨s.extract A B, V⟩]) = true then some (pre ++ [⟨s.extract A B, V⟩]) else none) := Lib.hid (by
                          rw [HX.out, drop_no (by omega)]; simp)
                        have HMY := Lib.hid (rmayL_any (pre ++ [⟨s.extract A B, V⟩]) (by simp; omega) HWd.out v' w4 HO4.out.at)
                        cases hm : mayL (pre ++ [⟨s.extract A B, V⟩]) with
                        | false =>
                          rw [hm] at HMY HX2
                          have HX3 : Hid (P = ([], 4)) := Lib.hid (HP4.out (by rw [HX2.out]; rfl))
                          clear HX hm
                          go_wp2_with fail
                          refine HMY.out.mono ?_
                          rintro e w5 ⟨rfl, hb⟩
                          have HB5 : Hid (Below w.heap.size w w5) := Lib.hid (below_trans' HB4.out hb)
                          clear hb
                          go_wp2
                          go_ret2
                          exact LsRet.no HX3.out HB5.out
                        | true =>
                          rw [hm] at HMY HX2
                          have HX3 : Hid (P = (pre ++ [⟨s.extract A B, V⟩], 0)) := Lib.hid (by rw [HPQ.out, HX2.out]; rfl)
                          clear HX hm
                          go_wp2_with fail
                          refine HMY.out.mono ?_
                          rintro e w5 ⟨rfl, hb⟩
                          have HB5 : Hid (Below w.heap.size w w5) := Lib.hid (below_trans' HB4.out hb)
                          have HO5 := Lib.hid (HO4.out.below hb (Nat.le_refl _))
                          clear hb
                          go_wp2
                          go_ret2
                          exact ⟨_, by rw [HX3.out]; rfl, by rw [HX3.out]; exact HO5.out, HB5.out⟩
                    · have e125 : ((z.toNat : Int) == 125) = false := by
                        rw [beq_eq_false_iff_ne]
                        intro e
                        exact hz125 (UInt8.toNat_inj.1 (by show z.toNat = 125; omega))
                      by_cases hz44 : z = 44
                      · subst hz44
                        have e44 : (((44 : UInt8).toNat : Int) != 44) = false := rfl
                        have HX := Lib.hid (go_on (HF.out (by omega)) HL.out HE.out.2.2)
                        clear hz125
                        go_wp2
                        go_roundw
                        case rel => exact ⟨pre ++ [⟨s.extract A B, V⟩], N + 1, f - 1, by first | rfl | go_num, by omega, by simp; omega, HO4, HB4, Lib.hid ⟨by have := HE.out.1; have := HBm.out; omega, HWd.out, HX.out⟩⟩
                        case measure => (try simp [intOf]); have := HBm.out; (try omega)
                      · have e44 : ((z.toNat : Int) != 44) = true := by
                          rw [bne_iff_ne]
                          intro e
                          exact hz44 (UInt8.toNat_inj.1 (by show z.toNat = 44; omega))
                        have HX : Hid (P = ([], 4)) := Lib.hid (HP4.out (by
                          rw [go_end (HF.out (by omega)) HL.out (behind_ne hz44) HE.out.2.2]
                          exact fin_none (behind_ne hz125)))
                        clear hz125 hz44
                        go_wp2
                        go_ret2
                        exact LsRet.no HX.out HB4.out
                  · obtain rfl : N = s.size := by omega
                    have g2 : decide ((s.size : Int) ≤ (s.size : Int)) = true := decide_eq_true (by omega)
                    have HX : Hid (P = ([], 4)) := Lib.hid (HP4.out (by
                      rw [go_end (HF.out (by omega)) HL.out (by rw [drop_no (Nat.le_refl _)]; rfl) HE.out.2.2]
                      exact fin_none (by rw [drop_no (Nat.le_refl _)]; rfl)))
                    clear HL
                    go_wp2_with fail
                    refine (HVAL.out _).mono ?_
                    rintro e w1 ⟨rfl, hb⟩
                    have HB1 : Hid (Below w.heap.size w w1) := Lib.hid (below_trans' HB.out hb)
                    clear hb
                    go_wp2
                    go_ret2
                    exact LsRet.no HX.out HB1.out
              · have e34 : ((y.toNat : Int) != 34) = true := by
                  rw [bne_iff_ne]
                  intro e
                  exact hy34 (UInt8.toNat_inj.1 (by show y.toNat = 34; omega))
                have HX : Hid (P = ([], 4)) := Lib.hid (HP4.out (HN.out (lab_no (.inr (.inr (.inl ⟨y, _, by rw [HDW.out, HD1.out], hy34⟩))))))
                clear hy34
                go_wp2
                go_ret2
                exact LsRet.no HX.out HB.out
            · have g1 : decide ((s.size : Int) ≤ (B : Int) + 1) = true := decide_eq_true (by omega)
              have g1n : decide (s.size ≤ B + 1) = true := decide_eq_true (by omega)
              have HX : Hid (P = ([], 4)) := Lib.hid (HP4.out (HN.out (lab_no (.inr (.inl (by rw [HDW.out, drop_no (by omega)]))))))
              go_wp2
              go_ret2
              exact LsRet.no HX.out HB.out
          · have e61 : ((x.toNat : Int) != 61) = true := by
              rw [bne_iff_ne]
              intro e
              exact hx61 (UInt8.toNat_inj.1 (by show x.toNat = 61; omega))
            have HM2 := Lib.hid (HM.out.step hAB HDB.out (by rw [bne_iff_ne]; exact hx61))
            clear hx61
            go_wp2
            go_roundw
            case rel => exact ⟨B + 1, by first | rfl | go_num, by omega, by omega, by first | rfl | trivial, HM2⟩
            case measure => (try simp [intOf]); (try omega)
        · obtain rfl : B = s.size := by omega
          have g1 : decide ((s.size : Int) ≤ (s.size : Int) + 1) = true := decide_eq_true (by omega)
          have g1n : decide (s.size ≤ s.size + 1) = true := decide_eq_true (by omega)
          have HX : Hid (P = ([], 4)) := Lib.hid (HP4.out (HN.out (lab_no (.inl (by rw [HM.out.dw, drop_no (Nat.le_refl _)]; rfl)))))
          go_wp2
          go_ret2
          exact LsRet.no HX.out HB.out
  · have e123 : ((x0.toNat : Int) != 123) = true := by
      rw [bne_iff_ne]
      intro e
      exact h123 (UInt8.toNat_inj.1 (by show x0.toNat = 123; omega))
    have HN : Hid (P = ([], 4)) := Lib.hid (by
      rw [← hP]
      unfold parseK parse pars
      rw [hd0, behind_ne h123]; rfl)
    clear hP hd0 h123 h0
    go_enter Tryd.func36, Tryd.ntmps36
    go_wp2
    go_ret2
    exact LsRet.no HN.out (Below.refl _ _)
end Go.Proofs.YtjhgmlhoefakpaaDoor
