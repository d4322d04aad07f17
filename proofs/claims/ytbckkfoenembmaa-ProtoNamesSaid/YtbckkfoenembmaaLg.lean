/- The contracts of large and whole. -/
import Derived.Test.YtbckkfoenembmaaDr
namespace Go.Proofs.Ytbckkfoenembmaa
open Go.RowKit
/-- Fields that came in. -/
structure Ff.wide (p : Ff) : Prop where
  n0 : -9223372036854775808 ≤ p.n
  n1 : p.n ≤ 9223372036854775807
  w : p.w < 256
  v : p.v < 18446744073709551616
  t : p.t.size ≤ maxLen
/-- What 'large' counts. -/
def lng : List Ff → Nat → Nat
  | [], n => n
  | p :: r, n => if n < 10000 then lng r (n + 20 + min 10000 p.t.size) else n
theorem lng_le : ∀ (l : List Ff) (n : Nat), n ≤ lng l n
  | [], n => Nat.le_refl _
  | p :: r, n => by
    rw [lng]
    split
    · have := lng_le r (n + 20 + min 10000 p.t.size); omega
    · exact Nat.le_refl _
theorem lng_short : ∀ (l : List Ff) (n : Nat), lng l n < 10000 → 20 * l.length + n < 10000 ∧ ∀ p ∈ l, p.t.size < 10000
  | [], n, h => ⟨by simpa [lng] using h, fun p hp => by cases hp⟩
  | p :: r, n, h => by
    rw [lng] at h
    split at h
    · obtain ⟨h1, h2⟩ := lng_short r _ h
      have := lng_le r (n + 20 + min 10000 p.t.size)
      refine ⟨by rw [List.length_cons]; omega, fun q hq => ?_⟩
      rcases List.mem_cons.1 hq with rfl | hq
      · omega
      · exact h2 q hq
    · omega
set_option maxRecDepth 100000 in
set_option maxHeartbeats 1000000 in
theorem large_any (l : List Ff) (hl : l.length ≤ maxLen) (hw : ∀ p ∈ l, p.wide) (v : Value) (w : World) (hv : FAt w v l) :
    Calls Try.prog 17 #[v] w fun e w' => e = .returned (.bool (decide (10000 ≤ lng l 0))) ∧ w = w' := by
  have HV := Lib.hid hv
  have HW := Lib.hid hw
  obtain ⟨va, vc, hv2⟩ := hv.slice
  clear hv hw
  have hl2 : (l.length : Int) ≤ 9223372036854775807 := by have := hl; unfold maxLen at this; omega
  generalize hL : l.length = L at *
  have HL := Lib.hid hL
  have HLM := Lib.hid hl
  clear hL hl
  subst hv2
  go_enter Try.func17, Try.ntmps17
  go_wp2
  go_loop [3, 4] (fun n i => ∃ (k N : Nat), n = .int .i64 (N : Int) ∧ i = .int .i64 (k : Int) ∧ k ≤ L ∧ N ≤ 30000 ∧ Hid (lng (l.drop k) N = lng l 0)) (fun _ i => L - (intOf i).toNat)
  case atStart => exact ⟨0, 0, rfl, rfl, by omega, by omega, Lib.hid rfl⟩
  case round =>
    obtain ⟨k, N, rfl, rfl, hk, hN, HE⟩ := hrel
    by_cases hlt : k < L
    · have hkl : k < l.length := by have := HL.out; omega
      by_cases hN5 : N < 10000
      · rcases HV.out with ⟨h0, _⟩ | ⟨g, o, c, hg, hcs⟩
        · have := HL.out; rw [h0] at this; simp at this; omega
        · obtain ⟨-, -, -, q1⟩ := hcs k hkl
          clear hcs
          have hdr : l.drop k = l[k] :: l.drop (k + 1) := List.drop_eq_getElem_cons hkl
          have hrun := HE.out
          rw [hdr, lng, if_pos hN5] at hrun
          have hpw := (HW.out l[k] (List.getElem_mem hkl)).t
          generalize l[k] = P at *
          have HRN := Lib.hid hrun
          clear hdr hrun
          cases hg
          have hps : (P.t.size : Int) ≤ 9223372036854775807 := by unfold maxLen at hpw; omega
          obtain ⟨m, hm⟩ : ∃ m, min 10000 P.t.size = m := ⟨_, rfl⟩
          have hmi : min 10000 (P.t.size : Int) = (m : Int) := by omega
          have hm5 : m ≤ 10000 := by omega
          rw [hm] at HRN
          have HM := Lib.hid hm
          clear hm hpw
          go_wp2
          go_round
          case rel => exact ⟨k + 1, N + 20 + m, by go_num, by go_num, by omega, by omega, HRN⟩
          case measure => simp [intOf]; omega
      · have HR : Hid (lng (l.drop k) N = N) := by
          have hdr : l.drop k = l[k] :: l.drop (k + 1) := List.drop_eq_getElem_cons hkl
          exact Lib.hid (by rw [hdr, lng, if_neg hN5])
        go_wp2
        go_ret
        refine ⟨?_, rfl⟩
        have e := HE.out
        rw [HR.out] at e
        rw [← e]
        simp
        omega
    · obtain rfl : k = L := by omega
      have HR : Hid (N = lng l 0) := Lib.hid (by
        have := HE.out
        rw [List.drop_of_length_le (by have := HL.out; omega), lng] at this
        exact this)
      go_wp2
      go_ret
      refine ⟨?_, rfl⟩
      rw [← HR.out]
      simp
      omega
/-- May all fields be? -/
def whl : List Ff → Bool
  | [] => true
  | p :: r => if p.may then whl r else false
set_option maxRecDepth 100000 in
set_option maxHeartbeats 1000000 in
theorem whole_any (l : List Ff) (hl : l.length ≤ 1000000) (v : Value) (w : World) (hv : FAt w v l) :
    Calls Try.prog 39 #[v] w (Ret w (.bool (whl l))) := by
  have HV := Lib.hid hv
  obtain ⟨va, vc, hv2⟩ := hv.slice
  clear hv
  generalize hL : l.length = L at *
  have HL := Lib.hid hL
  clear hL
  subst hv2
  go_enter Try.func39, Try.ntmps39
  go_wp2
  go_loopw [3] (fun i wr => ∃ k : Nat, i = .int .i64 (k : Int) ∧ k ≤ L ∧ Hid (whl (l.drop k) = whl l) ∧ Hid (Below w.heap.size w wr)) (fun i _ => L - (intOf i).toNat)
  case atStart => exact ⟨0, rfl, by omega, Lib.hid rfl, Lib.hid (Below.refl _ _)⟩
  case round =>
    obtain ⟨k, rfl, hk, HE, HB⟩ := hrel
    by_cases hlt : k < L
    · have hkl : k < l.length := by have := HL.out; omega
      rcases (HV.out.below HB.out (Nat.le_refl _)) with ⟨h0, _⟩ | ⟨g, og, cg, hg, hcs⟩
      · have := HL.out; rw [h0] at this; simp at this; omega
      obtain ⟨q0, q1, q2, q3⟩ := hcs k hkl
      have hdr : l.drop k = l[k] :: l.drop (k + 1) := List.drop_eq_getElem_cons hkl
      have hrun := HE.out
      rw [hdr, whl] at hrun
      clear hcs
      generalize l[k] = f at *
      cases hg
      have HM := Lib.hid (fun W => rmay_any f W)
      unfold fv at HM
      cases hm : f.may with
      | false =>
        rw [hm] at HM hrun
        rw [if_neg (by simp)] at hrun
        have HRN := Lib.hid hrun
        clear hrun hdr hm
        obtain ⟨n, i, v, t⟩ := f
        dsimp only at *
        generalize (i : Int) = i at *
        generalize (v : Int) = v at *
        go_wp2_with fail
        refine (HM.out _).mono ?_
        rintro e w1 ⟨rfl, hb1⟩
        have HB1 := Lib.hid (HB.out.trans (hb1.mono HB.out.size))
        clear hb1
        go_wp2
        go_ret
        refine ⟨?_, HB1.out⟩
        rw [← HRN.out]
        rfl
      | true =>
        rw [hm] at HM hrun
        rw [if_pos rfl] at hrun
        have HRN := Lib.hid hrun
        clear hrun hdr hm
        obtain ⟨n, i, v, t⟩ := f
        dsimp only at *
        generalize (i : Int) = i at *
        generalize (v : Int) = v at *
        go_wp2_with fail
        refine (HM.out _).mono ?_
        rintro e w1 ⟨rfl, hb1⟩
        have HB1 := Lib.hid (HB.out.trans (hb1.mono HB.out.size))
        clear hb1
        go_wp2
        go_roundw
        case rel => exact ⟨k + 1, by go_num, by omega, HRN, HB1⟩
        case measure => simp [intOf]; omega
    · obtain rfl : k = L := by omega
      have hr : Hid (whl l = true) := Lib.hid (by
        have := HE.out
        rw [List.drop_of_length_le (by have := HL.out; omega), whl] at this
        exact this.symm)
      go_wp2
      go_ret
      refine ⟨?_, HB.out⟩
      rw [hr.out]
      rfl
end Go.Proofs.Ytbckkfoenembmaa
