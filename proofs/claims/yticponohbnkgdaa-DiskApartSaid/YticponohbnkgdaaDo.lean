/- made; New; the example; awake. -/
import Derived.Test.YticponohbnkgdaaDn
namespace Go.Proofs.Yticponohbnkgdaa
open Go Go.RowKit
set_option maxRecDepth 100000
set_option maxHeartbeats 400000 in
theorem load_no (cap : Int) (l : List Tq) (v : Value) (w : World) (hv : TAt w v l) (hl : l.length ≤ 9223372036854775807) (h : cap < 0 ∨ 32 < l.length) :
    Calls Try.prog 12 #[.int .i64 cap, v] w fun e w' => e = .returned (.tuple #[.pointer none, .int .i64 1]) ∧ w = w' := by
  obtain ⟨va, vc, hv2⟩ := At2.slice hv
  rw [List.length_map] at hv2
  clear hv
  generalize l.length = L at *
  subst hv2
  by_cases hc : cap < 0
  · clear h
    go_enter Try.func12, Try.ntmps12
    go_wp2
    go_ret2
    exact ⟨rfl, rfl⟩
  · have hL : 32 < L := by omega
    have hc2 : 0 ≤ cap := by omega
    clear h
    go_enter Try.func12, Try.ntmps12
    go_wp2
    go_ret2
    exact ⟨rfl, rfl⟩
/-- What Load tells: no disk, and an error; or a disk in a block of the call's own. -/
def Loaded (w : World) (cap : Int) (l : List Tq) (e : Ending) (w' : World) : Prop :=
  Below w.heap.size w w' ∧ ((loadE cap l ≠ 0 ∧ e = .returned (.tuple #[.pointer none, .int .i64 (loadE cap l : Int)])) ∨
    (loadE cap l = 0 ∧ ∃ c : Nat, cap = c ∧ (made0 c l).ok ∧ ∃ B, w.heap.size ≤ B ∧ e = .returned (.tuple #[.pointer (some ⟨B, 0, none⟩), .int .i64 0]) ∧ DAt w' B (made0 c l)))
theorem load_any (cap : Int) (l : List Tq) (v : Value) (w : World) (hv : TAt w v l) (hc : (Lit.int .i64 cap).wf = true) (hl : l.length ≤ 9223372036854775807) (hw : ∀ q ∈ l, q.a.size ≤ 9223372036854775807 ∧ q.b.size ≤ 9223372036854775807) : Calls Try.prog 12 #[.int .i64 cap, v] w (Loaded w cap l) := by
  by_cases h : cap < 0 ∨ 32 < l.length
  · have he : loadE cap l = 1 := if_pos h
    refine (load_no cap l v w hv hl h).mono ?_
    rintro e w' ⟨rfl, rfl⟩
    exact ⟨Below.refl _ _, .inl ⟨by rw [he]; decide, by rw [he]; rfl⟩⟩
  · obtain ⟨c, rfl⟩ := Int.eq_ofNat_of_zero_le (show 0 ≤ cap by omega)
    have hc2 : c ≤ 9223372036854775807 := by have := wf_le hc; omega
    refine (load_in c l v w hv (by omega) hc2 hw _ rfl).mono ?_
    rintro e w' ⟨hb, ⟨h0, rfl, hd⟩ | ⟨h0, rfl⟩⟩
    · exact ⟨hb, .inr ⟨h0, c, rfl, made0_ok hc2 h0, _, Nat.le_refl _, rfl, hd⟩⟩
    · exact ⟨hb, .inl ⟨h0, rfl⟩⟩
/-- The disk behind acts. -/
def actsD (d : Dk) : List Ac → Dk
  | [] => d
  | a :: r => actsD (actD d a).2 r
theorem actsD_snoc (d : Dk) (l : List Ac) (a : Ac) : actsD d (l ++ [a]) = (actD (actsD d l) a).2 := by
  induction l generalizing d with
  | nil => rfl
  | cons b r ih => exact ih _
/-- Acts that a call was handed. -/
structure Acs (w : World) (u : Value) (l : List Ac) : Prop where
  at' : At5 w u l
  fit : ∀ a ∈ l, a.fit w
  len : l.length ≤ 9223372036854775807
theorem KAt.lt {w : World} {v : Value} {l : List Int} (h : KAt w v l) (hl : l ≠ []) : ∀ g, v.ownBlock = some g → g < w.heap.size := fun g hg => by
  rcases h with ⟨h, _⟩ | ⟨g2, o, c, rfl, _, hc⟩
  · exact absurd h hl
  · cases hg
    cases l with
    | nil => exact absurd rfl hl
    | cons q r => exact World.block_lt_of_cell? w _ (hc 0 (by simp))
theorem Ac.fit.below {w w' : World} {a : Ac} (h : a.fit w) {m : Nat} (hb : Below m w w') (hm : w.heap.size ≤ m) : a.fit w' := ⟨h.what, h.t, h.n, h.s, h.len, h.at'.same (fun g hg _ => hb.block g (by omega))⟩
theorem Acs.below {w w' : World} {u : Value} {l : List Ac} (h : Acs w u l) {m : Nat} (hb : Below m w w') (hm : w.heap.size ≤ m) : Acs w' u l :=
  ⟨h.at'.below hb hm, fun a ha => (h.fit a ha).below hb hm, h.len⟩
set_option maxHeartbeats 1000000 in
theorem made_any (cap : Int) (l : List Tq) (v : Value) (acs : List Ac) (u : Value) (w : World) (hv : TAt w v l) (hc : (Lit.int .i64 cap).wf = true) (hl : l.length ≤ 9223372036854775807) (hw : ∀ q ∈ l, q.a.size ≤ 9223372036854775807 ∧ q.b.size ≤ 9223372036854775807) (ha : Acs w u acs) :
    Calls Try.prog 34 #[.int .i64 cap, v, u] w fun e w' => Below w.heap.size w w' ∧ ((loadE cap l ≠ 0 ∧ e = .returned (.pointer none)) ∨ (loadE cap l = 0 ∧ ∃ c : Nat, cap = c ∧ ∃ B, w.heap.size ≤ B ∧ e = .returned (.pointer (some ⟨B, 0, none⟩)) ∧ DAt w' B (actsD (made0 c l) acs) ∧ (actsD (made0 c l) acs).ok)) := by
  have HL := Lib.hid (load_any cap l v w hv hc hl hw)
  obtain ⟨va, vc, hv2⟩ := At2.slice hv
  rw [List.length_map] at hv2
  obtain ⟨ua, uc, hu2⟩ := ha.at'.slice
  have hal := ha.len
  have HA := Lib.hid ha
  clear ha hv hw
  generalize hLa : acs.length = La at *
  have HLa := Lib.hid hLa
  clear hLa
  generalize l.length = Ll at *
  subst hv2 hu2
  go_enter Try.func34, Try.ntmps34
  go_wp2_with fail
  refine HL.out.mono ?_
  rintro e w1 ⟨hb1, ⟨h0, rfl⟩ | ⟨h0, c, rfl, hok, B, hB, rfl, hd⟩⟩
  · have H0 := Lib.hid h0
    have HB1 := Lib.hid hb1
    clear h0 hb1
    obtain ⟨E, hE⟩ : ∃ E, loadE cap l = E := ⟨_, rfl⟩
    have H0 : Hid (loadE cap l ≠ 0) := H0
    rw [hE]
    clear hE
    go_wp2
    go_loopw [9] (fun i wl => i = .int .i64 0 ∧ Hid (Below w.heap.size w wl)) (fun _ _ => 0)
    case atStart => exact ⟨rfl, HB1⟩
    case round =>
      obtain ⟨rfl, HB⟩ := hrel
      by_cases h0 : 0 < La
      · have h0d : decide ((0 : Int) < (La : Int)) = true := decide_eq_true (by omega)
        go_wp2
        go_ret
        exact ⟨HB.out, .inl ⟨H0.out, rfl⟩⟩
      · obtain rfl : La = 0 := by omega
        go_wp2
        go_ret
        exact ⟨HB.out, .inl ⟨H0.out, rfl⟩⟩
  · have H0 := Lib.hid h0
    have HB1 := Lib.hid hb1
    have HBB := Lib.hid hB
    have HD1 := Lib.hid (And.intro hd hok)
    clear h0 hb1 hd hok hB HL
    go_wp2
    go_loopw [9] (fun i wl => ∃ k : Nat, i = .int .i64 (k : Int) ∧ k ≤ La ∧ Hid (DAt wl B (actsD (made0 c l) (acs.take k)) ∧ (actsD (made0 c l) (acs.take k)).ok) ∧ Hid (Below w.heap.size w wl)) (fun i _ => La - (intOf i).toNat)
    case atStart => exact ⟨0, rfl, by omega, HD1, HB1⟩
    case round =>
      obtain ⟨k, rfl, hk, HD, HB⟩ := hrel
      by_cases hlt : k < La
      · have hkl : k < acs.length := by have := HLa.out; omega
        have hacs := HA.out.below HB.out (Nat.le_refl _)
        rcases hacs.at' with ⟨h0, _⟩ | ⟨g, o, e, hg, hcs⟩
        · have := congrArg List.length h0; rw [List.length_nil] at this; omega
        obtain ⟨q0, q1, q2, q3, q4⟩ := hcs k hkl
        rw [HLa.out] at hg
        cases hg
        have hfit := hacs.fit _ (List.getElem_mem hkl)
        have hnb := (HA.out.fit _ (List.getElem_mem hkl)).at'.lt
        have hacs2 : (acs[k]).ks ≠ [] → (acs[k]).v.ownBlock ≠ some B := fun h0 e => by have := hnb h0 B e; have := HBB.out; omega
        have htk : acs.take (k + 1) = acs.take k ++ [acs[k]] := List.take_succ_eq_append_getElem hkl
        have HTK : Hid (actsD (made0 c l) (acs.take (k + 1)) = (actD (actsD (made0 c l) (acs.take k)) acs[k]).2) := Lib.hid (by rw [htk, actsD_snoc])
        have HC := Lib.hid (act_any B _ acs[k] wr HD.out.1 HD.out.2 hfit hacs2)
        have HOK := Lib.hid (actD_ok HD.out.2 acs[k] hfit.n)
        clear hcs hfit hnb hacs2 htk hacs
        generalize actsD (made0 c l) (acs.take k) = D at *
        generalize actD D acs[k] = X at *
        unfold acV at HC
        generalize acs[k] = a at *
        obtain ⟨what, t, n, s, ks, kv⟩ := a
        dsimp only at *
        go_wp2_with fail
        refine HC.out.mono ?_
        rintro e w3 ⟨rfl, hd3, hg3⟩
        have HD3 := Lib.hid hd3
        have HB3 := Lib.hid (below_grown HB.out hg3 HB.out.size HBB.out)
        clear hd3 hg3
        go_wp2
        go_roundw
        case rel => exact ⟨k + 1, by go_num, by omega, Lib.hid (by rw [HTK.out]; exact ⟨HD3.out, HOK.out⟩), HB3⟩
        case measure => simp [intOf]; omega
      · obtain rfl : k = La := by omega
        have hta : acs.take k = acs := List.take_of_length_le (by have := HLa.out; omega)
        rw [hta] at HD
        go_wp2
        go_ret
        exact ⟨HB.out, .inr ⟨H0.out, c, rfl, B, HBB.out, rfl, HD.out.1, HD.out.2⟩⟩
end Go.Proofs.Yticponohbnkgdaa
