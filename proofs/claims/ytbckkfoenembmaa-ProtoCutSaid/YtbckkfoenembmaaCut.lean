/- ProtoCut: for any fields and any place the law answers true. No condition. -/
import Derived.Test.YtbckkfoenembmaaRows
import Derived.Test.YtbckkfoenembmaaAw
import Derived.Test.YtbckkfoenembmaaAp
import Derived.Test.YtbckkfoenembmaaFs
import Derived.WalkKit
import Derived.ProofKit
import Derived.OpenShut
import Derived.ShutString
namespace Go.Proofs.Ytbckkfoenembmaa.protoCut
open Go.ChangeShapes Go.WideShapes Go.ChangeAt Go.RowKit
open Go.ChangeMaps (open_string shut_string)
set_option linter.unusedVariables false
theorem og_slice {w : World} {base : Nat} {v : Value} {l : List Gf} (h : Og w base v l) : (v = .slice none 0 0 ∧ l = []) ∨ ∃ g c, v = .slice (some ⟨g, 0, none⟩) l.length c ∧ l.length ≤ c ∧ c ≤ maxLen := by
  unfold Og at h
  rcases h.2 with ⟨rfl, hn⟩ | ⟨g, cap, cur, rfl, hb, hh, hle, hm, _⟩
  · exact .inl ⟨rfl, List.eq_nil_of_length_eq_zero hn⟩
  · exact .inr ⟨g, cap, rfl, hle, hm⟩
/-- How many bytes the first fields have. -/
def pre (l : List Fd) (i : Nat) : Nat := ((l.take i).flatMap fby).length
theorem pre_zero (l : List Fd) : pre l 0 = 0 := by simp [pre]
theorem pre_succ (l : List Fd) (i : Nat) (h : i < l.length) : pre l (i + 1) = pre l i + (fby l[i]).length := by
  unfold pre
  rw [List.take_succ_eq_append_getElem h, List.flatMap_append, List.length_append]
  simp
theorem pre_all (l : List Fd) : pre l l.length = (l.flatMap fby).length := by simp [pre]
theorem cut_msg : ∀ (fds acc : List Fd) (k : Nat), (∀ f ∈ fds, f.ok) → (∀ f ∈ fds, (fby f).length < 18446744073709551616) → k ≤ (fds.flatMap fby).length → (∀ i, i ≤ fds.length → pre fds i ≠ k) → msg ((fds.flatMap fby).take k) acc = ([], 8)
  | [], acc, k, _, _, hk, h => absurd (by rw [pre_zero]; simp at hk; omega) (h 0 (Nat.le_refl _))
  | f :: r, acc, k, hok, h64, hk, h => by
    have h0 := h 0 (by omega)
    rw [pre_zero] at h0
    have h1 := h 1 (by simp)
    have hp1 : pre (f :: r) 1 = (fby f).length := by simp [pre]
    rw [hp1] at h1
    rw [List.flatMap_cons] at hk ⊢
    rw [List.length_append] at hk
    by_cases hlt : k < (fby f).length
    · have hx := rdf_fby f (hok f (by simp)) []
      rw [List.append_nil] at hx
      have R := rdf_facts (h64 f (by simp)) hx
      have hc := R.cut k hlt
      rw [List.take_append_of_le_length (by omega)]
      refine msg_no (fun e => ?_) hc (by decide) _
      have := congrArg List.length e
      rw [List.length_take, List.length_nil] at this
      omega
    · have hgt : (fby f).length < k := by omega
      obtain ⟨d, rfl⟩ : ∃ d, k = (fby f).length + d := ⟨k - (fby f).length, by omega⟩
      rw [List.take_length_add_append, msg_ok (fby_ne f _) (rdf_fby f (hok f (by simp)) _) (fby_pos f), drop_pre0 rfl]
      refine cut_msg r _ d (fun g hg => hok g (by simp [hg])) (fun g hg => h64 g (by simp [hg])) (by omega) (fun i hi => ?_)
      have h2 := h (i + 1) (by simp; omega)
      have hp : pre (f :: r) (i + 1) = (fby f).length + pre r i := by simp [pre]
      rw [hp] at h2
      omega
/-- What is told of a cut. -/
structure Cuts (gs : List Gf) (R : List UInt8) (S : Nat → Nat) (fds : List Fd) : Prop where
  len : R.length ≤ 10000
  tot : S gs.length = R.length
  s0 : S 0 = 0
  ss : ∀ i (h : i < gs.length), S (i + 1) = S i + gs[i].size
  le : ∀ i, i ≤ gs.length → S i ≤ R.length
  at' : ∀ i, i ≤ gs.length → ∀ k, S i = k → ∀ W, Calls Try.prog 14 #[.string (bs (R.take k))] W (TellsG W (gs.take i, 0))
  no : ∀ k, k ≤ R.length → (∀ i, i ≤ gs.length → S i ≠ k) → ∀ W, Calls Try.prog 14 #[.string (bs (R.take k))] W (TellsG W ([], 8))
theorem cuts_of (gs : List Gf) (hg : ∀ g ∈ gs, g.may = true ∧ g.ok) (R : List UInt8) (hR : wrk gs [] = (R, 0)) (hl : R.length ≤ 10000) : Cuts gs R (pre (gs.map fdg)) (gs.map fdg) := by
  have h1 := wrk_all gs [] hg
  rw [hR, List.nil_append] at h1
  simp only [Prod.mk.injEq, and_true] at h1
  subst h1
  have hfo : ∀ f ∈ gs.map fdg, f.ok := fun f hf => by obtain ⟨g, hg', rfl⟩ := List.mem_map.1 hf; exact (fdg_ok (hg g hg').1 (hg g hg').2).1
  have hle : ∀ i, pre (gs.map fdg) i ≤ ((gs.map fdg).flatMap fby).length := fun i => by
    unfold pre
    conv => rhs; rw [← List.take_append_drop i (gs.map fdg)]
    rw [List.flatMap_append, List.length_append]
    omega
  have htk : ∀ i, ((gs.map fdg).flatMap fby).take (pre (gs.map fdg) i) = ((gs.map fdg).take i).flatMap fby := fun i => by
    conv => lhs; rw [← List.take_append_drop i (gs.map fdg)]
    rw [List.flatMap_append, List.take_append_drop]
    exact List.take_left' rfl
  refine ⟨hl, by have := pre_all (gs.map fdg); rw [List.length_map] at this; exact this, pre_zero _, fun i h => ?_, fun i _ => hle i, fun i hi k hk W => ?_, fun k hk hn W => ?_⟩
  · rw [pre_succ _ i (by simpa using h)]
    congr 1
    have hgi := hg gs[i] (List.getElem_mem h)
    rw [List.getElem_map, (fdg_ok hgi.1 hgi.2).2.1]
    unfold Gf.size Gf.by
    rw [if_pos hgi.1, List.length_append, Bt.vint_length]
    congr 1
    cases hv : gs[i].v with
    | va n => exact Bt.vint_length n
    | ei n => exact Bt.fx_length 8 n
    | tx t => show (Bt.vint t.size ++ t.data.toList).length = _; rw [List.length_append, Bt.vint_length]; simp [Vl.z]
    | fo n => exact Bt.fx_length 4 n
    | no => rfl
    | an k => rfl
  · subst hk
    rw [htk i]
    have hb := msg_write ((gs.map fdg).take i) (fun f hf => hfo f (List.mem_of_mem_take hf))
    have h := pread_any (bs (((gs.map fdg).take i).flatMap fby)) (by rw [bs_size]; have := hle i; unfold pre at this; omega) W
    rw [bs_data, hb] at h
    dsimp only at h
    rw [List.map_take, map_id_of fdg gfd gs (fun g hg' => (fdg_ok (hg g hg').1 (hg g hg').2).2.2)] at h
    exact h
  · have hc := cut_msg (gs.map fdg) [] k hfo (fun f hf => by
      have : (fby f).length ≤ ((gs.map fdg).flatMap fby).length := by
        obtain ⟨a, b, hab⟩ := List.append_of_mem hf
        rw [hab, List.flatMap_append, List.flatMap_cons, List.length_append, List.length_append]
        omega
      omega) hk (fun i hi => hn i (by simpa using hi))
    have h := pread_any (bs (((gs.map fdg).flatMap fby).take k)) (by rw [bs_size, List.length_take]; omega) W
    rw [bs_data, hc] at h
    exact h
theorem least {p : Nat → Prop} : ∀ n, p n → ∃ m, m ≤ n ∧ p m ∧ ∀ j, j < m → ¬ p j := by
  intro n
  induction n using Nat.strongRecOn with
  | _ n ih =>
    intro h
    by_cases hc : ∃ j, j < n ∧ p j
    · obtain ⟨j, hj, hp⟩ := hc
      obtain ⟨m, h1, h2, h3⟩ := ih j hj hp
      exact ⟨m, by omega, h2, h3⟩
    · exact ⟨n, Nat.le_refl _, h, fun j hj hp => hc ⟨j, hj, hp⟩⟩
theorem gat_take {w : World} {a : Option Addr} {L c : Nat} {l : List Gf} (h : GAt w (.slice a L c) l) (i c' : Nat) (hi : i ≤ l.length) : GAt w (.slice a i c') (l.take i) := by
  rcases h with ⟨rfl, a', c'', e⟩ | ⟨g, o, cc, e, hc⟩
  · cases e
    have : i = 0 := by simpa using hi
    subst this
    exact .inl ⟨rfl, _, _, rfl⟩
  · cases e
    refine .inr ⟨g, o, c', by rw [List.length_take, Nat.min_eq_left hi], fun j hj => ?_⟩
    rw [List.length_take] at hj
    have := hc j (by omega)
    rw [List.getElem_take]
    exact this
theorem extract_take (R : List UInt8) (k : Nat) : (bs R).extract 0 k = bs (R.take k) := by
  rw [← bs_of ((bs R).extract 0 k), extract_list, bs_data]
  simp
set_option maxRecDepth 100000 in
set_option maxHeartbeats 1000000 in
theorem core (v : Value) (l : List Ff) (n : Int) (wn : (Lit.int .i64 n).wf = true) (w : World) (h : Arg w v l) :
    Calls Try.prog 9 #[v, .int .i64 n] w fun e w' => e = .returned (.bool true) ∧ Below w.heap.size w w' := by
  obtain ⟨hA, hlm, hwd⟩ := h
  obtain ⟨hn0, hn1⟩ := bounds_i64 wn
  have HA := Lib.hid hA
  have HLG := Lib.hid (fun W (hW : FAt W v l) => large_any l hlm hwd v W hW)
  obtain ⟨va, vc, hv⟩ := hA.slice
  generalize hLL : l.length = LL at hv
  clear hLL
  subst hv
  clear hA
  by_cases hb : 10000 ≤ lng l 0
  · have hd : decide (10000 ≤ lng l 0) = true := decide_eq_true hb
    clear hb
    rw [hd] at HLG
    clear hd hwd hlm
    go_enter Try.func9, Try.ntmps9
    go_wp2_with fail
    refine (HLG.out _ HA.out).mono ?_
    rintro e w1 ⟨rfl, rfl⟩
    go_wp2_with fail
    refine (awake_any _).mono ?_
    rintro e w1 ⟨rfl, hb1⟩
    have HB1 := Lib.hid hb1
    clear hb1
    go_wp2
    go_ret
    exact ⟨rfl, HB1.out⟩
  · have hd : decide (10000 ≤ lng l 0) = false := decide_eq_false hb
    rw [hd] at HLG
    have F := fit_of hwd (by omega)
    clear hd hwd hlm hb
    obtain ⟨gs, R, E, H1⟩ := fst_of F
    have HMD := Lib.hid H1.md
    have HWR := Lib.hid H1.wr
    have HWH := Lib.hid H1.wh
    have hgl := H1.gl
    have hle := H1.le
    have hall := H1.all
    have heq := H1.eq
    clear H1 F
    by_cases h0 : E = 0
    · subst h0
      have CU := cuts_of gs (hall rfl) R heq hle
      have hok := hall rfl
      clear hall heq
      generalize gs.map fdg = fds at CU
      obtain ⟨S, hS⟩ : ∃ S, S = pre fds := ⟨_, rfl⟩
      rw [← hS] at CU
      clear hS
      obtain ⟨k, hT, hkR⟩ : ∃ k : Nat, (IntKind.u64.wrap n).tmod ((R.length : Int) + 1) = (k : Int) ∧ k ≤ R.length := by
        have hN0 : 0 ≤ IntKind.u64.wrap n := by rw [IntKind.wrap_u64]; omega
        have h1 := Int.emod_nonneg (IntKind.u64.wrap n) (b := (R.length : Int) + 1) (by omega)
        have h2 := Int.emod_lt_of_pos (IntKind.u64.wrap n) (b := (R.length : Int) + 1) (by omega)
        rw [Int.tmod_eq_emod_of_nonneg hN0]
        exact ⟨((IntKind.u64.wrap n) % ((R.length : Int) + 1)).toNat, by omega, by omega⟩
      have HSM := Lib.hid (fun i (hi : i ≤ gs.length) V U W h1 h2 => by
        have hsub : ∀ g ∈ gs.take i, g.may = true ∧ g.ok := fun g hg => hok g (List.mem_of_mem_take hg)
        have h := psame_any (gs.take i) (gs.take i) (by rw [List.length_take]; omega) (by rw [List.length_take]; omega) (fun g hg => (hsub g hg).2.v) V U W h1 h2
        rw [sml_refl _ (fun g hg => (hsub g hg).1)] at h
        exact h)
      have HSZ := Lib.hid (fun i (hi : i < gs.length) W => size_any gs[i] (hok _ (List.getElem_mem hi)).2 W)
      have HCU := Lib.hid CU
      have hbz : (bs R).size = R.length := rfl
      have hext : (bs R).extract 0 k = bs (R.take k) := extract_take R k
      have hRS : R.length ≤ 10000 := hle
      clear CU hok hle
      go_enter Try.func9, Try.ntmps9
      go_wp2_with fail
      refine (HLG.out _ HA.out).mono ?_
      rintro e w0 ⟨rfl, rfl⟩
      go_wp2_with fail
      refine (awake_any _).mono ?_
      rintro e w1 ⟨rfl, hb1⟩
      have HB1 := Lib.hid hb1
      have HA1 := Lib.hid (HA.out.below hb1 (Nat.le_refl _))
      clear hb1
      go_wp2_with fail
      refine (HMD.out _ _ HA1.out).mono ?_
      rintro e w2 ⟨v2, rfl, ho2, hb2⟩
      have HB2 := Lib.hid (below_trans' HB1.out hb2)
      have HO2 := Lib.hid ho2
      obtain ⟨a2, c2, hv2⟩ := ho2.shape
      clear hb2 ho2
      generalize hGG : gs.length = GG at hv2
      have HGG := Lib.hid hGG
      have hGG5 : GG ≤ 500 := by omega
      clear hGG
      subst hv2
      go_wp2_with fail
      refine (HWR.out _ _ HO2.out.at).mono ?_
      rintro e w3 ⟨rfl, hb3⟩
      have HB3 := Lib.hid (below_trans' HB2.out hb3)
      have HO3 := Lib.hid (HO2.out.below hb3 (Nat.le_refl _))
      clear hb3
      dsimp only
      rw [show ((0 : Nat) : Int) = 0 from rfl]
      go_wp2_with fail
      by_cases hex : ∃ i, i ≤ gs.length ∧ S i = k
      · obtain ⟨i1, hi1, hi2⟩ := hex
        obtain ⟨i0, h1, h2, h3⟩ := least (p := fun i => S i = k) i1 hi2
        have hi0 : i0 ≤ gs.length := by omega
        have HNE := Lib.hid h3
        have HEQ := Lib.hid h2
        have HRD := Lib.hid (HCU.out.at' i0 hi0 k h2)
        have HSM1 := Lib.hid (HSM.out i0 hi0)
        have hmin : min i0 gs.length = i0 := by omega
        clear hi1 hi2 h1 h2 h3
        refine (HRD.out _).mono ?_
        rintro e w4 ⟨v4, rfl, ho4, hb4⟩
        have HB4 := Lib.hid (below_trans' HB3.out hb4)
        have HO4 := Lib.hid (HO3.out.below hb4 (Nat.le_refl _))
        have HM4 := Lib.hid ho4.at
        have HOS := Lib.hid (og_slice HO4.out)
        clear hb4 ho4
        dsimp only
        have hiG : i0 ≤ GG := by have := HGG.out; omega
        go_wp2
        go_loopw [9, 12] (fun x y wr => ∃ i : Nat, y = .int .i64 (i : Int) ∧ x = .int .i64 ((S i : Nat) : Int) ∧ i ≤ i0 ∧ Hid (GAt wr v4 (gs.take i0)) ∧ Hid (Og wr w1.heap.size (.slice a2 GG c2) gs) ∧ Hid (Below w.heap.size w wr)) (fun _ y _ => i0 - (intOf y).toNat)
        case atStart => exact ⟨0, rfl, by rw [HCU.out.s0]; rfl, by omega, HM4, HO4, HB4⟩
        case round =>
          obtain ⟨i, rfl, rfl, hi, HM, HO, HB⟩ := hrel
          by_cases hlt : i < i0
          · have hne : ((((S i : Nat) : Int)) == (k : Int)) = false := by
              rw [beq_eq_false_iff_ne]
              have := HNE.out i hlt
              omega
            have hSi : ((S i : Nat) : Int) ≤ 10000 := by have := HCU.out.le i (by omega); omega
            have hkg : i < gs.length := by have := HGG.out; omega
            rcases HO.out.at with ⟨h0, _⟩ | ⟨g, o, c, hg, hcs⟩
            · rw [h0] at hkg; simp at hkg
            obtain ⟨q0, q1⟩ := hcs i hkg
            clear hcs
            have HSI := Lib.hid (HSZ.out i hkg)
            have HSS : Hid ((S i : Int) + (gs[i].size : Int) = ((S (i + 1) : Nat) : Int)) := Lib.hid (by have := HCU.out.ss i hkg; omega)
            have hsle : ((S (i + 1) : Nat) : Int) ≤ 10000 := by have := HCU.out.le (i + 1) (by omega); omega
            unfold gv at HSI
            generalize gs[i] = f at *
            have hss := HSS.out
            have hsz0 : 0 ≤ (f.size : Int) := by omega
            generalize ((f.size : Nat) : Int) = Z at *
            generalize f.n = n1 at *
            generalize f.v.v = V at *
            cases hg
            go_wp2_with fail
            refine (HSI.out _).mono ?_
            rintro e w5 ⟨rfl, hb5⟩
            have HB5 := Lib.hid (below_trans' HB.out hb5)
            have HO5 := Lib.hid (HO.out.below hb5 (Nat.le_refl _))
            have HM5 := Lib.hid (HM.out.below hb5 (Nat.le_refl _))
            clear hb5
            go_wp2
            go_roundw
            case rel => exact ⟨i + 1, by go_num, by go_num, by omega, HM5, HO5, HB5⟩
            case measure => simp [intOf]; omega
          · obtain rfl : i = i0 := by omega
            have hkeq : ((((S i : Nat) : Int)) == (k : Int)) = true := by
              rw [beq_iff_eq]
              have := HEQ.out
              omega
            have HT := Lib.hid (gat_take HO.out.at i c2 hi0)
            rcases og_slice HO.out with ⟨he, hnil⟩ | ⟨g, c, he, hlc, hcm⟩
            · cases he
              obtain rfl : i = 0 := by rw [hnil] at hi0; simpa using hi0
              go_wp2_with fail
              refine (HSM1.out _ _ _ HM.out HT.out).mono ?_
              rintro e w5 ⟨rfl, hb5⟩
              have HB5 := Lib.hid (below_trans' HB.out hb5)
              clear hb5
              go_wp2
              go_ret
              exact ⟨rfl, HB5.out⟩
            · cases he
              have hic : i ≤ c2 := by omega
              have hcm2 : c2 ≤ 9223372036854775807 := by unfold maxLen at hcm; omega
              clear hlc hcm
              go_wp2_with fail
              refine (HSM1.out _ _ _ HM.out HT.out).mono ?_
              rintro e w5 ⟨rfl, hb5⟩
              have HB5 := Lib.hid (below_trans' HB.out hb5)
              clear hb5
              go_wp2
              go_ret
              exact ⟨rfl, HB5.out⟩
      · have hno : ∀ i, i ≤ gs.length → S i ≠ k := fun i hi he => hex ⟨i, hi, he⟩
        have HNE := Lib.hid hno
        have HRD := Lib.hid (HCU.out.no k hkR hno)
        clear hex hno
        refine (HRD.out _).mono ?_
        rintro e w4 ⟨v4, rfl, ho4, hb4⟩
        have HB4 := Lib.hid (below_trans' HB3.out hb4)
        have HO4 := Lib.hid (HO3.out.below hb4 (Nat.le_refl _))
        obtain ⟨a4, c4, hv4⟩ := ho4.shape
        rw [List.length_nil] at hv4
        subst hv4
        clear hb4 ho4
        dsimp only
        rw [show ((8 : Nat) : Int) = 8 from rfl]
        go_wp2
        go_loopw [9, 12] (fun x y wr => ∃ i : Nat, y = .int .i64 (i : Int) ∧ x = .int .i64 ((S (min i GG) : Nat) : Int) ∧ i ≤ GG + 1 ∧ Hid (Og wr w1.heap.size (.slice a2 GG c2) gs) ∧ Hid (Below w.heap.size w wr)) (fun _ y _ => GG + 1 - (intOf y).toNat)
        case atStart => exact ⟨0, rfl, by rw [Nat.zero_min, HCU.out.s0]; rfl, by omega, HO4, HB4⟩
        case round =>
          obtain ⟨i, rfl, rfl, hi, HO, HB⟩ := hrel
          by_cases hlt : i < GG
          · have hm1 : min i GG = i := by omega
            have hm2 : min (i + 1) GG = i + 1 := by omega
            rw [hm1]
            have HM2 := Lib.hid hm2
            clear hm1 hm2
            have hne : ((((S i : Nat) : Int)) == (k : Int)) = false := by
              rw [beq_eq_false_iff_ne]
              have := HNE.out i (by have := HGG.out; omega)
              omega
            have hSi : ((S i : Nat) : Int) ≤ 10000 := by have := HCU.out.le i (by have := HGG.out; omega); omega
            have hkg : i < gs.length := by have := HGG.out; omega
            rcases HO.out.at with ⟨h0, _⟩ | ⟨g, o, c, hg, hcs⟩
            · rw [h0] at hkg; simp at hkg
            obtain ⟨q0, q1⟩ := hcs i hkg
            clear hcs
            have HSI := Lib.hid (HSZ.out i hkg)
            have HSS : Hid ((S i : Int) + (gs[i].size : Int) = ((S (i + 1) : Nat) : Int)) := Lib.hid (by have := HCU.out.ss i hkg; omega)
            have hsle : ((S (i + 1) : Nat) : Int) ≤ 10000 := by have := HCU.out.le (i + 1) (by omega); omega
            unfold gv at HSI
            generalize gs[i] = f at *
            have hss := HSS.out
            have hsz0 : 0 ≤ (f.size : Int) := by omega
            generalize ((f.size : Nat) : Int) = Z at *
            generalize f.n = n1 at *
            generalize f.v.v = V at *
            cases hg
            go_wp2_with fail
            refine (HSI.out _).mono ?_
            rintro e w5 ⟨rfl, hb5⟩
            have HB5 := Lib.hid (below_trans' HB.out hb5)
            have HO5 := Lib.hid (HO.out.below hb5 (Nat.le_refl _))
            clear hb5
            go_wp2
            go_roundw
            case rel => exact ⟨i + 1, by go_num, by rw [HM2.out], by omega, HO5, HB5⟩
            case measure => simp [intOf]; omega
          · have hm1 : min i GG = GG := by omega
            rw [hm1]
            clear hm1
            have HTT : Hid (((S GG : Nat) : Int) = (R.length : Int)) := Lib.hid (by have := HCU.out.tot; rw [HGG.out] at this; omega)
            by_cases hlt2 : i = GG
            · subst hlt2
              have hm2 : min (i + 1) i = i := by omega
              have HM2 := Lib.hid hm2
              clear hm2
              have hne : ((((S i : Nat) : Int)) == (k : Int)) = false := by
                rw [beq_eq_false_iff_ne]
                have := HNE.out i (by have := HGG.out; omega)
                omega
              go_wp2
              go_roundw
              case rel => exact ⟨i + 1, by go_num, by rw [HM2.out], by omega, HO, HB⟩
              case measure => simp [intOf]
            · obtain rfl : i = GG + 1 := by omega
              have heq : ((((S GG : Nat) : Int)) == (R.length : Int)) = true := by rw [beq_iff_eq]; exact HTT.out
              go_wp2
              go_ret
              exact ⟨rfl, HB.out⟩
    · have hd0 : decide (E = 0) = false := decide_eq_false h0
      rw [hd0] at HWH
      have he0 : ((E : Int) != 0) = true := by rw [bne_iff_ne]; omega
      clear hd0 h0 hall heq
      go_enter Try.func9, Try.ntmps9
      go_wp2_with fail
      refine (HLG.out _ HA.out).mono ?_
      rintro e w0 ⟨rfl, rfl⟩
      go_wp2_with fail
      refine (awake_any _).mono ?_
      rintro e w1 ⟨rfl, hb1⟩
      have HB1 := Lib.hid hb1
      have HA1 := Lib.hid (HA.out.below hb1 (Nat.le_refl _))
      clear hb1
      go_wp2_with fail
      refine (HMD.out _ _ HA1.out).mono ?_
      rintro e w2 ⟨v2, rfl, ho2, hb2⟩
      have HB2 := Lib.hid (below_trans' HB1.out hb2)
      have HA2 := Lib.hid (HA1.out.below hb2 (Nat.le_refl _))
      have HO2 := Lib.hid ho2.at
      clear hb2 ho2
      go_wp2_with fail
      refine (HWR.out _ _ HO2.out).mono ?_
      rintro e w3 ⟨rfl, hb3⟩
      have HB3 := Lib.hid (below_trans' HB2.out hb3)
      have HA3 := Lib.hid (HA2.out.below hb3 (Nat.le_refl _))
      clear hb3
      dsimp only
      go_wp2_with fail
      refine (HWH.out _ _ HA3.out).mono ?_
      rintro e w4 ⟨rfl, hb4⟩
      have HB4 := Lib.hid (below_trans' HB3.out hb4)
      clear hb4
      go_wp2
      go_ret
      exact ⟨rfl, HB4.out⟩
theorem own : ownKnob Try.prog.godebug = none := by kernel_rfl
theorem laidOut : laidOutB Try.prog = true := by kernel_rfl
set_option maxRecDepth 100000 in
theorem lifted (os : Os) (started : os.Started) (H : Type) (enc : TypeId × Value → H) :
    ReturnsInHanded {} Try.checked os 9 .any (Rows.protoCutSpec.pre6 enc Try.prog Try.f9 Rows.protoCutRow.domain false) (Rows.protoCutSpec.post enc Try.prog Try.f9 false true false false) := by
  refine returnsInHanded_of_change (C := Try.checked) own started (by kernel_rfl) Try.func9
    (ChangeSpec.witness6 (enc := enc) (C := Try.checked) false ⟨#[], #[.slice none 0 0, .int .i64 0], []⟩ 8 (by kernel_rfl) (by kernel_rfl) (by kernel_rfl) (by kernel_rfl)) ?_
  intro W base args ds gs before hval0 hW hcnd _
  have hval : ∀ (j : Nat) t v, Try.f9.params[j]? = some t → args[j]? = some v → Value.okWide Try.prog W .any base t v := hval0
  have hW' := hW
  obtain ⟨p, q, hA0, hV, rfl, hfz, hnd⟩ := hW
  have hA : DataW.TrodAll enc Try.prog W 0 (fun _ => true) true Try.f9.params.toList args.toList ds p := hA0
  rw [Try.params9] at hA hval
  obtain ⟨v0, vs0, d0, ds0, p0, q0, hargs, rfl, rfl, h0, r0⟩ := trodAll_cons hA
  obtain ⟨v1, vs1, d1, ds1, p1, q1, rfl, rfl, rfl, h1, r1⟩ := trodAll_cons r0
  obtain ⟨rfl, rfl, rfl⟩ := trodAll_nil r1
  obtain rfl : args = #[v0, v1] := by cases args; simp_all
  obtain ⟨rfl, rfl⟩ := trodVars_none hV
  have k0 := h0
  have lt0 : ∀ x ∈ p0, x.block < W.heap.size := by obtain ⟨m, hm⟩ := k0; exact DataW.trod_lt m _ _ _ hm
  have k1 := h1
  have lt1 : ∀ x ∈ p1, x.block < W.heap.size := by obtain ⟨m, hm⟩ := k1; exact DataW.trod_lt m _ _ _ hm
  obtain ⟨a0, w0⟩ := open_fields (hval 0 23 v0 rfl rfl) h0
  obtain ⟨a1, rfl, rfl, rfl, w1⟩ := open_int Try.underlying3 (hval 1 3 v1 rfl rfl) h1
  clear hA0 hval0
  refine (core v0 a0 a1 w1 W w0).mono fun e W' ⟨he, bel⟩ => ?_
  subst he
  exact ⟨_, rfl, _, _, _, [], _, [], hW', trodAll_mk1 (shut_bool Try.underlying4 _), (trodAll_cons_mk (Below.trod laidOut (by kernel_rfl) (of_decide_eq_true (by kernel_rfl)) k0 bel lt0) (trodAll_cons_mk (Below.trod laidOut (by kernel_rfl) (of_decide_eq_true (by kernel_rfl)) k1 bel lt1) trodAll_mk0)), rfl, bel.frame _, fun h => by cases h⟩
theorem over : Rows.protoCutRow.holds Try.pinned (OpenSpec.ofChange Rows.protoCutSpec) :=
  OpenClaim.holds_of_wide 9 Try.f9 rfl rfl rfl rfl rfl rfl rfl ⟨rfl, rfl, rfl, rfl, rfl⟩ rfl rfl rfl rfl rfl (by kernel_rfl) Try.func9 (by kernel_rfl)
    (of_decide_eq_true (by kernel_rfl)) (by unfold Func.isWrapper; first | (rw [if_pos (by decide +kernel)]; kernel_rfl) | (rw [if_neg (by decide +kernel)]; exact ⟨rfl, rfl⟩))
    (fun os started H enc _ => lifted os started H enc)
theorem proved : Rows.ProtoCutSaid := over
end Go.Proofs.Ytbckkfoenembmaa.protoCut
