/- The contract of texts. -/
import Derived.Test.YtbckkfoenembmaaLp
namespace Go.Proofs.Ytbckkfoenembmaa
open Go.RowKit
/-- What a last answer is. -/
inductive Lc3 (T : List Ff) (K : Nat) (X : ByteArray) (B : Bool) (D : Nat) : Prop
  | err (h0 : K ≠ 0) (h1 : X = ⟨#[]⟩) (h2 : B = false) (h3 : D = K)
  | nil (h0 : K = 0) (h1 : T = []) (h2 : X = ⟨#[]⟩) (h3 : B = false) (h4 : D = 0)
  | some (T0 : List Ff) (f : Ff) (h0 : K = 0) (h1 : T = T0 ++ [f]) (h2 : X = f.t) (h3 : B = true) (h4 : D = 0)
theorem lc3_of (T : List Ff) (K : Nat) : Lc3 T K (lst (⟨#[]⟩ : ByteArray) (T.map (fun f : Ff => f.t), K)).1 (lst (⟨#[]⟩ : ByteArray) (T.map (fun f : Ff => f.t), K)).2.1 (lst (⟨#[]⟩ : ByteArray) (T.map (fun f : Ff => f.t), K)).2.2 := by
  by_cases hK : K = 0
  · subst hK
    rcases List.eq_nil_or_concat T with rfl | ⟨T0, f, rfl⟩
    · exact .nil rfl rfl rfl rfl rfl
    · rw [List.concat_eq_append]
      have h : lst (⟨#[]⟩ : ByteArray) ((T0 ++ [f]).map (fun f : Ff => f.t), 0) = ((f.t, true, 0) : ByteArray × Bool × Nat) := by
        unfold lst
        rw [if_pos rfl]
        dsimp only
        rw [List.map_append, List.getLast?_append]
        rfl
      rw [h]
      exact .some T0 f rfl rfl rfl rfl rfl
  · have h : lst (⟨#[]⟩ : ByteArray) (T.map (fun f : Ff => f.t), K) = ((⟨#[]⟩, false, K) : ByteArray × Bool × Nat) := by
      unfold lst
      rw [if_neg hK]
    rw [h]
    exact .err hK rfl rfl rfl
set_option maxRecDepth 100000 in
set_option maxHeartbeats 1000000 in
theorem texts_core (gs : List Gf) (fs T : List Ff) (K D : Nat) (X : ByteArray) (B : Bool) (num : Int) (hT : T.length ≤ 1000000) (hc : Lc3 T K X B D)
    (h1 : ∀ V W, GAt W V gs → Calls Try.prog 48 #[V, .int .i64 num] W (TellsA W 80 (T.map fun f : Ff => (.string f.t : Value)) K))
    (h2 : ∀ V W, FAt W V fs → Calls Try.prog 29 #[V, .int .i64 num, .int .u8 2] W (TellsFf W (T, K)))
    (h3 : ∀ V W, GAt W V gs → Calls Try.prog 49 #[V, .int .i64 num] W (Ret W (.tuple #[.string X, .bool B, .int .i64 (D : Int)])))
    (v u : Value) (w : World) (hv : GAt w v gs) (hu : FAt w u fs) :
    Calls Try.prog 35 #[v, u, .int .i64 num] w (fun e w' => e = .returned (.bool true) ∧ Below w.heap.size w w') := by
  have HC := Lib.hid hc
  have H1 := Lib.hid h1
  have H2 := Lib.hid h2
  have H3 := Lib.hid h3
  have HV := Lib.hid hv
  have HU := Lib.hid hu
  obtain ⟨va, vc, hv2⟩ := hv.slice
  obtain ⟨ua, uc, hu2⟩ := hu.slice
  generalize gs.length = LG at hv2
  generalize fs.length = LF at hu2
  subst hv2
  subst hu2
  clear hc h1 h2 h3 hv hu
  go_enter Try.func35, Try.ntmps35
  go_wp2_with fail
  refine (H1.out _ _ HV.out).mono ?_
  rintro e w1 ⟨v1, rfl, ho1, hb1⟩
  have HB1 := Lib.hid hb1
  have HU1 := Lib.hid (HU.out.below hb1 (Nat.le_refl _))
  have HV1 := Lib.hid (HV.out.below hb1 (Nat.le_refl _))
  have HA1 := Lib.hid (vat_of ho1)
  clear ho1 hb1
  go_wp2_with fail
  refine (H2.out _ _ HU1.out).mono ?_
  rintro e w2 ⟨v2, rfl, ho2, hb2⟩
  have HB2 := Lib.hid (below_trans' HB1.out hb2)
  have HV2 := Lib.hid (HV1.out.below hb2 (Nat.le_refl _))
  have HA2 := Lib.hid (HA1.out.below hb2 (Nat.le_refl _))
  have HF2 := Lib.hid ho2.at
  clear ho2 hb2
  obtain ⟨a1, c1, hv1⟩ := HA2.out.slice
  obtain ⟨a2, c2, hv2⟩ := HF2.out.slice
  rw [List.length_map] at hv1
  generalize hN : T.length = N at *
  have HN := Lib.hid hN
  clear hN
  subst hv1
  subst hv2
  have hKK : ((K : Int) != (K : Int)) = false := by simp
  have hNN : ((N : Int) != (N : Int)) = false := by simp
  have hNN2 : (N != N) = false := by simp
  go_wp2
  go_loopw [11] (fun i wr => ∃ k : Nat, i = .int .i64 (k : Int) ∧ k ≤ N ∧ Hid (Below w2.heap.size w2 wr)) (fun i _ => N - (intOf i).toNat)
  case atStart => exact ⟨0, rfl, by omega, Lib.hid (Below.refl _ _)⟩
  case round =>
    obtain ⟨k, rfl, hk, HB⟩ := hrel
    by_cases hlt : k < N
    · have hkl : k < T.length := by have := HN.out; omega
      rcases (HA2.out.below HB.out (Nat.le_refl _)) with ⟨h0, _⟩ | ⟨g, o, c, hg, hcs⟩
      · have := congrArg List.length h0; rw [List.length_map, List.length_nil] at this; omega
      rcases (HF2.out.below HB.out (Nat.le_refl _)) with ⟨h0, _⟩ | ⟨g2, o2, c2, hg2, hcs2⟩
      · have := HN.out; rw [h0] at this; simp at this; omega
      have q0 := hcs k (by rw [List.length_map]; exact hkl)
      obtain ⟨-, -, -, r3⟩ := hcs2 k hkl
      rw [List.getElem_map] at q0
      clear hcs hcs2
      generalize T[k].t = x at *
      rw [List.length_map, HN.out] at hg
      rw [HN.out] at hg2
      cases hg
      cases hg2
      have hxx : (x.toList != x.toList) = false := by simp
      go_wp2
      go_big_quiet (fail)
      go_wp2
      go_roundw
      case rel => exact ⟨k + 1, by go_num, by omega, Lib.hid (below_drewN HB.out _)⟩
      case measure => simp [intOf]; omega
    · obtain rfl : k = N := by omega
      have HVr := Lib.hid (HV2.out.below HB.out (Nat.le_refl _))
      have HFr := Lib.hid (HF2.out.below HB.out (Nat.le_refl _))
      have HBr := Lib.hid (below_trans' HB2.out HB.out)
      go_wp2_with fail
      refine (H3.out _ _ HVr.out).mono ?_
      rintro e w3 ⟨rfl, hb3⟩
      have HB3 := Lib.hid (below_trans' HBr.out hb3)
      have HF3 := Lib.hid (HFr.out.below hb3 (Nat.le_refl _))
      clear hb3
      rcases HC.out with ⟨h0, rfl, rfl, rfl⟩ | ⟨h0, h1, rfl, rfl, rfl⟩ | ⟨T0, f, h0, h1, rfl, rfl, rfl⟩
      · have hK0 : ((D : Int) != 0) = true := by rw [bne_iff_ne]; omega
        have hDD : ((D : Int) == (D : Int)) = true := by simp
        clear hKK hNN hNN2 h0
        go_wp2
        go_ret
        exact ⟨rfl, HB3.out⟩
      · subst h0
        subst h1
        obtain rfl : k = 0 := HN.out.symm
        rw [show ((0 : Nat) : Int) = 0 from rfl] at *
        clear hKK hNN hNN2
        go_wp2
        go_ret
        exact ⟨rfl, HB3.out⟩
      · subst h0
        subst h1
        rcases HF3.out with ⟨h0, _⟩ | ⟨g2, o2, c2, hg2, hcs2⟩
        · simp at h0
        obtain ⟨-, -, -, r3⟩ := hcs2 T0.length (by simp)
        clear hcs2
        have hr : (T0 ++ [f])[T0.length]'(by simp) = f := by simp
        rw [hr] at r3
        clear hr
        have hNl : k = T0.length + 1 := by have := HN.out; rw [List.length_append, List.length_singleton] at this; omega
        generalize T0.length = J at *
        generalize f.t = x at *
        rw [HN.out] at hg2
        cases hg2
        have hk0 : ((k : Int) == 0) = false := by rw [beq_eq_false_iff_ne]; omega
        have hJ : ((k : Nat) : Int) - 1 = (J : Int) := by omega
        have hJ1 : J < k := by omega
        have hxx : (x.toList == x.toList) = true := by simp
        rw [show ((0 : Nat) : Int) = 0 from rfl] at *
        clear hKK hNN hNN2 hNl
        go_wp2
        go_ret
        exact ⟨rfl, HB3.out⟩
theorem texts_any (gs : List Gf) (hl : gs.length ≤ 1000000) (num : Int) (v u : Value) (w : World) (hv : GAt w v gs) (hu : FAt w u (gs.map plain1)) :
    Calls Try.prog 35 #[v, u, .int .i64 num] w (fun e w' => e = .returned (.bool true) ∧ Below w.heap.size w w') := by
  obtain ⟨T, K, hTK⟩ : ∃ T K, rall num 2 (gs.map plain1) [] = (T, K) := ⟨_, _, rfl⟩
  have hlen := rall_len num 2 (gs.map plain1) []
  have hrel := rel_T num gs
  rw [hTK] at hlen hrel
  dsimp only at hlen hrel
  rw [List.length_map, List.length_nil] at hlen
  refine texts_core gs (gs.map plain1) T K _ _ _ num (by omega) (lc3_of T K) (fun V W hV => ?_) (fun V W hV => ?_) (fun V W hV => ?_) v u w hv hu
  · have h := all_asT gs hl num V W hV
    rw [hrel] at h
    dsimp only at h
    rw [List.map_map] at h
    exact h
  · have h := rall_any (gs.map plain1) (by rw [List.length_map]; exact hl) num 2 V W hV
    rw [hTK] at h
    exact h
  · have h := last_asT gs hl num V W hV
    rw [hrel] at h
    exact h
end Go.Proofs.Ytbckkfoenembmaa
