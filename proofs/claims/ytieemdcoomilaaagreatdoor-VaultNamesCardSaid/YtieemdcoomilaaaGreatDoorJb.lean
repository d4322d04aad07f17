/- The document's May. -/
import Derived.Test.YtieemdcoomilaaaGreatDoorWr
import Derived.Lib.QuietBelow
set_option linter.unusedVariables false
set_option linter.unusedSimpArgs false
namespace Go.Proofs.YtieemdcoomilaaaGreatDoor
open Go Go.RowKit BigFrame
set_option maxRecDepth 100000
set_option maxHeartbeats 400000 in
theorem rmay_1 (g b s : Int) (l : List Int) (a : Option Addr) (c : Nat) (w : World) (hl : l.length ≤ 9223372036854775807) (h1 : g < 1) : Calls Tryz.prog 104 #[hval ⟨g, b, s, l⟩ (.slice a l.length c)] w (Ret w (.bool false)) := by
  unfold hval
  dsimp only
  go_enter Tryz.func104, Tryz.ntmps104
  go_wp2
  go_ret
  exact ⟨rfl, below_one _ _⟩
set_option maxHeartbeats 400000 in
theorem rmay_2 (g b s : Int) (l : List Int) (a : Option Addr) (c : Nat) (w : World) (hl : l.length ≤ 9223372036854775807) (h1 : 1 ≤ g) (h2 : 1099511627776 < g) : Calls Tryz.prog 104 #[hval ⟨g, b, s, l⟩ (.slice a l.length c)] w (Ret w (.bool false)) := by
  unfold hval
  dsimp only
  go_enter Tryz.func104, Tryz.ntmps104
  go_wp2
  go_ret
  exact ⟨rfl, below_one _ _⟩
set_option maxHeartbeats 400000 in
theorem rmay_3 (g b s : Int) (l : List Int) (a : Option Addr) (c : Nat) (w : World) (hl : l.length ≤ 9223372036854775807) (h1 : 1 ≤ g) (h2 : g ≤ 1099511627776) (h3 : b < 0) : Calls Tryz.prog 104 #[hval ⟨g, b, s, l⟩ (.slice a l.length c)] w (Ret w (.bool false)) := by
  unfold hval
  dsimp only
  go_enter Tryz.func104, Tryz.ntmps104
  go_wp2
  go_ret
  exact ⟨rfl, below_one _ _⟩
set_option maxHeartbeats 400000 in
theorem rmay_4 (g b s : Int) (l : List Int) (a : Option Addr) (c : Nat) (w : World) (hl : l.length ≤ 9223372036854775807) (h1 : 1 ≤ g) (h2 : g ≤ 1099511627776) (h3 : 0 ≤ b) (h4 : 1099511627776 < b) : Calls Tryz.prog 104 #[hval ⟨g, b, s, l⟩ (.slice a l.length c)] w (Ret w (.bool false)) := by
  unfold hval
  dsimp only
  go_enter Tryz.func104, Tryz.ntmps104
  go_wp2
  go_ret
  exact ⟨rfl, below_one _ _⟩
set_option maxHeartbeats 400000 in
theorem rmay_5 (g b s : Int) (l : List Int) (a : Option Addr) (c : Nat) (w : World) (hl : l.length ≤ 9223372036854775807) (h1 : 1 ≤ g) (h2 : g ≤ 1099511627776) (h3 : 0 ≤ b) (h4 : b ≤ 1099511627776) (h5 : s < 2) (h6 : s ≠ 0) : Calls Tryz.prog 104 #[hval ⟨g, b, s, l⟩ (.slice a l.length c)] w (Ret w (.bool false)) := by
  unfold hval
  dsimp only
  have e0 : (s != 0) = true := by rw [bne_iff_ne]; exact h6
  have e1 : (s == 0) = false := by rw [beq_eq_false_iff_ne]; exact h6
  clear h6
  go_enter Tryz.func104, Tryz.ntmps104
  go_wp2
  go_ret
  exact ⟨rfl, below_one _ _⟩
set_option maxHeartbeats 400000 in
theorem rmay_6 (g b s : Int) (l : List Int) (a : Option Addr) (c : Nat) (w : World) (hl : l.length ≤ 9223372036854775807) (h1 : 1 ≤ g) (h2 : g ≤ 1099511627776) (h3 : 0 ≤ b) (h4 : b ≤ 1099511627776) (h5 : 31 < s) : Calls Tryz.prog 104 #[hval ⟨g, b, s, l⟩ (.slice a l.length c)] w (Ret w (.bool false)) := by
  unfold hval
  dsimp only
  have e0 : (s != 0) = true := by rw [bne_iff_ne]; omega
  have h6 : 2 ≤ s := by omega
  go_enter Tryz.func104, Tryz.ntmps104
  go_wp2
  go_ret
  exact ⟨rfl, below_one _ _⟩
set_option maxHeartbeats 400000 in
theorem rmay_7 (g b s : Int) (l : List Int) (a : Option Addr) (c : Nat) (w : World) (hl : l.length ≤ 9223372036854775807) (h1 : 1 ≤ g) (h2 : g ≤ 1099511627776) (h3 : 0 ≤ b) (h4 : b ≤ 1099511627776) (h0 : s = 0) (h5 : b ≠ 0) : Calls Tryz.prog 104 #[hval ⟨g, b, s, l⟩ (.slice a l.length c)] w (Ret w (.bool false)) := by
  unfold hval
  dsimp only
  subst h0
  have e0 : (b != 0) = true := by rw [bne_iff_ne]; exact h5
  go_enter Tryz.func104, Tryz.ntmps104
  go_wp2
  go_ret
  exact ⟨rfl, below_one _ _⟩
set_option maxHeartbeats 400000 in
theorem rmay_8 (g b s : Int) (l : List Int) (a : Option Addr) (c : Nat) (w : World) (hl : l.length ≤ 9223372036854775807) (h1 : 1 ≤ g) (h2 : g ≤ 1099511627776) (h3 : 0 ≤ b) (h4 : b ≤ 1099511627776) (h0 : s = 0) (h5 : b = 0) (h6 : l.length = 0) : Calls Tryz.prog 104 #[hval ⟨g, b, s, l⟩ (.slice a l.length c)] w (Ret w (.bool false)) := by
  unfold hval
  dsimp only
  subst h0 h5
  have hll : (l.length : Int) < 1 := by omega
  clear h6
  go_enter Tryz.func104, Tryz.ntmps104
  go_wp2
  go_ret
  exact ⟨rfl, below_one _ _⟩
set_option maxHeartbeats 400000 in
theorem rmay_9 (g b s : Int) (l : List Int) (a : Option Addr) (c : Nat) (w : World) (hl : l.length ≤ 9223372036854775807) (h1 : 1 ≤ g) (h2 : g ≤ 1099511627776) (h3 : 0 ≤ b) (h4 : b ≤ 1099511627776) (h0 : 2 ≤ s) (h5 : s ≤ 31) (h6 : l.length = 0) : Calls Tryz.prog 104 #[hval ⟨g, b, s, l⟩ (.slice a l.length c)] w (Ret w (.bool false)) := by
  unfold hval
  dsimp only
  have e0 : (s != 0) = true := by rw [bne_iff_ne]; omega
  have e1 : (s == 0) = false := by rw [beq_eq_false_iff_ne]; omega
  have hll : (l.length : Int) < 1 := by omega
  clear h6
  go_enter Tryz.func104, Tryz.ntmps104
  go_wp2
  go_ret
  exact ⟨rfl, below_one _ _⟩
set_option maxHeartbeats 1000000 in
theorem rmay_in (g b s : Int) (l : List Int) (v : Value) (w : World) (hk : KAt w v l) (hl : l.length ≤ 9223372036854775807) (h1 : 1 ≤ g) (h2 : g ≤ 1099511627776) (h3 : 0 ≤ b) (h4 : b ≤ 1099511627776) (h5 : l ≠ []) (hs : s = 0 ∧ b = 0 ∨ 2 ≤ s ∧ s ≤ 31) :
    Calls Tryz.prog 104 #[hval ⟨g, b, s, l⟩ v] w (Ret w (.bool (dis (Rf9.sn s) l))) := by
  obtain ⟨G, o, c, rfl, hc⟩ := hk.pos h5
  obtain ⟨L, hL⟩ : ∃ L, L = l.length := ⟨_, rfl⟩
  have HL := Lib.hid hL
  have hLp : 1 ≤ L := by rw [hL]; have := List.length_pos_iff.2 h5; omega
  have HK := Lib.hid hk
  have HS : Hid (s = 0 ∨ 2 ≤ s) := Lib.hid (by omega)
  have hl1 : ¬ ((L : Int) < 1) := by omega
  rw [← hL] at hl hc HK ⊢
  unfold hval
  dsimp only
  have X0 := Lib.hid (Box4.new w (.int .i64 g) (.int .i64 b) (.int .i64 s) (.slice (some ⟨G, o, none⟩) L c))
  have HB0 := Lib.hid (below_one w (.cells #[.int .i64 g, .int .i64 b, .int .i64 s, .slice (some ⟨G, o, none⟩) L c] 40))
  clear hk h5 hL
  generalize hD : dis (Rf9.sn s) l = D
  have HDD := Lib.hid hD
  clear hD
  rcases hs with ⟨hs1, hs2⟩ | ⟨hs1, hs2⟩
  · have e0 : (s != 0) = false := by rw [bne_eq_false_iff_eq]; exact hs1
    have e1 : (s == 0) = true := by rw [beq_iff_eq]; exact hs1
    have e2 : (b != 0) = false := by rw [bne_eq_false_iff_eq]; exact hs2
    clear hs1 hs2
    go_enter Tryz.func104, Tryz.ntmps104
    go_wp2
    go_loopw [3] (fun i wl => ∃ k : Nat, i = .int .i64 (k : Int) ∧ k ≤ L ∧ Hid (Rf9.At s l k) ∧ Hid (Box4 wl w.heap.size (.int .i64 g) (.int .i64 b) (.int .i64 s) (.slice (some ⟨G, o, none⟩) L c)) ∧ Hid (Below w.heap.size w wl)) (fun i _ => L - (intOf i).toNat)
    case atStart => exact ⟨0, rfl, by omega, Lib.hid (Rf9.At.zero s l), X0, HB0⟩
    case round =>
      obtain ⟨k, rfl, hk, HAT, HX, HB⟩ := hrel
      have q2 := HX.out.c2
      have q3 := HX.out.c3
      by_cases hlt : k < L
      · have hkl : k < l.length := by rw [← HL.out]; exact hlt
        have hk30 := HAT.out.lt (by omega)
        have hcell := (HK.out.below HB.out (Nat.le_refl _)).at k hkl
        have HBAD := Lib.hid (fun hb => HDD.out.symm.trans (HAT.out.bad HS.out hkl hb))
        have HNX := Lib.hid (fun a b c => HAT.out.next HS.out hkl a b c)
        generalize hlk : l[k] = t at *
        have HTK := Lib.hid hlk
        clear hlk
        have hdw := Lib.hid (fun nq => Go.below_drewN (Below.refl wr.heap.size wr) nq)
        by_cases t1 : t < 2
        · have d1 : decide (t < 2) = true := decide_eq_true t1
          have HD : Hid (D = false) := Lib.hid (HBAD.out (.inl (by omega)))
          go_wp2
          go_big_quiet (fail)
          go_wp2
          go_ret
          exact ⟨by rw [HD.out]; rfl, Go.below_drewN HB.out _⟩
        by_cases t2 : 31 < t
        · have HD : Hid (D = false) := Lib.hid (HBAD.out (.inl (by omega)))
          have d1 : decide (t < 2) = false := decide_eq_false t1
          have d2 : decide (31 < t) = true := decide_eq_true t2
          go_wp2
          go_big_quiet (fail)
          go_wp2
          go_ret
          exact ⟨by rw [HD.out]; rfl, Go.below_drewN HB.out _⟩
        have t12 := Lib.hid (show 2 ≤ t ∧ t < 32 by omega)
        have d1 : decide (t < 2) = false := decide_eq_false t1
        have d2 : decide (31 < t) = false := decide_eq_false t2
        by_cases t3 : t = s
        · have HD : Hid (D = false) := Lib.hid (HBAD.out (.inr (.inl t3)))
          have e3 : (t == s) = true := by rw [beq_iff_eq]; exact t3
          clear t3
          go_wp2
          go_big_quiet (fail)
          go_wp2
          go_ret
          exact ⟨by rw [HD.out]; rfl, Go.below_drewN HB.out _⟩
        have e3 : (t == s) = false := by rw [beq_eq_false_iff_ne]; exact t3
        have T3 := Lib.hid t3
        clear t3
        have hk31 : decide ((31 : Int) ≤ (k : Int)) = false := decide_eq_false (by omega)
        clear t1 t2
        go_wp2
        go_big_quiet (fail)
        rename_i nq
        have HX2 := Lib.hid (HX.out.below (hdw.out nq) HX.out.lt)
        have HB2 := Lib.hid (Go.below_drewN HB.out nq)
        clear HX HB q2 q3 hcell hdw
        generalize wr.drewN nq = wo at *
        go_wp2
        go_loopw [4] (fun i wl => ∃ j : Nat, i = .int .i64 (j : Int) ∧ j ≤ k ∧ Hid (¬ t ∈ l.take j) ∧ Hid (Box4 wl w.heap.size (.int .i64 g) (.int .i64 b) (.int .i64 s) (.slice (some ⟨G, o, none⟩) L c)) ∧ Hid (Below w.heap.size w wl)) (fun i _ => k - (intOf i).toNat)
        case atStart => exact ⟨0, rfl, by omega, Lib.hid (by simp), HX2, HB2⟩
        case round =>
          obtain ⟨j, rfl, hj, HNI, HX3, HB3⟩ := hrel
          have q3 := HX3.out.c3
          by_cases hjk : j < k
          · have hjl : j < l.length := by omega
            have c1 := (HK.out.below HB3.out (Nat.le_refl _)).at j hjl
            have c2 := (HK.out.below HB3.out (Nat.le_refl _)).at k hkl
            rw [HTK.out] at c2
            have hmem : t ∈ l.take (j + 1) ↔ (t ∈ l.take j ∨ t = l[j]) := by rw [List.take_succ_eq_append_getElem hjl, List.mem_append, List.mem_singleton]
            have hin : l[j] ∈ l.take k := by
              have h9 : (l.take k)[j]'(by rw [List.length_take]; omega) = l[j] := List.getElem_take
              rw [← h9]; exact List.getElem_mem _
            have HM1 := Lib.hid hmem
            have HM2 := Lib.hid hin
            clear hmem hin
            generalize l[j] = x at *
            by_cases hxt : x = t
            · have e4 : (x == t) = true := by rw [beq_iff_eq]; exact hxt
              have HD : Hid (D = false) := Lib.hid (HBAD.out (.inr (.inr (by rw [← hxt]; exact HM2.out))))
              clear hxt
              go_wp2
              go_big_quiet (fail)
              go_wp2
              go_ret
              exact ⟨by rw [HD.out]; rfl, Go.below_drewN HB3.out _⟩
            · have e4 : (x == t) = false := by rw [beq_eq_false_iff_ne]; exact hxt
              have HN2 : Hid (¬ t ∈ l.take (j + 1)) := Lib.hid (fun e => by
                rcases HM1.out.1 e with h | h
                · exact HNI.out h
                · exact hxt h.symm)
              have hdw3 := Lib.hid (fun nq => Go.below_drewN (Below.refl wr.heap.size wr) nq)
              have HX4 := Lib.hid (fun nq => HX3.out.below (hdw3.out nq) HX3.out.lt)
              clear hxt
              go_wp2
              go_big_quiet (fail)
              skip
              go_wp2
              go_roundw
              case rel => exact ⟨j + 1, by go_num, by omega, HN2, Lib.hid (HX4.out _), Lib.hid (Go.below_drewN HB3.out _)⟩
              case measure => simp [intOf]; omega
          · obtain rfl : j = k := by omega
            have HA2 := Lib.hid (HNX.out t12.out T3.out HNI.out)
            go_wp2
            go_roundw
            case rel => exact ⟨j + 1, by go_num, by omega, HA2, HX3, HB3⟩
            case measure => simp [intOf]; omega
      · have HD : Hid (D = true) := Lib.hid (by
          have e : k = l.length := by have := HL.out; omega
          have := HAT.out
          rw [e] at this
          exact HDD.out.symm.trans this.fin)
        go_wp2
        go_ret
        exact ⟨by rw [HD.out]; rfl, HB.out⟩
  · have e0 : (s != 0) = true := by rw [bne_iff_ne]; omega
    have e1 : (s == 0) = false := by rw [beq_eq_false_iff_ne]; omega
    go_enter Tryz.func104, Tryz.ntmps104
    go_wp2
    go_loopw [3] (fun i wl => ∃ k : Nat, i = .int .i64 (k : Int) ∧ k ≤ L ∧ Hid (Rf9.At s l k) ∧ Hid (Box4 wl w.heap.size (.int .i64 g) (.int .i64 b) (.int .i64 s) (.slice (some ⟨G, o, none⟩) L c)) ∧ Hid (Below w.heap.size w wl)) (fun i _ => L - (intOf i).toNat)
    case atStart => exact ⟨0, rfl, by omega, Lib.hid (Rf9.At.zero s l), X0, HB0⟩
    case round =>
      obtain ⟨k, rfl, hk, HAT, HX, HB⟩ := hrel
      have q2 := HX.out.c2
      have q3 := HX.out.c3
      by_cases hlt : k < L
      · have hkl : k < l.length := by rw [← HL.out]; exact hlt
        have hk30 := HAT.out.lt (by omega)
        have hcell := (HK.out.below HB.out (Nat.le_refl _)).at k hkl
        have HBAD := Lib.hid (fun hb => HDD.out.symm.trans (HAT.out.bad HS.out hkl hb))
        have HNX := Lib.hid (fun a b c => HAT.out.next HS.out hkl a b c)
        generalize hlk : l[k] = t at *
        have HTK := Lib.hid hlk
        clear hlk
        have hdw := Lib.hid (fun nq => Go.below_drewN (Below.refl wr.heap.size wr) nq)
        by_cases t1 : t < 2
        · have d1 : decide (t < 2) = true := decide_eq_true t1
          have HD : Hid (D = false) := Lib.hid (HBAD.out (.inl (by omega)))
          go_wp2
          go_big_quiet (fail)
          go_wp2
          go_ret
          exact ⟨by rw [HD.out]; rfl, Go.below_drewN HB.out _⟩
        by_cases t2 : 31 < t
        · have HD : Hid (D = false) := Lib.hid (HBAD.out (.inl (by omega)))
          have d1 : decide (t < 2) = false := decide_eq_false t1
          have d2 : decide (31 < t) = true := decide_eq_true t2
          go_wp2
          go_big_quiet (fail)
          go_wp2
          go_ret
          exact ⟨by rw [HD.out]; rfl, Go.below_drewN HB.out _⟩
        have t12 := Lib.hid (show 2 ≤ t ∧ t < 32 by omega)
        have d1 : decide (t < 2) = false := decide_eq_false t1
        have d2 : decide (31 < t) = false := decide_eq_false t2
        by_cases t3 : t = s
        · have HD : Hid (D = false) := Lib.hid (HBAD.out (.inr (.inl t3)))
          have e3 : (t == s) = true := by rw [beq_iff_eq]; exact t3
          clear t3
          go_wp2
          go_big_quiet (fail)
          go_wp2
          go_ret
          exact ⟨by rw [HD.out]; rfl, Go.below_drewN HB.out _⟩
        have e3 : (t == s) = false := by rw [beq_eq_false_iff_ne]; exact t3
        have T3 := Lib.hid t3
        clear t3
        have hk31 : decide ((31 : Int) ≤ (k : Int)) = false := decide_eq_false (by omega)
        clear t1 t2
        go_wp2
        go_big_quiet (fail)
        rename_i nq
        have HX2 := Lib.hid (HX.out.below (hdw.out nq) HX.out.lt)
        have HB2 := Lib.hid (Go.below_drewN HB.out nq)
        clear HX HB q2 q3 hcell hdw
        generalize wr.drewN nq = wo at *
        go_wp2
        go_loopw [4] (fun i wl => ∃ j : Nat, i = .int .i64 (j : Int) ∧ j ≤ k ∧ Hid (¬ t ∈ l.take j) ∧ Hid (Box4 wl w.heap.size (.int .i64 g) (.int .i64 b) (.int .i64 s) (.slice (some ⟨G, o, none⟩) L c)) ∧ Hid (Below w.heap.size w wl)) (fun i _ => k - (intOf i).toNat)
        case atStart => exact ⟨0, rfl, by omega, Lib.hid (by simp), HX2, HB2⟩
        case round =>
          obtain ⟨j, rfl, hj, HNI, HX3, HB3⟩ := hrel
          have q3 := HX3.out.c3
          by_cases hjk : j < k
          · have hjl : j < l.length := by omega
            have c1 := (HK.out.below HB3.out (Nat.le_refl _)).at j hjl
            have c2 := (HK.out.below HB3.out (Nat.le_refl _)).at k hkl
            rw [HTK.out] at c2
            have hmem : t ∈ l.take (j + 1) ↔ (t ∈ l.take j ∨ t = l[j]) := by rw [List.take_succ_eq_append_getElem hjl, List.mem_append, List.mem_singleton]
            have hin : l[j] ∈ l.take k := by
              have h9 : (l.take k)[j]'(by rw [List.length_take]; omega) = l[j] := List.getElem_take
              rw [← h9]; exact List.getElem_mem _
            have HM1 := Lib.hid hmem
            have HM2 := Lib.hid hin
            clear hmem hin
            generalize l[j] = x at *
            by_cases hxt : x = t
            · have e4 : (x == t) = true := by rw [beq_iff_eq]; exact hxt
              have HD : Hid (D = false) := Lib.hid (HBAD.out (.inr (.inr (by rw [← hxt]; exact HM2.out))))
              clear hxt
              go_wp2
              go_big_quiet (fail)
              go_wp2
              go_ret
              exact ⟨by rw [HD.out]; rfl, Go.below_drewN HB3.out _⟩
            · have e4 : (x == t) = false := by rw [beq_eq_false_iff_ne]; exact hxt
              have HN2 : Hid (¬ t ∈ l.take (j + 1)) := Lib.hid (fun e => by
                rcases HM1.out.1 e with h | h
                · exact HNI.out h
                · exact hxt h.symm)
              have hdw3 := Lib.hid (fun nq => Go.below_drewN (Below.refl wr.heap.size wr) nq)
              have HX4 := Lib.hid (fun nq => HX3.out.below (hdw3.out nq) HX3.out.lt)
              clear hxt
              go_wp2
              go_big_quiet (fail)
              skip
              go_wp2
              go_roundw
              case rel => exact ⟨j + 1, by go_num, by omega, HN2, Lib.hid (HX4.out _), Lib.hid (Go.below_drewN HB3.out _)⟩
              case measure => simp [intOf]; omega
          · obtain rfl : j = k := by omega
            have HA2 := Lib.hid (HNX.out t12.out T3.out HNI.out)
            go_wp2
            go_roundw
            case rel => exact ⟨j + 1, by go_num, by omega, HA2, HX3, HB3⟩
            case measure => simp [intOf]; omega
      · have HD : Hid (D = true) := Lib.hid (by
          have e : k = l.length := by have := HL.out; omega
          have := HAT.out
          rw [e] at this
          exact HDD.out.symm.trans this.fin)
        go_wp2
        go_ret
        exact ⟨by rw [HD.out]; rfl, HB.out⟩
end Go.Proofs.YtieemdcoomilaaaGreatDoor
namespace Go.Proofs.YtieemdcoomilaaaGreatDoor
open Go Go.RowKit BigFrame
set_option maxRecDepth 100000
theorem rmay_any (h : He) (v : Value) (w : World) (hk : KAt w v h.log) (hl : h.log.length ≤ 9223372036854775807) : Calls Tryz.prog 104 #[hval h v] w (Ret w (.bool (mayB h))) := by
  obtain ⟨g, b, s, l⟩ := h
  obtain ⟨a, c, rfl⟩ := hk.slice
  dsimp only at *
  have HM := @Rf9.mayB_sn g b s l
  unfold mayB gtop at *
  dsimp only at *
  by_cases h1 : g < 1
  · rw [if_pos h1]; exact rmay_1 g b s l a c w hl h1
  by_cases h2 : 1099511627776 < g
  · rw [if_neg h1, if_pos h2]; exact rmay_2 g b s l a c w hl (by omega) h2
  by_cases h3 : b < 0
  · rw [if_neg h1, if_neg h2, if_pos h3]; exact rmay_3 g b s l a c w hl (by omega) (by omega) h3
  by_cases h4 : 1099511627776 < b
  · rw [if_neg h1, if_neg h2, if_neg h3, if_pos h4]; exact rmay_4 g b s l a c w hl (by omega) (by omega) (by omega) h4
  by_cases h5 : l = []
  · rw [if_neg h1, if_neg h2, if_neg h3, if_neg h4, if_pos h5]
    have h5' : l.length = 0 := by rw [h5]; rfl
    by_cases h6 : s = 0
    · by_cases h7 : b = 0
      · exact rmay_8 g b s l a c w hl (by omega) (by omega) (by omega) (by omega) h6 h7 h5'
      · exact rmay_7 g b s l a c w hl (by omega) (by omega) (by omega) (by omega) h6 h7
    · by_cases h7 : s < 2
      · exact rmay_5 g b s l a c w hl (by omega) (by omega) (by omega) (by omega) h7 h6
      · by_cases h8 : 31 < s
        · exact rmay_6 g b s l a c w hl (by omega) (by omega) (by omega) (by omega) h8
        · exact rmay_9 g b s l a c w hl (by omega) (by omega) (by omega) (by omega) (by omega) (by omega) h5'
  by_cases h6 : s = 0
  · by_cases h7 : b = 0
    · rw [HM (by omega) (by omega) (by omega) (by omega) (fun _ => h7) (fun e => absurd h6 e) h5]
      exact rmay_in g b s l _ w hk hl (by omega) (by omega) (by omega) (by omega) h5 (.inl ⟨h6, h7⟩)
    · rw [if_neg h1, if_neg h2, if_neg h3, if_neg h4, if_neg h5, if_pos h6, if_pos h7]
      exact rmay_7 g b s l a c w hl (by omega) (by omega) (by omega) (by omega) h6 h7
  · by_cases h7 : 2 ≤ s ∧ s < 32
    · rw [HM (by omega) (by omega) (by omega) (by omega) (fun e => absurd e h6) (fun _ => h7) h5]
      exact rmay_in g b s l _ w hk hl (by omega) (by omega) (by omega) (by omega) h5 (.inr ⟨h7.1, by omega⟩)
    · have e : ¬ (ad no32 s = true) := fun e => h7 (ad_iff.1 e).1
      rw [if_neg h1, if_neg h2, if_neg h3, if_neg h4, if_neg h5, if_neg h6, if_neg e]
      by_cases h8 : s < 2
      · exact rmay_5 g b s l a c w hl (by omega) (by omega) (by omega) (by omega) h8 h6
      · exact rmay_6 g b s l a c w hl (by omega) (by omega) (by omega) (by omega) (by omega)
/-- What the document's Uses tells. -/
def rusB (h : He) (t : Int) : Bool := (decide (t ≠ 0) && decide (h.snap = t)) || decide (t ∈ h.log)
theorem rusB_eq (h : He) (t : Int) : rusB h t = usB h t := by
  unfold rusB usB
  by_cases h1 : h.snap = t
  · rw [h1]
  · rw [decide_eq_false h1, Bool.and_false, Bool.and_false]
end Go.Proofs.YtieemdcoomilaaaGreatDoor
namespace Go.Proofs.YtieemdcoomilaaaGreatDoor
open Go Go.RowKit Go.Sort BigFrame
set_option maxRecDepth 100000
set_option maxHeartbeats 2000000 in
theorem rencode_in (g b s : Nat) (l : List Int) (v : Value) (w : World) (hk : KAt w v l) (hm : mayB ⟨g, b, s, l⟩ = true) :
    Calls Tryz.prog 69 #[hval ⟨g, b, s, l⟩ v] w (Ret w (.tuple #[.string (bs (enc ⟨g, b, s, l⟩)), .int .i64 0])) := by
  have ok := mayB_ok hm
  have hg := ok.g2
  have hb := ok.b2
  have hs := ok.s2
  have hl := ok.len
  have hmem := Lib.hid ok.mem
  dsimp only at hg hb hs hl
  have H := rmay_any ⟨g, b, s, l⟩ v (w.alloc (.cells #[.int .i64 (g : Int), .int .i64 (b : Int), .int .i64 (s : Int), v] 40)) (hk.below (below_one w _) (Nat.le_refl _)) (list_len_lt hl)
  rw [hm] at H
  have H := Lib.hid H
  have X0 := Lib.hid (Box4.new w (.int .i64 (g : Int)) (.int .i64 (b : Int)) (.int .i64 (s : Int)) v)
  have HK := Lib.hid hk
  have hp : 0 < l.length := List.length_pos_iff.2 ok.ne
  obtain ⟨G, o, c, rfl, hc⟩ := hk.pos ok.ne
  have hu1 : IntKind.u64.wrap (g : Int) = (g : Int) := by rw [IntKind.wrap_u64]; omega
  have hu2 : IntKind.u64.wrap (b : Int) = (b : Int) := by rw [IntKind.wrap_u64]; omega
  have hu3 : IntKind.u64.wrap (s : Int) = (s : Int) := by rw [IntKind.wrap_u64]; omega
  have hu4 : IntKind.u64.wrap (l.length : Int) = (l.length : Int) := by rw [IntKind.wrap_u64]; omega
  have lg := vint_len_le (n := g) (k := 5) (by omega)
  have lb := vint_len_le (n := b) (k := 5) (by omega)
  have ls := vint_len_le (n := s) (k := 0) (by omega)
  have ll := vint_len_le (n := l.length) (k := 0) (by omega)
  have HE : Hid (bs (enc ⟨g, b, s, l⟩) = (bs (Bt.vint g) ++ bs (Bt.vint b) ++ bs (Bt.vint s) ++ bs (Bt.vint l.length)) ++ bs (encL l)) := Lib.hid (by
    rw [bs_append, bs_append, bs_append, bs_append]
    congr 1
    show Bt.vint g ++ (Bt.vint b ++ (Bt.vint s ++ (Bt.vint l.length ++ encL l))) = _
    simp only [List.append_assoc])
  have HV := Lib.hid (fun (N : Nat) (h : N ≤ 18446744073709551615) W => rvint_any 9 N W (Nat.lt_of_le_of_lt h (by decide)) h)
  have C1 := HV.out g (by omega)
  have C2 := HV.out b (by omega)
  have C3 := HV.out s (by omega)
  have C4 := HV.out l.length (by omega)
  have z1 : (bs (Bt.vint g)).size ≤ 6 := by rw [bs_size]; exact lg
  have z2 : (bs (Bt.vint b)).size ≤ 6 := by rw [bs_size]; exact lb
  have z3 : (bs (Bt.vint s)).size ≤ 1 := by rw [bs_size]; exact ls
  have z4 : (bs (Bt.vint l.length)).size ≤ 1 := by rw [bs_size]; exact ll
  generalize bs (Bt.vint g) = S1 at *
  generalize bs (Bt.vint b) = S2 at *
  generalize bs (Bt.vint s) = S3 at *
  generalize bs (Bt.vint l.length) = S4 at *
  generalize bs (enc ⟨g, b, s, l⟩) = E at *
  have D1 := Lib.hid C1
  have D2 := Lib.hid C2
  have D3 := Lib.hid C3
  have D4 := Lib.hid C4
  clear hk ok hm lg lb ls ll C1 C2 C3 C4
  unfold hval at *
  dsimp only at *
  go_enter Tryz.func69, Tryz.ntmps69
  go_wp2_with fail
  refine H.out.mono ?_
  rintro e w1 ⟨rfl, hb1⟩
  have X1 := Lib.hid (X0.out.below hb1 (by simp))
  have HB1 := Lib.hid (below_trans' (below_one w _) hb1)
  clear hb1 X0 H
  go_wp2_with fail
  have k0 := fun d os => cell_regrown X1.out.c0 d os
  have k1 := fun d os => cell_regrown X1.out.c1 d os
  have k2 := fun d os => cell_regrown X1.out.c2 d os
  have k3 := fun d os => cell_regrown X1.out.c3 d os
  have F1 := Lib.hid (fun d os => Calls.regrown_of (D1.out (grow (redrawn w1 d) os)))
  have F2 := Lib.hid (fun d os => Calls.regrown_of (D2.out (grow (redrawn w1 d) os)))
  have F3 := Lib.hid (fun d os => Calls.regrown_of (D3.out (grow (redrawn w1 d) os)))
  have F4 := Lib.hid (fun d os => Calls.regrown_of (D4.out (grow (redrawn w1 d) os)))
  refine wp_region_quiet_below (by kernel_rfl) (by kernel_rfl) ?_
  iterate 3 (go_big_quiet_step (fail))
  go_big_quiet_step (first | (go_at_call 105; exact F1.out _ _))
  iterate 3 (go_big_quiet_step (fail))
  go_big_quiet_step (first | (go_at_call 105; exact F2.out _ _))
  iterate 4 (go_big_quiet_step (fail))
  go_big_quiet_step (first | (go_at_call 105; exact F3.out _ _))
  iterate 5 (go_big_quiet_step (fail))
  go_big_quiet_step (first | (go_at_call 105; exact F4.out _ _))
  iterate 2 (go_big_quiet_step (fail))
  refine wpQuiet_nil ?_
  intro W2 hw2
  have hb2 : Below w1.heap.size w1 W2 := by obtain ⟨q, rfl⟩ := hw2; exact below_regrown _ _ _
  have HB2 := Lib.hid (below_trans' HB1.out hb2)
  have X2 := Lib.hid (X1.out.below hb2 X1.out.lt)
  have hz : (S1 ++ S2 ++ S3 ++ S4).size ≤ 14 := by simp only [ByteArray.size_append]; omega
  generalize S1 ++ S2 ++ S3 ++ S4 = P at *
  clear hw2 hb2 k0 k1 k2 k3 F1 F2 F3 F4 D1 D2 D3 D4 hu1 hu2 hu3 hu4 z1 z2 z3 z4 X1 HB1
  go_wp2
  go_loopw [4, 5] (fun u i wl => ∃ (k : Nat) (S : ByteArray), i = .int .i64 (k : Int) ∧ u = .string S ∧ k ≤ l.length ∧ S.size ≤ 14 + k ∧ Hid (S = P ++ bs (encL (l.take k))) ∧ Hid (Box4 wl w.heap.size (.int .i64 (g : Int)) (.int .i64 (b : Int)) (.int .i64 (s : Int)) (.slice (some ⟨G, o, none⟩) l.length c)) ∧ Hid (Below w.heap.size w wl)) (fun _ i _ => l.length - (intOf i).toNat)
  case atStart => exact ⟨0, P, rfl, rfl, by omega, by omega, Lib.hid (by show P = P ++ ⟨#[]⟩; apply ByteArray.ext; rw [ByteArray.data_append]; simp), X2, HB2⟩
  case round =>
    obtain ⟨k, S, rfl, rfl, hk, hS, HS, HX, HB⟩ := hrel
    have a3 := HX.out.c3
    by_cases hlt : k < l.length
    · have hcell := (HK.out.below HB.out (Nat.le_refl _)).at k hlt
      have hkc : k < c := by omega
      have hm1 := hmem.out l[k] (List.getElem_mem hlt)
      obtain ⟨n, hn⟩ := Int.eq_ofNat_of_zero_le (show 0 ≤ l[k] by omega)
      have hen : encL (l.take (k + 1)) = encL (l.take k) ++ Bt.vint n := by rw [List.take_succ_eq_append_getElem hlt, encL_snoc, hn]; rfl
      have HN : Hid (P ++ bs (encL (l.take (k + 1))) = (P ++ bs (encL (l.take k))) ++ bs (Bt.vint n)) := Lib.hid (by rw [hen, ← bs_append, ByteArray.append_assoc])
      clear hen
      rw [hn] at hcell hm1
      have hu5 : IntKind.u64.wrap (n : Int) = (n : Int) := by rw [IntKind.wrap_u64]; omega
      have hT : (bs (Bt.vint n)).size ≤ 1 := by rw [bs_size]; exact vint_len_le (n := n) (k := 0) (by omega)
      have CN := Lib.hid (HV.out n (by omega) wr)
      generalize bs (Bt.vint n) = T at *
      go_wp2_with fail
      refine CN.out.mono ?_
      rintro e w6 ⟨rfl, hb⟩
      have HX6 := Lib.hid (HX.out.below hb HX.out.lt)
      have HB6 := Lib.hid (below_trans' HB.out hb)
      have hzz : (S ++ T).size ≤ 14 + (k + 1) := by rw [ByteArray.size_append]; omega
      have HS2 : Hid (S ++ T = P ++ bs (encL (l.take (k + 1)))) := Lib.hid (by rw [HN.out, ← HS.out])
      clear hb a3 hcell
      go_wp2
      go_roundw
      case rel => exact ⟨k + 1, S ++ T, by go_num, rfl, by omega, hzz, HS2, HX6, HB6⟩
      case measure => simp [intOf]; omega
    · have hall : l.take k = l := List.take_of_length_le (by omega)
      have HS2 : Hid (S = E) := Lib.hid (by rw [HS.out, hall, HE.out])
      clear hall
      go_wp2
      go_ret2
      exact ⟨by rw [HS2.out]; rfl, HB.out⟩
theorem rencode_ok (h : He) (v : Value) (w : World) (hk : KAt w v h.log) (hm : mayB h = true) : Calls Tryz.prog 69 #[hval h v] w (Ret w (.tuple #[.string (bs (enc h)), .int .i64 0])) := by
  obtain ⟨g, b, s, l⟩ := h
  have ok := mayB_ok hm
  have h1 := ok.g1; have h2 := ok.b1; have h3 := ok.s1
  dsimp only at h1 h2 h3
  obtain ⟨g, rfl⟩ := Int.eq_ofNat_of_zero_le (show 0 ≤ g by omega)
  obtain ⟨b, rfl⟩ := Int.eq_ofNat_of_zero_le h2
  obtain ⟨s, rfl⟩ := Int.eq_ofNat_of_zero_le h3
  exact rencode_in g b s l v w hk hm
set_option maxHeartbeats 400000 in
theorem rencode_no (h : He) (v : Value) (w : World) (hk : KAt w v h.log) (hl : h.log.length ≤ 9223372036854775807) (hm : mayB h = false) : Calls Tryz.prog 69 #[hval h v] w (Ret w (.tuple #[.string ⟨#[]⟩, .int .i64 4])) := by
  have H := rmay_any h v (w.alloc (.cells #[.int .i64 h.gen, .int .i64 h.base, .int .i64 h.snap, v] 40)) (hk.below (below_one w _) (Nat.le_refl _)) hl
  rw [hm] at H
  have H := Lib.hid H
  unfold hval at *
  clear hk hm
  go_enter Tryz.func69, Tryz.ntmps69
  go_wp2_with fail
  refine H.out.mono ?_
  rintro e w1 ⟨rfl, hb⟩
  have HB := Lib.hid (below_trans' (below_one w _) hb)
  clear hb
  go_wp2
  go_ret2
  exact ⟨rfl, HB.out⟩
theorem rencode_any (h : He) (v : Value) (w : World) (hk : KAt w v h.log) (hl : h.log.length ≤ 9223372036854775807) : Calls Tryz.prog 69 #[hval h v] w (Ret w (.tuple #[.string (encR h).1, .int .i64 ((encR h).2 : Int)])) := by
  unfold encR
  cases hm : mayB h
  · rw [if_neg (by simp)]; exact rencode_no h v w hk hl hm
  · rw [if_pos rfl]; exact rencode_ok h v w hk hm
end Go.Proofs.YtieemdcoomilaaaGreatDoor
