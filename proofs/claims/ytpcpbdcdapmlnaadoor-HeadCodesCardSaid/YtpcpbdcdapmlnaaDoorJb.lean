/- The document's May. -/
import Derived.Test.YtpcpbdcdapmlnaaDoorJa
namespace Go.Proofs.YtpcpbdcdapmlnaaDoor
open Go Go.RowKit BigFrame
set_option maxRecDepth 100000
set_option maxHeartbeats 400000 in
theorem rmay_1 (g b s : Int) (l : List Int) (a : Option Addr) (c : Nat) (w : World) (hl : l.length ≤ 9223372036854775807) (h1 : g < 1) : Calls Tryd.prog 23 #[hval ⟨g, b, s, l⟩ (.slice a l.length c)] w (Ret w (.bool false)) := by
  unfold hval
  dsimp only
  go_enter Tryd.func23, Tryd.ntmps23
  go_wp2
  go_ret
  exact ⟨rfl, below_one _ _⟩
set_option maxHeartbeats 400000 in
theorem rmay_2 (g b s : Int) (l : List Int) (a : Option Addr) (c : Nat) (w : World) (hl : l.length ≤ 9223372036854775807) (h1 : 1 ≤ g) (h2 : 1099511627776 < g) : Calls Tryd.prog 23 #[hval ⟨g, b, s, l⟩ (.slice a l.length c)] w (Ret w (.bool false)) := by
  unfold hval
  dsimp only
  go_enter Tryd.func23, Tryd.ntmps23
  go_wp2
  go_ret
  exact ⟨rfl, below_one _ _⟩
set_option maxHeartbeats 400000 in
theorem rmay_3 (g b s : Int) (l : List Int) (a : Option Addr) (c : Nat) (w : World) (hl : l.length ≤ 9223372036854775807) (h1 : 1 ≤ g) (h2 : g ≤ 1099511627776) (h3 : b < 0) : Calls Tryd.prog 23 #[hval ⟨g, b, s, l⟩ (.slice a l.length c)] w (Ret w (.bool false)) := by
  unfold hval
  dsimp only
  go_enter Tryd.func23, Tryd.ntmps23
  go_wp2
  go_ret
  exact ⟨rfl, below_one _ _⟩
set_option maxHeartbeats 400000 in
theorem rmay_4 (g b s : Int) (l : List Int) (a : Option Addr) (c : Nat) (w : World) (hl : l.length ≤ 9223372036854775807) (h1 : 1 ≤ g) (h2 : g ≤ 1099511627776) (h3 : 0 ≤ b) (h4 : 1099511627776 < b) : Calls Tryd.prog 23 #[hval ⟨g, b, s, l⟩ (.slice a l.length c)] w (Ret w (.bool false)) := by
  unfold hval
  dsimp only
  go_enter Tryd.func23, Tryd.ntmps23
  go_wp2
  go_ret
  exact ⟨rfl, below_one _ _⟩
set_option maxHeartbeats 400000 in
theorem rmay_5 (g b s : Int) (l : List Int) (a : Option Addr) (c : Nat) (w : World) (hl : l.length ≤ 9223372036854775807) (h1 : 1 ≤ g) (h2 : g ≤ 1099511627776) (h3 : 0 ≤ b) (h4 : b ≤ 1099511627776) (h5 : s < 2) (h6 : s ≠ 0) : Calls Tryd.prog 23 #[hval ⟨g, b, s, l⟩ (.slice a l.length c)] w (Ret w (.bool false)) := by
  unfold hval
  dsimp only
  have e0 : (s != 0) = true := by rw [bne_iff_ne]; exact h6
  have e1 : (s == 0) = false := by rw [beq_eq_false_iff_ne]; exact h6
  clear h6
  go_enter Tryd.func23, Tryd.ntmps23
  go_wp2
  go_ret
  exact ⟨rfl, below_one _ _⟩
set_option maxHeartbeats 400000 in
theorem rmay_6 (g b s : Int) (l : List Int) (a : Option Addr) (c : Nat) (w : World) (hl : l.length ≤ 9223372036854775807) (h1 : 1 ≤ g) (h2 : g ≤ 1099511627776) (h3 : 0 ≤ b) (h4 : b ≤ 1099511627776) (h5 : 31 < s) : Calls Tryd.prog 23 #[hval ⟨g, b, s, l⟩ (.slice a l.length c)] w (Ret w (.bool false)) := by
  unfold hval
  dsimp only
  have e0 : (s != 0) = true := by rw [bne_iff_ne]; omega
  have h6 : 2 ≤ s := by omega
  go_enter Tryd.func23, Tryd.ntmps23
  go_wp2
  go_ret
  exact ⟨rfl, below_one _ _⟩
set_option maxHeartbeats 400000 in
theorem rmay_7 (g b s : Int) (l : List Int) (a : Option Addr) (c : Nat) (w : World) (hl : l.length ≤ 9223372036854775807) (h1 : 1 ≤ g) (h2 : g ≤ 1099511627776) (h3 : 0 ≤ b) (h4 : b ≤ 1099511627776) (h0 : s = 0) (h5 : b ≠ 0) : Calls Tryd.prog 23 #[hval ⟨g, b, s, l⟩ (.slice a l.length c)] w (Ret w (.bool false)) := by
  unfold hval
  dsimp only
  subst h0
  have e0 : (b != 0) = true := by rw [bne_iff_ne]; exact h5
  go_enter Tryd.func23, Tryd.ntmps23
  go_wp2
  go_ret
  exact ⟨rfl, below_one _ _⟩
set_option maxHeartbeats 400000 in
theorem rmay_8 (g b s : Int) (l : List Int) (a : Option Addr) (c : Nat) (w : World) (hl : l.length ≤ 9223372036854775807) (h1 : 1 ≤ g) (h2 : g ≤ 1099511627776) (h3 : 0 ≤ b) (h4 : b ≤ 1099511627776) (h0 : s = 0) (h5 : b = 0) (h6 : l.length = 0) : Calls Tryd.prog 23 #[hval ⟨g, b, s, l⟩ (.slice a l.length c)] w (Ret w (.bool false)) := by
  unfold hval
  dsimp only
  subst h0 h5
  have hll : (l.length : Int) < 1 := by omega
  clear h6
  go_enter Tryd.func23, Tryd.ntmps23
  go_wp2
  go_ret
  exact ⟨rfl, below_one _ _⟩
set_option maxHeartbeats 400000 in
theorem rmay_9 (g b s : Int) (l : List Int) (a : Option Addr) (c : Nat) (w : World) (hl : l.length ≤ 9223372036854775807) (h1 : 1 ≤ g) (h2 : g ≤ 1099511627776) (h3 : 0 ≤ b) (h4 : b ≤ 1099511627776) (h0 : 2 ≤ s) (h5 : s ≤ 31) (h6 : l.length = 0) : Calls Tryd.prog 23 #[hval ⟨g, b, s, l⟩ (.slice a l.length c)] w (Ret w (.bool false)) := by
  unfold hval
  dsimp only
  have e0 : (s != 0) = true := by rw [bne_iff_ne]; omega
  have e1 : (s == 0) = false := by rw [beq_eq_false_iff_ne]; omega
  have hll : (l.length : Int) < 1 := by omega
  clear h6
  go_enter Tryd.func23, Tryd.ntmps23
  go_wp2
  go_ret
  exact ⟨rfl, below_one _ _⟩
set_option maxHeartbeats 1000000 in
theorem rmay_in (g b s : Int) (l : List Int) (v : Value) (w : World) (hk : KAt w v l) (hl : l.length ≤ 9223372036854775807) (h1 : 1 ≤ g) (h2 : g ≤ 1099511627776) (h3 : 0 ≤ b) (h4 : b ≤ 1099511627776) (h5 : l ≠ []) (hs : s = 0 ∧ b = 0 ∨ 2 ≤ s ∧ s ≤ 31) :
    Calls Tryd.prog 23 #[hval ⟨g, b, s, l⟩ v] w (Ret w (.bool (dis (Rf9.sn s) l))) := by
  obtain ⟨G, o, c, rfl, hc⟩ := hk.pos h5
  obtain ⟨L, hL⟩ : ∃ L, L = l.length := ⟨_, rfl⟩
  have HL := Lib.hid hL
  have hLp : 1 ≤ L := by rw [hL]; have := List.length_pos_iff.2 h5; omega
  have HK := Lib.hid hk
  have HS : Hid (s = 0 ∨ 2 ≤ s) := Lib.hid (by omega)
  have hl1 : ¬ ((L : Int) < 1) := by omega
  rw [← hL] at hl hc HK ⊢
  unfold hval
  dsimp only
  have X0 := Lib.hid (Box4.new w (.int .i64 g) (.int .i64 b) (.int .i64 s) (.slice (some ⟨G, o, none⟩) L c))
  have HB0 := Lib.hid (below_one w (.cells #[.int .i64 g, .int .i64 b, .int .i64 s, .slice (some ⟨G, o, none⟩) L c] 26))
  clear hk h5 hL
  generalize hD : dis (Rf9.sn s) l = D
  have HDD := Lib.hid hD
  clear hD
  rcases hs with ⟨hs1, hs2⟩ | ⟨hs1, hs2⟩
  · have e0 : (s != 0) = false := by rw [bne_eq_false_iff_eq]; exact hs1
    have e1 : (s == 0) = true := by rw [beq_iff_eq]; exact hs1
    have e2 : (b != 0) = false := by rw [bne_eq_false_iff_eq]; exact hs2
    clear hs1 hs2
    go_enter Tryd.func23, Tryd.ntmps23
    go_wp2
    go_loopw [3] (fun i wl => ∃ k : Nat, i = .int .i64 (k : Int) ∧ k ≤ L ∧ Hid (Rf9.At s l k) ∧ Hid (Box4 wl w.heap.size (.int .i64 g) (.int .i64 b) (.int .i64 s) (.slice (some ⟨G, o, none⟩) L c)) ∧ Hid (Below w.heap.size w wl)) (fun i _ => L - (intOf i).toNat)
    case atStart => exact ⟨0, rfl, by omega, Lib.hid (Rf9.At.zero s l), X0, HB0⟩
    case round =>
      obtain ⟨k, rfl, hk, HAT, HX, HB⟩ := hrel
      have q2 := HX.out.c2
      have q3 := HX.out.c3
      by_cases hlt : k < L
      · have hkl : k < l.length := by rw [← HL.out]; exact hlt
        have hk30 := HAT.out.lt (by omega)
        have hcell := (HK.out.below HB.out (Nat.le_refl _)).at k hkl
        have HBAD := Lib.hid (fun hb => HDD.out.symm.trans (HAT.out.bad HS.out hkl hb))
        have HNX := Lib.hid (fun a b c => HAT.out.next HS.out hkl a b c)
        generalize hlk : l[k] = t at *
        have HTK := Lib.hid hlk
        clear hlk
        have hdw := Lib.hid (fun nq => below_drewN (Below.refl wr.heap.size wr) nq)
        by_cases t1 : t < 2
        · have d1 : decide (t < 2) = true := decide_eq_true t1
          have HD : Hid (D = false) := Lib.hid (HBAD.out (.inl (by omega)))
          go_wp2
          go_big_quiet (fail)
          go_wp2
          go_ret
          exact ⟨by rw [HD.out]; rfl, below_drewN HB.out _⟩
        by_cases t2 : 31 < t
        · have HD : Hid (D = false) := Lib.hid (HBAD.out (.inl (by omega)))
          have d1 : decide (t < 2) = false := decide_eq_false t1
          have d2 : decide (31 < t) = true := decide_eq_true t2
          go_wp2
          go_big_quiet (fail)
          go_wp2
          go_ret
          exact ⟨by rw [HD.out]; rfl, below_drewN HB.out _⟩
        have t12 := Lib.hid (show 2 ≤ t ∧ t < 32 by omega)
        have d1 : decide (t < 2) = false := decide_eq_false t1
        have d2 : decide (31 < t) = false := decide_eq_false t2
        by_cases t3 : t = s
        · have HD : Hid (D = false) := Lib.hid (HBAD.out (.inr (.inl t3)))
          have e3 : (t == s) = true := by rw [beq_iff_eq]; exact t3
          clear t3
          go_wp2
          go_big_quiet (fail)
          go_wp2
          go_ret
          exact ⟨by rw [HD.out]; rfl, below_drewN HB.out _⟩
        have e3 : (t == s) = false := by rw [beq_eq_false_iff_ne]; exact t3
        have T3 := Lib.hid t3
        clear t3
        have hk31 : decide ((31 : Int) ≤ (k : Int)) = false := decide_eq_false (by omega)
        clear t1 t2
        go_wp2
        go_big_quiet (fail)
        rename_i nq
        have HX2 := Lib.hid (HX.out.below (hdw.out nq) HX.out.lt)
        have HB2 := Lib.hid (below_drewN HB.out nq)
        clear HX HB q2 q3 hcell hdw
        generalize wr.drewN nq = wo at *
        go_wp2
        go_loopw [4] (fun i wl => ∃ j : Nat, i = .int .i64 (j : Int) ∧ j ≤ k ∧ Hid (¬ t ∈ l.take j) ∧ Hid (Box4 wl w.heap.size (.int .i64 g) (.int .i64 b) (.int .i64 s) (.slice (some ⟨G, o, none⟩) L c)) ∧ Hid (Below w.heap.size w wl)) (fun i _ => k - (intOf i).toNat)
        case atStart => exact ⟨0, rfl, by omega, Lib.hid (by simp), HX2, HB2⟩
        case round =>
          obtain ⟨j, rfl, hj, HNI, HX3, HB3⟩ := hrel
          have q3 := HX3.out.c3
          by_cases hjk : j < k
          · have hjl : j < l.length := by omega
            have c1 := (HK.out.below HB3.out (Nat.le_refl _)).at j hjl
            have c2 := (HK.out.below HB3.out (Nat.le_refl _)).at k hkl
            rw [HTK.out] at c2
            have hmem : t ∈ l.take (j + 1) ↔ (t ∈ l.take j ∨ t = l[j]) := by rw [List.take_succ_eq_append_getElem hjl, List.mem_append, List.mem_singleton]
            have hin : l[j] ∈ l.take k := by
              have h9 : (l.take k)[j]'(by rw [List.length_take]; omega) = l[j] := List.getElem_take
              rw [← h9]; exact List.getElem_mem _
            have HM1 := Lib.hid hmem
            have HM2 := Lib.hid hin
            clear hmem hin
            generalize l[j] = x at *
            by_cases hxt : x = t
            · have e4 : (x == t) = true := by rw [beq_iff_eq]; exact hxt
              have HD : Hid (D = false) := Lib.hid (HBAD.out (.inr (.inr (by rw [← hxt]; exact HM2.out))))
              clear hxt
              go_wp2
              go_big_quiet (fail)
              go_wp2
              go_ret
              exact ⟨by rw [HD.out]; rfl, below_drewN HB3.out _⟩
            · have e4 : (x == t) = false := by rw [beq_eq_false_iff_ne]; exact hxt
              have HN2 : Hid (¬ t ∈ l.take (j + 1)) := Lib.hid (fun e => by
                rcases HM1.out.1 e with h | h
                · exact HNI.out h
                · exact hxt h.symm)
              have hdw3 := Lib.hid (fun nq => below_drewN (Below.refl wr.heap.size wr) nq)
              have HX4 := Lib.hid (fun nq => HX3.out.below (hdw3.out nq) HX3.out.lt)
              clear hxt
              go_wp2
              go_big_quiet (fail)
              skip
              go_wp2
              go_roundw
              case rel => exact ⟨j + 1, by go_num, by omega, HN2, Lib.hid (HX4.out _), Lib.hid (below_drewN HB3.out _)⟩
              case measure => simp [intOf]; omega
          · obtain rfl : j = k := by omega
            have HA2 := Lib.hid (HNX.out t12.out T3.out HNI.out)
            go_wp2
            go_roundw
            case rel => exact ⟨j + 1, by go_num, by omega, HA2, HX3, HB3⟩
            case measure => simp [intOf]; omega
      · have HD : Hid (D = true) := Lib.hid (by
          have e : k = l.length := by have := HL.out; omega
          have := HAT.out
          rw [e] at this
          exact HDD.out.symm.trans this.fin)
        go_wp2
        go_ret
        exact ⟨by rw [HD.out]; rfl, HB.out⟩
  · have e0 : (s != 0) = true := by rw [bne_iff_ne]; omega
    have e1 : (s == 0) = false := by rw [beq_eq_false_iff_ne]; omega
    go_enter Tryd.func23, Tryd.ntmps23
    go_wp2
    go_loopw [3] (fun i wl => ∃ k : Nat, i = .int .i64 (k : Int) ∧ k ≤ L ∧ Hid (Rf9.At s l k) ∧ Hid (Box4 wl w.heap.size (.int .i64 g) (.int .i64 b) (.int .i64 s) (.slice (some ⟨G, o, none⟩) L c)) ∧ Hid (Below w.heap.size w wl)) (fun i _ => L - (intOf i).toNat)
    case atStart => exact ⟨0, rfl, by omega, Lib.hid (Rf9.At.zero s l), X0, HB0⟩
    case round =>
      obtain ⟨k, rfl, hk, HAT, HX, HB⟩ := hrel
      have q2 := HX.out.c2
      have q3 := HX.out.c3
      by_cases hlt : k < L
      · have hkl : k < l.length := by rw [← HL.out]; exact hlt
        have hk30 := HAT.out.lt (by omega)
        have hcell := (HK.out.below HB.out (Nat.le_refl _)).at k hkl
        have HBAD := Lib.hid (fun hb => HDD.out.symm.trans (HAT.out.bad HS.out hkl hb))
        have HNX := Lib.hid (fun a b c => HAT.out.next HS.out hkl a b c)
        generalize hlk : l[k] = t at *
        have HTK := Lib.hid hlk
        clear hlk
        have hdw := Lib.hid (fun nq => below_drewN (Below.refl wr.heap.size wr) nq)
        by_cases t1 : t < 2
        · have d1 : decide (t < 2) = true := decide_eq_true t1
          have HD : Hid (D = false) := Lib.hid (HBAD.out (.inl (by omega)))
          go_wp2
          go_big_quiet (fail)
          go_wp2
          go_ret
          exact ⟨by rw [HD.out]; rfl, below_drewN HB.out _⟩
        by_cases t2 : 31 < t
        · have HD : Hid (D = false) := Lib.hid (HBAD.out (.inl (by omega)))
          have d1 : decide (t < 2) = false := decide_eq_false t1
          have d2 : decide (31 < t) = true := decide_eq_true t2
          go_wp2
          go_big_quiet (fail)
          go_wp2
          go_ret
          exact ⟨by rw [HD.out]; rfl, below_drewN HB.out _⟩
        have t12 := Lib.hid (show 2 ≤ t ∧ t < 32 by omega)
        have d1 : decide (t < 2) = false := decide_eq_false t1
        have d2 : decide (31 < t) = false := decide_eq_false t2
        by_cases t3 : t = s
        · have HD : Hid (D = false) := Lib.hid (HBAD.out (.inr (.inl t3)))
          have e3 : (t == s) = true := by rw [beq_iff_eq]; exact t3
          clear t3
          go_wp2
          go_big_quiet (fail)
          go_wp2
          go_ret
          exact ⟨by rw [HD.out]; rfl, below_drewN HB.out _⟩
        have e3 : (t == s) = false := by rw [beq_eq_false_iff_ne]; exact t3
        have T3 := Lib.hid t3
        clear t3
        have hk31 : decide ((31 : Int) ≤ (k : Int)) = false := decide_eq_false (by omega)
        clear t1 t2
        go_wp2
        go_big_quiet (fail)
        rename_i nq
        have HX2 := Lib.hid (HX.out.below (hdw.out nq) HX.out.lt)
        have HB2 := Lib.hid (below_drewN HB.out nq)
        clear HX HB q2 q3 hcell hdw
        generalize wr.drewN nq = wo at *
        go_wp2
        go_loopw [4] (fun i wl => ∃ j : Nat, i = .int .i64 (j : Int) ∧ j ≤ k ∧ Hid (¬ t ∈ l.take j) ∧ Hid (Box4 wl w.heap.size (.int .i64 g) (.int .i64 b) (.int .i64 s) (.slice (some ⟨G, o, none⟩) L c)) ∧ Hid (Below w.heap.size w wl)) (fun i _ => k - (intOf i).toNat)
        case atStart => exact ⟨0, rfl, by omega, Lib.hid (by simp), HX2, HB2⟩
        case round =>
          obtain ⟨j, rfl, hj, HNI, HX3, HB3⟩ := hrel
          have q3 := HX3.out.c3
          by_cases hjk : j < k
          · have hjl : j < l.length := by omega
            have c1 := (HK.out.below HB3.out (Nat.le_refl _)).at j hjl
            have c2 := (HK.out.below HB3.out (Nat.le_refl _)).at k hkl
            rw [HTK.out] at c2
            have hmem : t ∈ l.take (j + 1) ↔ (t ∈ l.take j ∨ t = l[j]) := by rw [List.take_succ_eq_append_getElem hjl, List.mem_append, List.mem_singleton]
            have hin : l[j] ∈ l.take k := by
              have h9 : (l.take k)[j]'(by rw [List.length_take]; omega) = l[j] := List.getElem_take
              rw [← h9]; exact List.getElem_mem _
            have HM1 := Lib.hid hmem
            have HM2 := Lib.hid hin
            clear hmem hin
            generalize l[j] = x at *
            by_cases hxt : x = t
            · have e4 : (x == t) = true := by rw [beq_iff_eq]; exact hxt
              have HD : Hid (D = false) := Lib.hid (HBAD.out (.inr (.inr (by rw [← hxt]; exact HM2.out))))
              clear hxt
              go_wp2
              go_big_quiet (fail)
              go_wp2
              go_ret
              exact ⟨by rw [HD.out]; rfl, below_drewN HB3.out _⟩
            · have e4 : (x == t) = false := by rw [beq_eq_false_iff_ne]; exact hxt
              have HN2 : Hid (¬ t ∈ l.take (j + 1)) := Lib.hid (fun e => by
                rcases HM1.out.1 e with h | h
                · exact HNI.out h
                · exact hxt h.symm)
              have hdw3 := Lib.hid (fun nq => below_drewN (Below.refl wr.heap.size wr) nq)
              have HX4 := Lib.hid (fun nq => HX3.out.below (hdw3.out nq) HX3.out.lt)
              clear hxt
              go_wp2
              go_big_quiet (fail)
              skip
              go_wp2
              go_roundw
              case rel => exact ⟨j + 1, by go_num, by omega, HN2, Lib.hid (HX4.out _), Lib.hid (below_drewN HB3.out _)⟩
              case measure => simp [intOf]; omega
          · obtain rfl : j = k := by omega
            have HA2 := Lib.hid (HNX.out t12.out T3.out HNI.out)
            go_wp2
            go_roundw
            case rel => exact ⟨j + 1, by go_num, by omega, HA2, HX3, HB3⟩
            case measure => simp [intOf]; omega
      · have HD : Hid (D = true) := Lib.hid (by
          have e : k = l.length := by have := HL.out; omega
          have := HAT.out
          rw [e] at this
          exact HDD.out.symm.trans this.fin)
        go_wp2
        go_ret
        exact ⟨by rw [HD.out]; rfl, HB.out⟩
end Go.Proofs.YtpcpbdcdapmlnaaDoor
