/- The contracts of All and Last. -/
import Derived.Test.YtioflicmpnkfeaaGreatWt
import Derived.Test.YtioflicmpnkfeaaGreatRp
import Derived.Maps.AppendAt
namespace Go.Proofs.YtioflicmpnkfeaaGreat
open Go.RowKit
/-- What All comes to, behind others. -/
def alk {α : Type} (pk : Vl → α × Bool) (num : Int) : List Gf → List α → List α × Nat
  | [], acc => (acc, 0)
  | f :: r, acc => if f.n = num then (if (pk f.v).2 = true then alk pk num r (acc ++ [(pk f.v).1]) else ([], 4)) else alk pk num r acc
theorem alk_len {α : Type} (pk : Vl → α × Bool) (num : Int) : ∀ (l : List Gf) (acc : List α), (alk pk num l acc).1.length ≤ acc.length + l.length
  | [], acc => by simp [alk]
  | f :: r, acc => by
    rw [alk]
    split
    · split
      · have := alk_len pk num r (acc ++ [(pk f.v).1])
        rw [List.length_append, List.length_singleton] at this
        rw [List.length_cons]
        omega
      · simp
    · have := alk_len pk num r acc
      rw [List.length_cons]
      omega
/-- What Last answers. -/
def lst {α : Type} (d : α) (x : List α × Nat) : α × Bool × Nat := if x.2 = 0 then (match x.1.getLast? with | none => (d, false, 0) | some a => (a, true, 0)) else (d, false, x.2)
theorem cells_new11 (W : World) (o : Obj) (x : Value) (t : TypeId) : ∀ j u, [x][j]? = some u → ((W.alloc o).alloc (.cells #[x] t)).cell? ((⟨W.heap.size + 1, 0, none⟩ : Addr).add j) = some u := by
  intro j u hj
  have hadd : (⟨W.heap.size + 1, 0, none⟩ : Addr).add j = ⟨W.heap.size + 1, j, none⟩ := by unfold Addr.add; split <;> simp_all
  rw [hadd, show W.heap.size + 1 = (W.alloc o).heap.size by simp, World.cell?_alloc_mark]
  match j, hj with
  | 0, hj => exact hj
theorem one1 {x : Value} (h : x.oneCell' = true) : ∀ u ∈ [x], u.oneCell' = true := by
  intro u hu
  rcases List.mem_singleton.1 hu with rfl
  exact h
/-- What a call tells that gathers values of one cell. -/
def TellsA (w : World) (E : TypeId) (xs : List Value) (k : Nat) (e : Ending) (w' : World) : Prop := ∃ v, e = .returned (.tuple #[v, .int .i64 (k : Int)]) ∧ w'.ownsRow w.heap.size E 1 v xs.length xs ∧ Below w.heap.size w w'
theorem Tryz.info84 : (Tryz.prog.info? 84).map (fun i => (i.zero, i.size, i.bytes)) = some (some (.int .u64 0), 1, 8) := by kernel_rfl
theorem Tryz.info86 : (Tryz.prog.info? 86).map (fun i => (i.zero, i.size, i.bytes)) = some (some (.int .u64 0), 1, 8) := by kernel_rfl
theorem Tryz.info101 : (Tryz.prog.info? 101).map (fun i => (i.zero, i.size, i.bytes)) = some (some (.int .u32 0), 1, 4) := by kernel_rfl
theorem Tryz.info59 : (Tryz.prog.info? 59).map (fun i => (i.zero, i.size, i.bytes)) = some (some (.string ⟨#[]⟩), 1, 16) := by kernel_rfl
set_option maxRecDepth 100000 in
set_option maxHeartbeats 2000000 in
theorem all_asV (l : List Gf) (hl : l.length ≤ 1000000) (num : Int) (v : Value) (w : World) (hv : GAt w v l) :
    Calls Tryz.prog 88 #[v, .int .i64 num] w (TellsA w 84 ((alk asV num l []).1.map (fun x : Nat => (.int .u64 (x : Int) : Value))) (alk asV num l []).2) := by
  obtain ⟨i0, hi, hz0, hz1, hz2⟩ := info_parts Tryz.info84
  have HV := Lib.hid hv
  obtain ⟨va, vc, hv2⟩ := hv.slice
  clear hv
  generalize hL : l.length = L at *
  have HL := Lib.hid hL
  clear hL
  subst hv2
  obtain ⟨M, K, hMK⟩ : ∃ M K, alk asV num l [] = (M, K) := ⟨_, _, rfl⟩
  rw [hMK]
  have HMK := Lib.hid hMK
  clear hMK
  dsimp only
  go_enter Tryz.func88, Tryz.ntmps88
  go_wp2
  go_loopw [6, 13] (fun u i wr => ∃ (k : Nat) (acc : List Nat) (cs : List Value), i = .int .i64 (k : Int) ∧ k ≤ L ∧ Hid (acc.map (fun x : Nat => (.int .u64 (x : Int) : Value)) = cs) ∧ cs.length ≤ k ∧ Hid (alk asV num (l.drop k) acc = (M, K)) ∧ Hid (wr.ownsRow w.heap.size 84 1 u cs.length cs) ∧ Hid (Below w.heap.size w wr)) (fun _ i _ => L - (intOf i).toNat)
  case atStart => exact ⟨0, [], [], rfl, by omega, Lib.hid rfl, by simp, HMK, Lib.hid (World.ownsRow_nil _ _ _ _), Lib.hid (Below.refl _ _)⟩
  case round =>
    obtain ⟨k, acc, cs, rfl, hk, HCS, hcl, HE, HO, HB⟩ := hrel
    obtain ⟨ua, uc, hu⟩ := ownsRow_shape HO.out
    subst hu
    have HSZ : Hid (w.heap.size ≤ wr.heap.size) := Lib.hid HB.out.size
    by_cases hlt : k < L
    · have hkl : k < l.length := by have := HL.out; omega
      rcases (HV.out.below HB.out (Nat.le_refl _)) with ⟨h0, _⟩ | ⟨g, og, cg, hg, hcs⟩
      · have := HL.out; rw [h0] at this; simp at this; omega
      obtain ⟨q0, q1⟩ := hcs k hkl
      clear hcs
      have hrun := HE.out
      rw [List.drop_eq_getElem_cons hkl, alk] at hrun
      generalize l[k] = f at *
      have hS := f.v.st
      have HA := Lib.hid (fun W => asV_any f.v W)
      cases hg
      by_cases hn : f.n = num
      · rw [if_pos hn] at hrun
        have hnn : (f.n != num) = false := by rw [hn]; simp
        cases hb : (asV f.v).2 with
        | true =>
          rw [hb] at HA hrun
          rw [if_pos rfl] at hrun
          have HRN := Lib.hid hrun
          have HCS2 : Hid ((acc ++ [(asV f.v).1]).map (fun x : Nat => (.int .u64 (x : Int) : Value)) = cs ++ [.int .u64 ((asV f.v).1 : Int)]) := Lib.hid (by rw [List.map_append, HCS.out]; rfl)
          have HLN : Hid ((cs ++ [(.int .u64 ((asV f.v).1 : Int) : Value)]).length = cs.length + 1) := Lib.hid (by simp)
          clear hrun hb hn
          generalize (asV f.v).1 = x at *
          generalize (x : Int) = X at *
          generalize f.v.v = V at *
          generalize f.n = n at *
          go_wp2_with (first
            | (go_at_call 94; refine (HA.out _).mono ?_; rintro e w' ⟨rfl, rfl⟩)
            | (at_builtin; refine wpList_append_own_at _ rfl (.tmp 29) (.tmp 31) 156 rfl w.heap.size 84 i0 _ 1 8 Tryz.underlying156 hi hz0 hz1 hz2 (by rfl) (by decide) (.slice ua cs.length uc) cs.length cs rfl (World.ownsRow.alloc (World.ownsRow.alloc HO.out _) _) ⟨wr.heap.size + 1, 0, none⟩ 1 1 [.int .u64 X] rfl rfl (cells_new11 _ _ _ _) (one1 rfl) (by unfold maxLen; omega) (by omega) (by have := HSZ.out; simp; omega) ?_; intro v' w6 hown' hgrow hnil hloc; have HON := Lib.hid hown'; have HB6 := Lib.hid (((HB.out.alloc HB.out.size (.cells #[.int .i64 n, V] 63)).alloc (by have := HSZ.out; simp; omega) (.cells #[.int .u64 X] 84)).grown hgrow (by have := HSZ.out; simp; omega) (fun g hg => (own_lt HO.out g hg).1)); clear hown' hgrow hnil hloc))
          go_roundw
          case rel => exact ⟨k + 1, _, _, by go_num, by omega, HCS2, by have := HLN.out; omega, HRN, Lib.hid (by rw [HLN.out]; exact HON.out), HB6⟩
          case measure => simp [intOf]; omega
        | false =>
          rw [hb] at HA hrun
          rw [if_neg (by simp)] at hrun
          simp only [Prod.mk.injEq] at hrun
          obtain ⟨rfl, rfl⟩ := hrun
          have HB1 := Lib.hid (HB.out.alloc HB.out.size (.cells #[.int .i64 f.n, f.v.v] 63))
          clear hb hn
          generalize (asV f.v).1 = x at *
          generalize (x : Int) = X at *
          generalize f.v.v = V at *
          generalize f.n = n at *
          go_wp2_with (go_at_call 94; refine (HA.out _).mono ?_; rintro e w' ⟨rfl, rfl⟩)
          go_ret2
          exact ⟨_, rfl, World.ownsRow_nil _ _ _ _, HB1.out⟩
      · rw [if_neg hn] at hrun
        have hnn : (f.n != num) = true := by rw [bne_iff_ne]; exact hn
        have HRN := Lib.hid hrun
        have HO1 := Lib.hid (World.ownsRow.alloc HO.out (.cells #[.int .i64 f.n, f.v.v] 63))
        have HB1 := Lib.hid (HB.out.alloc HB.out.size (.cells #[.int .i64 f.n, f.v.v] 63))
        clear hrun hn HA
        generalize f.v.v = V at *
        generalize f.n = n at *
        go_wp2
        go_roundw
        case rel => exact ⟨k + 1, acc, cs, by go_num, by omega, HCS, by omega, HRN, HO1, HB1⟩
        case measure => simp [intOf]; omega
    · obtain rfl : k = L := by omega
      have hr := HE.out
      rw [List.drop_of_length_le (by have := HL.out; omega), alk] at hr
      simp only [Prod.mk.injEq] at hr
      obtain ⟨rfl, rfl⟩ := hr
      go_wp2
      go_ret2
      refine ⟨_, rfl, ?_, HB.out⟩
      rw [HCS.out]
      exact HO.out
set_option maxRecDepth 100000 in
set_option maxHeartbeats 1000000 in
theorem last_asV (l : List Gf) (hl : l.length ≤ 1000000) (num : Int) (v : Value) (w : World) (hv : GAt w v l) :
    Calls Tryz.prog 83 #[v, .int .i64 num] w (Ret w (.tuple #[.int .u64 ((lst 0 (alk asV num l [])).1 : Int), .bool (lst 0 (alk asV num l [])).2.1, .int .i64 ((lst 0 (alk asV num l [])).2.2 : Int)])) := by
  have HA := Lib.hid (all_asV l hl num v w hv)
  obtain ⟨M, K, hMK⟩ : ∃ M K, alk asV num l [] = (M, K) := ⟨_, _, rfl⟩
  have hMl := alk_len asV num l []
  rw [hMK] at HA hMl ⊢
  dsimp only at hMl
  clear hMK hv
  dsimp only at HA
  unfold lst
  dsimp only
  by_cases hK : K = 0
  · subst hK
    rw [if_pos rfl]
    rcases List.eq_nil_or_concat M with rfl | ⟨M0, x, rfl⟩
    · go_enter Tryz.func83, Tryz.ntmps83
      go_wp2_with fail
      refine HA.out.mono ?_
      rintro e w1 ⟨v1, rfl, ho1, hb1⟩
      obtain ⟨a1, c1, hv1⟩ := ownsRow_shape ho1
      rw [List.map_nil, List.length_nil] at hv1
      subst hv1
      have HB1 := Lib.hid hb1
      clear ho1 hb1
      go_wp2
      go_ret3
      exact ⟨rfl, HB1.out⟩
    · rw [List.concat_eq_append, List.getLast?_append]
      dsimp only [List.getLast?_singleton, Option.some_or]
      have hml : ((M0.concat x).map (fun x : Nat => (.int .u64 (x : Int) : Value))).length = M0.length + 1 := by simp
      have hmx : ((M0.concat x).map (fun x : Nat => (.int .u64 (x : Int) : Value)))[M0.length]? = some (.int .u64 (x : Int)) := by simp
      generalize (M0.concat x).map (fun x : Nat => (.int .u64 (x : Int) : Value)) = cs at *
      have hMl2 : M0.length + 1 ≤ 1000000 := by simp at hMl; omega
      clear hMl
      generalize M0.length = J at *
      go_enter Tryz.func83, Tryz.ntmps83
      go_wp2_with fail
      refine HA.out.mono ?_
      rintro e w1 ⟨v1, rfl, ho1, hb1⟩
      rcases ho1.2 with ⟨-, hn⟩ | ⟨g, cap, cur, hv1, _⟩
      · rw [hml] at hn; omega
      subst hv1
      have ho2 : w1.ownsRow w.heap.size 84 1 (.slice (some ⟨g, 0, none⟩) cs.length cap) cs.length cs := ho1
      have hcj := ho2.cellAt J (by rw [hml]; omega)
      clear ho2
      have hc : w1.cell? ⟨g, J, none⟩ = some (.int .u64 (x : Int)) := by rw [← hmx]; exact hcj
      rw [hml]
      have HB1 := Lib.hid hb1
      have hJ : ((J + 1 : Nat) : Int) - 1 = (J : Int) := by omega
      have hJ0 : (((J + 1 : Nat) : Int) == 0) = false := by rw [beq_eq_false_iff_ne]; omega
      have hJ1 : J < J + 1 := by omega
      clear ho1 hb1 hcj hmx
      obtain ⟨Z, hZ⟩ : ∃ Z, J + 1 = Z := ⟨_, rfl⟩
      rw [hZ] at hJ hJ0 hJ1 hml hMl2 ⊢
      clear hZ
      go_wp2
      go_ret3
      exact ⟨rfl, HB1.out⟩
  · rw [if_neg hK]
    have hk : ((K : Int) != 0) = true := by rw [bne_iff_ne]; omega
    clear hK
    go_enter Tryz.func83, Tryz.ntmps83
    go_wp2_with fail
    refine HA.out.mono ?_
    rintro e w1 ⟨v1, rfl, ho1, hb1⟩
    have HB1 := Lib.hid hb1
    clear ho1 hb1
    go_wp2
    go_ret3
    exact ⟨rfl, HB1.out⟩
set_option maxRecDepth 100000 in
set_option maxHeartbeats 2000000 in
theorem all_asE (l : List Gf) (hl : l.length ≤ 1000000) (num : Int) (v : Value) (w : World) (hv : GAt w v l) :
    Calls Tryz.prog 87 #[v, .int .i64 num] w (TellsA w 86 ((alk asE num l []).1.map (fun x : Nat => (.int .u64 (x : Int) : Value))) (alk asE num l []).2) := by
  obtain ⟨i0, hi, hz0, hz1, hz2⟩ := info_parts Tryz.info86
  have HV := Lib.hid hv
  obtain ⟨va, vc, hv2⟩ := hv.slice
  clear hv
  generalize hL : l.length = L at *
  have HL := Lib.hid hL
  clear hL
  subst hv2
  obtain ⟨M, K, hMK⟩ : ∃ M K, alk asE num l [] = (M, K) := ⟨_, _, rfl⟩
  rw [hMK]
  have HMK := Lib.hid hMK
  clear hMK
  dsimp only
  go_enter Tryz.func87, Tryz.ntmps87
  go_wp2
  go_loopw [6, 13] (fun u i wr => ∃ (k : Nat) (acc : List Nat) (cs : List Value), i = .int .i64 (k : Int) ∧ k ≤ L ∧ Hid (acc.map (fun x : Nat => (.int .u64 (x : Int) : Value)) = cs) ∧ cs.length ≤ k ∧ Hid (alk asE num (l.drop k) acc = (M, K)) ∧ Hid (wr.ownsRow w.heap.size 86 1 u cs.length cs) ∧ Hid (Below w.heap.size w wr)) (fun _ i _ => L - (intOf i).toNat)
  case atStart => exact ⟨0, [], [], rfl, by omega, Lib.hid rfl, by simp, HMK, Lib.hid (World.ownsRow_nil _ _ _ _), Lib.hid (Below.refl _ _)⟩
  case round =>
    obtain ⟨k, acc, cs, rfl, hk, HCS, hcl, HE, HO, HB⟩ := hrel
    obtain ⟨ua, uc, hu⟩ := ownsRow_shape HO.out
    subst hu
    have HSZ : Hid (w.heap.size ≤ wr.heap.size) := Lib.hid HB.out.size
    by_cases hlt : k < L
    · have hkl : k < l.length := by have := HL.out; omega
      rcases (HV.out.below HB.out (Nat.le_refl _)) with ⟨h0, _⟩ | ⟨g, og, cg, hg, hcs⟩
      · have := HL.out; rw [h0] at this; simp at this; omega
      obtain ⟨q0, q1⟩ := hcs k hkl
      clear hcs
      have hrun := HE.out
      rw [List.drop_eq_getElem_cons hkl, alk] at hrun
      generalize l[k] = f at *
      have hS := f.v.st
      have HA := Lib.hid (fun W => asE_any f.v W)
      cases hg
      by_cases hn : f.n = num
      · rw [if_pos hn] at hrun
        have hnn : (f.n != num) = false := by rw [hn]; simp
        cases hb : (asE f.v).2 with
        | true =>
          rw [hb] at HA hrun
          rw [if_pos rfl] at hrun
          have HRN := Lib.hid hrun
          have HCS2 : Hid ((acc ++ [(asE f.v).1]).map (fun x : Nat => (.int .u64 (x : Int) : Value)) = cs ++ [.int .u64 ((asE f.v).1 : Int)]) := Lib.hid (by rw [List.map_append, HCS.out]; rfl)
          have HLN : Hid ((cs ++ [(.int .u64 ((asE f.v).1 : Int) : Value)]).length = cs.length + 1) := Lib.hid (by simp)
          clear hrun hb hn
          generalize (asE f.v).1 = x at *
          generalize (x : Int) = X at *
          generalize f.v.v = V at *
          generalize f.n = n at *
          go_wp2_with (first
            | (go_at_call 93; refine (HA.out _).mono ?_; rintro e w' ⟨rfl, rfl⟩)
            | (at_builtin; refine wpList_append_own_at _ rfl (.tmp 29) (.tmp 31) 153 rfl w.heap.size 86 i0 _ 1 8 Tryz.underlying153 hi hz0 hz1 hz2 (by rfl) (by decide) (.slice ua cs.length uc) cs.length cs rfl (World.ownsRow.alloc (World.ownsRow.alloc HO.out _) _) ⟨wr.heap.size + 1, 0, none⟩ 1 1 [.int .u64 X] rfl rfl (cells_new11 _ _ _ _) (one1 rfl) (by unfold maxLen; omega) (by omega) (by have := HSZ.out; simp; omega) ?_; intro v' w6 hown' hgrow hnil hloc; have HON := Lib.hid hown'; have HB6 := Lib.hid (((HB.out.alloc HB.out.size (.cells #[.int .i64 n, V] 63)).alloc (by have := HSZ.out; simp; omega) (.cells #[.int .u64 X] 86)).grown hgrow (by have := HSZ.out; simp; omega) (fun g hg => (own_lt HO.out g hg).1)); clear hown' hgrow hnil hloc))
          go_roundw
          case rel => exact ⟨k + 1, _, _, by go_num, by omega, HCS2, by have := HLN.out; omega, HRN, Lib.hid (by rw [HLN.out]; exact HON.out), HB6⟩
          case measure => simp [intOf]; omega
        | false =>
          rw [hb] at HA hrun
          rw [if_neg (by simp)] at hrun
          simp only [Prod.mk.injEq] at hrun
          obtain ⟨rfl, rfl⟩ := hrun
          have HB1 := Lib.hid (HB.out.alloc HB.out.size (.cells #[.int .i64 f.n, f.v.v] 63))
          clear hb hn
          generalize (asE f.v).1 = x at *
          generalize (x : Int) = X at *
          generalize f.v.v = V at *
          generalize f.n = n at *
          go_wp2_with (go_at_call 93; refine (HA.out _).mono ?_; rintro e w' ⟨rfl, rfl⟩)
          go_ret2
          exact ⟨_, rfl, World.ownsRow_nil _ _ _ _, HB1.out⟩
      · rw [if_neg hn] at hrun
        have hnn : (f.n != num) = true := by rw [bne_iff_ne]; exact hn
        have HRN := Lib.hid hrun
        have HO1 := Lib.hid (World.ownsRow.alloc HO.out (.cells #[.int .i64 f.n, f.v.v] 63))
        have HB1 := Lib.hid (HB.out.alloc HB.out.size (.cells #[.int .i64 f.n, f.v.v] 63))
        clear hrun hn HA
        generalize f.v.v = V at *
        generalize f.n = n at *
        go_wp2
        go_roundw
        case rel => exact ⟨k + 1, acc, cs, by go_num, by omega, HCS, by omega, HRN, HO1, HB1⟩
        case measure => simp [intOf]; omega
    · obtain rfl : k = L := by omega
      have hr := HE.out
      rw [List.drop_of_length_le (by have := HL.out; omega), alk] at hr
      simp only [Prod.mk.injEq] at hr
      obtain ⟨rfl, rfl⟩ := hr
      go_wp2
      go_ret2
      refine ⟨_, rfl, ?_, HB.out⟩
      rw [HCS.out]
      exact HO.out
set_option maxRecDepth 100000 in
set_option maxHeartbeats 1000000 in
theorem last_asE (l : List Gf) (hl : l.length ≤ 1000000) (num : Int) (v : Value) (w : World) (hv : GAt w v l) :
    Calls Tryz.prog 82 #[v, .int .i64 num] w (Ret w (.tuple #[.int .u64 ((lst 0 (alk asE num l [])).1 : Int), .bool (lst 0 (alk asE num l [])).2.1, .int .i64 ((lst 0 (alk asE num l [])).2.2 : Int)])) := by
  have HA := Lib.hid (all_asE l hl num v w hv)
  obtain ⟨M, K, hMK⟩ : ∃ M K, alk asE num l [] = (M, K) := ⟨_, _, rfl⟩
  have hMl := alk_len asE num l []
  rw [hMK] at HA hMl ⊢
  dsimp only at hMl
  clear hMK hv
  dsimp only at HA
  unfold lst
  dsimp only
  by_cases hK : K = 0
  · subst hK
    rw [if_pos rfl]
    rcases List.eq_nil_or_concat M with rfl | ⟨M0, x, rfl⟩
    · go_enter Tryz.func82, Tryz.ntmps82
      go_wp2_with fail
      refine HA.out.mono ?_
      rintro e w1 ⟨v1, rfl, ho1, hb1⟩
      obtain ⟨a1, c1, hv1⟩ := ownsRow_shape ho1
      rw [List.map_nil, List.length_nil] at hv1
      subst hv1
      have HB1 := Lib.hid hb1
      clear ho1 hb1
      go_wp2
      go_ret3
      exact ⟨rfl, HB1.out⟩
    · rw [List.concat_eq_append, List.getLast?_append]
      dsimp only [List.getLast?_singleton, Option.some_or]
      have hml : ((M0.concat x).map (fun x : Nat => (.int .u64 (x : Int) : Value))).length = M0.length + 1 := by simp
      have hmx : ((M0.concat x).map (fun x : Nat => (.int .u64 (x : Int) : Value)))[M0.length]? = some (.int .u64 (x : Int)) := by simp
      generalize (M0.concat x).map (fun x : Nat => (.int .u64 (x : Int) : Value)) = cs at *
      have hMl2 : M0.length + 1 ≤ 1000000 := by simp at hMl; omega
      clear hMl
      generalize M0.length = J at *
      go_enter Tryz.func82, Tryz.ntmps82
      go_wp2_with fail
      refine HA.out.mono ?_
      rintro e w1 ⟨v1, rfl, ho1, hb1⟩
      rcases ho1.2 with ⟨-, hn⟩ | ⟨g, cap, cur, hv1, _⟩
      · rw [hml] at hn; omega
      subst hv1
      have ho2 : w1.ownsRow w.heap.size 86 1 (.slice (some ⟨g, 0, none⟩) cs.length cap) cs.length cs := ho1
      have hcj := ho2.cellAt J (by rw [hml]; omega)
      clear ho2
      have hc : w1.cell? ⟨g, J, none⟩ = some (.int .u64 (x : Int)) := by rw [← hmx]; exact hcj
      rw [hml]
      have HB1 := Lib.hid hb1
      have hJ : ((J + 1 : Nat) : Int) - 1 = (J : Int) := by omega
      have hJ0 : (((J + 1 : Nat) : Int) == 0) = false := by rw [beq_eq_false_iff_ne]; omega
      have hJ1 : J < J + 1 := by omega
      clear ho1 hb1 hcj hmx
      obtain ⟨Z, hZ⟩ : ∃ Z, J + 1 = Z := ⟨_, rfl⟩
      rw [hZ] at hJ hJ0 hJ1 hml hMl2 ⊢
      clear hZ
      go_wp2
      go_ret3
      exact ⟨rfl, HB1.out⟩
  · rw [if_neg hK]
    have hk : ((K : Int) != 0) = true := by rw [bne_iff_ne]; omega
    clear hK
    go_enter Tryz.func82, Tryz.ntmps82
    go_wp2_with fail
    refine HA.out.mono ?_
    rintro e w1 ⟨v1, rfl, ho1, hb1⟩
    have HB1 := Lib.hid hb1
    clear ho1 hb1
    go_wp2
    go_ret3
    exact ⟨rfl, HB1.out⟩
set_option maxRecDepth 100000 in
set_option maxHeartbeats 2000000 in
theorem all_asT (l : List Gf) (hl : l.length ≤ 1000000) (num : Int) (v : Value) (w : World) (hv : GAt w v l) :
    Calls Tryz.prog 49 #[v, .int .i64 num] w (TellsA w 59 ((alk asT num l []).1.map (fun x : ByteArray => (.string x : Value))) (alk asT num l []).2) := by
  obtain ⟨i0, hi, hz0, hz1, hz2⟩ := info_parts Tryz.info59
  have HV := Lib.hid hv
  obtain ⟨va, vc, hv2⟩ := hv.slice
  clear hv
  generalize hL : l.length = L at *
  have HL := Lib.hid hL
  clear hL
  subst hv2
  obtain ⟨M, K, hMK⟩ : ∃ M K, alk asT num l [] = (M, K) := ⟨_, _, rfl⟩
  rw [hMK]
  have HMK := Lib.hid hMK
  clear hMK
  dsimp only
  go_enter Tryz.func49, Tryz.ntmps49
  go_wp2
  go_loopw [6, 13] (fun u i wr => ∃ (k : Nat) (acc : List ByteArray) (cs : List Value), i = .int .i64 (k : Int) ∧ k ≤ L ∧ Hid (acc.map (fun x : ByteArray => (.string x : Value)) = cs) ∧ cs.length ≤ k ∧ Hid (alk asT num (l.drop k) acc = (M, K)) ∧ Hid (wr.ownsRow w.heap.size 59 1 u cs.length cs) ∧ Hid (Below w.heap.size w wr)) (fun _ i _ => L - (intOf i).toNat)
  case atStart => exact ⟨0, [], [], rfl, by omega, Lib.hid rfl, by simp, HMK, Lib.hid (World.ownsRow_nil _ _ _ _), Lib.hid (Below.refl _ _)⟩
  case round =>
    obtain ⟨k, acc, cs, rfl, hk, HCS, hcl, HE, HO, HB⟩ := hrel
    obtain ⟨ua, uc, hu⟩ := ownsRow_shape HO.out
    subst hu
    have HSZ : Hid (w.heap.size ≤ wr.heap.size) := Lib.hid HB.out.size
    by_cases hlt : k < L
    · have hkl : k < l.length := by have := HL.out; omega
      rcases (HV.out.below HB.out (Nat.le_refl _)) with ⟨h0, _⟩ | ⟨g, og, cg, hg, hcs⟩
      · have := HL.out; rw [h0] at this; simp at this; omega
      obtain ⟨q0, q1⟩ := hcs k hkl
      clear hcs
      have hrun := HE.out
      rw [List.drop_eq_getElem_cons hkl, alk] at hrun
      generalize l[k] = f at *
      have hS := f.v.st
      have HA := Lib.hid (fun W => asT_any f.v W)
      cases hg
      by_cases hn : f.n = num
      · rw [if_pos hn] at hrun
        have hnn : (f.n != num) = false := by rw [hn]; simp
        cases hb : (asT f.v).2 with
        | true =>
          rw [hb] at HA hrun
          rw [if_pos rfl] at hrun
          have HRN := Lib.hid hrun
          have HCS2 : Hid ((acc ++ [(asT f.v).1]).map (fun x : ByteArray => (.string x : Value)) = cs ++ [.string (asT f.v).1]) := Lib.hid (by rw [List.map_append, HCS.out]; rfl)
          have HLN : Hid ((cs ++ [(.string (asT f.v).1 : Value)]).length = cs.length + 1) := Lib.hid (by simp)
          clear hrun hb hn
          generalize (asT f.v).1 = x at *
          generalize f.v.v = V at *
          generalize f.n = n at *
          go_wp2_with (first
            | (go_at_call 59; refine (HA.out _).mono ?_; rintro e w' ⟨rfl, rfl⟩)
            | (at_builtin; refine wpList_append_own_at _ rfl (.tmp 29) (.tmp 31) 90 rfl w.heap.size 59 i0 _ 1 16 Tryz.underlying90 hi hz0 hz1 hz2 (by rfl) (by decide) (.slice ua cs.length uc) cs.length cs rfl (World.ownsRow.alloc (World.ownsRow.alloc HO.out _) _) ⟨wr.heap.size + 1, 0, none⟩ 1 1 [.string x] rfl rfl (cells_new11 _ _ _ _) (one1 rfl) (by unfold maxLen; omega) (by omega) (by have := HSZ.out; simp; omega) ?_; intro v' w6 hown' hgrow hnil hloc; have HON := Lib.hid hown'; have HB6 := Lib.hid (((HB.out.alloc HB.out.size (.cells #[.int .i64 n, V] 63)).alloc (by have := HSZ.out; simp; omega) (.cells #[.string x] 59)).grown hgrow (by have := HSZ.out; simp; omega) (fun g hg => (own_lt HO.out g hg).1)); clear hown' hgrow hnil hloc))
          go_roundw
          case rel => exact ⟨k + 1, _, _, by go_num, by omega, HCS2, by have := HLN.out; omega, HRN, Lib.hid (by rw [HLN.out]; exact HON.out), HB6⟩
          case measure => simp [intOf]; omega
        | false =>
          rw [hb] at HA hrun
          rw [if_neg (by simp)] at hrun
          simp only [Prod.mk.injEq] at hrun
          obtain ⟨rfl, rfl⟩ := hrun
          have HB1 := Lib.hid (HB.out.alloc HB.out.size (.cells #[.int .i64 f.n, f.v.v] 63))
          clear hb hn
          generalize (asT f.v).1 = x at *
          generalize f.v.v = V at *
          generalize f.n = n at *
          go_wp2_with (go_at_call 59; refine (HA.out _).mono ?_; rintro e w' ⟨rfl, rfl⟩)
          go_ret2
          exact ⟨_, rfl, World.ownsRow_nil _ _ _ _, HB1.out⟩
      · rw [if_neg hn] at hrun
        have hnn : (f.n != num) = true := by rw [bne_iff_ne]; exact hn
        have HRN := Lib.hid hrun
        have HO1 := Lib.hid (World.ownsRow.alloc HO.out (.cells #[.int .i64 f.n, f.v.v] 63))
        have HB1 := Lib.hid (HB.out.alloc HB.out.size (.cells #[.int .i64 f.n, f.v.v] 63))
        clear hrun hn HA
        generalize f.v.v = V at *
        generalize f.n = n at *
        go_wp2
        go_roundw
        case rel => exact ⟨k + 1, acc, cs, by go_num, by omega, HCS, by omega, HRN, HO1, HB1⟩
        case measure => simp [intOf]; omega
    · obtain rfl : k = L := by omega
      have hr := HE.out
      rw [List.drop_of_length_le (by have := HL.out; omega), alk] at hr
      simp only [Prod.mk.injEq] at hr
      obtain ⟨rfl, rfl⟩ := hr
      go_wp2
      go_ret2
      refine ⟨_, rfl, ?_, HB.out⟩
      rw [HCS.out]
      exact HO.out
set_option maxRecDepth 100000 in
set_option maxHeartbeats 1000000 in
theorem last_asT (l : List Gf) (hl : l.length ≤ 1000000) (num : Int) (v : Value) (w : World) (hv : GAt w v l) :
    Calls Tryz.prog 78 #[v, .int .i64 num] w (Ret w (.tuple #[.string (lst ⟨#[]⟩ (alk asT num l [])).1, .bool (lst ⟨#[]⟩ (alk asT num l [])).2.1, .int .i64 ((lst ⟨#[]⟩ (alk asT num l [])).2.2 : Int)])) := by
  have HA := Lib.hid (all_asT l hl num v w hv)
  obtain ⟨M, K, hMK⟩ : ∃ M K, alk asT num l [] = (M, K) := ⟨_, _, rfl⟩
  have hMl := alk_len asT num l []
  rw [hMK] at HA hMl ⊢
  dsimp only at hMl
  clear hMK hv
  dsimp only at HA
  unfold lst
  dsimp only
  by_cases hK : K = 0
  · subst hK
    rw [if_pos rfl]
    rcases List.eq_nil_or_concat M with rfl | ⟨M0, x, rfl⟩
    · go_enter Tryz.func78, Tryz.ntmps78
      go_wp2_with fail
      refine HA.out.mono ?_
      rintro e w1 ⟨v1, rfl, ho1, hb1⟩
      obtain ⟨a1, c1, hv1⟩ := ownsRow_shape ho1
      rw [List.map_nil, List.length_nil] at hv1
      subst hv1
      have HB1 := Lib.hid hb1
      clear ho1 hb1
      go_wp2
      go_ret3
      exact ⟨rfl, HB1.out⟩
    · rw [List.concat_eq_append, List.getLast?_append]
      dsimp only [List.getLast?_singleton, Option.some_or]
      have hml : ((M0.concat x).map (fun x : ByteArray => (.string x : Value))).length = M0.length + 1 := by simp
      have hmx : ((M0.concat x).map (fun x : ByteArray => (.string x : Value)))[M0.length]? = some (.string x) := by simp
      generalize (M0.concat x).map (fun x : ByteArray => (.string x : Value)) = cs at *
      have hMl2 : M0.length + 1 ≤ 1000000 := by simp at hMl; omega
      clear hMl
      generalize M0.length = J at *
      go_enter Tryz.func78, Tryz.ntmps78
      go_wp2_with fail
      refine HA.out.mono ?_
      rintro e w1 ⟨v1, rfl, ho1, hb1⟩
      rcases ho1.2 with ⟨-, hn⟩ | ⟨g, cap, cur, hv1, _⟩
      · rw [hml] at hn; omega
      subst hv1
      have ho2 : w1.ownsRow w.heap.size 59 1 (.slice (some ⟨g, 0, none⟩) cs.length cap) cs.length cs := ho1
      have hcj := ho2.cellAt J (by rw [hml]; omega)
      clear ho2
      have hc : w1.cell? ⟨g, J, none⟩ = some (.string x) := by rw [← hmx]; exact hcj
      rw [hml]
      have HB1 := Lib.hid hb1
      have hJ : ((J + 1 : Nat) : Int) - 1 = (J : Int) := by omega
      have hJ0 : (((J + 1 : Nat) : Int) == 0) = false := by rw [beq_eq_false_iff_ne]; omega
      have hJ1 : J < J + 1 := by omega
      clear ho1 hb1 hcj hmx
      obtain ⟨Z, hZ⟩ : ∃ Z, J + 1 = Z := ⟨_, rfl⟩
      rw [hZ] at hJ hJ0 hJ1 hml hMl2 ⊢
      clear hZ
      go_wp2
      go_ret3
      exact ⟨rfl, HB1.out⟩
  · rw [if_neg hK]
    have hk : ((K : Int) != 0) = true := by rw [bne_iff_ne]; omega
    clear hK
    go_enter Tryz.func78, Tryz.ntmps78
    go_wp2_with fail
    refine HA.out.mono ?_
    rintro e w1 ⟨v1, rfl, ho1, hb1⟩
    have HB1 := Lib.hid hb1
    clear ho1 hb1
    go_wp2
    go_ret3
    exact ⟨rfl, HB1.out⟩
end Go.Proofs.YtioflicmpnkfeaaGreat
