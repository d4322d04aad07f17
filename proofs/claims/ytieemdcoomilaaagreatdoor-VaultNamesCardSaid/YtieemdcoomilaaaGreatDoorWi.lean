/- wipeOthers: the free tapes that have bytes are wiped. -/
import Derived.Test.YtieemdcoomilaaaGreatDoorDx
import Derived.Test.YtieemdcoomilaaaGreatDoorVc
import Derived.Test.YtieemdcoomilaaaGreatDoorOx
set_option linter.unusedVariables false
set_option linter.unusedSimpArgs false
namespace Go.Proofs.YtieemdcoomilaaaGreatDoor
open Go Go.RowKit Go.Sort
set_option maxRecDepth 100000
def hasB (d : Dk) (t : Int) : Bool := decide (0 < (readD d t).1.size)
def woL (d : Dk) (l : List Int) : List SF := (l.filter (hasB d)).map wiSt
theorem woL_snoc (d : Dk) (l : List Int) (t : Int) : woL d (l ++ [t]) = if hasB d t = true then woL d l ++ [wiSt t] else woL d l := by
  unfold woL
  rw [List.filter_append, List.map_append]
  cases h : hasB d t
  · rw [if_neg (by simp), List.filter_cons_of_neg (by rw [h]; simp)]; simp
  · rw [if_pos rfl, List.filter_cons_of_pos h]; rfl
theorem woL_len (d : Dk) (l : List Int) : (woL d l).length ≤ l.length := by unfold woL; rw [List.length_map]; exact List.length_filter_le _ _
set_option maxHeartbeats 1000000 in
theorem wipeOthers_any (V B mo : Nat) (x : VS) (w : World) (hx : VSt w V B mo x) : Calls Tryz.prog 45 #[.pointer (some ⟨V, 0, none⟩)] w (StD w V B mo (runS (woL x.1 (frL x.2.1 32)) x)) := by
  obtain ⟨v, hv⟩ := hx.v
  have con := hv.on
  have b2 := hv.g; have b3 := hv.b; have b4 := hv.s; have b5 := hv.l
  have HF := Lib.hid (free_any x.2.1 v w hv.k hv.len)
  have HV := Lib.hid hv
  have HX := Lib.hid hx
  have hVl := hx.lt
  have hBl := hx.d.lt
  have hfl := frL_len x.2.1 32
  obtain ⟨va, vc, hva⟩ := hv.k.slice
  obtain ⟨L0, hL0⟩ : ∃ L0, x.2.1.log.length = L0 := ⟨_, rfl⟩
  rw [hL0] at hva
  rw [hva] at b5
  have HF2 : Hid (Calls Tryz.prog 58 #[.agg #[.int .i64 x.2.1.gen, .int .i64 x.2.1.base, .int .i64 x.2.1.snap, .slice va L0 vc]] w (NRet w (frL x.2.1 32))) := Lib.hid (by have := HF.out; unfold hval at this; rw [hva] at this; exact this)
  have HS := Lib.hid (fun t W (hW : Below w.heap.size w W) => toWipe_any V B mo t W (Nat.lt_of_lt_of_le hBl hW.size) (Nat.lt_of_lt_of_le hVl hW.size))
  have HZ0 := Lib.hid (fun t W (hW : Below w.heap.size w W) => vsize_any V B mo x.2.1 x.2.2 v x.1 t W (HV.out.below hW (Nat.le_refl _)) (HX.out.d.below hW hBl))
  have HZL := Lib.hid (readD_le hx.ok)
  obtain ⟨i0, hi, hz0, hz1, hz2⟩ := info_parts info84
  clear hx hv hva hL0 HF
  generalize frL x.2.1 32 = l at *
  go_enter Tryz.func45, Tryz.ntmps45
  go_wp2_with fail
  refine HF2.out.mono ?_
  rintro e w1 ⟨u, rfl, hu, hb1⟩
  obtain ⟨ua, uc, hu2⟩ := hu.shape
  rw [List.length_map] at hu2
  obtain ⟨L, hL⟩ : ∃ L, l.length = L := ⟨_, rfl⟩
  rw [hL] at hu2 hfl
  subst hu2
  have HK := Lib.hid hu.kat'
  have HL := Lib.hid hL
  have HB1 := Lib.hid hb1
  have hsz1 := hb1.size
  clear hu hb1 hL
  go_wp2
  go_loopw [3, 12] (fun s i wl => ∃ (k : Nat), i = .int .i64 (k : Int) ∧ k ≤ L ∧ Hid (Below w.heap.size w wl) ∧ Hid (Below w1.heap.size w1 wl) ∧ Hid (Sts wl V B mo w1.heap.size s (woL x.1 (l.take k)))) (fun _ i _ => L - (intOf i).toNat)
  case atStart => exact ⟨0, rfl, by omega, HB1, Lib.hid (Below.refl _ _), Lib.hid (Sts.nil _ _ _ _ _)⟩
  case round =>
    obtain ⟨k, rfl, hk, HB, HC, HQ⟩ := hrel
    by_cases hlt : k < L
    · have hkl : k < l.length := by rw [HL.out]; exact hlt
      have hc := HK.out.below HC.out (Nat.le_refl _)
      obtain ⟨g, o, c, hg, -⟩ := hc.pos (fun e => by rw [e] at hkl; simp at hkl)
      cases hg
      have hc := hc.at k hkl
      have E1 : Hid (l.take (k + 1) = l.take k ++ [l[k]]) := Lib.hid (List.take_succ_eq_append_getElem hkl)
      generalize l[k] = t at *
      have HZ1 := Lib.hid (HZ0.out t wr HB.out)
      have E2 : Hid (woL x.1 (l.take (k + 1)) = if hasB x.1 t = true then woL x.1 (l.take k) ++ [wiSt t] else woL x.1 (l.take k)) := Lib.hid (by rw [E1.out, woL_snoc])
      have hzl := HZL.out t
      have hbs : hasB x.1 t = decide (0 < (readD x.1 t).1.size) := rfl
      generalize (readD x.1 t).1.size = Z at *
      cases hlb : hasB x.1 t
      · rw [hlb] at hbs E2
        have hz1' : decide (0 < (Z : Int)) = false := decide_eq_false (by have := of_decide_eq_false hbs.symm; omega)
        have E3 : Hid (woL x.1 (l.take (k + 1)) = woL x.1 (l.take k)) := Lib.hid (E2.out.trans (if_neg (by simp)))
        have hz3 := hbs.symm
        clear hlb E2 E1 hbs hzl
        go_wp2_with fail
        refine HZ1.out.mono ?_
        rintro e w2 ⟨rfl, rfl⟩
        go_wp2
        go_roundw
        case rel => exact ⟨k + 1, by go_num, by omega, HB, HC, Lib.hid (by rw [E3.out]; exact HQ.out)⟩
        case measure => simp [intOf]; omega
      · rw [hlb] at hbs E2
        have hz2' : decide (0 < (Z : Int)) = true := decide_eq_true (by have := of_decide_eq_true hbs.symm; omega)
        have E3 : Hid (woL x.1 (l.take (k + 1)) = woL x.1 (l.take k) ++ [wiSt t]) := Lib.hid (E2.out.trans (if_pos rfl))
        have hz3 := hbs.symm
        clear hlb E2 E1 hbs
        go_wp2_with fail
        refine HZ1.out.mono ?_
        rintro e w2 ⟨rfl, rfl⟩
        go_wp2_with fail
        refine (HS.out t wr HB.out).mono ?_
        rintro e w2 ⟨cl, bs, rfl, hst, hbs, hb2⟩
        have hn : ∀ b ∈ bs, ∀ s0 fs0, Sts wr V B mo w1.heap.size s0 fs0 → s0.ownBlock ≠ some b := fun b hb s0 fs0 ⟨_, _, y2, _⟩ e => by have := (y2.lt b e).2; have := hbs b hb; omega
        have HN := Lib.hid (fun b hb => hn b hb _ _ HQ.out)
        obtain ⟨Ls, q1, q2, q3⟩ := HQ.out.below hb2
        have HO1 := Lib.hid q2
        have HQ3 := Lib.hid (fun (o : Obj) => fun q hq => (⟨(q3 q hq).1.below (below_one w2 o), (q3 q hq).2⟩ : Stp (w2.alloc o) V B mo q.2.1 q.1 q.2.2 ∧ ∀ b ∈ q.2.1, _))
        have HST := Lib.hid (fun (o : Obj) => hst.below (below_one w2 o))
        have HZ := Lib.hid (show (Ls.map fun q => q.1.v).length ≤ 100 by rw [List.length_map]; have := congrArg List.length q1; rw [List.length_map] at this; rw [← this]; exact Nat.le_trans (woL_len _ _) (Nat.le_trans (List.length_take_le _ _) (by omega)))
        have HB2 := Lib.hid (below_trans' HB.out hb2)
        have HC2 := Lib.hid (below_trans' HC.out hb2)
        have HE4 : Hid (woL x.1 (l.take (k + 1)) = Ls.map (fun q => q.2.2) ++ [wiSt t]) := Lib.hid (by rw [E3.out, q1])
        clear hn q1 q2 q3 hst hbs hb2 HQ
        obtain ⟨F, fi, ca⟩ := cl
        unfold Clo.v
        generalize hLv : (Ls.map fun q => q.1.v) = LV at *
        have HLV := Lib.hid hLv
        clear hLv
        go_wp2_with (at_builtin; refine wpList_append_Own _ rfl (.tmp 20) (.tmp 24) 90 90 rfl w1.heap.size 84 i0 .nilFunc 8 Tryz.underlying90 hi hz0 hz1 hz2 rfl _ LV rfl (HO1.out.alloc _) _ 1 [.func (.func F) fi ca] rfl (Src.one w2 Tryz.underlying90 _ _ rfl) ?c1 ?c2 ?c3 ?_; rotate_right; intro v' w3 hown1 hgr hwh; have HO2 := Lib.hid hown1; have HG := Lib.hid hgr; have HH := Lib.hid hwh; clear hown1 hgr hwh)
        case c1 => have := HZ.out; omega
        case c2 => have := HZ.out; omega
        case c3 => exact Nat.le_trans HC2.out.size (by rw [World.size_alloc]; omega)
        have HQN : Hid (Sts w3 V B mo w1.heap.size v' (woL x.1 (l.take (k + 1)))) := Lib.hid (by
          rw [HE4.out]
          exact Sts.snoc (HQ3.out _) (HST.out _) HN.out (by rw [HLV.out]; exact HO2.out) HG.out HH.out)
        have HB3 := Lib.hid ((HB2.out.alloc HB2.out.size (.cells #[.func (.func F) fi ca] 84)).grown HG.out (Nat.le_trans HB2.out.size (by rw [World.size_alloc]; omega)) (fun q hq => by have := (HO1.out.lt q hq).1; omega))
        have HC3 := Lib.hid ((HC2.out.alloc HC2.out.size (.cells #[.func (.func F) fi ca] 84)).grown HG.out (Nat.le_trans HC2.out.size (by rw [World.size_alloc]; omega)) (fun q hq => (HO1.out.lt q hq).1))
        go_wp2
        go_roundw
        case rel => exact ⟨k + 1, by go_num, by omega, HB3, HC3, HQN⟩
        case measure => simp [intOf]; omega
    · obtain rfl : k = L := by omega
      have e2 : l.take k = l := by rw [← HL.out, List.take_length]
      rw [e2] at HQ
      have HF := Lib.hid (turn_sts (HX.out.below HB.out (Nat.le_refl _)) HQ.out (by omega) (by omega))
      clear e2
      go_wp2_with fail
      refine HF.out.mono ?_
      rintro e w4 ⟨rfl, hx4, hg4⟩
      have HX4 := Lib.hid hx4
      have HG4 := Lib.hid ((Gv.of_below HB.out B V).trans hg4)
      clear hx4 hg4
      go_wp2
      go_ret
      exact ⟨rfl, HX4.out, HG4.out⟩
end Go.Proofs.YtieemdcoomilaaaGreatDoor
namespace Go.Proofs.YtieemdcoomilaaaGreatDoor
open Go Go.RowKit Go.Sort
set_option maxRecDepth 100000
/-- A row of steps that was just built. -/
theorem Sts.lit {w : World} {V B mo base : Nat} (L : List Cq) (hb : base ≤ w.heap.size) (hl : L.length ≤ 1000) (h : ∀ q ∈ L, Stp w V B mo q.2.1 q.1 q.2.2) {A : Array Value} (hA : A = (L.map fun q => q.1.v).toArray) {fs : List SF} (hf : fs = L.map fun q => q.2.2) {n : Nat} (hn : n = L.length) :
    Sts (w.alloc (.cells A 84)) V B mo base (.slice (some ⟨w.heap.size, 0, none⟩) n n) fs := by
  subst hA hn
  have ho := Own.made w base 84 (L.map fun q => q.1.v) #[] hb (by rw [List.length_map]; show L.length + 0 ≤ maxLen; unfold maxLen; omega)
  rw [Array.append_empty, List.length_map] at ho
  refine ⟨L, hf, ho, fun q hq => ⟨(h q hq).below (below_one _ _), fun b hb e => ?_⟩⟩
  have h1 := ((h q hq).lt b hb).1
  have e1 : w.heap.size = b := Option.some.inj e
  omega
def fhS (x : VS) : VS × Nat := if (ldR x.1).2.2.2 = 0 ∧ (ldR x.1).2.2.1 = false then runS [wiSt 2, puSt Vt.hNew 0] x else ((x.1, (ldR x.1).1, x.2.2), (ldR x.1).2.2.2)
theorem VAt.setH {w : World} {V B mo : Nat} {h0 : He} {n : Nat} {v0 : Value} (a : VAt w V B mo h0 n v0) (h : He) (v : Value) (hk : KAt w v h.log) (hl : h.log.length ≤ 9223372036854775807) (hv : ∀ q, v.ownBlock = some q → q ≠ B ∧ q ≠ V) :
    VAt ((((w.setCell ⟨V, 2, none⟩ (.int .i64 h.gen)).setCell ⟨V, 3, none⟩ (.int .i64 h.base)).setCell ⟨V, 4, none⟩ (.int .i64 h.snap)).setCell ⟨V, 5, none⟩ v) V B mo h n v := by
  have s1 := set_at (.int .i64 h.gen) a.g
  have s2 := set_at (.int .i64 h.base) ((s1 3).trans ((if_neg (by decide)).trans a.b))
  have s3 := set_at (.int .i64 h.snap) ((s2 4).trans ((if_neg (by decide)).trans ((s1 4).trans ((if_neg (by decide)).trans a.s))))
  have s4 := set_at v ((s3 5).trans ((if_neg (by decide)).trans ((s2 5).trans ((if_neg (by decide)).trans ((s1 5).trans ((if_neg (by decide)).trans a.l))))))
  refine ⟨?_, ?_, ?_, ?_, ?_, ?_, ?_, fun j => by simp only [World.frozen?_setCell]; exact a.fz j, hk.same fun g hg e => ?_, hl, hv⟩
  · rw [s4, s3, s2, s1]; exact a.on
  · rw [s4, s3, s2, s1]; exact a.mo
  · rw [s4, s3, s2, s1]; rfl
  · rw [s4, s3, s2]; rfl
  · rw [s4, s3]; rfl
  · rw [s4]; rfl
  · rw [s4, s3, s2, s1]; exact a.n
  · have hn := (hv g e).2
    rw [Below.heap_setCell _ _ _ g hn, Below.heap_setCell _ _ _ g hn, Below.heap_setCell _ _ _ g hn, Below.heap_setCell _ _ _ g hn]
set_option maxHeartbeats 1000000 in
theorem findHead_any (V B mo : Nat) (x : VS) (w : World) (hx : VSt w V B mo x) : Calls Tryz.prog 44 #[.pointer (some ⟨V, 0, none⟩)] w (StD w V B mo (fhS x)) := by
  obtain ⟨v, hv⟩ := hx.v
  have con := hv.on
  have HX := Lib.hid hx
  have hVl := hx.lt
  have hBl := hx.d.lt
  have H := Lib.hid (load_any' B x.1 w hx.d hx.ok (Lib.hid hx.t))
  have HV := Lib.hid hv
  have HR : Hid (fhS x = if (ldR x.1).2.2.2 = 0 ∧ (ldR x.1).2.2.1 = false then runS [wiSt 2, puSt Vt.hNew 0] x else ((x.1, (ldR x.1).1, x.2.2), (ldR x.1).2.2.2)) := Lib.hid rfl
  clear hx hv
  generalize fhS x = R at *
  generalize ldR x.1 = X at *
  obtain ⟨y, t, b, r⟩ := X
  dsimp only at *
  by_cases hc : r = 0 ∧ b = false
  · obtain ⟨rfl, rfl⟩ := hc
    rw [if_pos ⟨rfl, rfl⟩] at HR
    have HS := Lib.hid (fun W (hW : Below w.heap.size w W) => toWipe_any V B mo 2 W (Nat.lt_of_lt_of_le hBl hW.size) (Nat.lt_of_lt_of_le hVl hW.size))
    go_enter Tryz.func44, Tryz.ntmps44
    go_wp2_with fail
    refine H.out.mono ?_
    rintro e w1 ⟨u, rfl, hw, hb⟩
    obtain ⟨va, vc, hv⟩ := hw.shape
    rw [List.length_map] at hv
    subst hv
    have HB := Lib.hid hb
    have HVv : Hid (hval y (.slice va y.log.length vc) = .agg #[.int .i64 y.gen, .int .i64 y.base, .int .i64 y.snap, .slice va y.log.length vc]) := Lib.hid rfl
    rw [HVv.out]
    have HB2 := Lib.hid (hb.alloc hb.size (.cells #[.int .i64 y.gen, .int .i64 y.base, .int .i64 y.snap, .slice va y.log.length vc] 40))
    clear hw hb
    go_wp2_with fail
    refine (HS.out _ HB2.out).mono ?_
    rintro e w2 ⟨c1, bs1, rfl, hst1, -, hb2⟩
    have HB3 := Lib.hid (below_trans' HB2.out hb2)
    have HST1 := Lib.hid hst1
    obtain ⟨F1, fi1, ca1⟩ := c1
    unfold Clo.v
    clear hst1 hb2
    go_wp2_with fail
    have HA := Lib.hid (below_one w2 (.cells #[.int .i64 2] 3))
    have hk : KAt (w2.alloc (.cells #[.int .i64 2] 3)) (.slice (some ⟨w2.heap.size, 0, none⟩) 1 1) [2] := .inr ⟨w2.heap.size, 0, 1, rfl, Nat.le_refl _, fun j hj => by
      have : j = 0 := by simpa using hj
      subst this
      exact one_cell (t := 3) (heap_alloc_new _ _)⟩
    have hz := HB3.out.size
    have HP := Lib.hid (toPut_any V B mo Vt.hNew 0 (.slice (some ⟨w2.heap.size, 0, none⟩) 1 1) (w2.alloc (.cells #[.int .i64 2] 3)) (by rw [World.size_alloc]; omega) (by rw [World.size_alloc]; omega) hk (by show ([2] : List Int) ≠ []; simp) (by show ([2] : List Int).length ≤ _; simp) (fun q hq => by have e1 : w2.heap.size = q := Option.some.inj hq; omega))
    unfold hval Vt.hNew at HP
    refine HP.out.mono ?_
    rintro e w3 ⟨c2, bs2, rfl, hst2, hb3⟩
    have HB4 := Lib.hid (below_trans' (HB3.out.alloc HB3.out.size _) hb3)
    have HST2 := Lib.hid hst2
    have HST1 := Lib.hid ((HST1.out.below HA.out).below hb3)
    obtain ⟨F2, fi2, ca2⟩ := c2
    unfold Clo.v
    clear hst2 hb3 hk
    go_wp2_with fail
    have HQ := Lib.hid (Sts.lit (w := w3) (base := w.heap.size) (A := #[.func (.func F1) fi1 ca1, .func (.func F2) fi2 ca2]) (n := 2) [(⟨F1, fi1, ca1⟩, bs1, wiSt 2), (⟨F2, fi2, ca2⟩, bs2, puSt Vt.hNew 0)] HB4.out.size (by simp) (fun q hq => by
      simp only [List.mem_cons, List.not_mem_nil, or_false] at hq
      rcases hq with rfl | rfl
      · exact HST1.out
      · exact HST2.out) rfl rfl rfl)
    have HB5 := Lib.hid (HB4.out.alloc HB4.out.size (.cells #[.func (.func F1) fi1 ca1, .func (.func F2) fi2 ca2] 84))
    have HT := Lib.hid (turn_sts (HX.out.below HB5.out (Nat.le_refl _)) HQ.out hBl hVl)
    refine HT.out.mono ?_
    rintro e w4 ⟨rfl, hx4, hg4⟩
    have HX4 := Lib.hid hx4
    have HG4 := Lib.hid ((Gv.of_below HB5.out B V).trans hg4)
    clear hx4 hg4
    go_wp2
    go_ret
    refine ⟨?_, ?_, HG4.out⟩
    · rw [HR.out]; rfl
    · rw [HR.out]; exact HX4.out
  · rw [if_neg hc] at HR
    by_cases hr : r = 0
    · have hb0 : b = true := by cases b; exact absurd ⟨hr, rfl⟩ hc; rfl
      subst hb0
      have hr2 : ((r : Int) == 0) = true := by rw [hr]; rfl
      clear hc hr
      go_enter Tryz.func44, Tryz.ntmps44
      go_wp2_with fail
      refine H.out.mono ?_
      rintro e w1 ⟨u, rfl, hw, hb⟩
      obtain ⟨va, vc, hv⟩ := hw.shape
      rw [List.length_map] at hv
      obtain ⟨L, hL⟩ : ∃ L, y.log.length = L := ⟨_, rfl⟩
      rw [hL] at hv
      subst hv
      have HB := Lib.hid hb
      have HVv : Hid (hval y (.slice va L vc) = .agg #[.int .i64 y.gen, .int .i64 y.base, .int .i64 y.snap, .slice va L vc]) := Lib.hid rfl
      rw [HVv.out]
      have HB2 := Lib.hid (hb.alloc hb.size (.cells #[.int .i64 y.gen, .int .i64 y.base, .int .i64 y.snap, .slice va L vc] 40))
      have HW := Lib.hid hw
      have HWL := Lib.hid (show L ≤ 9223372036854775807 by
        rcases hw with ⟨_, e⟩ | ⟨g, cap, _, _, _, h1, h2, _⟩
        · have := congrArg List.length e; rw [List.length_map, hL] at this; simp at this; omega
        · rw [List.length_map, hL] at h1; unfold maxLen at h2; omega)
      have HLL := Lib.hid hL
      have X2 := Lib.hid (Box4.new w1 (.int .i64 y.gen) (.int .i64 y.base) (.int .i64 y.snap) (.slice va L vc))
      have hv2 := HV.out.below HB2.out (Nat.le_refl _)
      obtain ⟨va0, vc0, hva0⟩ := hv2.k.slice
      generalize x.2.1.log.length = L0 at *
      subst hva0
      have HV2 := Lib.hid hv2
      have k2 := hv2.g; have k3 := hv2.b; have k4 := hv2.s; have k5 := hv2.l
      have z2 := hv2.fz 2; have z3 := hv2.fz 3; have z4 := hv2.fz 4; have z5 := hv2.fz 5
      have q0 := X2.out.c0; have q1 := X2.out.c1; have q2 := X2.out.c2; have q3 := X2.out.c3
      have hz := hb.size
      clear hw hb hL hv2
      go_wp2
      go_ret
      have ha := HV2.out.setH y (.slice va L vc) ((HW.out.alloc _).kat') (by rw [HLL.out]; exact HWL.out) (fun q hq => by have := ((HW.out.lt q hq).1); omega)
      have hg2 := (((((Gv.of_below HB2.out B V).setV 2 (.int .i64 y.gen)).setV 3 (.int .i64 y.base)).setV 4 (.int .i64 y.snap)).setV 5 (.slice va L vc))
      refine ⟨by rw [HR.out]; rfl, ?_, hg2⟩
      rw [HR.out]
      refine ⟨?_, HX.out.ok, ⟨_, ha⟩, HX.out.ne, hg2.tab HX.out.t HX.out.b0 HX.out.v0, HX.out.b0, HX.out.v0⟩
      exact (((((HX.out.d.below HB2.out hBl).apart (a := ⟨V, 2, none⟩) (fun e => HX.out.ne e.symm) _).apart (a := ⟨V, 3, none⟩) (fun e => HX.out.ne e.symm) _).apart (a := ⟨V, 4, none⟩) (fun e => HX.out.ne e.symm) _).apart (a := ⟨V, 5, none⟩) (fun e => HX.out.ne e.symm) _)
    · have hr2 : ((r : Int) == 0) = false := by rw [beq_eq_false_iff_ne]; omega
      clear hc hr
      go_enter Tryz.func44, Tryz.ntmps44
      go_wp2_with fail
      refine H.out.mono ?_
      rintro e w1 ⟨u, rfl, hw, hb⟩
      obtain ⟨va, vc, hv⟩ := hw.shape
      rw [List.length_map] at hv
      obtain ⟨L, hL⟩ : ∃ L, y.log.length = L := ⟨_, rfl⟩
      rw [hL] at hv
      subst hv
      have HB := Lib.hid hb
      have HVv : Hid (hval y (.slice va L vc) = .agg #[.int .i64 y.gen, .int .i64 y.base, .int .i64 y.snap, .slice va L vc]) := Lib.hid rfl
      rw [HVv.out]
      have HB2 := Lib.hid (hb.alloc hb.size (.cells #[.int .i64 y.gen, .int .i64 y.base, .int .i64 y.snap, .slice va L vc] 40))
      have HW := Lib.hid hw
      have HWL := Lib.hid (show L ≤ 9223372036854775807 by
        rcases hw with ⟨_, e⟩ | ⟨g, cap, _, _, _, h1, h2, _⟩
        · have := congrArg List.length e; rw [List.length_map, hL] at this; simp at this; omega
        · rw [List.length_map, hL] at h1; unfold maxLen at h2; omega)
      have HLL := Lib.hid hL
      have X2 := Lib.hid (Box4.new w1 (.int .i64 y.gen) (.int .i64 y.base) (.int .i64 y.snap) (.slice va L vc))
      have hv2 := HV.out.below HB2.out (Nat.le_refl _)
      obtain ⟨va0, vc0, hva0⟩ := hv2.k.slice
      generalize x.2.1.log.length = L0 at *
      subst hva0
      have HV2 := Lib.hid hv2
      have k2 := hv2.g; have k3 := hv2.b; have k4 := hv2.s; have k5 := hv2.l
      have z2 := hv2.fz 2; have z3 := hv2.fz 3; have z4 := hv2.fz 4; have z5 := hv2.fz 5
      have q0 := X2.out.c0; have q1 := X2.out.c1; have q2 := X2.out.c2; have q3 := X2.out.c3
      have hz := hb.size
      clear hw hb hL hv2
      go_wp2
      go_ret
      have ha := HV2.out.setH y (.slice va L vc) ((HW.out.alloc _).kat') (by rw [HLL.out]; exact HWL.out) (fun q hq => by have := ((HW.out.lt q hq).1); omega)
      have hg2 := (((((Gv.of_below HB2.out B V).setV 2 (.int .i64 y.gen)).setV 3 (.int .i64 y.base)).setV 4 (.int .i64 y.snap)).setV 5 (.slice va L vc))
      refine ⟨by rw [HR.out]; rfl, ?_, hg2⟩
      rw [HR.out]
      refine ⟨?_, HX.out.ok, ⟨_, ha⟩, HX.out.ne, hg2.tab HX.out.t HX.out.b0 HX.out.v0, HX.out.b0, HX.out.v0⟩
      exact (((((HX.out.d.below HB2.out hBl).apart (a := ⟨V, 2, none⟩) (fun e => HX.out.ne e.symm) _).apart (a := ⟨V, 3, none⟩) (fun e => HX.out.ne e.symm) _).apart (a := ⟨V, 4, none⟩) (fun e => HX.out.ne e.symm) _).apart (a := ⟨V, 5, none⟩) (fun e => HX.out.ne e.symm) _)
end Go.Proofs.YtieemdcoomilaaaGreatDoor
namespace Go.Proofs.YtieemdcoomilaaaGreatDoor
open Go Go.RowKit Go.Sort
set_option maxRecDepth 100000
set_option maxHeartbeats 400000 in
theorem count_any (V B mo : Nat) (h : He) (n : Nat) (v : Value) (w : World) (a : VAt w V B mo h n v) (hb : 0 ≤ h.base) (hb2 : h.base ≤ 1099511627776) (hn : n ≤ 1099511627776) : Calls Tryz.prog 14 #[.pointer (some ⟨V, 0, none⟩)] w (Ret w (.int .i64 (h.base + (n : Int)))) := by
  have H := Lib.hid (opened_any V B mo h n v w a)
  have c1 := a.b
  have c2 := a.n
  generalize h.base = b at *
  clear a
  go_enter Tryz.func14, Tryz.ntmps14
  go_wp2_with fail
  refine H.out.mono ?_
  rintro e w' ⟨rfl, rfl⟩
  go_wp2_with fail
  go_quiet (fail)
  go_wp2
  go_ret
  exact ⟨rfl, below_drewN (Below.refl _ _) _⟩
theorem since_any (V B mo : Nat) (h : He) (n : Nat) (v : Value) (w : World) (a : VAt w V B mo h n v) : Calls Tryz.prog 15 #[.pointer (some ⟨V, 0, none⟩)] w fun e w' => e = .returned (.int .i64 (n : Int)) ∧ w = w' := by
  have H := Lib.hid (opened_any V B mo h n v w a)
  have c2 := a.n
  clear a
  go_enter Tryz.func15, Tryz.ntmps15
  go_wp2_with fail
  refine H.out.mono ?_
  rintro e w' ⟨rfl, rfl⟩
  go_wp2
  go_ret
  exact ⟨rfl, rfl⟩
theorem count_nil (w : World) : Calls Tryz.prog 14 #[.pointer none] w fun e w' => e = .returned (.int .i64 0) ∧ w = w' := by
  have H := Lib.hid (opened_nil w)
  go_enter Tryz.func14, Tryz.ntmps14
  go_wp2_with fail
  refine H.out.mono ?_
  rintro e w' ⟨rfl, rfl⟩
  go_wp2
  go_ret
  exact ⟨rfl, rfl⟩
theorem since_nil (w : World) : Calls Tryz.prog 15 #[.pointer none] w fun e w' => e = .returned (.int .i64 0) ∧ w = w' := by
  have H := Lib.hid (opened_nil w)
  go_enter Tryz.func15, Tryz.ntmps15
  go_wp2_with fail
  refine H.out.mono ?_
  rintro e w' ⟨rfl, rfl⟩
  go_wp2
  go_ret
  exact ⟨rfl, rfl⟩
theorem KAt.src {W : World} {v : Value} {l : List Int} (h : KAt W v l) : Src Tryz.prog 1 38 v l.length (l.map iv) W := by
  rcases h with ⟨rfl, a, c, rfl⟩ | ⟨g, o, c, rfl, hc, h⟩
  · cases a with
    | none => exact Src.ofNil W Tryz.underlying38 c
    | some a => exact Src.ofSlice W Tryz.underlying38 a 0 c [] (by simp) (fun j u h => by simp at h) (fun u h => by cases h)
  · refine Src.ofSlice W Tryz.underlying38 ⟨g, o, none⟩ _ c _ (by simp) (fun j u hj => ?_) (fun u hu => ?_)
    · have hj2 : j < l.length := by have := (List.getElem?_eq_some_iff.1 hj).1; simpa using this
      rw [List.getElem?_map, List.getElem?_eq_getElem hj2] at hj
      injection hj with hj
      subst hj
      have hadd : (⟨g, o, none⟩ : Addr).add j = ⟨g, o + j, none⟩ := by unfold Addr.add; simp
      rw [hadd]; exact h j hj2
    · obtain ⟨t, _, rfl⟩ := List.mem_map.1 hu; rfl
theorem slice_nil (g o L c : Nat) (W : World) : (binOp BinOp.eql 38 (.slice (some ⟨g, o, none⟩) L c) (.slice none 0 0)).run Tryz.prog W = .ok (.bool false) W := by kernel_rfl
set_option maxHeartbeats 1000000 in
theorem clone_any (l : List Int) (v : Value) (w : World) (hv : KAt w v l) (hne : l ≠ []) (hl : l.length ≤ 1000) : Calls Tryz.prog 65 #[v] w (NRet w l) := by
  obtain ⟨g, o, c, hg, -⟩ := hv.pos hne
  have hs := (hv.below (below_one w (.cells #[] 3)) (Nat.le_refl _)).src
  have HL : Hid ((l.map iv).length ≤ 1000) := Lib.hid (by rw [List.length_map]; exact hl)
  have HO : Hid (Own (w.alloc (.cells #[] 3)) w.heap.size (.slice (some ⟨w.heap.size, 0, none⟩) 0 0) []) := Lib.hid (Own.made w w.heap.size 3 [] #[] (Nat.le_refl _) (by decide))
  obtain ⟨i0, hi, hz0, hz1, hz2⟩ := info_parts Tryz.info3
  obtain ⟨L, hL⟩ : ∃ L, l.length = L := ⟨_, rfl⟩
  rw [hL] at hg hl hs
  subst hg
  have HS := Lib.hid hs
  have HSL : Hid (L = l.length) := Lib.hid hL.symm
  clear hv hne hL hs
  have hq := slice_nil g o L c
  go_enter Tryz.func65, Tryz.ntmps65
  go_wp2_with (at_builtin; refine wpList_append_Own _ rfl (.tmp 5) (.tmp 6) 38 38 rfl w.heap.size 3 i0 (.int .i64 0) 8 Tryz.underlying38 hi hz0 hz1 hz2 rfl _ [] rfl HO.out _ L (l.map iv) rfl HS.out ?c1 ?c2 ?c3 ?_; rotate_right; intro v' w2 hown1 hgr hwh; have HG : Hid (World.grownBy _ w2 (some w.heap.size)) := Lib.hid hgr; rw [List.nil_append] at hown1; have HO1 := Lib.hid hown1; clear hown1 hgr hwh)
  case c1 => simp only [List.length_nil]; omega
  case c2 => simp only [List.length_nil]; omega
  case c3 => rw [World.size_alloc]; omega
  go_wp2
  go_ret
  exact ⟨_, rfl, HO1.out, (below_one w _).grown HG.out (by rw [World.size_alloc]; omega) (fun k hk => by cases hk; omega)⟩
end Go.Proofs.YtieemdcoomilaaaGreatDoor
