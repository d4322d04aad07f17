/- readTape: the records of one of the log's tapes. -/
import Derived.Test.YtieemdcoomilaaaGreatDoorVc
import Derived.Test.YtieemdcoomilaaaGreatDoorIt
import Derived.Test.YtieemdcoomilaaaGreatDoorDx
import Derived.Test.YtieemdcoomilaaaGreatDoorOx
import Derived.Test.YtieemdcoomilaaaGreatDoorOn
set_option linter.unusedVariables false
set_option linter.unusedSimpArgs false
namespace Go.Proofs.YtieemdcoomilaaaGreatDoor
open Go Go.RowKit Go.Sort
set_option maxRecDepth 100000
/-- What is found lies in block F. -/
structure FAt (w : World) (F : Nat) (has : Bool) (sn : ByteArray) (rv : Value) : Prop where
  h : w.cell? ⟨F, 0, none⟩ = some (.bool has)
  s : w.cell? ⟨F, 1, none⟩ = some (.string sn)
  r : w.cell? ⟨F, 2, none⟩ = some rv
  fz : ∀ j, w.frozen? ⟨F, j, none⟩ = false
theorem FAt.congr {w w' : World} {F : Nat} {has : Bool} {sn : ByteArray} {rv : Value} (a : FAt w F has sn rv) (hb : w'.heap[F]? = w.heap[F]?) : FAt w' F has sn rv :=
  have e : ∀ j, w'.cell? ⟨F, j, none⟩ = w.cell? ⟨F, j, none⟩ := fun j => World.cell?_of_block (a := ⟨F, j, none⟩) hb
  ⟨(e _).trans a.h, (e _).trans a.s, (e _).trans a.r, fun j => (World.frozen?_of_block (a := ⟨F, j, none⟩) hb).trans (a.fz j)⟩
theorem FAt.lt {w : World} {F : Nat} {has : Bool} {sn : ByteArray} {rv : Value} (a : FAt w F has sn rv) : F < w.heap.size := World.block_lt_of_cell? w ⟨F, 0, none⟩ a.h
theorem FAt.below {w w' : World} {F m : Nat} {has : Bool} {sn : ByteArray} {rv : Value} (a : FAt w F has sn rv) (hb : Below m w w') (hm : F < m) : FAt w' F has sn rv := a.congr (hb.block F hm)
theorem FAt.grown {w w' : World} {F : Nat} {has : Bool} {sn : ByteArray} {rv : Value} (a : FAt w F has sn rv) {r : Option Nat} (hg : w.grownBy w' r) (hr : some F ≠ r) : FAt w' F has sn rv := a.congr (hg.block F a.lt hr)
theorem FAt.setR {w : World} {F : Nat} {has : Bool} {sn : ByteArray} {rv : Value} (a : FAt w F has sn rv) (u : Value) : FAt (w.setCell ⟨F, 2, none⟩ u) F has sn u :=
  have s := set_at u a.r
  ⟨(s 0).trans ((if_neg (by decide)).trans a.h), (s 1).trans ((if_neg (by decide)).trans a.s), (s 2).trans (if_pos rfl), fun j => by rw [World.frozen?_setCell]; exact a.fz j⟩
theorem info9s : (Tryz.prog.info? 9).map (fun i => (i.zero, i.size, i.bytes)) = some (some (.string ⟨#[]⟩), 1, 16) := by kernel_rfl
theorem src_at {P : Program} {W : World} {B : Nat} {u : Value} {tx e' : TypeId} (hk : P.underlying tx = some (.slice e')) (hc : W.cell? ⟨B, 0, none⟩ = some u) (h1 : u.oneCell' = true) : Src P 1 tx (.slice (some ⟨B, 0, none⟩) 1 1) 1 [u] W :=
  Src.ofSlice _ hk ⟨B, 0, none⟩ 1 1 [u] rfl (fun j v hj => by
    have : j = 0 := by have := (List.getElem?_eq_some_iff.1 hj).1; simpa using this
    subst this
    simp at hj
    subst hj
    have hadd : (⟨B, 0, none⟩ : Addr).add 0 = ⟨B, 0, none⟩ := by unfold Addr.add; simp
    rw [hadd]
    exact hc) (fun v hv => by simp at hv; subst hv; exact h1)
theorem DAt.grown' {w w' : World} {B : Nat} {d : Dk} (h : DAt w B d) {r : Option Nat} (hg : w.grownBy w' r) (hr : some B ≠ r) : DAt w' B d := h.congr (hg.block B h.lt hr)
def strs (R : List ByteArray) : List Value := R.map Value.string
theorem At3.at {w : World} {g o c n : Nat} {l : List Fq} (h : At3 w (.slice (some ⟨g, o, none⟩) n c) l) (j : Nat) (hj : j < l.length) : w.cell? ⟨g, o + j * 3, none⟩ = some (.int .u8 l[j].k) ∧ w.cell? ⟨g, o + j * 3 + 1, none⟩ = some (.string l[j].p) ∧ w.cell? ⟨g, o + j * 3 + 2, none⟩ = some (.int .i64 l[j].a) := by
  rcases h with ⟨rfl, _⟩ | ⟨g', o', c', e, h⟩
  · simp at hj
  · cases e
    exact h j hj
theorem At3.pos {w : World} {v : Value} {l : List Fq} (h : At3 w v l) (hl : l ≠ []) : ∃ g o c, v = .slice (some ⟨g, o, none⟩) l.length c := by
  rcases h with ⟨rfl, _⟩ | ⟨g', o', c', e, h⟩
  · exact absurd rfl hl
  · exact ⟨g', o', c', e⟩
theorem scq_fs (s : ByteArray) : (scq s 0).map (fun q => q.p) = (Vt.fs s.data.toList).map (fun x => bs x.2) ∧ (scq s 0).all (fun q => decide (q.k = 1)) = (Vt.fs s.data.toList).all (fun x => x.1 == 1) ∧ sce s 0 = Vt.en s.data.toList := by
  unfold scq sce Vt.fs Vt.en Vt.kp
  rw [show bh s 0 = s.data.toList from bh_zero s]
  refine ⟨by rw [List.map_map, List.map_map]; rfl, ?_, rfl⟩
  rw [List.all_map, List.all_map]
  congr 1
  funext f
  show decide ((f.k.toNat : Int) = 1) = (f.k == 1)
  by_cases h : f.k = 1
  · rw [h]; rfl
  · have h2 : (f.k.toNat : Int) ≠ 1 := fun e => h (UInt8.toNat.inj ((show f.k.toNat = 1 by omega).trans (by decide)))
    rw [decide_eq_false h2]
    exact (beq_eq_false_iff_ne.2 h).symm
/-- What readTape keeps: all but the disk, what is found, and new blocks. -/
structure RtP (w0 W : World) (V B F mo : Nat) (h : He) (n : Nat) (d : Dk) (has : Bool) (sn : ByteArray) (rv : Value) (R : List ByteArray) : Prop where
  g : Gv w0 W B F
  d : DAt W B d
  f : FAt W F has sn rv
  o : Own W w0.heap.size rv (strs R)
/-- What readTape leans on, where it begins. -/
structure RtB (w0 : World) (V B F mo : Nat) (h : He) (n : Nat) (v : Value) : Prop where
  at0 : VAt w0 V B mo h n v
  t : Tab w0
  nVB : V ≠ B
  nVF : V ≠ F
  nBF : B ≠ F
  b0 : B ≠ 0
  f0 : F ≠ 0
  vF : ∀ q, v.ownBlock = some q → q ≠ F
  lB : B < w0.heap.size
  lF : F < w0.heap.size
theorem RtB.vat {w0 W : World} {V B F mo : Nat} {h : He} {n : Nat} {v : Value} (a : RtB w0 V B F mo h n v) (hg : Gv w0 W B F) : VAt W V B mo h n v :=
  a.at0.congr (hg.block V a.at0.lt a.nVB a.nVF) fun g hl e => hg.block g hl (a.at0.ow g e).1 (a.vF g e)
theorem RtB.tab {w0 W : World} {V B F mo : Nat} {h : He} {n : Nat} {v : Value} (a : RtB w0 V B F mo h n v) (hg : Gv w0 W B F) : Tab W := hg.tab a.t a.b0 a.f0
theorem Gv.below_add {w w' w'' : World} {B F : Nat} (h : Gv w w' B F) (hb : Below w'.heap.size w' w'') : Gv w w'' B F := h.trans (Gv.of_below hb B F)
theorem Gv.row {w w' w'' : World} {B F : Nat} (h : Gv w w' B F) {r : Option Nat} (hg : w'.grownBy w'' r) (hr : ∀ k, r = some k → w.heap.size ≤ k) : Gv w w'' B F :=
  ⟨hg.os.trans h.os, hg.tape.trans h.tape, hg.output.trans h.output, Nat.le_trans h.size hg.size, fun k hk h1 h2 => (hg.block k (Nat.lt_of_lt_of_le hk h.size) (fun e => by have := hr k e.symm; omega)).trans (h.block k hk h1 h2)⟩
def RtE (w0 : World) (V B F mo : Nat) (h : He) (n : Nat) (has : Bool) (sn : ByteArray) (R : List ByteArray) (x : (Dk × Nat) × List ByteArray) (e : Ending) (w' : World) : Prop :=
  e = .returned (.int .i64 (x.1.2 : Int)) ∧ Gv w0 w' B F ∧ DAt w' B x.1.1 ∧ (x.1.2 = 0 → ∃ rv, FAt w' F has sn rv ∧ Own w' w0.heap.size rv (strs (R ++ x.2)))
set_option maxHeartbeats 2000000 in
theorem readTape_any (w0 W : World) (V B F mo : Nat) (h : He) (n : Nat) (v : Value) (d : Dk) (has : Bool) (sn : ByteArray) (rv : Value) (R : List ByteArray) (t : Nat) (ht : t < 32) (hb : RtB w0 V B F mo h n v) (hp : RtP w0 W V B F mo h n d has sn rv R) (hok : d.ok) (hne : h.log ≠ []) (hR : R.length ≤ 100000000) :
    Calls Tryz.prog 88 #[.pointer (some ⟨V, 0, none⟩), .int .i64 (t : Int), .pointer (some ⟨F, 0, none⟩)] W (RtE w0 V B F mo h n has sn R (Vt.tpD d t (decide ((t : Int) = Vt.lz h.log)))) := by
  have con := (hb.vat hp.g).on
  have HRD := Lib.hid (dread_any B d (t : Int) W hp.d)
  have HP := Lib.hid hp
  have HB := Lib.hid hb
  by_cases hdn : d.dn = true
  · have e1 : readD d (t : Int) = (⟨#[]⟩, 45) := by unfold readD; rw [if_pos hdn]
    have e2 : Vt.tpD d t (decide ((t : Int) = Vt.lz h.log)) = ((d, 45), []) := by unfold Vt.tpD; rw [if_pos hdn]
    rw [e1] at HRD
    rw [e2]
    clear e1 e2 hp hb
    go_enter Tryz.func88, Tryz.ntmps88
    go_wp2_with fail
    refine HRD.out.mono ?_
    rintro e w1 ⟨rfl, rfl⟩
    go_wp2
    go_ret
    exact ⟨rfl, HP.out.g, HP.out.d, fun h => by cases h⟩
  · have e1 : readD d (t : Int) = ((d.T t).s, 0) := by unfold readD; rw [if_neg hdn, if_pos ⟨by omega, by omega⟩, Int.toNat_natCast]
    rw [e1] at HRD
    have hsz := (hok.t t ht).2
    have HSC := Lib.hid (scan_any (d.T t).s 0 (Nat.zero_le _) W hsz (Lib.hid (hb.tab hp.g)))
    obtain ⟨f1, f2, f3⟩ := scq_fs (d.T t).s
    have hen : sce (d.T t).s 0 ≤ (d.T t).s.size := by
      rw [f3]
      obtain ⟨tt, g1, -, g3, -⟩ := Vt.fs_split (d.T t).s.data.toList
      rw [g3]
      have := congrArg List.length g1
      rw [List.length_append] at this
      have hs : (d.T t).s.data.toList.length = (d.T t).s.size := by simp
      omega
    have HTP : Hid (Vt.tpD d t (decide ((t : Int) = Vt.lz h.log)) = if (scq (d.T t).s 0).all (fun q => decide (q.k = 1)) = false then ((d, 4), [])
        else if sce (d.T t).s 0 < (d.T t).s.size then (if decide ((t : Int) = Vt.lz h.log) = false then ((d, 42), []) else (doD d t false (tr (sce (d.T t).s 0)), (scq (d.T t).s 0).map (fun q => q.p))) else ((d, 0), (scq (d.T t).s 0).map (fun q => q.p))) := Lib.hid (by
      unfold Vt.tpD
      rw [if_neg hdn, f1, f2, f3]; rfl)
    have hcap := scq_len (d.T t).s _ 0 (Nat.le_refl _)
    have hcap2 : (scq (d.T t).s 0).length ≤ 1048576 := by omega
    have HTR := Lib.hid (fun W' (hd : DAt W' B d) => trim_any B d (t : Int) (sce (d.T t).s 0 : Int) W' hd hok)
    have HLA := Lib.hid (fun W' (hg : Gv w0 W' B F) => last_any V B mo h n v W' (HB.out.vat hg) hne)
    clear hp hb f1 f2 f3 hcap e1 hsz
    generalize hfq : scq (d.T t).s 0 = fq at *
    generalize sce (d.T t).s 0 = G at *
    generalize (d.T t).s = S at *
    clear hfq
    obtain ⟨i0, hi, hz0, hz1, hz2⟩ := info_parts info9s
    go_enter Tryz.func88, Tryz.ntmps88
    go_wp2_with fail
    refine HRD.out.mono ?_
    rintro e w1 ⟨rfl, rfl⟩
    go_wp2_with fail
    refine HSC.out.mono ?_
    rintro e w1 ⟨fv, rfl, ho3, hb1⟩
    obtain ⟨fa, fc, hfv⟩ := ho3.shape
    obtain ⟨N, hN⟩ : ∃ N, fq.length = N := ⟨_, rfl⟩
    rw [hN] at hfv hcap2
    subst hfv
    have HF3 := Lib.hid ho3.at
    have HFL := Lib.hid ho3.lt
    have HNN := Lib.hid hN
    have hp0 := HP.out
    have HP1 : Hid (RtP w0 w1 V B F mo h n d has sn rv R) := Lib.hid ⟨hp0.g.below_add hb1, hp0.d.below hb1 hp0.d.lt, hp0.f.below hb1 hp0.f.lt, hp0.o.belowAll hb1⟩
    have HRV := Lib.hid (fun g (hg : rv.ownBlock = some g) => (show (Value.slice fa N fc).ownBlock ≠ some g from fun e => by have := (hp0.o.lt g hg).2; have := (ho3.lt g e).1; omega))
    have HFG := Lib.hid (fun g (hg : (Value.slice fa N fc).ownBlock = some g) => (show w0.heap.size ≤ g by have := (ho3.lt g hg).1; have := hp0.g.size; omega))
    clear ho3 hb1 hN hp0 HP HSC HRD
    go_wp2
    go_loopw [32] (fun i wl => ∃ (k : Nat) (rv' : Value), i = .int .i64 (k : Int) ∧ k ≤ N ∧ Hid (RtP w0 wl V B F mo h n d has sn rv' (R ++ (fq.take k).map (fun q => q.p))) ∧ Hid (At3 wl (.slice fa N fc) fq) ∧ Hid (∀ g, rv'.ownBlock = some g → (Value.slice fa N fc).ownBlock ≠ some g) ∧ Hid (∀ j (hj : j < fq.length), j < k → fq[j].k = 1) ∧ Hid (∀ g, (Value.slice fa N fc).ownBlock = some g → g < wl.heap.size)) (fun i _ => N - (intOf i).toNat)
    case atStart => exact ⟨0, rv, rfl, by omega, by simpa using HP1, HF3, HRV, Lib.hid (fun j _ h => by omega), Lib.hid (fun g hg => (HFL.out g hg).2)⟩
    case round =>
      obtain ⟨k, rv', rfl, hk, HP, HF, HV, HK, HG⟩ := hrel
      by_cases hlt : k < N
      · have hkf : k < fq.length := by rw [HNN.out]; exact hlt
        obtain ⟨g, o, c, hg⟩ := HF.out.pos (fun e => by rw [e] at hkf; simp at hkf)
        cases hg
        obtain ⟨c0, c1, c2⟩ := HF.out.at k hkf
        have HE : Hid (fq.take (k + 1) = fq.take k ++ [fq[k]]) := Lib.hid (List.take_succ_eq_append_getElem hkf)
        by_cases hq : fq[k].k = 1
        · have hq2 : ((fq[k].k : Int) != 1) = false := by rw [hq]; rfl
          have hK2 : ∀ j (hj : j < fq.length), j < k + 1 → fq[j].k = 1 := fun j hj hjk => by
            by_cases e : j = k
            · subst e; exact hq
            · exact HK.out j hj (by omega)
          have HK2 := Lib.hid hK2
          have HE2 : Hid ((fq.take (k + 1)).map (fun q => q.p) = (fq.take k).map (fun q => q.p) ++ [fq[k].p]) := Lib.hid (by rw [HE.out, List.map_append]; rfl)
          generalize fq[k] = q at *
          obtain ⟨qk, qp, qa⟩ := q
          dsimp only at *
          clear hq hK2 HE
          have hlm : (strs (R ++ (fq.take k).map (fun q => q.p))).length ≤ 101048576 := by
            unfold strs; rw [List.length_map, List.length_append, List.length_map, List.length_take]; omega
          have HEs : Hid (strs (R ++ (fq.take (k + 1)).map (fun q => q.p)) = strs (R ++ (fq.take k).map (fun q => q.p)) ++ [.string qp]) := Lib.hid (by rw [HE2.out]; unfold strs; simp)
          obtain ⟨ra, rc, hrv⟩ := HP.out.o.shape
          have hpf := HP.out.f
          have hpo := HP.out.o
          have hpg := HP.out.g
          have hpd := HP.out.d
          generalize hLs : strs (R ++ (fq.take k).map (fun q => q.p)) = Ls at *
          have HLs := Lib.hid hLs
          obtain ⟨M, hM⟩ : ∃ M, Ls.length = M := ⟨_, rfl⟩
          rw [hM] at hrv hlm
          subst hrv
          have HM := Lib.hid hM
          have hA : Below wr.heap.size wr ((wr.alloc (.cells #[.int .u8 qk, .string qp, .int .i64 qa] 145)).alloc (.cells #[.string qp] 9)) := below_two _ _ _
          have hF0 := (hpf.below (below_one wr (.cells #[.int .u8 qk, .string qp, .int .i64 qa] 145)) hpf.lt).congr (w' := (wr.alloc (.cells #[.int .u8 qk, .string qp, .int .i64 qa] 145)).drew) rfl
          have hF := (hpf.below hA hpf.lt).congr (w' := ((wr.alloc (.cells #[.int .u8 qk, .string qp, .int .i64 qa] 145)).alloc (.cells #[.string qp] 9)).drew) rfl
          have HFD := Lib.hid hF
          have k2 := hF0.r
          have k3 := (hpf.below hA hpf.lt).r
          have k4 := hF.r
          have HO1 := Lib.hid (show Own ((wr.alloc (.cells #[.int .u8 qk, .string qp, .int .i64 qa] 145)).alloc (.cells #[.string qp] 9)).drew w0.heap.size (.slice ra M rc) Ls from ((hpo.alloc (.cells #[.int .u8 qk, .string qp, .int .i64 qa] 145)).alloc (.cells #[.string qp] 9)).drew)
          have HG1 := Lib.hid ((hpg.below_add hA).trans (gv_drew _ B F))
          have HD1 := Lib.hid (hpd.below hA hpd.lt).drew
          have HF1 := Lib.hid ((HF.out.below hA (Nat.le_refl _)).same (w' := ((wr.alloc (.cells #[.int .u8 qk, .string qp, .int .i64 qa] 145)).alloc (.cells #[.string qp] 9)).drew) (fun _ _ _ => rfl))
          have hbk : ((wr.alloc (.cells #[.int .u8 qk, .string qp, .int .i64 qa] 145)).drew).cell? ⟨wr.heap.size, 1, none⟩ = some (.string qp) := by
            show (wr.alloc _).cell? ⟨wr.heap.size, 1, none⟩ = _
            rw [World.cell?_alloc_mark]; rfl
          have HSB : Hid (Src Tryz.prog 1 24 (.slice (some ⟨wr.heap.size + 1, 0, none⟩) 1 1) 1 [.string qp] ((wr.alloc (.cells #[.int .u8 qk, .string qp, .int .i64 qa] 145)).alloc (.cells #[.string qp] 9)).drew) := Lib.hid (src_at Tryz.underlying24 (by
            show ((wr.alloc _).alloc _).cell? ⟨wr.heap.size + 1, 0, none⟩ = _
            refine one_cell (t := 9) ?_
            have := heap_alloc_new (wr.alloc (.cells #[.int .u8 qk, .string qp, .int .i64 qa] 145)) (.cells #[.string qp] 9)
            rwa [World.size_alloc] at this) rfl)
          have hsz2 : wr.heap.size ≤ ((wr.alloc (.cells #[.int .u8 qk, .string qp, .int .i64 qa] 145)).alloc (.cells #[.string qp] 9)).drew.heap.size := hA.size
          have HZ2 := Lib.hid hsz2
          have HRL := Lib.hid (fun g hg => (hpo.lt g hg))
          clear hpf hpo hpg hpd hF hF0 hLs hM HP HE2 hA hsz2
          go_wp2_with fail
          go_region_law (first
            | (refine step_append_Own rfl (.tmp 43) (.tmp 46) 24 24 rfl w0.heap.size 9 i0 (.string ⟨#[]⟩) 16 Tryz.underlying24 hi hz0 hz1 hz2 rfl _ Ls rfl HO1.out _ 1 [.string qp] rfl HSB.out (by rw [HM.out]; omega) (by rw [HM.out]; omega) HG1.out.size ?_; intro v' w10 ho hs; have O2 := Lib.hid ho; have T2 := Lib.hid hs; have F2 := Lib.hid (HFD.out.grown hs.grown (fun e => by have := (HO1.out.lt _ e.symm).1; have := HB.out.lF; omega)); have m2 := F2.out.r; have n2 := F2.out.fz 2; obtain ⟨va, vc, hv'⟩ := ho.shape; subst hv'; clear ho hs)
            | (trace_state; fail))
          all_goals
            have F3 := Lib.hid (F2.out.setR (.slice va (Ls.length + 1) vc))
            have O3 := Lib.hid (O2.out.kept (grown_setCell w10 F 2 (.slice va (Ls ++ [Value.string qp]).length vc)) (Or.inr (fun e => by have := (O2.out.lt _ e).1; have := HB.out.lF; omega)))
            have D2 := Lib.hid (HD1.out.grown' T2.out.grown (fun e => by have := (HO1.out.lt _ e.symm).1; have := HB.out.lB; omega))
            have D3 := Lib.hid (D2.out.apart (a := ⟨F, 2, none⟩) HB.out.nBF (.slice va (Ls.length + 1) vc))
            have G3 := Lib.hid ((HG1.out.row T2.out.grown (fun q hq => (HO1.out.lt q hq).1)).setV 2 (.slice va (Ls.length + 1) vc))
            have A3 := Lib.hid ((HF1.out.same (w' := w10) (fun q hq e => T2.out.grown.block q hq (fun e2 => HV.out q e2.symm e))).same (w' := w10.setCell ⟨F, 2, none⟩ (.slice va (Ls.length + 1) vc)) (fun q hq e => Below.heap_setCell w10 _ _ q (by have := HFG.out q e; have := HB.out.lF; show q ≠ F; omega)))
            have V3 : Hid (∀ q, (Value.slice va (Ls.length + 1) vc).ownBlock = some q → (Value.slice (some ⟨g, o, none⟩) fq.length fc).ownBlock ≠ some q) := Lib.hid (fun q hq e => by
              rcases T2.out.own with e1 | e1
              · exact HV.out q (e1.symm.trans (by simpa [Value.ownBlock] using hq)) e
              · have h1 := e1 q (by simpa [Value.ownBlock] using hq)
                have h2 := HG.out q e
                have h3 := HZ2.out
                omega)
            have L3 : Hid (∀ q, (Value.slice (some ⟨g, o, none⟩) fq.length fc).ownBlock = some q → q < (w10.setCell ⟨F, 2, none⟩ (.slice va (Ls.length + 1) vc)).heap.size) := Lib.hid (fun q hq => by
              have h2 := HG.out q hq
              have h3 := HZ2.out
              have h4 := T2.out.grown.size
              have h5 : (w10.setCell ⟨F, 2, none⟩ (.slice va (Ls.length + 1) vc)).heap.size = w10.heap.size := by simp [World.setCell]
              omega)
            clear k2 k3 k4 hbk m2 n2
            go_wp2
            go_roundw
            case rel => exact ⟨k + 1, .slice va (Ls.length + 1) vc, by go_num, by omega, Lib.hid ⟨G3.out, D3.out, F3.out, by rw [HEs.out]; simpa using O3.out⟩, A3, V3, HK2, L3⟩
            case measure => simp [intOf]; omega
        · have hq2 : ((fq[k].k : Int) != 1) = true := by rw [bne_iff_ne]; exact hq
          have hall : fq.all (fun q => decide (q.k = 1)) = false := by
            rw [List.all_eq_false]
            exact ⟨fq[k], List.getElem_mem hkf, by simpa using hq⟩
          rw [if_pos hall] at HTP
          generalize fq[k] = q at *
          obtain ⟨qk, qp, qa⟩ := q
          dsimp only at *
          clear hq hall HE
          go_wp2
          go_ret
          have hp := HP.out
          refine ⟨by rw [HTP.out]; rfl, hp.g.below_add (below_one _ _), ?_, fun e => ?_⟩
          · rw [HTP.out]; exact hp.d.alloc _
          · rw [HTP.out] at e; cases e
      · obtain rfl : k = N := by omega
        have hall : ¬ (fq.all (fun q => decide (q.k = 1)) = false) := by
          rw [Bool.not_eq_false, List.all_eq_true]
          intro q hq
          obtain ⟨j, hj, rfl⟩ := List.mem_iff_getElem.1 hq
          exact decide_eq_true (HK.out j hj (by rw [← HNN.out]; exact hj))
        rw [if_neg hall] at HTP
        have e2 : fq.take k = fq := by rw [← HNN.out, List.take_length]
        rw [e2] at HP
        have HTR2 := Lib.hid (HTR.out wr HP.out.d)
        clear hall HK HV HF HG e2
        by_cases hG : G = S.size
        · have hG2 : ((G : Int) == (S.size : Int)) = true := by rw [hG]; simp
          have hG3 : (G == S.size) = true := by rw [hG]; simp
          rw [if_neg (by omega)] at HTP
          clear hG
          go_wp2
          go_ret
          refine ⟨by rw [HTP.out]; rfl, HP.out.g, by rw [HTP.out]; exact HP.out.d, fun _ => ⟨_, HP.out.f, by rw [HTP.out]; exact HP.out.o⟩⟩
        · have hG2 : ((G : Int) == (S.size : Int)) = false := by rw [beq_eq_false_iff_ne]; omega
          have hG3 : (G == S.size) = false := by rw [beq_eq_false_iff_ne]; exact hG
          rw [if_pos (by omega)] at HTP
          clear hG
          have HLB := Lib.hid (HLA.out wr HP.out.g)
          by_cases hl : (t : Int) = Vt.lz h.log
          · have hl2 : ((t : Int) != Vt.lz h.log) = false := by rw [bne_eq_false_iff_eq]; exact hl
            have HT2 : Hid (Vt.tpD d t (decide ((t : Int) = Vt.lz h.log)) = (doD d t false (tr G), fq.map (fun q => q.p))) := Lib.hid (HTP.out.trans (if_neg (by rw [decide_eq_true hl]; simp)))
            have hok3 := HTR2.out
            clear hl HTP hok3
            go_wp2_with fail
            refine HLB.out.mono ?_
            rintro e w2 ⟨rfl, hb2⟩
            have HB2 := Lib.hid hb2
            have HTR3 := Lib.hid (HTR.out w2 (HP.out.d.below hb2 HP.out.d.lt))
            have con2 := ((HB.out.vat (HP.out.g.below_add hb2))).on
            clear hb2
            go_wp2_with fail
            refine HTR3.out.mono ?_
            rintro e w3 ⟨rfl, hd3, hg3⟩
            have HD3 := Lib.hid hd3
            have HG3 := Lib.hid hg3
            clear hd3 hg3
            go_wp2
            go_ret
            refine ⟨by rw [HT2.out]; rfl, (HP.out.g.below_add HB2.out).trans (Gv.of_B HG3.out F), by rw [HT2.out]; exact HD3.out, fun _ => ⟨_, (HP.out.f.below HB2.out HP.out.f.lt).grown HG3.out (fun e => HB.out.nBF (by cases e; rfl)), ?_⟩⟩
            rw [HT2.out]
            exact (HP.out.o.belowAll HB2.out).kept HG3.out (Or.inr (fun e => by have := (HP.out.o.lt _ e).1; have := HB.out.lB; omega))
          · have hl2 : ((t : Int) != Vt.lz h.log) = true := bne_iff_ne.2 hl
            have HT2 : Hid (Vt.tpD d t (decide ((t : Int) = Vt.lz h.log)) = ((d, 42), [])) := Lib.hid (HTP.out.trans (if_pos (decide_eq_false hl)))
            clear hl HTP
            go_wp2_with fail
            refine HLB.out.mono ?_
            rintro e w2 ⟨rfl, hb2⟩
            have HB2 := Lib.hid hb2
            clear hb2
            go_wp2
            go_ret
            refine ⟨by rw [HT2.out]; rfl, HP.out.g.below_add HB2.out, by rw [HT2.out]; exact HP.out.d.below HB2.out HP.out.d.lt, fun e => ?_⟩
            rw [HT2.out] at e; cases e
end Go.Proofs.YtieemdcoomilaaaGreatDoor
namespace Go.Proofs.YtieemdcoomilaaaGreatDoor
open Go Go.RowKit Go.Sort
set_option maxRecDepth 100000
theorem FAt.setHS {w : World} {F : Nat} {has : Bool} {sn : ByteArray} {rv : Value} (a : FAt w F has sn rv) (h' : Bool) (s' : ByteArray) : FAt ((w.setCell ⟨F, 1, none⟩ (.string s')).setCell ⟨F, 0, none⟩ (.bool h')) F h' s' rv := by
  have s1 := set_at (.string s') a.s
  have s2 := set_at (.bool h') ((s1 0).trans ((if_neg (by decide)).trans a.h))
  refine ⟨(s2 0).trans (if_pos rfl), (s2 1).trans ((if_neg (by decide)).trans ((s1 1).trans (if_pos rfl))), (s2 2).trans ((if_neg (by decide)).trans ((s1 2).trans ((if_neg (by decide)).trans a.r))), fun j => by simp only [World.frozen?_setCell]; exact a.fz j⟩
/-- What the snapshot's tape says. -/
def snR (h : He) (d : Dk) : Option ByteArray × Nat :=
  if h.snap = 0 then (none, 0) else if d.dn = true then (none, 45) else match Vt.one2 (Vt.tl (d.T h.snap.toNat)) with | some p => (some p, 0) | none => (none, 4)
theorem oneV_one2 (s : ByteArray) : oneV s 2 = match Vt.one2 s.data.toList with | some p => .tuple #[.string p, .bool true] | none => .tuple #[.string ⟨#[]⟩, .bool false] := by
  unfold oneV Vt.one2
  have hs : s.data.toList.length = s.size := by simp
  rw [hs]
  by_cases h : Fr.er s.data.toList = 0 ∧ Fr.kd s.data.toList = 2 ∧ 9 + Fr.ln s.data.toList = s.size
  · rw [if_pos (show oneY s 2 from h), if_pos h]
  · rw [if_neg (show ¬ oneY s 2 from h), if_neg h]
def SnE (w : World) (F : Nat) (has0 : Bool) (sn0 : ByteArray) (rv : Value) (h : He) (x : Option ByteArray × Nat) (e : Ending) (w' : World) : Prop :=
  e = .returned (.int .i64 (x.2 : Int)) ∧ w.grownBy w' (some F) ∧ (x.2 = 0 → FAt w' F (if h.snap = 0 then has0 else x.1.isSome) (if h.snap = 0 then sn0 else x.1.getD ⟨#[]⟩) rv)
theorem grown_self (w : World) (r : Option Nat) : w.grownBy w r := World.grownBy.refl w r
set_option maxHeartbeats 1000000 in
theorem readSnapshot_any (w : World) (V B F mo : Nat) (h : He) (n : Nat) (v : Value) (d : Dk) (has0 : Bool) (sn0 : ByteArray) (rv : Value) (ha : VAt w V B mo h n v) (hd : DAt w B d) (hok : d.ok) (hT : Tab w) (hf : FAt w F has0 sn0 rv) (hs : 0 ≤ h.snap ∧ h.snap < 32) :
    Calls Tryz.prog 47 #[.pointer (some ⟨V, 0, none⟩), .pointer (some ⟨F, 0, none⟩)] w (SnE w F has0 sn0 rv h (snR h d)) := by
  have con := ha.on
  have csn := ha.s
  have HF := Lib.hid hf
  by_cases h0 : h.snap = 0
  · have e1 : snR h d = (none, 0) := if_pos h0
    rw [e1]
    rw [h0] at csn
    clear ha hd hf e1
    go_enter Tryz.func47, Tryz.ntmps47
    go_wp2
    go_ret
    exact ⟨rfl, grown_self _ _, fun _ => by rw [if_pos h0, if_pos h0]; exact HF.out⟩
  · have h1 : (h.snap == 0) = false := by rw [beq_eq_false_iff_ne]; exact h0
    have HRD := Lib.hid (dread_any B d h.snap w.drew hd.drew)
    have HR0 : Hid (snR h d = if d.dn = true then (none, 45) else match Vt.one2 (Vt.tl (d.T h.snap.toNat)) with | some p => (some p, 0) | none => (none, 4)) := Lib.hid (if_neg h0)
    have k0 := fun d' os => cell_regrown con d' os
    have k1 := fun d' os => cell_regrown csn d' os
    have HRR := Lib.hid (fun d' os => Calls.regrown_of ((dread_any B d h.snap _ (hd.below (below_regrown w d' os) hd.lt)).mono fun e w' (hx : _ ∧ _) => ⟨hx.1, by rw [← hx.2]; exact Below.refl _ _⟩))
    have HT := Lib.hid hT
    by_cases hdn : d.dn = true
    · have e1 : readD d h.snap = (⟨#[]⟩, 45) := by unfold readD; rw [if_pos hdn]
      rw [e1] at HRR HRD
      rw [if_pos hdn] at HR0
      have H0 := Lib.hid h0
      clear ha hd hf e1 h0
      go_enter Tryz.func47, Tryz.ntmps47
      go_wp2_with fail
      refine wp_region_quiet_below (by kernel_rfl) (by kernel_rfl) ?_
      iterate 9 (go_big_quiet_step (fail))
      go_big_quiet_step (first | (go_at_call 85; exact HRR.out _ _))
      iterate 5 (go_big_quiet_step (fail))
      refine wpQuiet_nil ?_
      intro W2 hw2
      have hb2 : Below w.heap.size w W2 := by obtain ⟨q, rfl⟩ := hw2; exact below_regrown _ _ _
      have HB2 := Lib.hid hb2
      clear hb2 hw2
      go_wp2
      go_ret
      refine ⟨by rw [HR0.out]; rfl, grown_below HB2.out _, fun e => ?_⟩
      rw [HR0.out] at e; cases e
    · have e1 : readD d h.snap = ((d.T h.snap.toNat).s, 0) := by unfold readD; rw [if_neg hdn, if_pos hs]
      rw [e1] at HRR HRD
      rw [if_neg hdn] at HR0
      have hsz := (hok.t h.snap.toNat (by omega)).2
      have HONE := Lib.hid (fun W (hW : Below w.heap.size w W) => one_any (d.T h.snap.toNat).s 2 W (by omega) (Lib.hid (hT.below hW)))
      have HOV := oneV_one2 (d.T h.snap.toNat).s
      have etl : Vt.tl (d.T h.snap.toNat) = (d.T h.snap.toNat).s.data.toList := rfl
      rw [etl] at HR0
      have H0 := Lib.hid h0
      clear ha hd hf e1 h0 etl hsz
      generalize (d.T h.snap.toNat).s = S at *
      cases ho : Vt.one2 S.data.toList with
      | none =>
        rw [ho] at HR0 HOV
        dsimp only at HR0 HOV
        rw [HOV] at HONE
        clear HOV ho
        go_enter Tryz.func47, Tryz.ntmps47
        go_wp2_with fail
        refine wp_region_quiet_below (by kernel_rfl) (by kernel_rfl) ?_
        iterate 9 (go_big_quiet_step (fail))
        go_big_quiet_step (first | (go_at_call 85; exact HRR.out _ _))
        iterate 5 (go_big_quiet_step (fail))
        refine wpQuiet_nil ?_
        intro W2 hw2
        have hb2 : Below w.heap.size w W2 := by obtain ⟨q, rfl⟩ := hw2; exact below_regrown _ _ _
        have HB2 := Lib.hid hb2
        clear hb2 hw2
        go_wp2_with fail
        refine (HONE.out W2 HB2.out).mono ?_
        rintro e w3 ⟨rfl, hb3⟩
        have HB3 := Lib.hid (below_trans' HB2.out hb3)
        clear hb3
        have hF3 := HF.out.below HB3.out HF.out.lt
        have f0 := hF3.h; have f1 := hF3.s; have g0 := hF3.fz 0; have g1 := hF3.fz 1
        have HF3 := Lib.hid hF3
        clear hF3
        go_wp2
        go_ret
        refine ⟨by rw [HR0.out]; rfl, grown_trans (grown_below HB3.out _) (grown_trans (grown_setCell w3 F 1 _) (grown_setCell _ F 0 _)), fun e => ?_⟩
        rw [HR0.out] at e; cases e
      | some p =>
        rw [ho] at HR0 HOV
        dsimp only at HR0 HOV
        rw [HOV] at HONE
        clear HOV ho
        go_enter Tryz.func47, Tryz.ntmps47
        go_wp2_with fail
        refine wp_region_quiet_below (by kernel_rfl) (by kernel_rfl) ?_
        iterate 9 (go_big_quiet_step (fail))
        go_big_quiet_step (first | (go_at_call 85; exact HRR.out _ _))
        iterate 5 (go_big_quiet_step (fail))
        refine wpQuiet_nil ?_
        intro W2 hw2
        have hb2 : Below w.heap.size w W2 := by obtain ⟨q, rfl⟩ := hw2; exact below_regrown _ _ _
        have HB2 := Lib.hid hb2
        clear hb2 hw2
        go_wp2_with fail
        refine (HONE.out W2 HB2.out).mono ?_
        rintro e w3 ⟨rfl, hb3⟩
        have HB3 := Lib.hid (below_trans' HB2.out hb3)
        clear hb3
        have hF3 := HF.out.below HB3.out HF.out.lt
        have f0 := hF3.h; have f1 := hF3.s; have g0 := hF3.fz 0; have g1 := hF3.fz 1
        have HF3 := Lib.hid hF3
        clear hF3
        go_wp2
        go_ret
        refine ⟨by rw [HR0.out]; rfl, grown_trans (grown_below HB3.out _) (grown_trans (grown_setCell w3 F 1 _) (grown_setCell _ F 0 _)), fun e => ?_⟩
        rw [HR0.out, if_neg H0.out, if_neg H0.out]
        exact HF3.out.setHS true p
end Go.Proofs.YtieemdcoomilaaaGreatDoor
