/- What the document's Copy needs: rows appended to what is empty, series owned one behind another. -/
/- The contract of the document's Copy 6. -/
import Derived.Test.YtioflicmpnkfeaaGreatSd
import Derived.Deep.Upon
import Derived.ArgAppend
import Derived.Maps.AppendAt
import Derived.Deep.RegionHeld3
namespace Go.Proofs.YtioflicmpnkfeaaGreat
open Go Go.RowKit Go.Deep
set_option maxRecDepth 100000
/-- What a world is to one before it: grown alone. -/
class Bl (w W : World) : Prop where
  h : Below w.heap.size w W
instance Bl.rfl' (w : World) : Bl w w := ⟨Below.refl _ _⟩
instance Bl.drew (w W : World) [b : Bl w W] : Bl w W.drew := ⟨Below.drew b.h⟩
instance Bl.alloc (w W : World) (o : Obj) [b : Bl w W] : Bl w (W.alloc o) := ⟨b.h.alloc b.h.size o⟩
theorem Bl.sz {w W : World} [b : Bl w W] : w.heap.size ≤ W.heap.size := b.h.size
theorem Bl.tr {a b c : World} (h : Bl a b) (k : Below b.heap.size b c) : Bl a c := ⟨h.h.trans (k.mono h.h.size)⟩
/-- Pairs that are owned, or none. -/
def Oe (E : TypeId) (w : World) (v : Value) (l : List Pv) : Prop := (l = [] ∧ ∃ a c, v = .slice a 0 c) ∨ ∃ b, O2 E w b v l
theorem Oe.at {E : TypeId} {w : World} {v : Value} {l : List Pv} (h : Oe E w v l) : At2 w v l := by
  rcases h with h | ⟨b, h⟩
  · exact .inl h
  · exact h.at
theorem Oe.below {E : TypeId} {w w' : World} {v : Value} {l : List Pv} (h : Oe E w v l) (hb : Below w.heap.size w w') : Oe E w' v l :=
  h.imp id fun ⟨b, h⟩ => ⟨b, h.below hb (Nat.le_refl _)⟩
theorem Oe.grown {E F : TypeId} {w w' : World} {v u : Value} {l k : List Pv} {base : Nat} (h : Oe E w v l) (hu : O2 F w base u k) (hg : w.grownBy w' u.ownBlock) (hE : F ≠ E) : Oe E w' v l :=
  h.imp id fun ⟨b, h⟩ => ⟨b, h.same fun g hlt hv => by
    obtain ⟨cur, hc⟩ := own_mark h g hv
    exact hg.block g hlt (fun e => hu.ne hc hE e.symm)⟩
theorem Bl.grown {w W W' : World} {F : TypeId} {u : Value} {k : List Pv} (h : Bl w W) (hu : O2 F W w.heap.size u k) (hg : W.grownBy W' u.ownBlock) : Bl w W' :=
  ⟨h.h.grown hg h.h.size fun k hk => (hu.lt k hk).1⟩
/-- Series owned, each with its rows. -/
structure Osc (w : World) (base : Nat) (v : Value) (zs : List Zr) : Prop where
  row : O2 29 w base v (zs.map zp)
  ls : ∀ z ∈ zs, Oe 35 w z.a (z.x.ls.map lp)
  ss : ∀ z ∈ zs, Oe 54 w z.b (z.x.ss.map sp)
theorem Osc.at {w : World} {base : Nat} {v : Value} {zs : List Zr} (h : Osc w base v zs) : SAt w v zs := ⟨h.row.at, fun z hz => (h.ls z hz).at, fun z hz => (h.ss z hz).at⟩
theorem Osc.nil (w : World) (base : Nat) : Osc w base (.slice none 0 0) [] := ⟨O2.nil _ _ _, fun z hz => (by cases hz), fun z hz => (by cases hz)⟩
theorem Osc.snoc {w w' : World} {base : Nat} {v v' : Value} {zs : List Zr} {x : Sr} {a b : Value} (h : Osc w base v zs) (ha : Oe 35 w a (x.ls.map lp)) (hb : Oe 54 w b (x.ss.map sp)) (ho : O2 29 w' base v' (zs.map zp ++ [(a, b)])) (hg : w.grownBy w' v.ownBlock) : Osc w' base v' (zs ++ [⟨x, a, b⟩]) := by
  refine ⟨by rw [List.map_append]; exact ho, fun z hz => ?_, fun z hz => ?_⟩
  · rcases List.mem_append.1 hz with hz | hz
    · exact (h.ls z hz).grown h.row hg (by decide)
    · rcases List.mem_singleton.1 hz with rfl
      exact ha.grown h.row hg (by decide)
  · rcases List.mem_append.1 hz with hz | hz
    · exact (h.ss z hz).grown h.row hg (by decide)
    · rcases List.mem_singleton.1 hz with rfl
      exact hb.grown h.row hg (by decide)
theorem Osc.below {w w' : World} {base : Nat} {v : Value} {zs : List Zr} (h : Osc w base v zs) (hb : Below w.heap.size w w') : Osc w' base v zs :=
  ⟨h.row.below hb (Nat.le_refl _), fun z hz => (h.ls z hz).below hb, fun z hz => (h.ss z hz).below hb⟩
theorem prs_one {l : List Pv} (h : ∀ p ∈ l, p.1.oneCell' = true ∧ p.2.oneCell' = true) : ∀ u ∈ prs l, u.oneCell' = true := by
  intro u hu
  obtain ⟨j, hj⟩ := List.getElem?_of_mem hu
  obtain ⟨q, hq, ⟨-, rfl⟩ | ⟨-, rfl⟩⟩ := prs_cell l j u hj
  · exact (h _ (List.getElem_mem hq)).1
  · exact (h _ (List.getElem_mem hq)).2
theorem lp_one (l : List Lb) : ∀ p ∈ l.map lp, p.1.oneCell' = true ∧ p.2.oneCell' = true := by
  intro p hp
  obtain ⟨z, hz, rfl⟩ := List.mem_map.1 hp
  exact ⟨rfl, rfl⟩
theorem sp_one (l : List Sm) : ∀ p ∈ l.map sp, p.1.oneCell' = true ∧ p.2.oneCell' = true := by
  intro p hp
  obtain ⟨z, hz, rfl⟩ := List.mem_map.1 hp
  exact ⟨rfl, rfl⟩
/-- Appended to what is empty and has no room. -/
theorem run_append_e (T E : TypeId) (z : Value) (by' : Nat) (hT : Tryz.prog.underlying T = some (.slice E)) (hI : (Tryz.prog.info? E).map (fun i => (i.zero, i.size, i.bytes)) = some (some z, 2, by')) (hz : z.cells.size = 2) (hby : by' ≤ 48)
    (ty : TypeId) (b : Addr) (vx : Value) (l : List Pv) (w : World) (h : At2 w vx l) (h1 : ∀ p ∈ l, p.1.oneCell' = true ∧ p.2.oneCell' = true) (hl : l.length ≤ 1000000000000) :
    ∃ a c w', (Builtin.append_ #[T, T] ty #[.slice (some b) 0 0, vx]).run Tryz.prog w = .ok (.slice a l.length c) w' ∧ Oe E w' (.slice a l.length c) l ∧ Below w.heap.size w w' := by
  obtain ⟨i0, hi, hz0, hz1, hz2⟩ := info_parts hI
  have hnil : ∀ x, Src Tryz.prog i0.size T x 0 [] w → l = [] → ∃ a c w', (Builtin.append_ #[T, T] ty #[.slice (some b) 0 0, x]).run Tryz.prog w = .ok (.slice a l.length c) w' ∧ Oe E w' (.slice a l.length c) l ∧ Below w.heap.size w w' := by
    rintro x hs rfl
    exact ⟨some b, 0, w, run_append_nothing w T T ty E i0 hT hi (some b) 0 0 (Nat.le_refl _) x hs, .inl ⟨rfl, _, _, rfl⟩, Below.refl _ _⟩
  rcases h.src with ⟨c, rfl, h0⟩ | ⟨ad, c, rfl, hc⟩
  · exact hnil _ (Src.ofNil w hT c) h0
  · by_cases h0 : l = []
    · subst h0
      exact hnil _ (Src.ofSlice w hT ad 0 c [] (by simp) (fun j u h => by simp at h) (fun u h => by cases h)) rfl
    · have hpos : 0 < l.length := List.length_pos_iff.2 h0
      have hb : l.length * by' ≤ l.length * 48 := Nat.mul_le_mul_left _ hby
      obtain ⟨v', w', hr, ho, hg⟩ := run_append_arg_grows (P := Tryz.prog) w T ty E i0 z 2 by' hT hi hz0 hz1 hz2 hz (by decide) b 0 0 [] rfl (fun j u h => by simp at h) ad l.length c (prs l) (prs_len l) hc (by omega) (by unfold maxLen; omega) (by rw [Nat.zero_add]; omega)
      rw [Nat.zero_add, List.nil_append] at ho
      obtain ⟨a, c', rfl⟩ := ownsRow_shape ho
      exact ⟨a, c', w', hr, .inr ⟨_, ho⟩, (Below.refl _ _).grown hg (Nat.le_refl _) (fun k hk => by cases hk)⟩
theorem step_append_e (T E : TypeId) (z : Value) (by' : Nat) (hT : Tryz.prog.underlying T = some (.slice E)) (hI : (Tryz.prog.info? E).map (fun i => (i.zero, i.size, i.bytes)) = some (some z, 2, by')) (hz : z.cells.size = 2) (hby : by' ≤ 48)
    {ops : Array Oper} {o : Oper} {a : Act} {w : World} {K : Act → World → Prop} {Q : Exit → Act → World → Prop} {E0 : Prop} (hgd : o.guard = none) (s x : Operand)
    (ho : o.op = .call { callee := .builtin .append, args := #[s, x], argTypes := #[T, T] })
    (b : Addr) (hs : a.eval s = .slice (some b) 0 0) (vx : Value) (l : List Pv) (hx : a.eval x = vx) (hG : At2 w vx l) (h1 : ∀ p ∈ l, p.1.oneCell' = true ∧ p.2.oneCell' = true) (hl : l.length ≤ 1000000000000)
    (h : ∀ a' n c w', Oe E w' (.slice a' n c) l → (∀ W0 [Bl W0 w], Bl W0 w') → K (a.put o.dst (.slice a' n c)) w') : if Region.wanted o (yielded ops a.tmps) = true then Oper.wp Tryz.prog o a w K Q else E0 := by
  have hw : Region.wanted o (yielded ops a.tmps) = true := by simp [Region.wanted, hgd]
  rw [if_pos hw]
  obtain ⟨a', c, w', hr, h2, h3⟩ := run_append_e T E z by' hT hI hz hby o.type b vx l w hG h1 hl
  unfold Oper.wp execOp
  simp only [ho, resolve, invoke, builtin, Sem.run_bind, Sem.run_pure, Result.andThen_ok, List.map_toArray, List.map_cons, List.map_nil, hs, hx, hr]
  exact h a' _ c w' h2 fun W0 k => k.tr h3
theorem step_append_z {ops : Array Oper} {o : Oper} {a : Act} {w : World} {K : Act → World → Prop} {Q : Exit → Act → World → Prop} {E0 : Prop} (hgd : o.guard = none) (s x : Operand)
    (ho : o.op = .call { callee := .builtin .append, args := #[s, x], argTypes := #[22, 22] })
    (base : Nat) (v : Value) (l1 : List Pv) (hs : a.eval s = v) (hown : O2 29 w base v l1) (vx : Value) (p : Pv) (hx : a.eval x = vx) (hG : At2 w vx [p]) (h1 : p.1.oneCell' = true ∧ p.2.oneCell' = true) (hl : l1.length ≤ 1000000000000) (hbase : base ≤ w.heap.size)
    (h : ∀ v' w', O2 29 w' base v' (l1 ++ [p]) → w.grownBy w' v.ownBlock → K (a.put o.dst v') w') : if Region.wanted o (yielded ops a.tmps) = true then Oper.wp Tryz.prog o a w K Q else E0 := by
  have hw : Region.wanted o (yielded ops a.tmps) = true := by simp [Region.wanted, hgd]
  rw [if_pos hw]
  obtain ⟨i0, hi, hz0, hz1, hz2⟩ := info_parts Tryz.info29
  rcases hG.src with ⟨c, rfl, h0⟩ | ⟨ad, c, rfl, hc⟩
  · cases h0
  · obtain ⟨v', w', hr, h2, h3, _, _⟩ := run_append_own_at (P := Tryz.prog) w base 22 o.type 29 i0 _ 2 48 Tryz.underlying22 hi hz0 hz1 hz2 (by rfl) (by decide) v l1.length (prs l1) hown ad 1 c (prs [p]) (prs_len [p]) hc (prs_one (fun q hq => by rcases List.mem_singleton.1 hq with rfl; exact h1)) (by unfold maxLen; omega) (by omega) hbase
    unfold Oper.wp execOp
    have hx' : a.eval x = .slice (some ad) 1 c := hx
    simp only [ho, resolve, invoke, builtin, Sem.run_bind, Sem.run_pure, Result.andThen_ok, List.map_toArray, List.map_cons, List.map_nil, hs, hx', hr]
    refine h v' w' ?_ h3
    unfold O2
    rw [List.length_append, prs_app]
    exact h2
end Go.Proofs.YtioflicmpnkfeaaGreat

namespace Go.Proofs.YtioflicmpnkfeaaGreat
open Go Go.RowKit Go.Deep
set_option maxRecDepth 100000
set_option maxHeartbeats 2000000 in
theorem copy6_any (zs : List Zr) (hf : Fin0 zs) (v : Value) (w : World) (hv : SAt w v zs) :
    Calls Tryz.prog 6 #[v] w fun e w' => ∃ u cs, e = .returned u ∧ SAt w' u cs ∧ cs.map Zr.x = zs.map Zr.x ∧ Below w.heap.size w w' := by
  obtain ⟨a1, c1, ha⟩ := hv.slice
  have HV := Lib.hid hv
  have HF := Lib.hid hf.l
  have hl := hf.len
  clear hv hf
  generalize hL : zs.length = L at *
  have HL := Lib.hid hL
  clear hL
  subst ha
  go_enter Tryz.func6, Tryz.ntmps6
  go_wp2
  go_loopw [3, 4] (fun u i wr => ∃ (k : Nat) (cs : List Zr), i = .int .i64 (k : Int) ∧ k ≤ L ∧ Hid (Osc wr w.heap.size u cs) ∧ Hid (cs.map Zr.x = (zs.take k).map Zr.x) ∧ Hid (Bl w wr)) (fun _ i _ => L - (intOf i).toNat)
  case atStart => exact ⟨0, [], rfl, by omega, Lib.hid (Osc.nil _ _), Lib.hid rfl, Lib.hid inferInstance⟩
  case round =>
    obtain ⟨k, cs, rfl, hk, HO, HE, HB⟩ := hrel
    by_cases hlt : k < L
    · have hkl : k < zs.length := by have := HL.out; omega
      have iB : Bl w wr := HB.out
      rcases HV.out.row with ⟨h0, _⟩ | ⟨g, o, c, hg, hcs⟩
      · have := congrArg List.length h0; rw [List.length_map, List.length_nil] at this; omega
      obtain ⟨q0, q1⟩ := hcs k (by rw [List.length_map]; exact hkl)
      rw [List.getElem_map] at q0 q1
      rw [List.length_map, HL.out] at hg
      clear hcs
      have htk : (zs.take (k + 1)).map Zr.x = (zs.take k).map Zr.x ++ [zs[k].x] := by rw [List.take_succ_eq_append_getElem hkl, List.map_append]; rfl
      have hm := List.getElem_mem hkl
      have HLA := Lib.hid (fun W (i : Bl w W) => At2.below (HV.out.ls _ hm) i.h (Nat.le_refl _))
      have HMA := Lib.hid (fun W (i : Bl w W) => At2.below (HV.out.ss _ hm) i.h (Nat.le_refl _))
      have HFZ := HF.out _ hm
      have HCL : cs.length ≤ 1000000000000 := by
        have := congrArg List.length HE.out
        rw [List.length_map, List.length_map, List.length_take] at this
        omega
      have hs1 : ∃ a n c, zs[k].a = .slice a n c := by obtain ⟨_, _, h⟩ := At2.slice (HV.out.ls _ hm); exact ⟨_, _, _, h⟩
      have hs2 : ∃ a n c, zs[k].b = .slice a n c := by obtain ⟨_, _, h⟩ := At2.slice (HV.out.ss _ hm); exact ⟨_, _, _, h⟩
      have HT := Lib.hid htk
      clear htk hm
      generalize zs[k] = Z at *
      obtain ⟨X, p0, p1⟩ := Z
      unfold zp at q0 q1
      dsimp only at q0 q1 HLA HMA HFZ HT hs1 hs2
      obtain ⟨a3, n3, c3, h3⟩ := hs1
      obtain ⟨a4, n4, c4, h4⟩ := hs2
      subst h3 h4
      cases hg
      have hn1 : (X.ls.map lp).length ≤ 1000000000000 := by rw [List.length_map]; exact HFZ.1
      have hn2 : (X.ss.map sp).length ≤ 1000000000000 := by rw [List.length_map]; exact HFZ.2
      have hn3 : (cs.map zp).length ≤ 1000000000000 := by rw [List.length_map]; exact HCL
      have HN1 := Lib.hid hn1
      have HN2 := Lib.hid hn2
      have HN3 := Lib.hid hn3
      clear HCL HFZ hn1 hn2 hn3
      have HP1 := Lib.hid (lp_one X.ls)
      have HP2 := Lib.hid (sp_one X.ss)
      have r0 := (iB.h.cell (World.block_lt_of_cell? w _ q0)).trans q0
      have r1 := (iB.h.cell (World.block_lt_of_cell? w _ q1)).trans q1
      have HS : Hid (∀ W [Bl w W], W.cell? ⟨g, o + k * 2, none⟩ = some (.slice a3 n3 c3) ∧ W.cell? ⟨g, o + k * 2 + 1, none⟩ = some (.slice a4 n4 c4)) := Lib.hid fun W i => ⟨(i.h.cell (World.block_lt_of_cell? w _ q0)).trans q0, (i.h.cell (World.block_lt_of_cell? w _ q1)).trans q1⟩
      obtain ⟨wo, hwo⟩ : ∃ wo, wo = wr := ⟨_, rfl⟩
      go_wp2_with fail
      go_region_held3 (fun w' => w'.cell? ⟨g, o + k * 2, none⟩ = some (.slice a3 n3 c3) ∧ w'.cell? ⟨g, o + k * 2 + 1, none⟩ = some (.slice a4 n4 c4)) (first | exact HS.out _) (first
        | (refine step_append_e 26 35 _ 32 Tryz.underlying26 Tryz.info35 rfl (by decide) rfl (.tmp 12) (.tmp 17) rfl _ rfl _ _ rfl (HLA.out _ inferInstance) HP1.out HN1.out ?_; intro a18 n18 c18 w18 ho18 i18; have HA := Lib.hid ho18; clear ho18)
        | (refine step_append_e 27 54 _ 16 Tryz.underlying27 Tryz.info54 rfl (by decide) rfl (.tmp 19) (.tmp 24) rfl _ rfl _ _ rfl (HMA.out _ inferInstance) HP2.out HN2.out ?_; intro a25 n25 c25 w25 ho25 i25; have HC := Lib.hid ho25; clear ho25)
        | (refine step_append_z rfl (.tmp 11) (.tmp 27) rfl w.heap.size _ _ rfl (O2.below HO.out.row (Bl.h (w := wr)) (Nat.le_refl _)) _ _ rfl (O2.one 29 _ 0 (Nat.zero_le _) _ _).at ⟨rfl, rfl⟩ HN3.out (Nat.le_trans HB.out.h.size (Bl.sz (w := wr))) ?_; intro v28 w28 ho28 hg28; have HR := Lib.hid ho28; have HG := Lib.hid hg28; have i28 : Bl w w28 := Bl.grown (HB.out.tr (Bl.h (w := wr))) (O2.below HO.out.row (Bl.h (w := wr)) (Nat.le_refl _)) hg28; clear ho28 hg28))
      all_goals
        have hB2 := i28
        have hO2 := Osc.snoc (HO.out.below (Bl.h (w := wr))) (HA.out.below (Bl.h (w := w18))) (HC.out.below (Bl.h (w := w25))) HR.out HG.out
        have HB2 := Lib.hid hB2
        have HO2 := Lib.hid hO2
        clear hB2 hO2
        go_wp2
        go_roundw
        case rel => exact ⟨k + 1, cs ++ [⟨X, _, _⟩], by go_num, by omega, HO2, Lib.hid (by rw [List.map_append, HE.out, HT.out]; rfl), HB2⟩
        case measure => simp [intOf]; omega
    · obtain rfl : k = L := by omega
      go_wp2
      go_ret
      refine ⟨_, cs, rfl, HO.out.at, ?_, HB.out.h⟩
      have := HE.out
      rwa [List.take_of_length_le (by have := HL.out; omega)] at this
end Go.Proofs.YtioflicmpnkfeaaGreat
