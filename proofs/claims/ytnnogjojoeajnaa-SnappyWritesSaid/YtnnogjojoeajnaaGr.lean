/- The contract of grow: bytes, and behind them what a part stands for there. -/
import Derived.Test.YtnnogjojoeajnaaPa
namespace Go.Proofs.Ytnnogjojoeajnaa
open Go.RowKit
/-- l, and k bytes more, each the one that stands off bytes ahead. -/
def rep (l : List UInt8) (off : Nat) : Nat → List UInt8
  | 0 => l
  | k + 1 => rep (l ++ [l.getD (l.length - off) 0]) off k
/-- l, and what p stands for behind it. -/
def gro (l : List UInt8) (p : Pt) : List UInt8 := if p.c then rep l p.o.toNat p.l.toNat else l ++ p.t.data.toList
theorem rep_length : ∀ (k : Nat) (l : List UInt8) (off : Nat), (rep l off k).length = l.length + k
  | 0, _, _ => rfl
  | k + 1, l, off => by rw [rep, rep_length k]; simp; omega
theorem gro_length (l : List UInt8) (p : Pt) (h : 0 ≤ p.l) : ((gro l p).length : Int) = l.length + cnt p := by
  unfold gro cnt
  split
  · rw [rep_length]; omega
  · simp
set_option maxRecDepth 100000 in
set_option maxHeartbeats 1000000 in
theorem grow_lit (p : Pt) (hc : p.c = false) (hp : p.ok) (base : Nat) (v : Value) (xs : List UInt8) (w : World) (hown : Own w base v (xs.map bv)) (hb : base ≤ w.heap.size) (hl : xs.length + p.t.size ≤ 140737488355000) :
   Calls Try.prog 36 #[v, pv p] w (OwnRet w base v (gro xs p)) := by
  obtain ⟨c, t, o, l⟩ := p
  obtain rfl : c = false := hc
  obtain ⟨h1, -, -, -, -⟩ := hp
  dsimp only at h1 hl
  obtain ⟨i0, hi, hz0, hz1, hz2⟩ := info_parts Try.info5
  have HO := Lib.hid hown
  clear hown
  have hxl : (xs.map bv).length = xs.length := by simp
  unfold pv gro
  dsimp only
  go_enter Try.func36, Try.ntmps36
  go_wp2_with (at_builtin; refine wpList_append_Own _ rfl (.tmp 8) (.tmp 10) 28 9 rfl base 5 i0 (.int .u8 0) 1 Try.underlying28 hi hz0 hz1 hz2 rfl v (xs.map bv) rfl (HO.out.alloc _) _ t.size (t.data.toList.map bv) rfl (Src.ofString _ Try.underlying9 t) ?c1 ?c2 ?c3 ?_; rotate_right; intro v' w1 hown1 hgr hwh; have HO1 := Lib.hid hown1; have HG := Lib.hid hgr; have HH := Lib.hid hwh; clear hown1 hgr hwh)
  case c1 => omega
  case c2 => omega
  case c3 => exact Nat.le_trans hb (by simp)
  go_ret
  refine ⟨v', rfl, ?_, ((Step.refl _ _).alloc _).trans ⟨HG.out, HH.out⟩⟩
  simpa using HO1.out
theorem rep_snoc (l : List UInt8) (off k : Nat) : rep l off (k + 1) = rep (l ++ [l.getD (l.length - off) 0]) off k := rfl
set_option maxRecDepth 100000 in
set_option maxHeartbeats 1000000 in
theorem grow_copy (t : ByteArray) (off n : Nat) (ho1 : 1 ≤ off) (hn : n ≤ 64) (base : Nat) (v : Value) (xs : List UInt8) (w : World) (ho2 : off ≤ xs.length) (hown : Own w base v (xs.map bv)) (hb : base ≤ w.heap.size) (hl : xs.length ≤ 140737488355000) :
   Calls Try.prog 36 #[v, .agg #[.bool true, .string t, .int .i64 off, .int .i64 n]] w (OwnRet w base v (rep xs off n)) := by
  obtain ⟨i0, hi, hz0, hz1, hz2⟩ := info_parts Try.info5
  have HO := Lib.hid hown
  clear hown
  go_enter Try.func36, Try.ntmps36
  go_wp2
  have hsz : (w.alloc (Obj.cells #[Value.bool true, Value.string t, Value.int IntKind.i64 ↑off, Value.int IntKind.i64 ↑n] 35)).heap.size = w.heap.size + 1 := by simp
  have hc2 : (w.alloc (Obj.cells #[Value.bool true, Value.string t, Value.int IntKind.i64 ↑off, Value.int IntKind.i64 ↑n] 35)).cell? ⟨w.heap.size, 2, none⟩ = some (.int .i64 off) := by
    rw [World.cell?_alloc_mark]; rfl
  go_loopw [0, 14] (fun u i wr => ∃ (k m : Nat) (ys : List UInt8), i = .int .i64 (k : Int) ∧ k + m = n ∧ Hid (rep ys off m = rep xs off n) ∧ Hid (ys.length = xs.length + k) ∧ Hid (wr.cell? ⟨w.heap.size, 2, none⟩ = some (.int .i64 off)) ∧ Hid (∀ g, u.ownBlock = some g → g ≠ w.heap.size) ∧ Hid (w.heap.size < wr.heap.size) ∧ Hid (Own wr base u (ys.map bv)) ∧ Hid (Step w wr v u)) (fun _ i _ => n - (intOf i).toNat)
  case atStart =>
    refine ⟨0, n, xs, rfl, by omega, Lib.hid rfl, Lib.hid rfl, Lib.hid hc2, Lib.hid ?_, Lib.hid (by rw [hsz]; omega), Lib.hid (HO.out.alloc _), Lib.hid ((Step.refl _ _).alloc _)⟩
    intro g hg
    have := (HO.out.lt g hg).2
    omega
  case round =>
    obtain ⟨k, m, ys, rfl, hkm, HR, HL, HC, HN, HZ, HW, HS⟩ := hrel
    clear hc2 hsz
    cases m with
    | zero =>
      obtain rfl : k = n := by omega
      go_wp2
      go_ret
      refine ⟨u0, rfl, ?_, HS.out⟩
      rw [← HR.out]
      exact HW.out
    | succ m =>
      have hyl : (ys.map bv).length = ys.length := by simp
      have hyb : (ys.map bv).length ≤ 140737488355100 := by rw [hyl, HL.out]; omega
      have hlt : k < n := by omega
      obtain ⟨J, hJ⟩ : ∃ J, J + off = ys.length := ⟨ys.length - off, by have := HL.out; omega⟩
      have hcell := HC.out
      have HB : Hid (base ≤ wr.heap.size) := Lib.hid (by have := HZ.out; omega)
      obtain ⟨g, cap, hv0, hg1, hg2, hcap, hcs⟩ := HW.out.pos (by omega)
      rw [hyl] at hv0
      subst hv0
      obtain ⟨hcj, hfj⟩ := hcs J (by omega)
      have hcj' : wr.cell? ⟨g, J, none⟩ = some (.int .u8 ((ys.getD J 0).toNat : Int)) := by
        rw [hcj, List.getElem?_map, List.getD_eq_getElem?_getD, List.getElem?_eq_getElem (by omega : J < ys.length)]
        rfl
      clear hcj hfj hcs
      have hJi : ((ys.length : Nat) : Int) - (off : Int) = (J : Int) := by omega
      have hJl : J < ys.length := by omega

      go_wp2_with (at_builtin; refine wpList_append_Own _ rfl (.tmp 16) (.tmp 25) 28 28 rfl base 5 i0 (.int .u8 0) 1 Try.underlying28 hi hz0 hz1 hz2 rfl _ (ys.map bv) rfl (HW.out.alloc _) _ 1 _ rfl (Src.one wr Try.underlying28 _ _ rfl) ?c1 ?c2 ?c3 ?_; rotate_right; intro v' w1 hown1 hgr hwh; have HO1 := Lib.hid hown1; have HG := Lib.hid hgr; have HH := Lib.hid hwh; clear hown1 hgr hwh)
      case c1 => omega
      case c2 => omega
      case c3 => exact Nat.le_trans HB.out (by simp)
      go_roundw
      case rel =>
        refine ⟨k + 1, m, ys ++ [ys.getD (ys.length - off) 0], by go_num, by omega, Lib.hid HR.out, Lib.hid (by have := HL.out; simp; omega), Lib.hid ?_, Lib.hid ?_, Lib.hid ?_, Lib.hid ?_, Lib.hid ?_⟩
        · rw [World.cell?_of_block (a := ⟨w.heap.size, 2, none⟩) (HG.out.block w.heap.size (by have := HZ.out; simp; omega) (fun e => HN.out w.heap.size e.symm rfl))]
          rw [World.cell?_of_block (a := ⟨w.heap.size, 2, none⟩) ((World.grownBy_alloc wr _ none).block w.heap.size HZ.out (by simp))]
          exact HC.out
        · intro g' hg'
          rcases HH.out with e | e
          · exact HN.out g' (e.symm.trans hg')
          · have := e g' hg'
            have := HZ.out
            simp at *
            omega
        · exact Nat.lt_of_lt_of_le HZ.out (Nat.le_trans (by simp) HG.out.size)
        · refine own_snoc ?_ HO1.out
          rw [show ys.length - off = J from by omega, List.getD_eq_getElem?_getD, List.getElem?_eq_getElem hJl]
          rfl
        · exact (HS.out.alloc _).trans ⟨HG.out, HH.out⟩
      case measure => simp [intOf]; omega
/-- What a part must be, that grow may be asked for it behind so many bytes. -/
structure Fits (p : Pt) (n : Nat) : Prop where
  ok : p.ok
  cp : p.c = true → 1 ≤ p.o ∧ p.o ≤ n ∧ 0 ≤ p.l ∧ p.l ≤ 64
theorem grow_any (p : Pt) (base : Nat) (v : Value) (xs : List UInt8) (w : World) (hp : Fits p xs.length) (hown : Own w base v (xs.map bv)) (hb : base ≤ w.heap.size) (hl : xs.length + p.t.size ≤ 140737488355000) :
   Calls Try.prog 36 #[v, pv p] w (OwnRet w base v (gro xs p)) := by
  cases hc : p.c with
  | false => exact grow_lit p hc hp.ok base v xs w hown hb hl
  | true =>
    obtain ⟨h1, h2, h3, h4⟩ := hp.cp hc
    obtain ⟨c, t, o, l⟩ := p
    obtain rfl : c = true := hc
    obtain ⟨O, rfl⟩ := Int.eq_ofNat_of_zero_le (a := o) (by dsimp only at h1; omega)
    obtain ⟨L, rfl⟩ := Int.eq_ofNat_of_zero_le (a := l) h3
    dsimp only at h1 h2 h4 hl
    have h := grow_copy t O L (by omega) (by omega) base v xs w (by omega) hown hb (by omega)
    unfold gro pv
    exact h
end Go.Proofs.Ytnnogjojoeajnaa
