/- put: a part, written. -/
import Derived.Test.YtnnogjojoeajnaaPn
import Derived.Test.YtnnogjojoeajnaaPc
namespace Go.Proofs.Ytnnogjojoeajnaa
open Go.RowKit
/-- A part, written. -/
def wrt (p : Pt) : List UInt8 :=
  if p.c then
    if 4 ≤ p.l ∧ p.l ≤ 11 ∧ p.o < 2048 then [UInt8.ofNat (p.o.toNat / 256 * 32 + (p.l.toNat - 4) * 4 + 1), UInt8.ofNat p.o.toNat]
    else if p.o < 65536 then UInt8.ofNat ((p.l.toNat - 1) * 4 + 2) :: Bt.fx 2 p.o.toNat
    else UInt8.ofNat ((p.l.toNat - 1) * 4 + 3) :: Bt.fx 4 p.o.toNat
  else lhead p.t.size ++ p.t.data.toList
theorem step_append_Own {P : Program} {ops : Array Oper} {o : Oper} {a : Act} {w : World} {K : Act → World → Prop} {Q : Exit → Act → World → Prop} {E : Prop} (hg : o.guard = none) (s x : Operand) (t tx : TypeId)
    (ho : o.op = .call { callee := .builtin .append, args := #[s, x], argTypes := #[t, tx] })
    (base : Nat) (e : TypeId) (i : TypeInfo) (z : Value) (bytes : Nat) (ht : P.underlying t = some (.slice e)) (hi : P.info? e = some i) (hz : i.zero = some z)
    (hsize : i.size = 1) (hby : i.bytes = bytes) (hzs : z.cells = #[z])
    (v : Value) (xs : List Value) (hs : a.eval s = v) (hown : Own w base v xs) (vx : Value) (n : Nat) (news : List Value) (hx : a.eval x = vx) (hsrc : Src P 1 tx vx n news w)
    (hbytes : (xs.length + n) * bytes ≤ 140737488355328) (hml : xs.length + n ≤ 140737488355328) (hbase : base ≤ w.heap.size)
    (hK : ∀ v' w', Own w' base v' (xs ++ news) → Step w w' v v' → K (a.put o.dst v') w') :
    if Region.wanted o (yielded ops a.tmps) = true then Oper.wp P o a w K Q else E := by
  have hw : Region.wanted o (yielded ops a.tmps) = true := by simp [Region.wanted, hg]
  rw [if_pos hw]
  exact wp_append_Own w s x t tx ho base e i z bytes ht hi hz hsize hby hzs v xs hs hown vx n news hx hsrc hbytes hml hbase fun v' w' h1 h2 h3 => hK v' w' h1 ⟨h2, h3⟩
set_option maxRecDepth 100000 in
set_option maxHeartbeats 1000000 in
theorem put_lit (t : ByteArray) (h1 : 1 ≤ t.size) (h2 : t.size ≤ 65536) (base : Nat) (v : Value) (xs : List UInt8) (w : World) (hown : Own w base v (xs.map bv)) (hb : base ≤ w.heap.size) (hl : xs.length ≤ 1000000000000) :
   Calls Try.prog 42 #[v, .agg #[.bool false, .string t, .int .i64 0, .int .i64 0]] w (OwnRet w base v (xs ++ (lhead t.size ++ t.data.toList))) := by
  obtain ⟨i0, hi, hz0, hz1, hz2⟩ := info_parts Try.info5
  have HO := Lib.hid hown
  clear hown
  have hll : (lhead t.size).length ≤ 5 := by unfold lhead nsz; split <;> simp [Bt.fx_length]; (repeat' split) <;> omega
  have HLL := Lib.hid hll
  have HX := Lib.hid (Box.new w ⟨false, t, 0, 0⟩)
  obtain ⟨p0, p1, p2, p3, -, -, -, -⟩ := HX.out.cells
  dsimp only at p0 p1 p2 p3
  have HXD : Hid (Box (w.alloc (.cells #[.bool false, .string t, .int .i64 0, .int .i64 0] 35)).drew w.heap.size ⟨false, t, 0, 0⟩) := Lib.hid HX.out
  go_enter Try.func42, Try.ntmps42
  go_wp2
  go_region_law (first
    | (rw [if_pos (by rfl)]; go_simp; go_at_call 61; refine (lhead_own t.size h1 h2 base v xs _ ((HO.out.alloc (.cells #[.bool false, .string t, .int .i64 0, .int .i64 0] 35)).drew) (Nat.le_trans hb (by simp)) (by omega)).mono ?_; rintro e w2 ⟨v2, rfl, ho2, hs2⟩; dsimp only; have HO2 := Lib.hid ho2; have HS2 := Lib.hid (((Step.refl w v).alloc (.cells #[.bool false, .string t, .int .i64 0, .int .i64 0] 35)).drew.trans hs2); have q1 := (HXD.out.kept hs2.grown (by intro e; have := (HO.out.lt _ e.symm).2; omega)).cells.c1; clear ho2 hs2)
    | (refine step_append_Own rfl (.tmp 25) (.tmp 27) 28 9 rfl base 5 i0 (.int .u8 0) 1 Try.underlying28 hi hz0 hz1 hz2 rfl v2 ((xs ++ lhead t.size).map bv) rfl HO2.out _ t.size _ rfl (Src.ofString _ Try.underlying9 t) (by have := HLL.out; simp; omega) (by have := HLL.out; simp; omega) (Nat.le_trans hb HS2.out.grown.size) ?_; intro v3 w3 ho3 hs3; have HO3 := Lib.hid ho3; have HS3 := Lib.hid hs3; clear ho3 hs3)
    | (trace_state; fail))
  all_goals
    go_wp2
    go_ret
    refine ⟨v3, rfl, ?_, HS2.out.trans HS3.out⟩
    have h := HO3.out
    rw [← List.append_assoc, List.map_append]
    exact h
end Go.Proofs.Ytnnogjojoeajnaa
