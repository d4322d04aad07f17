/- Pack's closure: what was passed over is put as a literal. -/
import Derived.Test.YtnnogjojoeajnaaMp
import Derived.Test.YtnnogjojoeajnaaGr
import Derived.Deep.RegionLaw
namespace Go.Proofs.Ytnnogjojoeajnaa
open Go.RowKit Go.Shelf Go.Sort
def cells4 (l : List Pt) : List Value := l.flatMap fun p => [.bool p.c, .string p.t, .int .i64 p.o, .int .i64 p.l]
theorem cells4_append (l : List Pt) (p : Pt) : cells4 (l ++ [p]) = cells4 l ++ [.bool p.c, .string p.t, .int .i64 p.o, .int .i64 p.l] := by
  simp [cells4]
/-- The call owns the parts l. -/
def Ol (w : World) (base : Nat) (v : Value) (l : List Pt) : Prop := w.ownsRow base 35 4 v l.length (cells4 l)
theorem Try.info35 : (Try.prog.info? 35).map (fun i => (i.zero, i.size, i.bytes)) = some (some (.agg #[.bool false, .string ⟨#[]⟩, .int .i64 0, .int .i64 0]), 4, 40) := by kernel_rfl
theorem step_append_at {P : Program} {ops : Array Oper} {o : Oper} {a : Act} {w : World} {K : Act → World → Prop} {Q : Exit → Act → World → Prop} {E : Prop}
    (hg : o.guard = none) (s x : Operand) (t : TypeId) (hop : o.op = Op.call { callee := Callee.builtin Builtin.append, args := #[s, x], argTypes := #[t, t] })
    (base : Nat) (e : TypeId) (i : TypeInfo) (z : Value) (size bytes : Nat) (ht : P.underlying t = some (.slice e)) (hi : P.info? e = some i) (hz : i.zero = some z)
    (hsize : i.size = size) (hby : i.bytes = bytes) (hzs : z.cells.size = size) (hsz : 0 < size)
    (v : Value) (n : Nat) (xs : List Value) (hs : a.eval s = v) (hown : w.ownsRow base e size v n xs)
    (ad : Addr) (m c : Nat) (news : List Value) (hx : a.eval x = .slice (some ad) m c) (hl : news.length = m * size) (hnews : ∀ j u, news[j]? = some u → w.cell? (ad.add j) = some u) (h1 : ∀ u ∈ news, u.oneCell' = true)
    (h63 : n + m ≤ maxLen) (hbytes : (n + m) * bytes ≤ 140737488355328) (hbase : base ≤ w.heap.size)
    (hK : ∀ v' w', w'.ownsRow base e size v' (n + m) (xs ++ news) → w.grownBy w' v.ownBlock → (v'.ownBlock = v.ownBlock ∨ v'.ownBlock = some w.heap.size) → K (a.put o.dst v') w') :
    if Region.wanted o (yielded ops a.tmps) = true then Oper.wp P o a w K Q else E := by
  have hw : Region.wanted o (yielded ops a.tmps) = true := by simp [Region.wanted, hg]
  rw [if_pos hw]
  obtain ⟨v', w', hr, h2, h3, h4, h5⟩ := run_append_own_at (P := P) w base t o.type e i z size bytes ht hi hz hsize hby hzs hsz v n xs hown ad m c news hl hnews h1 h63 hbytes hbase
  unfold Oper.wp
  simp [execOp, hop, resolve, invoke, builtin, hs, hx, hr, Result.andThen]
  exact hK v' w' h2 h3 h5
theorem step_call {P : Program} {ops : Array Oper} {o : Oper} {a : Act} {w : World} {K : Act → World → Prop} {Q : Exit → Act → World → Prop} {E : Prop}
    (hg : o.guard = none) (f : FuncId) (args : Array Value) (hr : (execOp a.eval o).run P w = .ok (.enter f args) w) {R : Ending → World → Prop} (hc : Calls P f args w R)
    (hK : ∀ e w', R e w' → ∃ v, e = .returned v ∧ K (a.put o.dst v) w') :
    if Region.wanted o (yielded ops a.tmps) = true then Oper.wp P o a w K Q else E := by
  have hw : Region.wanted o (yielded ops a.tmps) = true := by simp [Region.wanted, hg]
  rw [if_pos hw]
  unfold Oper.wp
  rw [hr]
  exact hc.mono fun e w' h => by obtain ⟨v, rfl, hk⟩ := hK e w' h; exact hk
theorem grown_of_below {w wd w' : World} (h : Below wd.heap.size wd w') (hd : wd = w.drew := by rfl) : w.grownBy w' none := by
  subst hd
  exact ⟨h.os, h.tape, h.output, h.size, fun i hi _ => h.block i hi⟩
theorem grown_none {w w' : World} {row : Option Nat} (h : w.grownBy w' none) : w.grownBy w' row := ⟨h.os, h.tape, h.output, h.size, fun i hi _ => h.block i hi (by simp)⟩
theorem own_or (v : Value) : v.ownBlock = none ∨ v.ownBlock ≠ none := by cases v.ownBlock <;> simp
theorem own_ne {w : World} {base : Nat} {v : Value} {l : List Pt} {b2 : Nat} (h : Ol w base v l) (hb : b2 < base) : some b2 ≠ v.ownBlock := fun e => by
  have := (own_lt h b2 e.symm).1
  omega
theorem cells_new4 (W : World) (x0 x1 x2 x3 : Value) (t : TypeId) : ∀ j u, [x0, x1, x2, x3][j]? = some u → (W.alloc (.cells #[x0, x1, x2, x3] t)).cell? ((⟨W.heap.size, 0, none⟩ : Addr).add j) = some u := by
  intro j u hj
  have hadd : (⟨W.heap.size, 0, none⟩ : Addr).add j = ⟨W.heap.size, j, none⟩ := by unfold Addr.add; split <;> simp_all
  rw [hadd, World.cell?_alloc_mark]
  match j, hj with
  | 0, hj => exact hj
  | 1, hj => exact hj
  | 2, hj => exact hj
  | 3, hj => exact hj
set_option maxRecDepth 100000 in
set_option maxHeartbeats 1000000 in
theorem put_none (s : ByteArray) (e p : Nat) (v : Value) (w : World) (b1 b2 b3 : Nat) (h1 : Boxed w b1 3 (.int .i64 p)) (_h2 : Boxed w b2 30 v) (_h3 : Boxed w b3 9 (.string s)) (hp : ¬ p < e) :
    Calls Try.prog 37 #[.int .i64 e, .pointer (some ⟨b1, 0, none⟩), .pointer (some ⟨b2, 0, none⟩), .pointer (some ⟨b3, 0, none⟩)] w fun en w' => en = .returned (.tuple #[]) ∧ w = w' := by
  have c1 := h1.cell
  have hpi : ¬ (p : Int) < (e : Int) := by omega
  go_enter Try.func37, Try.ntmps37
  go_wp2
  go_end0
  exact ⟨rfl, rfl⟩
set_option maxRecDepth 100000 in
set_option maxHeartbeats 1000000 in
theorem put_some (s : ByteArray) (hs : s.size ≤ 1000000000000) (e p : Nat) (base : Nat) (l : List Pt) (v : Value) (w : World) (b1 b2 b3 : Nat) (h1 : Boxed w b1 3 (.int .i64 p)) (h2 : Boxed w b2 30 v) (h3 : Boxed w b3 9 (.string s)) (hp : p < e) (he : e ≤ s.size)
    (ho : Ol w base v l) (hl : l.length ≤ 1000000000) (hb : base ≤ w.heap.size) (hb2 : b2 < base) :
    Calls Try.prog 37 #[.int .i64 e, .pointer (some ⟨b1, 0, none⟩), .pointer (some ⟨b2, 0, none⟩), .pointer (some ⟨b3, 0, none⟩)] w fun en w' => en = .returned (.tuple #[]) ∧
      ∃ v' w1, Ol w1 base v' (l ++ [⟨false, s.extract p e, 0, 0⟩]) ∧ w.grownBy w1 v.ownBlock ∧ (v'.ownBlock = v.ownBlock ∨ ∀ g, v'.ownBlock = some g → w.heap.size ≤ g) ∧ w' = w1.setCell ⟨b2, 0, none⟩ v' := by
  obtain ⟨i0, hi, hz0, hz1, hz2⟩ := info_parts Try.info35
  have c1 := h1.cell
  have c2 := h2.cell
  have c3 := h3.cell
  have hpi : (p : Int) < (e : Int) := by omega
  have hei : (e : Int) ≤ (s.size : Int) := by omega
  have hpe : p ≤ e := by omega
  have H1 := Lib.hid h1; have H2 := Lib.hid h2; have H3 := Lib.hid h3; have HO := Lib.hid ho
  clear h1 h2 h3 ho
  go_enter Try.func37, Try.ntmps37
  go_wp2
  go_region_law (first
    | (rw [if_pos (by rfl)]; go_simp; go_at_call 38; refine (clone_any _ (by simp; omega) _).mono ?_; rintro en wc ⟨rfl, hwc⟩; dsimp only; have HWG := Lib.hid (grown_of_below (w := w) hwc); have HOW := Lib.hid (HO.out.kept HWG.out (own_or _)); have d1 := (H1.out.kept HWG.out (by simp)).cell; have d2 := (H2.out.kept HWG.out (by simp)).cell; have d5 := ((H2.out.kept HWG.out (by simp)).alloc (.cells #[.bool false, .string (s.extract p e), .int .i64 0, .int .i64 0] 35)).cell; clear hwc)
    | (refine step_append_at rfl (.tmp 8) (.tmp 15) 30 rfl base 35 i0 _ 4 40 Try.underlying30 hi hz0 hz1 hz2 (by rfl) (by decide) v l.length (cells4 l) rfl (HOW.out.alloc _) ⟨wc.heap.size, 0, none⟩ 1 1 [.bool false, .string (s.extract p e), .int .i64 0, .int .i64 0] rfl rfl (cells_new4 _ _ _ _ _ _) (by simp [Value.oneCell']) (by unfold maxLen; omega) (by omega) (Nat.le_trans hb (Nat.le_trans HWG.out.size (by simp))) ?_; intro v' w1 hown' hgrow hloc; have HWN := Lib.hid hown'; have HGR := Lib.hid hgrow; have HLC := Lib.hid hloc; obtain ⟨g', cap', hv'⟩ := ownsRow_succ hown'; have HB2 := Lib.hid (((H2.out.kept HWG.out (by simp)).alloc (.cells #[.bool false, .string (s.extract p e), .int .i64 0, .int .i64 0] 35)).kept hgrow (own_ne HO.out hb2)); have d3 := HB2.out.cell; have d4 := HB2.out.frozen; subst hv'; clear hown' hgrow hloc)
    | fail)
  all_goals
    go_wp2
    go_end0
    refine ⟨rfl, _, w1, ?_, ?_, ?_, rfl⟩
    · have h := HWN.out
      unfold Ol
      rw [cells4_append, List.length_append]
      exact h
    · exact gtrans (gtrans (grown_none HWG.out) (World.grownBy_alloc _ _ _)) HGR.out
    · rcases HLC.out with h | h
      · exact .inl h
      · refine .inr fun g hg => ?_
        rw [h] at hg
        have e := Option.some.inj hg
        rw [World.size_alloc] at e
        have := HWG.out.size
        omega
end Go.Proofs.Ytnnogjojoeajnaa
