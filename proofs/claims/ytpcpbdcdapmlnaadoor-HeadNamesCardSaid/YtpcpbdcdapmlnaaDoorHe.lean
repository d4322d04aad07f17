/- A reader's varint, of whatever bytes and at whatever error; below, End, New. -/
import Derived.Test.YtpcpbdcdapmlnaaDoorHc
import Derived.Deep.RegionHeld3
import Derived.Deep.RegionLaw
namespace Go.Proofs.YtpcpbdcdapmlnaaDoor
open Go Go.RowKit
set_option maxRecDepth 100000
/-- The next varint, up to most: the number, where the reader stands then, its error. -/
def vr (s : ByteArray) (most a e : Nat) : Nat × Nat × Nat :=
  if e ≠ 0 then (0, a, e)
  else if (Bt.rd (s.data.toList.drop a) 0 0).2.2 ≠ 0 then (0, a, (Bt.rd (s.data.toList.drop a) 0 0).2.2)
  else if most < (Bt.rd (s.data.toList.drop a) 0 0).1 then (0, a, 40)
  else ((Bt.rd (s.data.toList.drop a) 0 0).1, a + (Bt.rd (s.data.toList.drop a) 0 0).2.1, 0)
theorem vr_facts (s : ByteArray) (most a e : Nat) (ha : a ≤ s.size) : (vr s most a e).1 ≤ most ∧ (vr s most a e).2.1 ≤ s.size ∧ a ≤ (vr s most a e).2.1 := by
  unfold vr
  by_cases he : e ≠ 0
  · rw [if_pos he]; exact ⟨Nat.zero_le _, ha, Nat.le_refl _⟩
  rw [if_neg he]
  have hf := Bt.rd_facts (s.data.toList.drop a) 0 0 (by omega) (by simp)
  have hl : (s.data.toList.drop a).length = s.size - a := by simp
  generalize Bt.rd (s.data.toList.drop a) 0 0 = R at *
  obtain ⟨N, C, K⟩ := R
  dsimp only at *
  by_cases hK : K ≠ 0
  · rw [if_pos hK]; exact ⟨Nat.zero_le _, ha, Nat.le_refl _⟩
  rw [if_neg hK]
  have h2 := hf.2.1 (by omega)
  by_cases hm : most < N
  · rw [if_pos hm]; exact ⟨Nat.zero_le _, ha, Nat.le_refl _⟩
  rw [if_neg hm]
  exact ⟨by omega, by show a + C ≤ s.size; omega, Nat.le_add_right _ _⟩
theorem varint_any (b : Nat) (s : ByteArray) (a e most : Nat) (w : World) (h : RdAt w b s (a : Int) (e : Int)) (ha : a ≤ s.size) (hs : s.size ≤ 140737488351232) :
    Calls Tryd.prog 50 #[.pointer (some ⟨b, 0, none⟩), .int .u64 (most : Int)] w (RdRet w b s (.int .u64 ((vr s most a e).1 : Int)) ((vr s most a e).2.1 : Int) ((vr s most a e).2.2 : Int)) := by
  unfold vr
  by_cases he : e ≠ 0
  · rw [if_pos he]
    exact mvarint_err b s a e most w h (ne0 he)
  rw [if_neg he]
  obtain rfl : e = 0 := by omega
  rcases uv_cases s a ha hs with ⟨N, C, hr, hT, h1, h2, h3⟩ | ⟨K, hr, hK, hT⟩
  · rw [hr, if_neg (by simp)]
    dsimp only
    by_cases hm : most < N
    · rw [if_pos hm]
      exact mvarint_no b s a most 40 w h rfl (uto_big s a most N _ hT (by omega))
    · rw [if_neg hm]
      exact mvarint_ok b s a most N _ w h (uto_ok s a most N _ hT (by omega))
  · rw [hr, if_pos hK]
    exact mvarint_no b s a most K w h (ne0 hK) (uto_no s a most K (eq0 hK) hT)
theorem rvarint_any (b : Nat) (s : ByteArray) (a e most : Nat) (w : World) (h : RdAt w b s (a : Int) (e : Int)) (ha : a ≤ s.size) (hs : s.size ≤ 140737488351232) :
    Calls Tryd.prog 59 #[.pointer (some ⟨b, 0, none⟩), .int .u64 (most : Int)] w (RdRet w b s (.int .u64 ((vr s most a e).1 : Int)) ((vr s most a e).2.1 : Int) ((vr s most a e).2.2 : Int)) := by
  unfold vr
  by_cases he : e ≠ 0
  · rw [if_pos he]
    exact qvarint_err b s a e most w h (ne0 he)
  rw [if_neg he]
  obtain rfl : e = 0 := by omega
  rcases uv_cases s a ha hs with ⟨N, C, hr, -, h1, h2, h3⟩ | ⟨K, hr, hK, -⟩
  · rw [hr, if_neg (by simp)]
    dsimp only
    have hT : TellsU 80 #[.string s, .int .i64 (a : Int)] N ((a + C : Nat) : Int) 0 := fun W => ruvarint_ok s a W ha hs N C _ hr rfl (by have := (Bt.rd_facts (s.data.toList.drop a) 0 0 (by omega) (by simp)); rw [hr] at this; have := this.2.1 rfl; dsimp only at this; omega)
    by_cases hm : most < N
    · rw [if_pos hm]
      exact qvarint_big b s a most N _ w h (by omega) hT
    · rw [if_neg hm]
      exact qvarint_ok b s a most N _ w h (by omega) hT
  · rw [hr, if_pos hK]
    exact qvarint_no b s a most K w h (ne0 hK) (fun W => ruvarint_no s a W ha hs K (by omega) hr)
set_option maxHeartbeats 400000 in
theorem below_any (b : Nat) (s : ByteArray) (a e n : Nat) (w : World) (h : RdAt w b s (a : Int) (e : Int)) (ha : a ≤ s.size) (hs : s.size ≤ 140737488351232) (hn : 1 ≤ n) (hn2 : n ≤ 1000000) :
    Calls Tryd.prog 51 #[.pointer (some ⟨b, 0, none⟩), .int .i64 (n : Int)] w (RdRet w b s (.int .i64 ((vr s (n - 1) a e).1 : Int)) ((vr s (n - 1) a e).2.1 : Int) ((vr s (n - 1) a e).2.2 : Int)) := by
  have H := varint_any b s a e (n - 1) w h ha hs
  have hf := (vr_facts s (n - 1) a e ha).1
  rw [show ((n - 1 : Nat) : Int) = (n : Int) - 1 by omega] at H
  have H := Lib.hid H
  generalize (vr s (n - 1) a e).1 = N at *
  generalize (vr s (n - 1) a e).2.1 = A at *
  generalize (vr s (n - 1) a e).2.2 = E at *
  have hw : IntKind.u64.wrap ((n : Int) - 1) = (n : Int) - 1 := by rw [IntKind.wrap_u64]; omega
  clear h
  go_enter Tryd.func51, Tryd.ntmps51
  go_wp2_with fail
  refine H.out.mono ?_
  rintro e w1 ⟨rfl, hr, hg⟩
  go_wp2
  go_ret
  exact ⟨rfl, hr, hg⟩
/-- What End tells. -/
def endE (s : ByteArray) (a e : Nat) : Nat := if e ≠ 0 then e else if a < s.size then 4 else 0
set_option maxHeartbeats 400000 in
theorem end_any (b : Nat) (s : ByteArray) (a e : Nat) (w : World) (h : RdAt w b s (a : Int) (e : Int)) (ha : a ≤ s.size) (hs : s.size ≤ 140737488351232) :
    Calls Tryd.prog 52 #[.pointer (some ⟨b, 0, none⟩)] w fun en w' => en = .returned (.int .i64 (endE s a e : Int)) ∧ ∃ m, w' = w.drewN m := by
  have HE := Lib.hid (err_any b (e : Int) w h.c2)
  have HL := Lib.hid (left_any b s (a : Int) w h.c0 h.c1 (by omega) (by omega) hs)
  clear h
  unfold endE
  by_cases he : e ≠ 0
  · rw [if_pos he]
    have h1 : ((e : Int) != 0) = true := ne0 he
    go_enter Tryd.func52, Tryd.ntmps52
    go_wp2_with fail
    refine HE.out.mono ?_
    rintro e w1 ⟨rfl, rfl⟩
    go_wp2
    go_ret
    exact ⟨rfl, 0, rfl⟩
  · rw [if_neg he]
    obtain rfl : e = 0 := by omega
    by_cases hl : a < s.size
    · rw [if_pos hl]
      have h2 : (0 : Int) < (s.size : Int) - (a : Int) := by omega
      go_enter Tryd.func52, Tryd.ntmps52
      go_wp2_with fail
      refine HE.out.mono ?_
      rintro e w1 ⟨rfl, rfl⟩
      go_wp2_with fail
      refine HL.out.mono ?_
      rintro e w1 ⟨rfl, m, rfl⟩
      go_wp2
      go_ret
      exact ⟨rfl, m, rfl⟩
    · rw [if_neg hl]
      have h2 : ¬ ((0 : Int) < (s.size : Int) - (a : Int)) := by omega
      go_enter Tryd.func52, Tryd.ntmps52
      go_wp2_with fail
      refine HE.out.mono ?_
      rintro e w1 ⟨rfl, rfl⟩
      go_wp2_with fail
      refine HL.out.mono ?_
      rintro e w1 ⟨rfl, m, rfl⟩
      go_wp2
      go_ret
      exact ⟨rfl, m, rfl⟩
set_option maxHeartbeats 400000 in
theorem rnew_any (s : ByteArray) (w : World) : Calls Tryd.prog 49 #[.string s] w fun e w' => e = .returned (.pointer (some ⟨w.heap.size, 0, none⟩)) ∧ w.alloc (.cells #[.string s, .int .i64 0, .int .i64 0] 110) = w' := by
  go_enter Tryd.func49, Tryd.ntmps49
  go_wp2
  go_ret
  exact ⟨rfl, rfl⟩
theorem RdAt.new (s : ByteArray) (w : World) : RdAt (w.alloc (.cells #[.string s, .int .i64 0, .int .i64 0] 110)) w.heap.size s 0 0 := by
  have hb : (w.alloc (.cells #[.string s, .int .i64 0, .int .i64 0] 110)).heap[w.heap.size]? = some (.cells #[.string s, .int .i64 0, .int .i64 0] 110 (0, 0)) := heap_alloc_new w _
  generalize w.alloc (.cells #[.string s, .int .i64 0, .int .i64 0] 110) = W at *
  exact ⟨by simp [World.cell?, hb], by simp [World.cell?, hb], by simp [World.cell?, hb], by simp [World.frozen?, hb], by simp [World.frozen?, hb]⟩
end Go.Proofs.YtpcpbdcdapmlnaaDoor
namespace Go.Proofs.YtpcpbdcdapmlnaaDoor
open Go Go.RowKit
set_option maxRecDepth 100000
def iv (t : Int) : Value := .int .i64 t
theorem Own.kat {w : World} {base : Nat} {v : Value} {l : List Int} (h : Own w base v (l.map iv)) : KAt w v l := by
  rcases h with ⟨rfl, h0⟩ | ⟨g, cap, rfl, _, _, hc, _, _, hcs⟩
  · exact .inl ⟨by simpa using h0, _, _, rfl⟩
  · rw [List.length_map] at *
    refine .inr ⟨g, 0, cap, rfl, hc, fun j hj => ?_⟩
    rw [Nat.zero_add, hcs j (by simpa using hj), List.getElem?_map, List.getElem?_eq_getElem hj]
    rfl
theorem step_append_Own {P : Program} {ops : Array Oper} {o : Oper} {a : Act} {w : World} {K : Act → World → Prop} {Q : Exit → Act → World → Prop} {E : Prop} (hg : o.guard = none) (s x : Operand) (t tx : TypeId)
    (ho : o.op = .call { callee := .builtin .append, args := #[s, x], argTypes := #[t, tx] })
    (base : Nat) (e : TypeId) (i : TypeInfo) (z : Value) (bytes : Nat) (ht : P.underlying t = some (.slice e)) (hi : P.info? e = some i) (hz : i.zero = some z)
    (hsize : i.size = 1) (hby : i.bytes = bytes) (hzs : z.cells = #[z])
    (v : Value) (xs : List Value) (hs : a.eval s = v) (hown : Own w base v xs) (vx : Value) (n : Nat) (news : List Value) (hx : a.eval x = vx) (hsrc : Src P 1 tx vx n news w)
    (hbytes : (xs.length + n) * bytes ≤ 140737488355328) (hml : xs.length + n ≤ 140737488355328) (hbase : base ≤ w.heap.size)
    (hK : ∀ v' w', Own w' base v' (xs ++ news) → Step w w' v v' → K (a.put o.dst v') w') :
    if Region.wanted o (yielded ops a.tmps) = true then Oper.wp P o a w K Q else E := by
  have hw : Region.wanted o (yielded ops a.tmps) = true := by simp [Region.wanted, hg]
  rw [if_pos hw]
  exact wp_append_Own w s x t tx ho base e i z bytes ht hi hz hsize hby hzs v xs hs hown vx n news hx hsrc hbytes hml hbase fun v' w' h1 h2 h3 => hK v' w' h1 ⟨h2, h3⟩
theorem Tryd.info3 : (Tryd.prog.info? 3).map (fun i => (i.zero, i.size, i.bytes)) = some (some (.int .i64 0), 1, 8) := by kernel_rfl
section
variable {W W' : World} {B m : Nat} {x y z u : Value}
theorem Box4.set0 (h : Box4 W B x y z u) (a : Value) : Box4 (W.setCell ⟨B, 0, none⟩ a) B a y z u := by unfold Box4 at *; simp [World.setCell, Array.getElem?_modify, h]
theorem Box4.set1 (h : Box4 W B x y z u) (a : Value) : Box4 (W.setCell ⟨B, 1, none⟩ a) B x a z u := by unfold Box4 at *; simp [World.setCell, Array.getElem?_modify, h]
theorem Box4.set2 (h : Box4 W B x y z u) (a : Value) : Box4 (W.setCell ⟨B, 2, none⟩ a) B x y a u := by unfold Box4 at *; simp [World.setCell, Array.getElem?_modify, h]
theorem Box4.set3 (h : Box4 W B x y z u) (a : Value) : Box4 (W.setCell ⟨B, 3, none⟩ a) B x y z a := by unfold Box4 at *; simp [World.setCell, Array.getElem?_modify, h]
theorem Box4.setAll (h : Box4 W B x y z u) (a b c d : Value) : Box4 ((((W.setCell ⟨B, 0, none⟩ a).setCell ⟨B, 1, none⟩ b).setCell ⟨B, 2, none⟩ c).setCell ⟨B, 3, none⟩ d) B a b c d := (((h.set0 a).set1 b).set2 c).set3 d
end
theorem load26 {w : World} (B : Nat) (x y z u : Value) (hB : Box4 w B x y z u) : (loadVar 26 ⟨B, 0, none⟩).run Tryd.prog w = .ok (.agg #[x, y, z, u]) w :=
  run_loadVar_row (P := Tryd.prog) w B 26 26 #[x, y, z, u] (0, 0) _ hB Tryd.underlying26 rfl (by kernel_rfl)
theorem ret4 {fn : Func} {R : Ending → World → Prop} {a : Act} {w : World} {x y z u r : Value} {p q : Tmp} (hr : fn.results = #[.cell p 26, .tmp q]) (B : Nat) (h2 : a.tmps.getD p undef = .pointer (some ⟨B, 0, none⟩)) (h3 : a.tmps.getD q undef = r) (hd : a.defers = [])
    (hB : Box4 w B x y z u) (hR : R (.returned (.tuple #[.agg #[x, y, z, u], r])) w) : bodyPost Tryd.prog fn R .ret a w :=
  bodyPost_ret (by
    have hl := load26 B x y z u hB
    rw [results_cell_tmp hr, h2, h3]
    simp [asAddr, hl, Result.andThen]) hd hR
theorem ret4one {fn : Func} {R : Ending → World → Prop} {a : Act} {w : World} {x y z u : Value} {p : Tmp} (hr : fn.results = #[.cell p 26]) (B : Nat) (h2 : a.tmps.getD p undef = .pointer (some ⟨B, 0, none⟩)) (hd : a.defers = [])
    (hB : Box4 w B x y z u) (hR : R (.returned (.agg #[x, y, z, u])) w) : bodyPost Tryd.prog fn R .ret a w :=
  bodyPost_ret (by
    have hl := load26 B x y z u hB
    have hp' : a.tmps[p]?.getD undef = .pointer (some ⟨B, 0, none⟩) := by simpa using h2
    simp [results, hr, hp', asAddr, hl]) hd hR
theorem below_set4 {n : Nat} {w w' : World} (h : Below n w w') {B : Nat} (hB : n ≤ B) (a b c d : Value) : Below n w ((((w'.setCell ⟨B, 0, none⟩ a).setCell ⟨B, 1, none⟩ b).setCell ⟨B, 2, none⟩ c).setCell ⟨B, 3, none⟩ d) :=
  below_setD (below_setD (below_setD (below_setD h hB _ _) hB _ _) hB _ _) hB _ _
theorem grown_set4 (w : World) (B : Nat) (a b c d : Value) : w.grownBy ((((w.setCell ⟨B, 0, none⟩ a).setCell ⟨B, 1, none⟩ b).setCell ⟨B, 2, none⟩ c).setCell ⟨B, 3, none⟩ d) (some B) :=
  grown_trans (grown_trans (grown_trans (grown_setCell _ _ _ _) (grown_setCell _ _ _ _)) (grown_setCell _ _ _ _)) (grown_setCell _ _ _ _)
theorem Own.set4 {w : World} {base B : Nat} {v : Value} {xs : List Value} (h : Own w base v xs) (hB : B < base) (a b c d : Value) : Own ((((w.setCell ⟨B, 0, none⟩ a).setCell ⟨B, 1, none⟩ b).setCell ⟨B, 2, none⟩ c).setCell ⟨B, 3, none⟩ d) base v xs :=
  h.kept (grown_set4 w B a b c d) (Or.inr (fun e => by have := (h.lt _ e).1; omega))
theorem Own.belowAll {w w' : World} {base : Nat} {v : Value} {xs : List Value} (h : Own w base v xs) (hb : Below w.heap.size w w') : Own w' base v xs := h.below hb (fun k hk => (h.lt k hk).2)
/-- k tapes, read one behind the other. -/
def vrs (s : ByteArray) : Nat → Nat → Nat → List Nat × Nat × Nat
  | 0, a, e => ([], a, e)
  | k + 1, a, e => ((vrs s k a e).1 ++ [(vr s 31 (vrs s k a e).2.1 (vrs s k a e).2.2).1], (vr s 31 (vrs s k a e).2.1 (vrs s k a e).2.2).2)
theorem vrs_facts (s : ByteArray) : ∀ (k a e : Nat), a ≤ s.size → (vrs s k a e).1.length = k ∧ (vrs s k a e).2.1 ≤ s.size ∧ ∀ t ∈ (vrs s k a e).1, t ≤ 31
  | 0, a, e, h => ⟨rfl, h, fun t ht => by cases ht⟩
  | k + 1, a, e, h => by
    obtain ⟨h1, h2, h3⟩ := vrs_facts s k a e h
    have hf := vr_facts s 31 (vrs s k a e).2.1 (vrs s k a e).2.2 h2
    refine ⟨by show ((vrs s k a e).1 ++ _).length = k + 1; rw [List.length_append, h1]; rfl, hf.2.1, fun t ht => ?_⟩
    rcases List.mem_append.1 ht with ht | ht
    · exact h3 t ht
    · rw [List.mem_singleton] at ht; subst ht; exact hf.1
/-- The four numbers ahead of the log. -/
def r1 (s : ByteArray) := vr s 1099511627776 0 0
def r2 (s : ByteArray) := vr s 1099511627776 (r1 s).2.1 (r1 s).2.2
def r3 (s : ByteArray) := vr s 31 (r2 s).2.1 (r2 s).2.2
def r4 (s : ByteArray) := vr s 31 (r3 s).2.1 (r3 s).2.2
def r5 (s : ByteArray) := vrs s (r4 s).1 (r4 s).2.1 (r4 s).2.2
def nat2 (l : List Nat) : List Int := l.map Int.ofNat
/-- What is read of a payload, and how reading ends. -/
def rdH (s : ByteArray) : He := ⟨(r1 s).1, (r2 s).1, (r3 s).1, nat2 (r5 s).1⟩
def rdE (s : ByteArray) : Nat := endE s (r5 s).2.1 (r5 s).2.2
def he0 : He := ⟨0, 0, 0, []⟩
/-- What Decode tells. -/
def dcR (s : ByteArray) : He × Nat := if rdE s ≠ 0 then (he0, rdE s) else if mayB (rdH s) = true then (rdH s, 0) else (he0, 4)
/-- A head that is told in new memory, with an error, or with what else it comes with. -/
def DcRet (w : World) (h : He) (r : Value) (e : Ending) (w' : World) : Prop := ∃ v, e = .returned (.tuple #[hval h v, r]) ∧ Own w' w.heap.size v (h.log.map iv) ∧ Below w.heap.size w w'
/-- How it lies in the midst of Decode. -/
structure Dm (w W : World) (s : ByteArray) (a e : Nat) (x y z : Int) (u : Value) : Prop where
  R : RdAt W (w.heap.size + 1) s a e
  H : Box4 W (w.heap.size + 1 + 1) (.int .i64 x) (.int .i64 y) (.int .i64 z) u
  Q : Box4 W w.heap.size (.int .i64 0) (.int .i64 0) (.int .i64 0) (.slice none 0 0)
  B : Below w.heap.size w W
  Z : w.heap.size + 3 ≤ W.heap.size
theorem Dm.read {w W W' : World} {s : ByteArray} {a e a' e' : Nat} {x y z : Int} {u : Value} (h : Dm w W s a e x y z u) (hR : RdAt W' (w.heap.size + 1) s a' e') (hg : W.grownBy W' (some (w.heap.size + 1))) : Dm w W' s a' e' x y z u :=
  ⟨hR, h.H.kept hg (by simp), h.Q.kept hg (by simp), below_grown h.B hg h.B.size (by omega), Nat.le_trans h.Z hg.size⟩
theorem Dm.grown {w W W' : World} {s : ByteArray} {a e : Nat} {x y z : Int} {u : Value} (h : Dm w W s a e x y z u) {r : Option Nat} (hg : W.grownBy W' r) (hr : ∀ k, r = some k → w.heap.size + 3 ≤ k) : Dm w W' s a e x y z u :=
  have n0 : some w.heap.size ≠ r := fun e => by have := hr _ e.symm; omega
  have n1 : some (w.heap.size + 1) ≠ r := fun e => by have := hr _ e.symm; omega
  have n2 : some (w.heap.size + 1 + 1) ≠ r := fun e => by have := hr _ e.symm; omega
  ⟨h.R.congr (hg.block _ h.R.lt n1), h.H.kept hg n2, h.Q.kept hg n0, h.B.grown hg h.B.size (fun k hk => by have := hr k hk; omega), Nat.le_trans h.Z hg.size⟩
theorem Dm.st {w W : World} {s : ByteArray} {a e : Nat} {x y z x' y' z' : Int} {u u' : Value} (h : Dm w W s a e x y z u) (j : Nat) (v : Value) (hH : Box4 (W.setCell ⟨w.heap.size + 1 + 1, j, none⟩ v) (w.heap.size + 1 + 1) (.int .i64 x') (.int .i64 y') (.int .i64 z') u') : Dm w (W.setCell ⟨w.heap.size + 1 + 1, j, none⟩ v) s a e x' y' z' u' :=
  ⟨h.R.congr (Below.heap_setCell _ _ _ _ (by simp)), hH, h.Q.apart (by simp; omega) _, below_setD h.B (by omega) _ _, by simp [World.setCell]; exact h.Z⟩
end Go.Proofs.YtpcpbdcdapmlnaaDoor
