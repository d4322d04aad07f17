/- Rows of acts that a call owns; append. -/
import Derived.Test.YticponohbnkgdaaDt
import Derived.Deep.AppendSrc
import Derived.Maps.AppendAt
import Derived.OwnWalk
import Derived.SizedLaws
import Derived.OpenShut
namespace Go.Proofs.Yticponohbnkgdaa
open Go Go.RowKit Go.Deep Go.ChangeShapes Go.WideShapes
set_option maxRecDepth 100000
theorem info51' : ∃ i z, Try.prog.info? 51 = some i ∧ i.zero = some z ∧ i.size = 5 ∧ i.bytes = 64 ∧ z.cells.size = 5 := ⟨_, _, rfl, rfl, rfl, rfl, rfl⟩
def cellsA (a : Ac) : List Value := [.int .u8 (a.what : Int), .int .i64 a.t, .int .i64 a.n, .string a.s, a.v]
def cs5 (l : List Ac) : List Value := l.flatMap cellsA
theorem cs5_append (a b : List Ac) : cs5 (a ++ b) = cs5 a ++ cs5 b := by simp [cs5]
theorem cs5_cons (a : Ac) (r : List Ac) : cs5 (a :: r) = cellsA a ++ cs5 r := rfl
theorem cs5_len (l : List Ac) : (cs5 l).length = l.length * 5 := by
  induction l with
  | nil => rfl
  | cons a r ih => rw [cs5_cons, List.length_append, ih, List.length_cons]; show 5 + _ = _; omega
theorem cs5_at : ∀ (l : List Ac) (j : Nat) (h : j < l.length) (k : Nat), k < 5 → (cs5 l)[j * 5 + k]? = (cellsA l[j])[k]?
  | [], j, h, k, _ => by simp at h
  | a :: r, 0, _, k, hk => by
    rw [cs5_cons, Nat.zero_mul, Nat.zero_add, List.getElem?_append_left (by show k < 5; exact hk)]
    rfl
  | a :: r, j + 1, h, k, hk => by
    have ih := cs5_at r j (by simpa using h) k hk
    rw [cs5_cons, List.getElem?_append_right (by show 5 ≤ _; omega), show (j + 1) * 5 + k - (cellsA a).length = j * 5 + k by show (j + 1) * 5 + k - 5 = _; omega]
    simpa using ih
theorem At5.src {w : World} {v : Value} {l : List Ac} (h : At5 w v l) : (∃ c, v = .slice none 0 c ∧ l = []) ∨ ∃ ad c, v = .slice (some ad) l.length c ∧ ∀ j u, (cs5 l)[j]? = some u → w.cell? (ad.add j) = some u := by
  rcases h with ⟨rfl, a, c, rfl⟩ | ⟨g, o, c, rfl, hc⟩
  · cases a with
    | none => exact .inl ⟨c, rfl, rfl⟩
    | some ad => exact .inr ⟨ad, c, rfl, fun j u hj => by simp [cs5] at hj⟩
  · refine .inr ⟨⟨g, o, none⟩, c, rfl, fun j u hj => ?_⟩
    have hjl : j < l.length * 5 := by
      have := (List.getElem?_eq_some_iff.1 hj).1
      rwa [cs5_len] at this
    have hq : j / 5 < l.length := by omega
    have hk : j % 5 < 5 := by omega
    have hx := cs5_at l (j / 5) hq (j % 5) hk
    rw [show j / 5 * 5 + j % 5 = j by omega, hj] at hx
    rw [Go.WideShapes.add_plain]
    obtain ⟨c0, c1, c2, c3, c4⟩ := hc (j / 5) hq
    have hj5 : ∃ k, k < 5 ∧ j = j / 5 * 5 + k := ⟨j % 5, hk, by omega⟩
    generalize l[j / 5] = a at *
    rcases (show j % 5 = 0 ∨ j % 5 = 1 ∨ j % 5 = 2 ∨ j % 5 = 3 ∨ j % 5 = 4 by omega) with e | e | e | e | e
    · rw [e] at hx; rw [show o + j = o + j / 5 * 5 by omega, c0]; exact hx.symm
    · rw [e] at hx; rw [show o + j = o + j / 5 * 5 + 1 by omega, c1]; exact hx.symm
    · rw [e] at hx; rw [show o + j = o + j / 5 * 5 + 2 by omega, c2]; exact hx.symm
    · rw [e] at hx; rw [show o + j = o + j / 5 * 5 + 3 by omega, c3]; exact hx.symm
    · rw [e] at hx; rw [show o + j = o + j / 5 * 5 + 4 by omega, c4]; exact hx.symm
def O5 (w : World) (base : Nat) (v : Value) (l : List Ac) : Prop := w.ownsRow base 51 5 v l.length (cs5 l)
theorem O5.at {w : World} {base : Nat} {v : Value} {l : List Ac} (h : O5 w base v l) : At5 w v l := by
  have h0 := h
  unfold O5 at h0
  rcases h0.2 with ⟨rfl, hn⟩ | ⟨g, cap, cur, rfl, _⟩
  · exact .inl ⟨List.eq_nil_of_length_eq_zero hn, _, _, rfl⟩
  · refine .inr ⟨g, 0, cap, rfl, fun j hj => ?_⟩
    have c := fun k hk => cs5_at l j hj k hk
    simp only [Nat.zero_add]
    rw [h0.cellAt _ (by omega), h0.cellAt _ (by omega), h0.cellAt _ (by omega), h0.cellAt _ (by omega), h0.cellAt _ (by omega)]
    exact ⟨c 0 (by decide), c 1 (by decide), c 2 (by decide), c 3 (by decide), c 4 (by decide)⟩
theorem run_append_nil5 (w : World) (base : Nat) (ty : TypeId) (v : Value) (l : List Ac) (c : Nat) (h : O5 w base v l) : (Builtin.append_ #[42, 42] ty #[v, .slice none 0 c]).run Try.prog w = .ok v w := by
  obtain ⟨i0, z, hi, hz0, hz1, hz2, _⟩ := info51'
  have hs := Src.ofNil (P := Try.prog) (size := 5) w Try.underlying42 c
  unfold O5 at h
  rcases h.2 with ⟨rfl, hn⟩ | ⟨g, cap, cur, rfl, hb, hh, hle, hm, hcs, _⟩
  · simp [Builtin.append_, run_underlying Try.underlying42, sizeOf, typeInfo, hi, hs.len, hz1, hs.cells]
  · have := run_append_room_src (P := Try.prog) w 42 42 ty 51 i0 Try.underlying42 hi g 0 l.length cap (.slice none 0 c) 0 [] (by rw [hz1]; exact hs) (by omega) (fun j hj => by simp at hj) (fun j hj => by simp at hj)
    simpa [World.setCells] using this
theorem cs5_one {l : List Ac} (h : ∀ a ∈ l, a.v.oneCell' = true) : ∀ u ∈ cs5 l, u.oneCell' = true := by
  intro u hu
  obtain ⟨a, ha, hu⟩ := List.mem_flatMap.1 hu
  simp only [cellsA, List.mem_cons, List.not_mem_nil, or_false] at hu
  rcases hu with rfl | rfl | rfl | rfl | rfl
  · rfl
  · rfl
  · rfl
  · rfl
  · exact h a ha
/-- An append in a region that draws its order. -/
theorem step_append5 {ops : Array Oper} {o : Oper} {a : Act} {w : World} {K : Act → World → Prop} {Q : Exit → Act → World → Prop} {E : Prop} (hgd : o.guard = none) (s x : Operand)
    (ho : o.op = .call { callee := .builtin .append, args := #[s, x], argTypes := #[42, 42] })
    (base : Nat) (v : Value) (l1 : List Ac) (hs : a.eval s = v) (hown : O5 w base v l1) (vx : Value) (l2 : List Ac) (hx : a.eval x = vx) (hG : At5 w vx l2) (h1 : ∀ a ∈ l2, a.v.oneCell' = true) (hlen : (l1.length + l2.length) * 64 ≤ 140737488355328) (hbase : base ≤ w.heap.size)
    (h : ∀ v' w', O5 w' base v' (l1 ++ l2) → w.grownBy w' v.ownBlock → K (a.put o.dst v') w') : if Region.wanted o (yielded ops a.tmps) = true then Oper.wp Try.prog o a w K Q else E := by
  have hw : Region.wanted o (yielded ops a.tmps) = true := by simp [Region.wanted, hgd]
  rw [if_pos hw]
  obtain ⟨i0, z, hi, hz0, hz1, hz2, hz3⟩ := info51'
  rcases hG.src with ⟨c, rfl, rfl⟩ | ⟨ad, c, rfl, hc⟩
  · have hr := run_append_nil5 w base o.type v l1 c hown
    unfold Oper.wp execOp
    simp only [ho, resolve, invoke, builtin, Sem.run_bind, Sem.run_pure, Result.andThen_ok, List.map_toArray, List.map_cons, List.map_nil, hs, hx, hr]
    refine h v w ?_ (World.grownBy.refl w _)
    rw [List.append_nil]
    exact hown
  · obtain ⟨v', w', hr, h2, h3, _, _⟩ := run_append_own_at (P := Try.prog) w base 42 o.type 51 i0 z 5 64 Try.underlying42 hi hz0 hz1 hz2 hz3 (by decide) v l1.length (cs5 l1) hown ad l2.length c (cs5 l2) (cs5_len l2) hc (cs5_one h1) (by unfold maxLen; omega) hlen hbase
    unfold Oper.wp execOp
    simp only [ho, resolve, invoke, builtin, Sem.run_bind, Sem.run_pure, Result.andThen_ok, List.map_toArray, List.map_cons, List.map_nil, hs, hx, hr]
    refine h v' w' ?_ h3
    unfold O5
    rw [List.length_append, cs5_append]
    exact h2
theorem O5.empty (w : World) (base : Nat) (hb : base ≤ w.heap.size) : O5 (w.alloc (.cells #[] 51)) base (.slice (some ⟨w.heap.size, 0, none⟩) 0 0) [] :=
  ⟨rfl, .inr ⟨w.heap.size, 0, #[], rfl, hb, heap_alloc_new w _, by simp, by simp [maxLen], by simp, by simp [cs5]⟩⟩
theorem ownsRow_below {w w' : World} {base e z n m : Nat} {v : Value} {xs : List Value} (h : w.ownsRow base e z v n xs) (hb : Below m w w') (hn : w.heap.size ≤ m) : w'.ownsRow base e z v n xs := by
  obtain ⟨h1, h2⟩ := h
  refine ⟨h1, h2.imp id ?_⟩
  rintro ⟨g, cap, cur, e, hb', hh, rest⟩
  exact ⟨g, cap, cur, e, hb', (hb.block g (Nat.lt_of_lt_of_le (Array.getElem?_eq_some_iff.1 hh).1 hn)).trans hh, rest⟩
theorem O5.below {w w' : World} {base : Nat} {v : Value} {l : List Ac} (h : O5 w base v l) {m : Nat} (hb : Below m w w') (hn : w.heap.size ≤ m) : O5 w' base v l := ownsRow_below h hb hn
theorem one5 (w : World) (a : Ac) : At5 (w.alloc (.cells #[.int .u8 (a.what : Int), .int .i64 a.t, .int .i64 a.n, .string a.s, a.v] 51)) (.slice (some ⟨w.heap.size, 0, none⟩) 1 1) [a] := .inr ⟨_, 0, 1, rfl, fun j hj => by
  obtain rfl : j = 0 := by simpa using hj
  have h := heap_alloc_new w (.cells #[.int .u8 (a.what : Int), .int .i64 a.t, .int .i64 a.n, .string a.s, a.v] 51)
  refine ⟨?_, ?_, ?_, ?_, ?_⟩ <;> (rw [cell_of_row _ _ _ _ 51 (0, 0) h]; rfl)⟩
theorem O5.drew {w : World} {base : Nat} {v : Value} {l : List Ac} (h : O5 w base v l) : O5 w.drew base v l := h
theorem O5.base {w : World} {base : Nat} {v : Value} {l : List Ac} (h : O5 w base v l) : ∀ k, v.ownBlock = some k → base ≤ k ∧ k < w.heap.size := by
  intro k hk
  unfold O5 at h
  rcases h.2 with ⟨rfl, _⟩ | ⟨g, cap, cur, rfl, hb, hh, _⟩
  · simp [Value.ownBlock] at hk
  · simp [Value.ownBlock] at hk
    subst hk
    exact ⟨hb, (Array.getElem?_eq_some_iff.1 hh).1⟩
theorem Ac.fit.one {w : World} {a : Ac} (h : a.fit w) : a.v.oneCell' = true := by
  obtain ⟨x, c, e⟩ := h.at'.slice
  rw [e]; rfl
theorem all_weights {l : List Nat} (h : l.all (· ≤ reachBytes) = true) : ∀ k ∈ l, k ≤ reachBytes := fun k hk => of_decide_eq_true (List.all_eq_true.1 h k hk)
section
variable {H : Type} {enc : TypeId × Value → H} {w : World} {base b0 : Nat} {spare : Nat → Bool} {held : Bool}
theorem open_actsw {r : Reach} {v : Value} {d : DataW H} {p : List MemPlace} (hv : Value.okWide Try.prog w r b0 42 v) (h : DataW.Trod enc Try.prog w base spare held 42 v d p) (hw : ∀ k ∈ d.weights Try.prog 42, k ≤ reachBytes) : ∃ l : List Ac, Acs w v l ∧ l.length * 64 ≤ 140737488351232 := by
  obtain ⟨l, hl⟩ := open_acts hv h
  refine ⟨l, hl, ?_⟩
  obtain ⟨a0, l0, c0, rfl⟩ := okWide_slice Try.underlying42 hv
  obtain ⟨x, c, e⟩ := hl.at'.slice
  cases e
  obtain ⟨fuel, hf⟩ := h
  rcases open_slice (cs := [.slice a0 l.length c0]) Try.underlying42 hf with ⟨h0, _⟩ | ⟨a, len, cap, m, n, D, Pl, h0, _, hle, hm, hmm, hx, _⟩
  · injection h0 with h1 _
    injection h1 with _ h2 _
    rw [h2]; decide
  · cases h0
    have hlm : l.length ≤ m := by rw [hmm]; split <;> omega
    have hd := (Prod.mk.inj hx).1
    rw [hd] at hw
    have := hw ((l.length + (m - l.length)) * 64) (by
      unfold DataW.weights
      rw [Try.underlying42]
      dsimp only
      rw [List.length_map, List.length_map, List.length_range, List.length_range, show Try.prog.bytesOf 51 = 64 by kernel_rfl]
      exact List.mem_cons_self ..)
    unfold reachBytes at this
    omega
theorem open_act {r : Reach} {v : Value} {d : DataW H} {p : List MemPlace} (hv : Value.okWide Try.prog w r b0 51 v) (h : DataW.Trod enc Try.prog w base spare held 51 v d p) : ∃ a : Ac, v = acV a ∧ a.fit w := by
  obtain ⟨cs, rfl, hc⟩ := okWide_struct Try.underlying51 hv
  obtain ⟨fuel, hf⟩ := h
  obtain ⟨l⟩ := cs
  obtain ⟨a, he, hfit⟩ := open_act' (cs := l) hf
  subst he
  exact ⟨a, rfl, hfit⟩
end
end Go.Proofs.Yticponohbnkgdaa
