/- append(l, m...) of fields, l the call's own, m any. -/
import Derived.Test.YtbckkfoenembmaaMo
import Derived.Maps.AppendAt
namespace Go.Proofs.Ytbckkfoenembmaa
open Go.RowKit
theorem cells2_cell : ∀ (l : List Gf) (j : Nat) (u : Value), (cells2 l)[j]? = some u → ∃ (q : Nat) (h : q < l.length), (j = q * 2 ∧ u = .int .i64 l[q].n) ∨ (j = q * 2 + 1 ∧ u = l[q].v.v)
  | [], j, u, h => by simp [cells2] at h
  | f :: r, 0, u, h => ⟨0, by simp, .inl ⟨rfl, by
      have e : (cells2 (f :: r))[0]? = some (.int .i64 f.n) := rfl
      rw [e] at h
      exact (Option.some.inj h).symm⟩⟩
  | f :: r, 1, u, h => ⟨0, by simp, .inr ⟨rfl, by
      have e : (cells2 (f :: r))[1]? = some f.v.v := rfl
      rw [e] at h
      exact (Option.some.inj h).symm⟩⟩
  | f :: r, j + 2, u, h => by
    have e : cells2 (f :: r) = [.int .i64 f.n, f.v.v] ++ cells2 r := rfl
    rw [e, List.getElem?_append_right (by simp)] at h
    obtain ⟨q, hq, hh⟩ := cells2_cell r j u (by simpa using h)
    refine ⟨q + 1, by simpa using hq, ?_⟩
    rcases hh with ⟨rfl, rfl⟩ | ⟨rfl, rfl⟩
    · exact .inl ⟨by omega, rfl⟩
    · exact .inr ⟨by omega, rfl⟩
theorem cells2_len (l : List Gf) : (cells2 l).length = l.length * 2 := by
  induction l with
  | nil => rfl
  | cons f r ih =>
    have e : cells2 (f :: r) = [.int .i64 f.n, f.v.v] ++ cells2 r := rfl
    rw [e, List.length_append, ih, List.length_cons, List.length_cons, List.length_cons, List.length_nil]
    omega
theorem cells2_one (l : List Gf) : ∀ u ∈ cells2 l, u.oneCell' = true := by
  intro u hu
  obtain ⟨j, hj⟩ := List.getElem?_of_mem hu
  obtain ⟨q, hq, ⟨-, rfl⟩ | ⟨-, rfl⟩⟩ := cells2_cell l j u hj
  · rfl
  · exact l[q].v.one
theorem cells2_app (a b : List Gf) : cells2 (a ++ b) = cells2 a ++ cells2 b := by simp [cells2]
theorem gat_src {w : World} {v : Value} {l : List Gf} (h : GAt w v l) : (∃ c, v = .slice none 0 c ∧ l = []) ∨ ∃ ad c, v = .slice (some ad) l.length c ∧ ∀ j u, (cells2 l)[j]? = some u → w.cell? (ad.add j) = some u := by
  rcases h with ⟨rfl, a, c, rfl⟩ | ⟨g, o, c, rfl, hc⟩
  · cases a with
    | none => exact .inl ⟨c, rfl, rfl⟩
    | some ad => exact .inr ⟨ad, c, rfl, fun j u hj => by simp [cells2] at hj⟩
  · refine .inr ⟨⟨g, o, none⟩, c, rfl, fun j u hj => ?_⟩
    obtain ⟨q, hq, hh⟩ := cells2_cell l j u hj
    rw [Go.WideShapes.add_plain]
    rcases hh with ⟨rfl, rfl⟩ | ⟨rfl, rfl⟩
    · exact (hc q hq).1
    · rw [← Nat.add_assoc]; exact (hc q hq).2
theorem run_append_nil (w : World) (base : Nat) (ty : TypeId) (v : Value) (l : List Gf) (c : Nat) (h : Og w base v l) : (Builtin.append_ #[27, 27] ty #[v, .slice none 0 c]).run Try.prog w = .ok v w := by
  obtain ⟨i0, hi, hz0, hz1, hz2⟩ := info_parts Try.info35
  have hs := Src.ofNil (P := Try.prog) (size := 2) w Try.underlying27 c
  unfold Og at h
  rcases h.2 with ⟨rfl, hn⟩ | ⟨g, cap, cur, rfl, hb, hh, hle, hm, hcs, _⟩
  · simp [Builtin.append_, run_underlying Try.underlying27, sizeOf, typeInfo, hi, hs.len, hz1, hs.cells]
  · have := run_append_room_src (P := Try.prog) w 27 27 ty 35 i0 Try.underlying27 hi g 0 l.length cap (.slice none 0 c) 0 [] (by rw [hz1]; exact hs) (by omega) (fun j hj => by simp at hj) (fun j hj => by simp at hj)
    simpa [World.setCells] using this
theorem wpList_append_g {w : World} {ops : Array Oper} {rest : List Oper} {o : Oper} {a : Act} {Q : Exit → Act → World → Prop} (hgd : o.guard = none ∨ True) (s x : Operand)
    (ho : o.op = .call { callee := .builtin .append, args := #[s, x], argTypes := #[27, 27] }) (hgn : o.guard = none)
    (base : Nat) (v : Value) (l1 : List Gf) (hs : a.eval s = v) (hown : Og w base v l1) (vx : Value) (l2 : List Gf) (hx : a.eval x = vx) (hG : GAt w vx l2) (hlen : l1.length + l2.length ≤ 1000000000) (hbase : base ≤ w.heap.size)
    (h : ∀ v' w', Og w' base v' (l1 ++ l2) → w.grownBy w' v.ownBlock → (v'.ownBlock = v.ownBlock ∨ v'.ownBlock = some w.heap.size) → wpList Try.prog ops Q rest (a.put o.dst v') w') : wpList Try.prog ops Q (o :: rest) a w := by
  obtain ⟨i0, hi, hz0, hz1, hz2⟩ := info_parts Try.info35
  rcases gat_src hG with ⟨c, rfl, rfl⟩ | ⟨ad, c, rfl, hc⟩
  · refine wpList_plain hgn fun K hK => ?_
    have hr := run_append_nil w base o.type v l1 c hown
    unfold Oper.wp execOp
    simp only [ho, resolve, invoke, builtin, Sem.run_bind, Sem.run_pure, Result.andThen_ok, List.map_toArray, List.map_cons, List.map_nil, hs, hx, hr]
    refine hK _ _ (h v w ?_ (World.grownBy.refl w _) (.inl rfl))
    rw [List.append_nil]
    exact hown
  · refine wpList_append_own_at w hgn s x 27 ho base 35 i0 _ 2 24 Try.underlying27 hi hz0 hz1 hz2 (by rfl) (by decide) v l1.length (cells2 l1) hs hown ad l2.length c (cells2 l2) hx (cells2_len l2) hc (cells2_one l2) (by unfold maxLen; omega) (by omega) hbase fun v' w' h1 h2 _ h4 => h v' w' ?_ h2 h4
    unfold Og
    rw [List.length_append, cells2_app]
    exact h1
theorem wp_append_g {w : World} {o : Oper} {a : Act} {K : Act → World → Prop} {Q : Exit → Act → World → Prop} (s x : Operand)
    (ho : o.op = .call { callee := .builtin .append, args := #[s, x], argTypes := #[27, 27] })
    (base : Nat) (v : Value) (l1 : List Gf) (hs : a.eval s = v) (hown : Og w base v l1) (vx : Value) (l2 : List Gf) (hx : a.eval x = vx) (hG : GAt w vx l2) (hlen : l1.length + l2.length ≤ 1000000000) (hbase : base ≤ w.heap.size)
    (h : ∀ v' w', Og w' base v' (l1 ++ l2) → w.grownBy w' v.ownBlock → (v'.ownBlock = v.ownBlock ∨ v'.ownBlock = some w.heap.size) → K (a.put o.dst v') w') : o.wp Try.prog a w K Q := by
  obtain ⟨i0, hi, hz0, hz1, hz2⟩ := info_parts Try.info35
  rcases gat_src hG with ⟨c, rfl, rfl⟩ | ⟨ad, c, rfl, hc⟩
  · have hr := run_append_nil w base o.type v l1 c hown
    unfold Oper.wp execOp
    simp only [ho, resolve, invoke, builtin, Sem.run_bind, Sem.run_pure, Result.andThen_ok, List.map_toArray, List.map_cons, List.map_nil, hs, hx, hr]
    refine h v w ?_ (World.grownBy.refl w _) (.inl rfl)
    rw [List.append_nil]
    exact hown
  · obtain ⟨v', w', hr, h2, h3, h4, h5⟩ := run_append_own_at (P := Try.prog) w base 27 o.type 35 i0 _ 2 24 Try.underlying27 hi hz0 hz1 hz2 (by rfl) (by decide) v l1.length (cells2 l1) hown ad l2.length c (cells2 l2) (cells2_len l2) hc (cells2_one l2) (by unfold maxLen; omega) (by omega) hbase
    unfold Oper.wp execOp
    simp only [ho, resolve, invoke, builtin, Sem.run_bind, Sem.run_pure, Result.andThen_ok, List.map_toArray, List.map_cons, List.map_nil, hs, hx, hr]
    refine h v' w' ?_ h3 h5
    unfold Og
    rw [List.length_append, cells2_app]
    exact h2
theorem wpList_append_w {w : World} {ops : Array Oper} {rest : List Oper} {o : Oper} {a : Act} {Q : Exit → Act → World → Prop} (hw : Region.wanted o (yielded ops a.tmps) = true) (s x : Operand)
    (ho : o.op = .call { callee := .builtin .append, args := #[s, x], argTypes := #[27, 27] })
    (base : Nat) (v : Value) (l1 : List Gf) (hs : a.eval s = v) (hown : Og w base v l1) (vx : Value) (l2 : List Gf) (hx : a.eval x = vx) (hG : GAt w vx l2) (hlen : l1.length + l2.length ≤ 1000000000) (hbase : base ≤ w.heap.size)
    (h : ∀ v' w', Og w' base v' (l1 ++ l2) → w.grownBy w' v.ownBlock → (v'.ownBlock = v.ownBlock ∨ v'.ownBlock = some w.heap.size) → wpList Try.prog ops Q rest (a.put o.dst v') w') : wpList Try.prog ops Q (o :: rest) a w :=
  BigFrame.wpList_want hw fun _ hK => wp_append_g s x ho base v l1 hs hown vx l2 hx hG hlen hbase fun v' w' h1 h2 h3 => hK _ _ (h v' w' h1 h2 h3)
/-- An empty slice that is not nil. -/
theorem og_empty (w : World) (base : Nat) (hb : base ≤ w.heap.size) : Og (w.alloc (.cells #[] 35)) base (.slice (some ⟨w.heap.size, 0, none⟩) 0 0) [] :=
  ⟨rfl, .inr ⟨w.heap.size, 0, #[], rfl, hb, heap_alloc_new w _, by simp, by simp [maxLen], by simp, by simp [cells2]⟩⟩
end Go.Proofs.Ytbckkfoenembmaa
