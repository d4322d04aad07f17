/- Append of any series behind series that are owned. -/
import Derived.Test.YtakdplfffkadpaaSd
import Derived.Deep.AppendSrc
import Derived.Maps.AppendAt
namespace Go.Proofs.Ytakdplfffkadpaa
open Go Go.RowKit Go.Deep
set_option maxRecDepth 100000
theorem run_append_nil40 (w : World) (base : Nat) (ty : TypeId) (v : Value) (l : List Pv) (c : Nat) (h : O2 40 w base v l) : (Builtin.append_ #[23, 23] ty #[v, .slice none 0 c]).run Try.prog w = .ok v w := by
  obtain ⟨i0, hi, hz0, hz1, hz2⟩ := info_parts Try.info40
  have hs := Src.ofNil (P := Try.prog) (size := 2) w Try.underlying23 c
  unfold O2 at h
  rcases h.2 with ⟨rfl, hn⟩ | ⟨g, cap, cur, rfl, hb, hh, hle, hm, hcs, _⟩
  · simp [Builtin.append_, run_underlying Try.underlying23, sizeOf, typeInfo, hi, hs.len, hz1, hs.cells]
  · have := run_append_room_src (P := Try.prog) w 23 23 ty 40 i0 Try.underlying23 hi g 0 l.length cap (.slice none 0 c) 0 [] (by rw [hz1]; exact hs) (by omega) (fun j hj => by simp at hj) (fun j hj => by simp at hj)
    simpa [World.setCells] using this
theorem prs_one {l : List Pv} (h : ∀ p ∈ l, p.1.oneCell' = true ∧ p.2.oneCell' = true) : ∀ u ∈ prs l, u.oneCell' = true := by
  intro u hu
  obtain ⟨j, hj⟩ := List.getElem?_of_mem hu
  obtain ⟨q, hq, ⟨-, rfl⟩ | ⟨-, rfl⟩⟩ := prs_cell l j u hj
  · exact (h _ (List.getElem_mem hq)).1
  · exact (h _ (List.getElem_mem hq)).2
theorem wpList_append_s {w : World} {ops : Array Oper} {rest : List Oper} {o : Oper} {a : Act} {Q : Exit → Act → World → Prop} (s x : Operand)
    (ho : o.op = .call { callee := .builtin .append, args := #[s, x], argTypes := #[23, 23] }) (hgn : o.guard = none)
    (base : Nat) (v : Value) (l1 : List Pv) (hs : a.eval s = v) (hown : O2 40 w base v l1) (vx : Value) (l2 : List Pv) (hx : a.eval x = vx) (hG : At2 w vx l2) (h1 : ∀ p ∈ l2, p.1.oneCell' = true ∧ p.2.oneCell' = true) (hlen : l1.length + l2.length ≤ 1000000000) (hbase : base ≤ w.heap.size)
    (h : ∀ v' w', O2 40 w' base v' (l1 ++ l2) → w.grownBy w' v.ownBlock → wpList Try.prog ops Q rest (a.put o.dst v') w') : wpList Try.prog ops Q (o :: rest) a w := by
  obtain ⟨i0, hi, hz0, hz1, hz2⟩ := info_parts Try.info40
  rcases hG.src with ⟨c, rfl, rfl⟩ | ⟨ad, c, rfl, hc⟩
  · refine wpList_plain hgn fun K hK => ?_
    have hr := run_append_nil40 w base o.type v l1 c hown
    unfold Oper.wp execOp
    simp only [ho, resolve, invoke, builtin, Sem.run_bind, Sem.run_pure, Result.andThen_ok, List.map_toArray, List.map_cons, List.map_nil, hs, hx, hr]
    refine hK _ _ (h v w ?_ (World.grownBy.refl w _))
    rw [List.append_nil]
    exact hown
  · refine wpList_append_own_at w hgn s x 23 ho base 40 i0 _ 2 48 Try.underlying23 hi hz0 hz1 hz2 (by rfl) (by decide) v l1.length (prs l1) hs hown ad l2.length c (prs l2) hx (prs_len l2) hc (prs_one h1) (by unfold maxLen; omega) (by omega) hbase ?_
    intro v' w' ho' hg _ _
    refine h v' w' ?_ hg
    unfold O2
    rw [List.length_append, prs_app]
    exact ho'
theorem SAt.one {W : World} {v : Value} {zs : List Zr} (h : SAt W v zs) : ∀ p ∈ zs.map zp, p.1.oneCell' = true ∧ p.2.oneCell' = true := by
  intro p hp
  obtain ⟨z, hz, rfl⟩ := List.mem_map.1 hp
  obtain ⟨a, c, e1⟩ := At2.slice (h.ls z hz)
  obtain ⟨b, d, e2⟩ := At2.slice (h.ss z hz)
  unfold zp
  dsimp only
  rw [e1, e2]
  exact ⟨rfl, rfl⟩
theorem SAt.app {W : World} {v : Value} {xs ys : List Zr} (h : At2 W v (xs.map zp ++ ys.map zp)) (hx : (∀ z ∈ xs, LAt W z.a z.x.ls) ∧ ∀ z ∈ xs, MAt W z.b z.x.ss) (hy : (∀ z ∈ ys, LAt W z.a z.x.ls) ∧ ∀ z ∈ ys, MAt W z.b z.x.ss) : SAt W v (xs ++ ys) := by
  refine ⟨by rw [List.map_append]; exact h, fun z hz => ?_, fun z hz => ?_⟩
  · rcases List.mem_append.1 hz with hz | hz
    · exact hx.1 z hz
    · exact hy.1 z hz
  · rcases List.mem_append.1 hz with hz | hz
    · exact hx.2 z hz
    · exact hy.2 z hz
end Go.Proofs.Ytakdplfffkadpaa
