/- A region that draws its order, where from some point on each operation leaves the world as it is: one walk serves. Over any program. -/
import Derived.Deep.Quiet
import Derived.Orders
namespace Go.Proofs.YtmbndjdpbpajmaaDoor
open Go
section
variable {P : Program} {ops : Array Oper} {md : Region.Mode} {w1 : World} {Q : Act → Prop}
theorem q_val {o : Oper} {v : Value} {a : Act} (hw : Region.wanted o (yielded ops a.tmps) = true) (h : (execOp a.eval o).run P w1 = .ok (.value v) w1) : YieldsIn P ops (fun w => w1 = w) o v a :=
  .inl ⟨hw, fun w e => by subst e; unfold Oper.quietAt; rw [h]; exact ⟨rfl, rfl⟩⟩
theorem q_call {o : Oper} {v : Value} {a : Act} {f : FuncId} {args : Array Value} (hw : Region.wanted o (yielded ops a.tmps) = true) (h : (execOp a.eval o).run P w1 = .ok (.enter f args) w1)
    (hc : Calls P f args w1 (fun e w'' => e = .returned v ∧ w1 = w'')) : YieldsIn P ops (fun w => w1 = w) o v a :=
  .inl ⟨hw, fun w e => by subst e; unfold Oper.quietAt; rw [h]; exact ⟨rfl, hc⟩⟩
theorem q_take {i : Nat} {oi : Oper} {v : Value} {fuel : Nat} {listed : Array Bool} {a : Act} (hi : ops[i]? = some oi)
    (hs : Region.noSelect ops = true) (hf : Region.free md ops listed i = true) (hr : (Region.ready md ops listed).contains i = true) (hy : YieldsIn P ops (fun w => w1 = w) oi v a)
    (h : wpAnyQ P md ops (fun w => w1 = w) Q fuel (listed.setIfInBounds i true) (a.put oi.dst v)) : wpAnyQ P md ops (fun w => w1 = w) Q (fuel + 1) listed a :=
  wpAnyQ_first hi (Region.noSelect_spec hs) fuel listed a (Region.free_spec hi hf) (by simpa using hr) hy h
theorem q_done {listed : Array Bool} {a : Act} (hr : Region.ready md ops listed = []) (h : Q a) : ∀ fuel, wpAnyQ P md ops (fun w => w1 = w) Q fuel listed a
  | 0 => ⟨hr, h⟩
  | _ + 1 => ⟨fun _ => h, by rw [hr]; simp⟩
theorem q_start {Q' : Exit → Act → World → Prop} {fuel : Nat} {listed : Array Bool} {a : Act} (h : wpAnyQ P md ops (fun w => w1 = w) (fun a => Q' .normal a w1) fuel listed a) : wpAny P md ops Q' fuel listed a w1 :=
  wpAny_of_quiet (fun _ w e h => by subst e; exact h) fuel listed a w1 rfl h
end
end Go.Proofs.YtmbndjdpbpajmaaDoor
