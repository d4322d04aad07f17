/- from: an iterator over a tree. -/
import Derived.Test.YtbfkgbickjfcjaaTi
import Derived.Test.YtbfkgbickjfcjaaTj
import Derived.Test.YtbfkgbickjfcjaaRw
import Derived.RangeFuncNested
import Derived.RangeFuncBound
import Derived.RangeFuncCalls
import Derived.RangeFuncLeaves
import Derived.Shelf.Abstract
import Derived.Shelf.RegionOpen
import Derived.OwnWalkIn
import Derived.TacticsInMore
import Derived.LoopNIn
import Derived.LoopIn
namespace Go.Proofs.Ytbfkgbickjfcjaa
set_option linter.unusedVariables false
set_option linter.unusedSimpArgs false
open Go Go.RowKit Go.Shelf
attribute [local go_sem] Oper.semAt_some
set_option maxRecDepth 100000
theorem room_w (k : Nat) : Fence.wide.room k := fun d h => by cases h
theorem YieldAt.anyD {m : Nat} (m' : Nat) {P : Program} {l : Nat} {args : Array Value} {W : World} {R : Ending → World → Prop} (h : YieldAt Fence.wide m P l args W R) : YieldAt Fence.wide m' P l args W R := by
  obtain ⟨fn, tmps, assign, body, hy, hR⟩ := h
  exact ⟨fn, tmps, assign, body, hy, ⟨hR.1, fun c cs _ => hR.2 c cs (room_w _)⟩⟩
theorem sfrom_any (p : Option Addr) (k : ByteArray) (w : World) : Calls Try.prog 73 #[.pointer p, .string k] w fun e w' => e = .returned (.func (.func 86) #[] #[.pointer (some ⟨w.heap.size, 0, none⟩), .pointer (some ⟨w.heap.size + 1, 0, none⟩)]) ∧ w' = (w.alloc (.cells #[.pointer p] 91)).alloc (.cells #[.string k] 9) := by
  go_enter Try.func73, Try.ntmps73
  go_wp2
  go_ret
  exact ⟨rfl, rfl⟩
set_option maxHeartbeats 1000000 in
theorem sfrom_gives (n : Nat) (t : T ByteArray En) (p : Option Addr) (k : ByteArray) (q : Nat → Prop) (W : World) (hin : SIn q W p t) (hs : Srt ltS t.flat) (B0 B1 : Nat) (h0 : W.cell? ⟨B0, 0, none⟩ = some (.pointer p)) (h1 : W.cell? ⟨B1, 0, none⟩ = some (.string k)) :
    Gives n Try.prog 86 #[.pointer (some ⟨B0, 0, none⟩), .pointer (some ⟨B1, 0, none⟩)] encS (frm ltS k t.flat) 0 q W := by
  intro l J Jx hJ hJx hY hj0
  have HT := Lib.hid (stell_in l q J Jx W.heap.size (fun s A hj => hJ s A A.drew none hj (grown_below (Below.refl _ A).drew _) (fun r e => by cases e)) (fun x rest A m hj hA => YieldAt.anyD m (hY x rest A hj (by simpa using hA))) t (n - 1) p k [] W hin hs (by rw [List.append_nil]; exact hj0) (Nat.le_refl _))
  clear hJ hJx hY hj0 hin hs
  refine callsIn_of_wp Try.func86 rfl trivial ?_ rfl
  simp only [Try.ntmps86, List.size_toArray, List.length_cons, List.length_nil, Nat.reduceAdd, Nat.reduceSub, Array.replicate_succ, Array.replicate_zero, List.push_toArray, List.append_toArray, List.nil_append, List.cons_append]
  gi_wp2_with fail
  refine ⟨trivial, (fun h => (by cases h)), HT.out.mono ?_⟩
  rintro e W2 (⟨rfl, hj, -⟩ | ⟨rfl, hx⟩)
  · have HJ := Lib.hid hj
    clear hj
    try gi_wp2
    go_end0
    exact ⟨⟨_, rfl⟩, .inl HJ.out⟩
  · have HJ := Lib.hid hx
    clear hx
    try gi_wp2
    go_end0
    exact ⟨⟨_, rfl⟩, .inr HJ.out⟩
theorem ifrom_any (p : Option Addr) (k : Int) (w : World) : Calls Try.prog 61 #[.pointer p, .int .i64 k] w fun e w' => e = .returned (.func (.func 81) #[] #[.pointer (some ⟨w.heap.size, 0, none⟩), .pointer (some ⟨w.heap.size + 1, 0, none⟩)]) ∧ w' = (w.alloc (.cells #[.pointer p] 92)).alloc (.cells #[.int .i64 k] 2) := by
  go_enter Try.func61, Try.ntmps61
  go_wp2
  go_ret
  exact ⟨rfl, rfl⟩
set_option maxHeartbeats 1000000 in
theorem ifrom_gives (n : Nat) (t : T Int Sl) (p : Option Addr) (k : Int) (q : Nat → Prop) (W : World) (hin : IIn q W p t) (hs : Srt ltI t.flat) (B0 B1 : Nat) (h0 : W.cell? ⟨B0, 0, none⟩ = some (.pointer p)) (h1 : W.cell? ⟨B1, 0, none⟩ = some (.int .i64 k)) :
    Gives n Try.prog 81 #[.pointer (some ⟨B0, 0, none⟩), .pointer (some ⟨B1, 0, none⟩)] encI (frm ltI k t.flat) 0 q W := by
  intro l J Jx hJ hJx hY hj0
  have HT := Lib.hid (itell_in l q J Jx W.heap.size (fun s A hj => hJ s A A.drew none hj (grown_below (Below.refl _ A).drew _) (fun r e => by cases e)) (fun x rest A m hj hA => YieldAt.anyD m (hY x rest A hj (by simpa using hA))) t (n - 1) p k [] W hin hs (by rw [List.append_nil]; exact hj0) (Nat.le_refl _))
  clear hJ hJx hY hj0 hin hs
  refine callsIn_of_wp Try.func81 rfl trivial ?_ rfl
  simp only [Try.ntmps81, List.size_toArray, List.length_cons, List.length_nil, Nat.reduceAdd, Nat.reduceSub, Array.replicate_succ, Array.replicate_zero, List.push_toArray, List.append_toArray, List.nil_append, List.cons_append]
  gi_wp2_with fail
  refine ⟨trivial, (fun h => (by cases h)), HT.out.mono ?_⟩
  rintro e W2 (⟨rfl, hj, -⟩ | ⟨rfl, hx⟩)
  · have HJ := Lib.hid hj
    clear hj
    try gi_wp2
    go_end0
    exact ⟨⟨_, rfl⟩, .inl HJ.out⟩
  · have HJ := Lib.hid hx
    clear hx
    try gi_wp2
    go_end0
    exact ⟨⟨_, rfl⟩, .inr HJ.out⟩
end Go.Proofs.Ytbfkgbickjfcjaa
