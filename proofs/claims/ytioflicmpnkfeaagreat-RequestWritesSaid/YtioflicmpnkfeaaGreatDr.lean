/- The contract of the document's Read. -/
import Derived.Test.YtioflicmpnkfeaaGreatDb
namespace Go.Proofs.YtioflicmpnkfeaaGreat
open Go.RowKit
/-- Told: fields of the document, and an error. -/
def TellsFf (w : World) (x : List Ff × Nat) (e : Ending) (w' : World) : Prop := ∃ v, e = .returned (.tuple #[v, .int .i64 (x.2 : Int)]) ∧ Of w' w.heap.size v x.1 ∧ Below w.heap.size w w'
theorem of_snoc {w1 : World} {base : Nat} {l : List Ff} {n i v : Int} {t : ByteArray} {f : Ff} (hf : fv f = .agg #[.int .i64 n, .int .u8 i, .int .u64 v, .string t]) {v' : Value} (h : w1.ownsRow base 47 4 v' (l.length + 1) (cells4 l ++ [.int .i64 n, .int .u8 i, .int .u64 v, .string t])) : Of w1 base v' (l ++ [f]) := by
  unfold fv at hf
  simp at hf
  obtain ⟨h1, h2, h3, h4⟩ := hf
  unfold Of
  rw [cells4_append, List.length_append, List.length_singleton, h1, h2, h3, h4]
  exact h
theorem Of.alloc {w : World} {base : Nat} {v : Value} {l : List Ff} (h : Of w base v l) (o : Obj) : Of (w.alloc o) base v l := World.ownsRow.alloc h o
theorem Og.alloc {w : World} {base : Nat} {v : Value} {l : List Gf} (h : Og w base v l) (o : Obj) : Og (w.alloc o) base v l := World.ownsRow.alloc h o
theorem one4 {n i v : Int} {t : ByteArray} : ∀ u ∈ [Value.int .i64 n, Value.int .u8 i, Value.int .u64 v, Value.string t], u.oneCell' = true := by simp [Value.oneCell']
theorem msg_end' {l : List UInt8} {acc : List Fd} (h : l = []) : msg l acc = (acc, 0) := by rw [h, msg_nil]
end Go.Proofs.YtioflicmpnkfeaaGreat
