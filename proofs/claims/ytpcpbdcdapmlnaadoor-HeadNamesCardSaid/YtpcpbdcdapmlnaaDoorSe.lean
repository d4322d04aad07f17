/- The document's own answers that make no memory: a step, Add, Of, Mask, Plain. -/
import Derived.Test.YtpcpbdcdapmlnaaDoorSd
import Derived.Test.YtpcpbdcdapmlnaaDoorSa
namespace Go.Proofs.YtpcpbdcdapmlnaaDoor
open Go.RowKit
theorem xor_ones (a : Nat) (ha : a < 4294967296) : bits .xor .u32 (a : Int) 4294967295 = ((4294967295 ^^^ a : Nat) : Int) := by
  rw [Nat.xor_comm]; exact u32_xor_nat a 4294967295 ha (by omega)
end Go.Proofs.YtpcpbdcdapmlnaaDoor
