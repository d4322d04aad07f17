/- More on Show and Parse as the laws ask. -/
import Derived.Test.YtjhgmlhoefakpaaDoorAw
import Derived.Test.YtjhgmlhoefakpaaDoorKm
namespace Go.Proofs.YtjhgmlhoefakpaaDoor
open Go.RowKit
set_option maxRecDepth 100000
theorem show_not (l : List Lb) (hl : l.length ≤ 9223372036854775807) (hw : Wide l) (h : showE l = ([], 4)) (v : Value) (w : World) (hv : LAt w v l) (hT : Tab w) :
    Calls Tryd.prog 18 #[v] w (Ret w (.tuple #[.string ⟨#[]⟩, .int .i64 4])) := by
  have := show_any l hl hw v w hv hT
  rw [h] at this
  exact this
theorem pnil : parseK (ByteArray.mk #[]).data.toList = ([], 4) := by kernel_rfl
theorem parse_parts (s : ByteArray) : parseK s.data.toList = ([], 4) ∨ ∃ l, parseK s.data.toList = (l, 0) ∧ mayL l = true := by
  unfold parseK
  cases e : parse s.data.toList with
  | none => exact .inl rfl
  | some m => exact .inr ⟨m, rfl, parse_may e⟩
end Go.Proofs.YtjhgmlhoefakpaaDoor
