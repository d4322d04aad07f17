/- The contracts of an item's 'is', two kinds more. -/
import Derived.Test.YtnoejddhdgmkcaaIt
namespace Go.Proofs.Ytnoejddhdgmkcaa
open Go.RowKit
set_option maxRecDepth 100000 in
set_option maxHeartbeats 400000 in
theorem is2 (b : Nat) (s : ByteArray) (a : Int) (N : Nat) (S : ByteArray) (r : Nat) (u1 : IntKind.u32.wrap (N : Int) = r) (u2 : IntKind.u64.wrap (r : Int) = r) (n : Int) (a' e' : Int) (w : World) (h : RdAt w b s a 0) (hM : Meth 26 [.int .i64 4] s a 0 (.int .u64 n) a' e') :
    Calls Try.prog 44 #[.agg #[.int .u8 2, .int .u64 N, .string S], .pointer (some ⟨b, 0, none⟩)] w (IsRet w b s (n == (r : Int)) a' e') := by
  have hblt := h.lt
  have H := Lib.hid h
  have M := Lib.hid hM
  clear h hM
  have D := Lib.hid (box_start w 2 N S 65)
  go_enter Try.func44, Try.ntmps44
  go_wp2_with fail
  go_region_held3 (fun w' => w'.cell? ⟨w.heap.size, 1, none⟩ = some (.int .u64 N) ∧ w'.cell? ⟨w.heap.size, 2, none⟩ = some (.string S)) (first | exact D.out | exact k0) ((go_at_call 26; refine (M.out _ b (H.out.alloc (.cells #[.int .u8 2, .int .u64 N, .string S] 65)).drew).mono ?_; rintro e1 w1 ⟨rfl, hR, hG⟩; have R := Lib.hid hR; have G := Lib.hid hG; have k0 := box_item hG hblt; clear hR hG))
  all_goals
    go_wp2
    go_ret
    exact ⟨rfl, R.out, isG G.out⟩
set_option maxRecDepth 100000 in
set_option maxHeartbeats 400000 in
theorem is1 (b : Nat) (s : ByteArray) (a : Int) (N : Nat) (S : ByteArray) (z : Int) (hz2 : IntKind.i64.wrap (N : Int) = z) (n : Int) (a' e' : Int) (w : World) (h : RdAt w b s a 0) (hM : Meth 23 [.int .i64 z, .int .i64 z] s a 0 (.int .i64 n) a' e') :
    Calls Try.prog 44 #[.agg #[.int .u8 1, .int .u64 N, .string S], .pointer (some ⟨b, 0, none⟩)] w (IsRet w b s (n == z) a' e') := by
  have hblt := h.lt
  have H := Lib.hid h
  have M := Lib.hid hM
  clear h hM
  have D := Lib.hid (box_start w 1 N S 65)
  go_enter Try.func44, Try.ntmps44
  go_wp2_with fail
  go_region_held3 (fun w' => w'.cell? ⟨w.heap.size, 1, none⟩ = some (.int .u64 N) ∧ w'.cell? ⟨w.heap.size, 2, none⟩ = some (.string S)) (first | exact D.out | exact k0) ((go_at_call 23; refine (M.out _ b (H.out.alloc (.cells #[.int .u8 1, .int .u64 N, .string S] 65)).drew).mono ?_; rintro e1 w1 ⟨rfl, hR, hG⟩; have R := Lib.hid hR; have G := Lib.hid hG; have k0 := box_item hG hblt; clear hR hG))
  all_goals
    go_wp2
    go_ret
    exact ⟨rfl, R.out, isG G.out⟩
end Go.Proofs.Ytnoejddhdgmkcaa
