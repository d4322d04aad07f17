/- The contract of 'told', and that both readers tell the same, over the seat's own program. -/
import Derived.Test.YtjhgmlhoefakpaaDoorRr
namespace Go.Proofs.YtjhgmlhoefakpaaDoor
open Go.RowKit
set_option maxRecDepth 100000 in
set_option maxHeartbeats 400000 in
theorem qtext_err (b : Nat) (s : ByteArray) (a e z : Int) (z0 : -9223372036854775808 ≤ z) (z1 : z ≤ 9223372036854775807) (w : World) (h : RdAt w b s a e) (he : (e != 0) = true) :
    Calls Tryd.prog 54 #[.pointer (some ⟨b, 0, none⟩), .int .i64 z] w (RdRet w b s (.string ⟨#[]⟩) a e) := by
  have c1 := h.c1
  have H := Lib.hid h
  clear h
  have M := fun m => Lib.hid (qvarint_err b s a e m w H.out he)
  have M' := Lib.hid M
  clear M
  by_cases hz : 0 ≤ z
  · go_enter Tryd.func54, Tryd.ntmps54
    go_wp2_with (go_at_call 71; refine (M'.out _).out.mono ?_; rintro e1 w1 ⟨rfl, hR, hG⟩; have c2 := hR.c2; have R := Lib.hid hR; have G := Lib.hid hG; clear hR hG)
    go_ret
    exact ⟨rfl, R.out, G.out⟩
  · have hz' : z < 0 := by omega
    clear hz
    go_enter Tryd.func54, Tryd.ntmps54
    go_wp2_with (go_at_call 71; refine (M'.out _).out.mono ?_; rintro e1 w1 ⟨rfl, hR, hG⟩; have c2 := hR.c2; have R := Lib.hid hR; have G := Lib.hid hG; clear hR hG)
    go_ret
    exact ⟨rfl, R.out, G.out⟩
/-- Both methods, at one state of the reader. -/
def Both (f g : Nat) (args : List Value) (s : ByteArray) (a e : Int) (v : Value) (a' e' : Int) : Prop := Meth f args s a e v a' e' ∧ Meth g args s a e v a' e'
/-- Both varints of a place. -/
theorem uv_both (s : ByteArray) (a : Nat) (ha : a ≤ s.size) (hs : s.size ≤ 140737488351232) :
    (∃ N C : Nat, TellsU 110 #[.string s, .int .i64 a] N ((a + C : Nat) : Int) 0 ∧ TellsU 85 #[.string s, .int .i64 a] N ((a + C : Nat) : Int) 0 ∧ N ≤ 18446744073709551615 ∧ a + C ≤ s.size) ∨
    (∃ K : Nat, K ≠ 0 ∧ TellsU 110 #[.string s, .int .i64 a] 0 0 K ∧ TellsU 85 #[.string s, .int .i64 a] 0 0 K) := by
  have hf := Bt.rd_facts (s.data.toList.drop a) 0 0 (by omega) (by simp)
  rcases uv_cases s a ha hs with ⟨N, C, hr, hT, hN, _, hle⟩ | ⟨K, hr, hK, hT⟩
  · rw [hr] at hf
    exact .inl ⟨N, C, hT, fun w => ruvarint_ok s a w ha hs N C _ hr rfl (hf.2.1 rfl).2.1, hN, hle⟩
  · exact .inr ⟨K, hK, hT, fun w => ruvarint_no s a w ha hs K (by omega) hr⟩
end Go.Proofs.YtjhgmlhoefakpaaDoor
