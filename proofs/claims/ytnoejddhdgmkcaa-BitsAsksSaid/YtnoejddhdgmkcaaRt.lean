/- The contract of 'told', and that both readers tell the same, over the seat's own program. -/
import Derived.Test.YtnoejddhdgmkcaaRr
namespace Go.Proofs.Ytnoejddhdgmkcaa
open Go.RowKit
set_option maxRecDepth 100000 in
set_option maxHeartbeats 1000000 in
theorem tell0 (b : Nat) (s : ByteArray) (a e N A B : Int) (n : Int) (a' e' : Int) (w : World) (h : RdAt w b s a e) (hM : Meth 55 [.int .u64 N] s a e (.int .u64 n) a' e') :
    Calls Try.prog 40 #[.pointer (some ⟨b, 0, none⟩), .agg #[.int .u8 0, .int .u64 N, .int .i64 A, .int .i64 B]] w (AskRet w b s n ⟨#[]⟩ a' e') := by
  have H := Lib.hid h
  have M := Lib.hid hM
  clear h hM
  go_enter Try.func40, Try.ntmps40
  go_wp2_with fail
  refine (M.out _ b (H.out.alloc _)).mono ?_
  rintro e1 w1 ⟨rfl, hR, hG⟩
  have R := Lib.hid hR
  have G := Lib.hid hG
  clear hR hG
  go_wp2
  go_ret2
  exact ⟨rfl, R.out, grown_alloc G.out⟩
set_option maxRecDepth 100000 in
set_option maxHeartbeats 1000000 in
theorem tell1 (b : Nat) (s : ByteArray) (a e N A B : Int) (n : Int) (a' e' : Int) (w : World) (h : RdAt w b s a e) (hM : Meth 56 [.int .i64 A, .int .i64 B] s a e (.int .i64 n) a' e') :
    Calls Try.prog 40 #[.pointer (some ⟨b, 0, none⟩), .agg #[.int .u8 1, .int .u64 N, .int .i64 A, .int .i64 B]] w (AskRet w b s (IntKind.u64.wrap n) ⟨#[]⟩ a' e') := by
  have H := Lib.hid h
  have M := Lib.hid hM
  clear h hM
  go_enter Try.func40, Try.ntmps40
  go_wp2_with fail
  refine (M.out _ b (H.out.alloc _)).mono ?_
  rintro e1 w1 ⟨rfl, hR, hG⟩
  have R := Lib.hid hR
  have G := Lib.hid hG
  clear hR hG
  go_wp2
  go_ret2
  exact ⟨rfl, R.out, grown_alloc G.out⟩
set_option maxRecDepth 100000 in
set_option maxHeartbeats 1000000 in
theorem tell2 (b : Nat) (s : ByteArray) (a e N A B : Int) (n : Int) (a' e' : Int) (w : World) (h : RdAt w b s a e) (hM : Meth 57 [.int .i64 A] s a e (.int .u64 n) a' e') :
    Calls Try.prog 40 #[.pointer (some ⟨b, 0, none⟩), .agg #[.int .u8 2, .int .u64 N, .int .i64 A, .int .i64 B]] w (AskRet w b s n ⟨#[]⟩ a' e') := by
  have H := Lib.hid h
  have M := Lib.hid hM
  clear h hM
  go_enter Try.func40, Try.ntmps40
  go_wp2_with fail
  refine (M.out _ b (H.out.alloc _)).mono ?_
  rintro e1 w1 ⟨rfl, hR, hG⟩
  have R := Lib.hid hR
  have G := Lib.hid hG
  clear hR hG
  go_wp2
  go_ret2
  exact ⟨rfl, R.out, grown_alloc G.out⟩
set_option maxRecDepth 100000 in
set_option maxHeartbeats 1000000 in
theorem tell3 (b : Nat) (s : ByteArray) (a e N A B : Int) (n : Nat) (hn : n ≤ 255) (a' e' : Int) (w : World) (h : RdAt w b s a e) (hM : Meth 58 [] s a e (.int .u8 n) a' e') :
    Calls Try.prog 40 #[.pointer (some ⟨b, 0, none⟩), .agg #[.int .u8 3, .int .u64 N, .int .i64 A, .int .i64 B]] w (AskRet w b s n ⟨#[]⟩ a' e') := by
  have H := Lib.hid h
  have M := Lib.hid hM
  clear h hM
  go_enter Try.func40, Try.ntmps40
  go_wp2_with fail
  refine (M.out _ b (H.out.alloc _)).mono ?_
  rintro e1 w1 ⟨rfl, hR, hG⟩
  have R := Lib.hid hR
  have G := Lib.hid hG
  clear hR hG
  go_wp2
  go_ret2
  exact ⟨rfl, R.out, grown_alloc G.out⟩
set_option maxRecDepth 100000 in
set_option maxHeartbeats 1000000 in
theorem tell4 (b : Nat) (s : ByteArray) (a e N A B : Int) (n : ByteArray) (a' e' : Int) (w : World) (h : RdAt w b s a e) (hM : Meth 59 [.int .i64 A] s a e (.string n) a' e') :
    Calls Try.prog 40 #[.pointer (some ⟨b, 0, none⟩), .agg #[.int .u8 4, .int .u64 N, .int .i64 A, .int .i64 B]] w (AskRet w b s 0 n a' e') := by
  have H := Lib.hid h
  have M := Lib.hid hM
  clear h hM
  go_enter Try.func40, Try.ntmps40
  go_wp2_with fail
  refine (M.out _ b (H.out.alloc _)).mono ?_
  rintro e1 w1 ⟨rfl, hR, hG⟩
  have R := Lib.hid hR
  have G := Lib.hid hG
  clear hR hG
  go_wp2
  go_ret2
  exact ⟨rfl, R.out, grown_alloc G.out⟩
set_option maxRecDepth 100000 in
set_option maxHeartbeats 1000000 in
theorem tell5 (W : Int) (g0 : (W == 0) = false) (g1 : (W == 1) = false) (g2 : (W == 2) = false) (g3 : (W == 3) = false) (g4 : (W == 4) = false) (b : Nat) (s : ByteArray) (a e N A B : Int) (n : ByteArray) (a' e' : Int) (w : World) (h : RdAt w b s a e) (hM : Meth 60 [.int .i64 A] s a e (.string n) a' e') :
    Calls Try.prog 40 #[.pointer (some ⟨b, 0, none⟩), .agg #[.int .u8 W, .int .u64 N, .int .i64 A, .int .i64 B]] w (AskRet w b s 0 n a' e') := by
  have H := Lib.hid h
  have M := Lib.hid hM
  clear h hM
  go_enter Try.func40, Try.ntmps40
  go_wp2_with fail
  refine (M.out _ b (H.out.alloc _)).mono ?_
  rintro e1 w1 ⟨rfl, hR, hG⟩
  have R := Lib.hid hR
  have G := Lib.hid hG
  clear hR hG
  go_wp2
  go_ret2
  exact ⟨rfl, R.out, grown_alloc G.out⟩
set_option maxRecDepth 100000 in
set_option maxHeartbeats 1000000 in
theorem qbyte_none (s : ByteArray) (a e a' e' : Int) (hM : Meth 59 [.int .i64 1] s a e (.string ⟨#[]⟩) a' e') : Meth 58 [] s a e (.int .u8 ((0 : Nat) : Int)) a' e' := by
  intro w b h
  have H := Lib.hid h
  have M := Lib.hid hM
  clear h hM
  show Calls Try.prog 58 #[.pointer (some ⟨b, 0, none⟩)] w _
  go_enter Try.func58, Try.ntmps58
  go_wp2_with fail
  refine (M.out _ b H.out).mono ?_
  rintro e1 w1 ⟨rfl, hR, hG⟩
  have R := Lib.hid hR
  have G := Lib.hid hG
  clear hR hG
  go_wp2
  go_ret
  exact ⟨rfl, R.out, G.out⟩
set_option maxRecDepth 100000 in
set_option maxHeartbeats 1000000 in
theorem qbyte_one (s t : ByteArray) (h0 : 0 < t.size) (a e a' e' : Int) (hM : Meth 59 [.int .i64 1] s a e (.string t) a' e') : Meth 58 [] s a e (.int .u8 ((t[0]'h0).toNat : Int)) a' e' := by
  intro w b h
  have H := Lib.hid h
  have M := Lib.hid hM
  clear h hM
  have hl : 0 < t.toList.length := by rw [toList_eq]; simpa using h0
  have hne1 : t.toList.isEmpty = false := by
    cases hh : t.toList with
    | nil => rw [hh] at hl; simp at hl
    | cons x r => rfl
  have hne2 : (t.toList == []) = false := by
    cases hh : t.toList with
    | nil => rw [hh] at hl; simp at hl
    | cons x r => rfl
  clear hl
  show Calls Try.prog 58 #[.pointer (some ⟨b, 0, none⟩)] w _
  go_enter Try.func58, Try.ntmps58
  go_wp2_with fail
  refine (M.out _ b H.out).mono ?_
  rintro e1 w1 ⟨rfl, hR, hG⟩
  have R := Lib.hid hR
  have G := Lib.hid hG
  clear hR hG
  go_wp2
  go_ret
  exact ⟨rfl, R.out, G.out⟩
set_option maxRecDepth 100000 in
set_option maxHeartbeats 400000 in
theorem qtext_err (b : Nat) (s : ByteArray) (a e z : Int) (z0 : -9223372036854775808 ≤ z) (z1 : z ≤ 9223372036854775807) (w : World) (h : RdAt w b s a e) (he : (e != 0) = true) :
    Calls Try.prog 60 #[.pointer (some ⟨b, 0, none⟩), .int .i64 z] w (RdRet w b s (.string ⟨#[]⟩) a e) := by
  have c1 := h.c1
  have H := Lib.hid h
  clear h
  have M := fun m => Lib.hid (qvarint_err b s a e m w H.out he)
  have M' := Lib.hid M
  clear M
  by_cases hz : 0 ≤ z
  · go_enter Try.func60, Try.ntmps60
    go_wp2_with (go_at_call 55; refine (M'.out _).out.mono ?_; rintro e1 w1 ⟨rfl, hR, hG⟩; have c2 := hR.c2; have R := Lib.hid hR; have G := Lib.hid hG; clear hR hG)
    go_ret
    exact ⟨rfl, R.out, G.out⟩
  · have hz' : z < 0 := by omega
    clear hz
    go_enter Try.func60, Try.ntmps60
    go_wp2_with (go_at_call 55; refine (M'.out _).out.mono ?_; rintro e1 w1 ⟨rfl, hR, hG⟩; have c2 := hR.c2; have R := Lib.hid hR; have G := Lib.hid hG; clear hR hG)
    go_ret
    exact ⟨rfl, R.out, G.out⟩
/-- Both methods, at one state of the reader. -/
def Both (f g : Nat) (args : List Value) (s : ByteArray) (a e : Int) (v : Value) (a' e' : Int) : Prop := Meth f args s a e v a' e' ∧ Meth g args s a e v a' e'
/-- Both varints of a place. -/
theorem uv_both (s : ByteArray) (a : Nat) (ha : a ≤ s.size) (hs : s.size ≤ 140737488351232) :
    (∃ N C : Nat, TellsU 14 #[.string s, .int .i64 a] N ((a + C : Nat) : Int) 0 ∧ TellsU 37 #[.string s, .int .i64 a] N ((a + C : Nat) : Int) 0 ∧ N ≤ 18446744073709551615 ∧ a + C ≤ s.size) ∨
    (∃ K : Nat, K ≠ 0 ∧ TellsU 14 #[.string s, .int .i64 a] 0 0 K ∧ TellsU 37 #[.string s, .int .i64 a] 0 0 K) := by
  have hf := Bt.rd_facts (s.data.toList.drop a) 0 0 (by omega) (by simp)
  rcases uv_cases s a ha hs with ⟨N, C, hr, hT, hN, _, hle⟩ | ⟨K, hr, hK, hT⟩
  · rw [hr] at hf
    exact .inl ⟨N, C, hT, fun w => ruvarint_ok s a w ha hs N C _ hr rfl (hf.2.1 rfl).2.1, hN, hle⟩
  · exact .inr ⟨K, hK, hT, fun w => ruvarint_no s a w ha hs K (by omega) hr⟩
theorem varint_both (s : ByteArray) (a : Nat) (ha : a ≤ s.size) (hs : s.size ≤ 140737488351232) (most : Nat) :
    ∃ n a' e' : Nat, Both 25 55 [.int .u64 most] s a 0 (.int .u64 n) a' e' ∧ a' ≤ s.size ∧ (e' ≠ 0 → n = 0 ∧ a' = a) ∧ (e' = 0 → n ≤ most) := by
  rcases uv_both s a ha hs with ⟨N, C, hT, hU, hN, hle⟩ | ⟨K, hK, hT, hU⟩
  · by_cases hm : N ≤ most
    · exact ⟨N, a + C, 0, ⟨fun w b h => mvarint_ok b s a most N _ w h (uto_ok s a most N _ hT (by omega)), fun w b h => qvarint_ok b s a most N _ w h (by omega) hU⟩, hle, fun h => absurd rfl h, fun _ => hm⟩
    · exact ⟨0, a, 40, ⟨fun w b h => mvarint_no b s a most 40 w h rfl (uto_big s a most N _ hT (by omega)), fun w b h => qvarint_big b s a most N _ w h (by omega) hU⟩, ha, fun _ => ⟨rfl, rfl⟩, fun h => by omega⟩
  · exact ⟨0, a, K, ⟨fun w b h => mvarint_no b s a most K w h (ne0 hK) (uto_no s a most K (eq0 hK) hT), fun w b h => qvarint_no b s a most K w h (ne0 hK) hU⟩, ha, fun _ => ⟨rfl, rfl⟩, fun h => absurd h hK⟩
theorem zag_both (s : ByteArray) (a : Nat) (ha : a ≤ s.size) (hs : s.size ≤ 140737488351232) (lo hi : Int) :
    ∃ (z : Int) (a' e' : Nat), Both 23 56 [.int .i64 lo, .int .i64 hi] s a 0 (.int .i64 z) a' e' ∧ a' ≤ s.size := by
  rcases uv_both s a ha hs with ⟨N, C, hT, hU, hN, hle⟩ | ⟨K, hK, hT, hU⟩
  · by_cases hl : Bt.zag N < lo
    · exact ⟨0, a, 40, ⟨fun w b h => mzag_no b s a lo hi 40 w h rfl (zto_big s a lo hi N _ (by omega) (by omega) hT (.inl hl)), fun w b h => qzag_low b s a lo hi N _ w h (by omega) (by omega) hl hU⟩, ha⟩
    · by_cases hh : hi < Bt.zag N
      · exact ⟨0, a, 40, ⟨fun w b h => mzag_no b s a lo hi 40 w h rfl (zto_big s a lo hi N _ (by omega) (by omega) hT (.inr hh)), fun w b h => qzag_high b s a lo hi N _ w h (by omega) (by omega) (by omega) hh hU⟩, ha⟩
      · exact ⟨Bt.zag N, a + C, 0, ⟨fun w b h => mzag_ok b s a lo hi _ _ w h (zto_ok s a lo hi N _ (by omega) (by omega) hT (by omega) (by omega)), fun w b h => qzag_ok b s a lo hi N _ w h (by omega) (by omega) (by omega) (by omega) hU⟩, hle⟩
  · exact ⟨0, a, K, ⟨fun w b h => mzag_no b s a lo hi K w h (ne0 hK) (zto_no s a lo hi K (ne0 hK) hT), fun w b h => qzag_no b s a lo hi K w h (ne0 hK) hU⟩, ha⟩
theorem fixed_both (s : ByteArray) (a : Nat) (ha : a ≤ s.size) (hs : s.size ≤ 140737488351232) (z : Int) :
    ∃ (n a' e' : Nat), Both 26 57 [.int .i64 z] s a 0 (.int .u64 n) a' e' ∧ a' ≤ s.size := by
  by_cases h4 : z = 4
  · subst h4
    by_cases hb : a + 4 ≤ s.size
    · exact ⟨_, a + 4, 0, ⟨fun w b h => mfixed_ok b s a 4 _ _ w h (fun w => fixed_ok4 s a w hb hs), fun w b h => qfixed_ok b s a 4 _ _ w h (fun w => rfixed_ok4 s a w hb hs)⟩, hb⟩
    · exact ⟨0, a, 8, ⟨fun w b h => mfixed_no b s a 4 8 w h rfl (fun w => fixed_short4 s a w ha (by omega)), fun w b h => qfixed_no b s a 4 8 w h rfl (fun w => rfixed_short4 s a w ha (by omega))⟩, ha⟩
  · by_cases h8 : z = 8
    · subst h8
      by_cases hb : a + 8 ≤ s.size
      · exact ⟨_, a + 8, 0, ⟨fun w b h => mfixed_ok b s a 8 _ _ w h (fun w => fixed_ok8 s a w hb hs), fun w b h => qfixed_ok b s a 8 _ _ w h (fun w => rfixed_ok8 s a w hb hs)⟩, hb⟩
      · exact ⟨0, a, 8, ⟨fun w b h => mfixed_no b s a 8 8 w h rfl (fun w => fixed_short8 s a w ha (by omega)), fun w b h => qfixed_no b s a 8 8 w h rfl (fun w => rfixed_short8 s a w ha (by omega))⟩, ha⟩
    · have g4 : (z == 4) = false := beq_eq_false_iff_ne.2 h4
      have g8 : (z == 8) = false := beq_eq_false_iff_ne.2 h8
      exact ⟨0, a, 1, ⟨fun w b h => mfixed_no b s a z 1 w h rfl (fun w => fixed_no s a z w g4 g8), fun w b h => qfixed_no b s a z 1 w h rfl (fun w => rfixed_no s a z w g4 g8)⟩, ha⟩
theorem raw_both (s : ByteArray) (a : Nat) (ha : a ≤ s.size) (hs : s.size ≤ 140737488351232) (z : Int) :
    ∃ (t : ByteArray) (a' e' : Nat), Both 24 59 [.int .i64 z] s a 0 (.string t) a' e' ∧ a' ≤ s.size := by
  by_cases h0 : z < 0
  · exact ⟨⟨#[]⟩, a, 1, ⟨fun w b h => mraw_no b s a z 1 w h rfl (raw_arg s a z h0), fun w b h => qraw_arg b s a z w h h0⟩, ha⟩
  · by_cases h1 : (s.size : Int) - a < z
    · exact ⟨⟨#[]⟩, a, 8, ⟨fun w b h => mraw_no b s a z 8 w h rfl (raw_short s a z (by omega) ha h1 hs), fun w b h => qraw_short b s a z w h (by omega) ha h1 hs⟩, ha⟩
    · obtain ⟨m, rfl⟩ := Int.eq_ofNat_of_zero_le (a := z) (by omega)
      exact ⟨_, a + m, 0, ⟨fun w b h => mraw_ok b s a m _ _ w h (raw_ok s a m (by omega) hs), fun w b h => qraw_ok b s a m w h (by omega) hs⟩, by omega⟩
theorem text_both (s : ByteArray) (a : Nat) (ha : a ≤ s.size) (hs : s.size ≤ 140737488351232) (z : Int) (z0 : -9223372036854775808 ≤ z) (z1 : z ≤ 9223372036854775807) :
    ∃ (t : ByteArray) (a' e' : Nat), Both 17 60 [.int .i64 z] s a 0 (.string t) a' e' ∧ a' ≤ s.size := by
  have htop : 0 ≤ top z := by unfold top; split <;> omega
  have htop2 : top z ≤ 9223372036854775807 := by unfold top; split <;> omega
  obtain ⟨m, hm⟩ := Int.eq_ofNat_of_zero_le htop
  rcases uv_both s a ha hs with ⟨N, C, hT, hU, hN, hle⟩ | ⟨K, hK, hT, hU⟩
  · by_cases hN2 : (N : Int) ≤ top z
    · have hu := uto_ok s a (top z) N _ hT hN2
      have hq : Meth 55 [.int .u64 (top z)] s a 0 (.int .u64 N) ((a + C : Nat) : Int) 0 := fun w b h => qvarint_ok b s a (top z) N _ w h hN2 hU
      by_cases hr : a + C + N ≤ s.size
      · exact ⟨_, a + C + N, 0, ⟨fun w b h => mtext_ok b s a z _ _ w h (tto_then s a z N _ _ _ 0 z0 z1 (by omega) (by omega) hu (raw_ok s (a + C) N hr hs)), fun w b h => qtext_ok b s a z N (a + C) z0 z1 w h hr hs hq⟩, hr⟩
      · exact ⟨⟨#[]⟩, a, 8, ⟨fun w b h => mtext_no b s a z 8 w h rfl (tto_then s a z N _ _ _ 8 z0 z1 (by omega) (by omega) hu (raw_short s (a + C) N (by omega) hle (by omega) hs)), fun w b h => qtext_short b s a z N (a + C) z0 z1 w h hle (by omega) (by omega) hs hq⟩, ha⟩
    · have hq : Meth 55 [.int .u64 (top z)] s a 0 (.int .u64 0) a 40 := fun w b h => qvarint_big b s a (top z) N _ w h (by omega) hU
      exact ⟨⟨#[]⟩, a, 40, ⟨fun w b h => mtext_no b s a z 40 w h rfl (tto_no s a z 40 z0 z1 rfl (uto_big s a (top z) N _ hT (by omega))), fun w b h => qtext_no b s a z 40 z0 z1 w h rfl hq⟩, ha⟩
  · have hq : Meth 55 [.int .u64 (top z)] s a 0 (.int .u64 0) a K := fun w b h => qvarint_no b s a (top z) K w h (ne0 hK) hU
    exact ⟨⟨#[]⟩, a, K, ⟨fun w b h => mtext_no b s a z K w h (ne0 hK) (tto_no s a z K z0 z1 (ne0 hK) (uto_no s a (top z) K (eq0 hK) hT)), fun w b h => qtext_no b s a z K z0 z1 w h (ne0 hK) hq⟩, ha⟩
theorem byte_both (s : ByteArray) (a : Nat) (ha : a ≤ s.size) (hs : s.size ≤ 140737488351232) :
    ∃ (n a' e' : Nat), n ≤ 255 ∧ Both 20 58 [] s a 0 (.int .u8 n) a' e' ∧ a' ≤ s.size := by
  obtain ⟨t, a', e', ⟨hM, hQ⟩, hx⟩ := raw_both s a ha hs 1
  by_cases h0 : 0 < t.size
  · have hb := (t[0]'h0).toNat_lt
    exact ⟨(t[0]'h0).toNat, a', e', by omega, ⟨mbyte_one s t h0 a 0 a' e' hM, qbyte_one s t h0 a 0 a' e' hQ⟩, hx⟩
  · have ht : t = ⟨#[]⟩ := by
      cases t with
      | mk d =>
        have : d.size = 0 := by simpa [ByteArray.size] using h0
        rw [Array.eq_empty_of_size_eq_zero this]
    subst ht
    exact ⟨0, a', e', by omega, ⟨mbyte_none s a 0 a' e' hM, qbyte_none s a 0 a' e' hQ⟩, hx⟩
theorem both_spec (s : ByteArray) (a e : Nat) (ha : a ≤ s.size) (hs : s.size ≤ 3000) (W N A B : Int) (n0 : 0 ≤ N) (A0 : -9223372036854775808 ≤ A) (A1 : A ≤ 9223372036854775807) :
    ∃ (n : Int) (t : ByteArray) (a' e' : Nat), AskAt 39 s a e W N A B n t a' e' ∧ AskAt 40 s a e W N A B n t a' e' ∧ a' ≤ s.size := by
  obtain ⟨M, rfl⟩ := Int.eq_ofNat_of_zero_le n0
  by_cases he : e = 0
  · subst he
    by_cases h0 : W = 0
    · subst h0
      obtain ⟨n, a', e', ⟨hM, hQ⟩, hx, _⟩ := varint_both s a ha (by omega) M
      exact ⟨n, ⟨#[]⟩, a', e', fun w b h => ask0 b s a 0 M A B n a' e' w h hM, fun w b h => tell0 b s a 0 M A B n a' e' w h hQ, hx⟩
    · by_cases h1 : W = 1
      · subst h1
        obtain ⟨z, a', e', ⟨hM, hQ⟩, hx⟩ := zag_both s a ha (by omega) A B
        exact ⟨_, ⟨#[]⟩, a', e', fun w b h => ask1 b s a 0 M A B z a' e' w h hM, fun w b h => tell1 b s a 0 M A B z a' e' w h hQ, hx⟩
      · by_cases h2 : W = 2
        · subst h2
          obtain ⟨n, a', e', ⟨hM, hQ⟩, hx⟩ := fixed_both s a ha (by omega) A
          exact ⟨n, ⟨#[]⟩, a', e', fun w b h => ask2 b s a 0 M A B n a' e' w h hM, fun w b h => tell2 b s a 0 M A B n a' e' w h hQ, hx⟩
        · by_cases h3 : W = 3
          · subst h3
            obtain ⟨n, a', e', hn, ⟨hM, hQ⟩, hx⟩ := byte_both s a ha (by omega)
            exact ⟨n, ⟨#[]⟩, a', e', fun w b h => ask3 b s a 0 M A B n hn a' e' w h hM, fun w b h => tell3 b s a 0 M A B n hn a' e' w h hQ, hx⟩
          · by_cases h4 : W = 4
            · subst h4
              obtain ⟨t, a', e', ⟨hM, hQ⟩, hx⟩ := raw_both s a ha (by omega) A
              exact ⟨0, t, a', e', fun w b h => ask4 b s a 0 M A B t a' e' w h hM, fun w b h => tell4 b s a 0 M A B t a' e' w h hQ, hx⟩
            · obtain ⟨t, a', e', ⟨hM, hQ⟩, hx⟩ := text_both s a ha (by omega) A A0 A1
              exact ⟨0, t, a', e', fun w b h => ask5 W (beq_eq_false_iff_ne.2 h0) (beq_eq_false_iff_ne.2 h1) (beq_eq_false_iff_ne.2 h2) (beq_eq_false_iff_ne.2 h3) (beq_eq_false_iff_ne.2 h4) b s a 0 M A B t a' e' w h hM, fun w b h => tell5 W (beq_eq_false_iff_ne.2 h0) (beq_eq_false_iff_ne.2 h1) (beq_eq_false_iff_ne.2 h2) (beq_eq_false_iff_ne.2 h3) (beq_eq_false_iff_ne.2 h4) b s a 0 M A B t a' e' w h hQ, hx⟩
  · refine ⟨0, ⟨#[]⟩, a, e, ?_, ?_, ha⟩
    · by_cases h0 : W = 0
      · subst h0
        exact fun w b h => ask0 b s a e M A B 0 a e w h (fun w b h => mvarint_err b s a e M w h (ne0 he))
      · by_cases h1 : W = 1
        · subst h1
          exact fun w b h => ask1 b s a e M A B 0 a e w h (fun w b h => mzag_err b s a e A B w h (ne0 he))
        · by_cases h2 : W = 2
          · subst h2
            exact fun w b h => ask2 b s a e M A B 0 a e w h (fun w b h => mfixed_err b s a e A w h (ne0 he))
          · by_cases h3 : W = 3
            · subst h3
              exact fun w b h => ask3 b s a e M A B 0 (by omega) a e w h (byte_err s a e he)
            · by_cases h4 : W = 4
              · subst h4
                exact fun w b h => ask4 b s a e M A B ⟨#[]⟩ a e w h (fun w b h => mraw_err b s a e A w h (ne0 he))
              · exact fun w b h => ask5 W (beq_eq_false_iff_ne.2 h0) (beq_eq_false_iff_ne.2 h1) (beq_eq_false_iff_ne.2 h2) (beq_eq_false_iff_ne.2 h3) (beq_eq_false_iff_ne.2 h4) b s a e M A B ⟨#[]⟩ a e w h (fun w b h => mtext_err b s a e A w h (ne0 he))
    · by_cases h0 : W = 0
      · subst h0
        exact fun w b h => tell0 b s a e M A B 0 a e w h (fun w b h => qvarint_err b s a e M w h (ne0 he))
      · by_cases h1 : W = 1
        · subst h1
          exact fun w b h => tell1 b s a e M A B 0 a e w h (fun w b h => qzag_err b s a e A B w h (ne0 he))
        · by_cases h2 : W = 2
          · subst h2
            exact fun w b h => tell2 b s a e M A B 0 a e w h (fun w b h => qfixed_err b s a e A w h (ne0 he))
          · by_cases h3 : W = 3
            · subst h3
              exact fun w b h => tell3 b s a e M A B 0 (by omega) a e w h (qbyte_none s a e a e (fun w b h => qraw_err b s a e 1 w h (ne0 he)))
            · by_cases h4 : W = 4
              · subst h4
                exact fun w b h => tell4 b s a e M A B ⟨#[]⟩ a e w h (fun w b h => qraw_err b s a e A w h (ne0 he))
              · exact fun w b h => tell5 W (beq_eq_false_iff_ne.2 h0) (beq_eq_false_iff_ne.2 h1) (beq_eq_false_iff_ne.2 h2) (beq_eq_false_iff_ne.2 h3) (beq_eq_false_iff_ne.2 h4) b s a e M A B ⟨#[]⟩ a e w h (fun w b h => qtext_err b s a e A A0 A1 w h (ne0 he))
end Go.Proofs.Ytnoejddhdgmkcaa
