/- The contract of 'ask': whatever is asked of a reader, over the seat's own program. -/
import Derived.Test.YtnoejddhdgmkcaaRd
import Derived.Test.YtnoejddhdgmkcaaSu
namespace Go.Proofs.Ytnoejddhdgmkcaa
open Go.RowKit
theorem RdAt.alloc {w : World} {b : Nat} {s : ByteArray} {a e : Int} (h : RdAt w b s a e) (o : Obj) : RdAt (w.alloc o) b s a e := h.congr (Below.heap_alloc w o b h.lt)
/-- What 'ask' leaves. -/
def AskRet (w : World) (b : Nat) (s : ByteArray) (n : Int) (t : ByteArray) (a e : Int) (en : Ending) (w' : World) : Prop :=
  en = .returned (.tuple #[.int .u64 n, .string t]) ∧ RdAt w' b s a e ∧ w.grownBy w' (some b)
theorem grown_alloc {w w' : World} {b : Nat} {o : Obj} (h : (w.alloc o).grownBy w' (some b)) : w.grownBy w' (some b) :=
  ⟨h.os, h.tape, h.output, Nat.le_trans (by simp) h.size, fun k hk hne => (h.block k (by simp; omega) hne).trans (Below.heap_alloc w o k hk)⟩
/-- A method's contract at one state of the reader. -/
def Meth (f : Nat) (args : List Value) (s : ByteArray) (a e : Int) (v : Value) (a' e' : Int) : Prop :=
  ∀ (w : World) (b : Nat), RdAt w b s a e → Calls Try.prog f (.pointer (some ⟨b, 0, none⟩) :: args).toArray w (RdRet w b s v a' e')
set_option maxRecDepth 100000 in
set_option maxHeartbeats 1000000 in
theorem ask0 (b : Nat) (s : ByteArray) (a e N A B : Int) (n : Int) (a' e' : Int) (w : World) (h : RdAt w b s a e) (hM : Meth 25 [.int .u64 N] s a e (.int .u64 n) a' e') :
    Calls Try.prog 39 #[.pointer (some ⟨b, 0, none⟩), .agg #[.int .u8 0, .int .u64 N, .int .i64 A, .int .i64 B]] w (AskRet w b s n ⟨#[]⟩ a' e') := by
  have H := Lib.hid h
  have M := Lib.hid hM
  clear h hM
  go_enter Try.func39, Try.ntmps39
  go_wp2_with fail
  refine (M.out _ b (H.out.alloc _)).mono ?_
  rintro e1 w1 ⟨rfl, hR, hG⟩
  have R := Lib.hid hR
  have G := Lib.hid hG
  clear hR hG
  go_wp2
  go_ret2
  exact ⟨rfl, R.out, grown_alloc G.out⟩
set_option maxRecDepth 100000 in
set_option maxHeartbeats 1000000 in
theorem ask1 (b : Nat) (s : ByteArray) (a e N A B : Int) (n : Int) (a' e' : Int) (w : World) (h : RdAt w b s a e) (hM : Meth 23 [.int .i64 A, .int .i64 B] s a e (.int .i64 n) a' e') :
    Calls Try.prog 39 #[.pointer (some ⟨b, 0, none⟩), .agg #[.int .u8 1, .int .u64 N, .int .i64 A, .int .i64 B]] w (AskRet w b s (IntKind.u64.wrap n) ⟨#[]⟩ a' e') := by
  have H := Lib.hid h
  have M := Lib.hid hM
  clear h hM
  go_enter Try.func39, Try.ntmps39
  go_wp2_with fail
  refine (M.out _ b (H.out.alloc _)).mono ?_
  rintro e1 w1 ⟨rfl, hR, hG⟩
  have R := Lib.hid hR
  have G := Lib.hid hG
  clear hR hG
  go_wp2
  go_ret2
  exact ⟨rfl, R.out, grown_alloc G.out⟩
set_option maxRecDepth 100000 in
set_option maxHeartbeats 1000000 in
theorem ask2 (b : Nat) (s : ByteArray) (a e N A B : Int) (n : Int) (a' e' : Int) (w : World) (h : RdAt w b s a e) (hM : Meth 26 [.int .i64 A] s a e (.int .u64 n) a' e') :
    Calls Try.prog 39 #[.pointer (some ⟨b, 0, none⟩), .agg #[.int .u8 2, .int .u64 N, .int .i64 A, .int .i64 B]] w (AskRet w b s n ⟨#[]⟩ a' e') := by
  have H := Lib.hid h
  have M := Lib.hid hM
  clear h hM
  go_enter Try.func39, Try.ntmps39
  go_wp2_with fail
  refine (M.out _ b (H.out.alloc _)).mono ?_
  rintro e1 w1 ⟨rfl, hR, hG⟩
  have R := Lib.hid hR
  have G := Lib.hid hG
  clear hR hG
  go_wp2
  go_ret2
  exact ⟨rfl, R.out, grown_alloc G.out⟩
set_option maxRecDepth 100000 in
set_option maxHeartbeats 1000000 in
theorem ask3 (b : Nat) (s : ByteArray) (a e N A B : Int) (n : Nat) (hn : n ≤ 255) (a' e' : Int) (w : World) (h : RdAt w b s a e) (hM : Meth 20 [] s a e (.int .u8 n) a' e') :
    Calls Try.prog 39 #[.pointer (some ⟨b, 0, none⟩), .agg #[.int .u8 3, .int .u64 N, .int .i64 A, .int .i64 B]] w (AskRet w b s n ⟨#[]⟩ a' e') := by
  have H := Lib.hid h
  have M := Lib.hid hM
  clear h hM
  go_enter Try.func39, Try.ntmps39
  go_wp2_with fail
  refine (M.out _ b (H.out.alloc _)).mono ?_
  rintro e1 w1 ⟨rfl, hR, hG⟩
  have R := Lib.hid hR
  have G := Lib.hid hG
  clear hR hG
  go_wp2
  go_ret2
  exact ⟨rfl, R.out, grown_alloc G.out⟩
set_option maxRecDepth 100000 in
set_option maxHeartbeats 1000000 in
theorem ask4 (b : Nat) (s : ByteArray) (a e N A B : Int) (n : ByteArray) (a' e' : Int) (w : World) (h : RdAt w b s a e) (hM : Meth 24 [.int .i64 A] s a e (.string n) a' e') :
    Calls Try.prog 39 #[.pointer (some ⟨b, 0, none⟩), .agg #[.int .u8 4, .int .u64 N, .int .i64 A, .int .i64 B]] w (AskRet w b s 0 n a' e') := by
  have H := Lib.hid h
  have M := Lib.hid hM
  clear h hM
  go_enter Try.func39, Try.ntmps39
  go_wp2_with fail
  refine (M.out _ b (H.out.alloc _)).mono ?_
  rintro e1 w1 ⟨rfl, hR, hG⟩
  have R := Lib.hid hR
  have G := Lib.hid hG
  clear hR hG
  go_wp2
  go_ret2
  exact ⟨rfl, R.out, grown_alloc G.out⟩
set_option maxRecDepth 100000 in
set_option maxHeartbeats 1000000 in
theorem ask5 (W : Int) (g0 : (W == 0) = false) (g1 : (W == 1) = false) (g2 : (W == 2) = false) (g3 : (W == 3) = false) (g4 : (W == 4) = false) (b : Nat) (s : ByteArray) (a e N A B : Int) (n : ByteArray) (a' e' : Int) (w : World) (h : RdAt w b s a e) (hM : Meth 17 [.int .i64 A] s a e (.string n) a' e') :
    Calls Try.prog 39 #[.pointer (some ⟨b, 0, none⟩), .agg #[.int .u8 W, .int .u64 N, .int .i64 A, .int .i64 B]] w (AskRet w b s 0 n a' e') := by
  have H := Lib.hid h
  have M := Lib.hid hM
  clear h hM
  go_enter Try.func39, Try.ntmps39
  go_wp2_with fail
  refine (M.out _ b (H.out.alloc _)).mono ?_
  rintro e1 w1 ⟨rfl, hR, hG⟩
  have R := Lib.hid hR
  have G := Lib.hid hG
  clear hR hG
  go_wp2
  go_ret2
  exact ⟨rfl, R.out, grown_alloc G.out⟩
set_option maxRecDepth 100000 in
set_option maxHeartbeats 1000000 in
theorem mbyte_none (s : ByteArray) (a e a' e' : Int) (hM : Meth 24 [.int .i64 1] s a e (.string ⟨#[]⟩) a' e') : Meth 20 [] s a e (.int .u8 ((0 : Nat) : Int)) a' e' := by
  intro w b h
  have H := Lib.hid h
  have M := Lib.hid hM
  clear h hM
  show Calls Try.prog 20 #[.pointer (some ⟨b, 0, none⟩)] w _
  go_enter Try.func20, Try.ntmps20
  go_wp2_with fail
  refine (M.out _ b H.out).mono ?_
  rintro e1 w1 ⟨rfl, hR, hG⟩
  have R := Lib.hid hR
  have G := Lib.hid hG
  clear hR hG
  go_wp2
  go_ret
  exact ⟨rfl, R.out, G.out⟩
set_option maxRecDepth 100000 in
set_option maxHeartbeats 1000000 in
theorem mbyte_one (s t : ByteArray) (h0 : 0 < t.size) (a e a' e' : Int) (hM : Meth 24 [.int .i64 1] s a e (.string t) a' e') : Meth 20 [] s a e (.int .u8 ((t[0]'h0).toNat : Int)) a' e' := by
  intro w b h
  have H := Lib.hid h
  have M := Lib.hid hM
  clear h hM
  have hl : 0 < t.toList.length := by rw [toList_eq]; simpa using h0
  have hne1 : t.toList.isEmpty = false := by
    cases hh : t.toList with
    | nil => rw [hh] at hl; simp at hl
    | cons x r => rfl
  have hne2 : (t.toList == []) = false := by
    cases hh : t.toList with
    | nil => rw [hh] at hl; simp at hl
    | cons x r => rfl
  clear hl
  show Calls Try.prog 20 #[.pointer (some ⟨b, 0, none⟩)] w _
  go_enter Try.func20, Try.ntmps20
  go_wp2_with fail
  refine (M.out _ b H.out).mono ?_
  rintro e1 w1 ⟨rfl, hR, hG⟩
  have R := Lib.hid hR
  have G := Lib.hid hG
  clear hR hG
  go_wp2
  go_ret
  exact ⟨rfl, R.out, G.out⟩
/-- What a varint's place tells: a number, or an error. -/
theorem uv_cases (s : ByteArray) (a : Nat) (ha : a ≤ s.size) (hs : s.size ≤ 140737488351232) :
    (∃ N C : Nat, Bt.rd (s.data.toList.drop a) 0 0 = (N, C, 0) ∧ TellsU 14 #[.string s, .int .i64 a] N ((a + C : Nat) : Int) 0 ∧ N ≤ 18446744073709551615 ∧ 1 ≤ C ∧ a + C ≤ s.size) ∨
    (∃ K : Nat, Bt.rd (s.data.toList.drop a) 0 0 = (0, 0, K) ∧ K ≠ 0 ∧ TellsU 14 #[.string s, .int .i64 a] 0 0 K) := by
  have hf := Bt.rd_facts (s.data.toList.drop a) 0 0 (by omega) (by simp)
  have hl : (s.data.toList.drop a).length = s.size - a := by simp
  rcases hr : Bt.rd (s.data.toList.drop a) 0 0 with ⟨N, C, K⟩
  rw [hr] at hf
  simp only at hf
  by_cases hK : K = 0
  · subst hK
    have h2 := hf.2.1 rfl
    exact .inl ⟨N, C, rfl, fun w => uvarint_ok s a w ha hs N C _ hr rfl, by omega, by omega, by omega⟩
  · have hz : N = 0 ∧ C = 0 := by
      rcases hf.2.2 with h | h | h
      · exact absurd h hK
      · simp at h; omega
      · simp at h; omega
    obtain ⟨rfl, rfl⟩ := hz
    exact .inr ⟨K, rfl, hK, fun w => uvarint_no s a w ha hs K hK hr⟩
theorem ne0 {k : Nat} (h : k ≠ 0) : ((k : Int) != 0) = true := by rw [bne_iff_ne]; omega
theorem eq0 {k : Nat} (h : k ≠ 0) : ((k : Int) == 0) = false := by rw [beq_eq_false_iff_ne]; omega
/-- One method, at a reader without an error: what it tells, and how it stands then: on, or where it stood, with an error, and nothing told. -/
def Goes (a : Nat) (s : ByteArray) (zero v : Value) (a' e' : Nat) : Prop := (e' = 0 ∧ a ≤ a' ∧ a' ≤ s.size) ∨ (e' ≠ 0 ∧ a' = a ∧ v = zero)
theorem varint_goes (s : ByteArray) (a : Nat) (ha : a ≤ s.size) (hs : s.size ≤ 140737488351232) (most : Nat) :
    ∃ n a' e' : Nat, Meth 25 [.int .u64 most] s a 0 (.int .u64 n) a' e' ∧ Goes a s (.int .u64 0) (.int .u64 n) a' e' := by
  rcases uv_cases s a ha hs with ⟨N, C, _, hT, hN, hC, hle⟩ | ⟨K, _, hK, hT⟩
  · by_cases hm : N ≤ most
    · exact ⟨N, a + C, 0, fun w b h => mvarint_ok b s a most N _ w h (uto_ok s a most N _ hT (by omega)), .inl ⟨rfl, by omega, hle⟩⟩
    · exact ⟨0, a, 40, fun w b h => mvarint_no b s a most 40 w h rfl (uto_big s a most N _ hT (by omega)), .inr ⟨by omega, rfl, rfl⟩⟩
  · exact ⟨0, a, K, fun w b h => mvarint_no b s a most K w h (ne0 hK) (uto_no s a most K (eq0 hK) hT), .inr ⟨hK, rfl, rfl⟩⟩
theorem zag_goes (s : ByteArray) (a : Nat) (ha : a ≤ s.size) (hs : s.size ≤ 140737488351232) (lo hi : Int) :
    ∃ (z : Int) (a' e' : Nat), Meth 23 [.int .i64 lo, .int .i64 hi] s a 0 (.int .i64 z) a' e' ∧ Goes a s (.int .i64 0) (.int .i64 z) a' e' := by
  rcases uv_cases s a ha hs with ⟨N, C, _, hT, hN, hC, hle⟩ | ⟨K, _, hK, hT⟩
  · by_cases hm : lo ≤ Bt.zag N ∧ Bt.zag N ≤ hi
    · exact ⟨Bt.zag N, a + C, 0, fun w b h => mzag_ok b s a lo hi _ _ w h (zto_ok s a lo hi N _ (by omega) (by omega) hT hm.1 hm.2), .inl ⟨rfl, by omega, hle⟩⟩
    · exact ⟨0, a, 40, fun w b h => mzag_no b s a lo hi 40 w h rfl (zto_big s a lo hi N _ (by omega) (by omega) hT (by omega)), .inr ⟨by omega, rfl, rfl⟩⟩
  · exact ⟨0, a, K, fun w b h => mzag_no b s a lo hi K w h (ne0 hK) (zto_no s a lo hi K (ne0 hK) hT), .inr ⟨hK, rfl, rfl⟩⟩
theorem fixed_goes (s : ByteArray) (a : Nat) (ha : a ≤ s.size) (hs : s.size ≤ 140737488351232) (z : Int) :
    ∃ (n a' e' : Nat), Meth 26 [.int .i64 z] s a 0 (.int .u64 n) a' e' ∧ Goes a s (.int .u64 0) (.int .u64 n) a' e' := by
  by_cases h4 : z = 4
  · subst h4
    by_cases hb : a + 4 ≤ s.size
    · exact ⟨_, a + 4, 0, fun w b h => mfixed_ok b s a 4 _ _ w h (fun w => fixed_ok4 s a w hb hs), .inl ⟨rfl, by omega, hb⟩⟩
    · exact ⟨0, a, 8, fun w b h => mfixed_no b s a 4 8 w h rfl (fun w => fixed_short4 s a w ha (by omega)), .inr ⟨by omega, rfl, rfl⟩⟩
  · by_cases h8 : z = 8
    · subst h8
      by_cases hb : a + 8 ≤ s.size
      · exact ⟨_, a + 8, 0, fun w b h => mfixed_ok b s a 8 _ _ w h (fun w => fixed_ok8 s a w hb hs), .inl ⟨rfl, by omega, hb⟩⟩
      · exact ⟨0, a, 8, fun w b h => mfixed_no b s a 8 8 w h rfl (fun w => fixed_short8 s a w ha (by omega)), .inr ⟨by omega, rfl, rfl⟩⟩
    · exact ⟨0, a, 1, fun w b h => mfixed_no b s a z 1 w h rfl (fun w => fixed_no s a z w (by rw [beq_eq_false_iff_ne]; exact h4) (by rw [beq_eq_false_iff_ne]; exact h8)), .inr ⟨by omega, rfl, rfl⟩⟩
theorem raw_goes (s : ByteArray) (a : Nat) (ha : a ≤ s.size) (hs : s.size ≤ 140737488351232) (z : Int) :
    ∃ (t : ByteArray) (a' e' : Nat), Meth 24 [.int .i64 z] s a 0 (.string t) a' e' ∧ Goes a s (.string ⟨#[]⟩) (.string t) a' e' ∧ (e' = 0 → t = s.extract a a' ∧ (a' : Int) = a + z) := by
  by_cases h0 : z < 0
  · exact ⟨⟨#[]⟩, a, 1, fun w b h => mraw_no b s a z 1 w h rfl (raw_arg s a z h0), .inr ⟨by omega, rfl, rfl⟩, fun h => by omega⟩
  · by_cases h1 : (s.size : Int) - a < z
    · exact ⟨⟨#[]⟩, a, 8, fun w b h => mraw_no b s a z 8 w h rfl (raw_short s a z (by omega) ha h1 hs), .inr ⟨by omega, rfl, rfl⟩, fun h => by omega⟩
    · obtain ⟨m, rfl⟩ := Int.eq_ofNat_of_zero_le (a := z) (by omega)
      exact ⟨_, a + m, 0, fun w b h => mraw_ok b s a m _ _ w h (raw_ok s a m (by omega) hs), .inl ⟨rfl, by omega, by omega⟩, fun _ => ⟨rfl, by omega⟩⟩
theorem text_goes (s : ByteArray) (a : Nat) (ha : a ≤ s.size) (hs : s.size ≤ 140737488351232) (z : Int) (z0 : -9223372036854775808 ≤ z) (z1 : z ≤ 9223372036854775807) :
    ∃ (t : ByteArray) (a' e' : Nat), Meth 17 [.int .i64 z] s a 0 (.string t) a' e' ∧ Goes a s (.string ⟨#[]⟩) (.string t) a' e' := by
  rcases uv_cases s a ha hs with ⟨N, C, _, hT, hN, hC, hle⟩ | ⟨K, _, hK, hT⟩
  · by_cases hm : (N : Int) ≤ top z
    · have hn : (N : Int) ≤ 9223372036854775807 := by unfold top at hm; split at hm <;> omega
      have hu := uto_ok s a (top z) N _ hT hm
      by_cases hr : a + C + N ≤ s.size
      · exact ⟨_, a + C + N, 0, fun w b h => mtext_ok b s a z _ _ w h (tto_then s a z N _ _ _ 0 z0 z1 (by omega) hn hu (raw_ok s (a + C) N hr hs)), .inl ⟨rfl, by omega, hr⟩⟩
      · exact ⟨⟨#[]⟩, a, 8, fun w b h => mtext_no b s a z 8 w h rfl (tto_then s a z N _ _ _ 8 z0 z1 (by omega) hn hu (raw_short s (a + C) N (by omega) hle (by omega) hs)), .inr ⟨by omega, rfl, rfl⟩⟩
    · exact ⟨⟨#[]⟩, a, 40, fun w b h => mtext_no b s a z 40 w h rfl (tto_no s a z 40 z0 z1 rfl (uto_big s a (top z) N _ hT (by omega))), .inr ⟨by omega, rfl, rfl⟩⟩
  · exact ⟨⟨#[]⟩, a, K, fun w b h => mtext_no b s a z K w h (ne0 hK) (tto_no s a z K z0 z1 (ne0 hK) (uto_no s a (top z) K (eq0 hK) hT)), .inr ⟨hK, rfl, rfl⟩⟩

theorem byte_goes (s : ByteArray) (a : Nat) (ha : a ≤ s.size) (hs : s.size ≤ 140737488351232) :
    ∃ (n a' e' : Nat), n ≤ 255 ∧ Meth 20 [] s a 0 (.int .u8 n) a' e' ∧ Goes a s (.int .u8 0) (.int .u8 n) a' e' := by
  obtain ⟨t, a', e', hM, hG, hx⟩ := raw_goes s a ha hs 1
  by_cases h0 : 0 < t.size
  · have hb := (t[0]'h0).toNat_lt
    refine ⟨(t[0]'h0).toNat, a', e', by omega, mbyte_one s t h0 a 0 a' e' hM, ?_⟩
    rcases hG with h | ⟨h1, h2, h3⟩
    · exact .inl h
    · cases h3; exact absurd h0 (by decide)
  · have ht : t = ⟨#[]⟩ := by
      cases t with
      | mk d =>
        have : d.size = 0 := by simpa [ByteArray.size] using h0
        rw [Array.eq_empty_of_size_eq_zero this]
    subst ht
    refine ⟨0, a', e', by omega, mbyte_none s a 0 a' e' hM, ?_⟩
    rcases hG with h | ⟨h1, h2, _⟩
    · exact .inl h
    · exact .inr ⟨h1, h2, rfl⟩
theorem byte_err (s : ByteArray) (a e : Nat) (he : e ≠ 0) : Meth 20 [] s a e (.int .u8 ((0 : Nat) : Int)) a e :=
  mbyte_none s a e a e (fun w b h => mraw_err b s a e 1 w h (ne0 he))
/-- What is asked: the struct of the call. -/
def askV (W N A B : Int) : Value := .agg #[.int .u8 W, .int .u64 N, .int .i64 A, .int .i64 B]
def AskAt (f : Nat) (s : ByteArray) (a e W N A B : Int) (n : Int) (t : ByteArray) (a' e' : Int) : Prop :=
  ∀ (w : World) (b : Nat), RdAt w b s a e → Calls Try.prog f #[.pointer (some ⟨b, 0, none⟩), askV W N A B] w (AskRet w b s n t a' e')
/-- Whatever is asked: what is told, how the reader stands then. -/
def Told (s : ByteArray) (W A : Int) (a e : Nat) (n : Int) (t : ByteArray) (a' e' : Nat) : Prop :=
  (e ≠ 0 ∧ n = 0 ∧ t = ⟨#[]⟩ ∧ a' = a ∧ e' = e) ∨ (e = 0 ∧ e' ≠ 0 ∧ n = 0 ∧ t = ⟨#[]⟩ ∧ a' = a) ∨ (e = 0 ∧ e' = 0 ∧ a ≤ a' ∧ a' ≤ s.size ∧ (W = 4 → t = s.extract a a' ∧ (a' : Int) = a + A))
theorem told_of {s : ByteArray} {W A : Int} {a : Nat} {n : Int} {t : ByteArray} {a' e' : Nat} {zero v : Value} (hG : Goes a s zero v a' e') (hz : v = zero → n = 0 ∧ t = ⟨#[]⟩) (h4 : e' = 0 → W = 4 → t = s.extract a a' ∧ (a' : Int) = a + A) : Told s W A a 0 n t a' e' := by
  rcases hG with ⟨h1, h2, h3⟩ | ⟨h1, h2, h3⟩
  · exact .inr (.inr ⟨rfl, h1, h2, h3, h4 h1⟩)
  · obtain ⟨g1, g2⟩ := hz h3
    exact .inr (.inl ⟨rfl, h1, g1, g2, h2⟩)
theorem ask_spec (s : ByteArray) (a e : Nat) (ha : a ≤ s.size) (hs : s.size ≤ 3000) (W N A B : Int) (w0 : 0 ≤ W) (n0 : 0 ≤ N) (A0 : -9223372036854775808 ≤ A) (A1 : A ≤ 9223372036854775807) :
    ∃ (n : Int) (t : ByteArray) (a' e' : Nat), AskAt 39 s a e W N A B n t a' e' ∧ Told s W A a e n t a' e' := by
  obtain ⟨M, rfl⟩ := Int.eq_ofNat_of_zero_le n0
  by_cases he : e = 0
  · subst he
    by_cases h0 : W = 0
    · subst h0
      obtain ⟨n, a', e', hM, hG⟩ := varint_goes s a ha (by omega) M
      exact ⟨n, ⟨#[]⟩, a', e', fun w b h => ask0 b s a 0 M A B n a' e' w h hM, told_of hG (fun h => by cases h; exact ⟨rfl, rfl⟩) (fun _ h => by omega)⟩
    · by_cases h1 : W = 1
      · subst h1
        obtain ⟨z, a', e', hM, hG⟩ := zag_goes s a ha (by omega) A B
        exact ⟨_, ⟨#[]⟩, a', e', fun w b h => ask1 b s a 0 M A B z a' e' w h hM, told_of hG (fun h => by cases h; exact ⟨by decide, rfl⟩) (fun _ h => by omega)⟩
      · by_cases h2 : W = 2
        · subst h2
          obtain ⟨n, a', e', hM, hG⟩ := fixed_goes s a ha (by omega) A
          exact ⟨n, ⟨#[]⟩, a', e', fun w b h => ask2 b s a 0 M A B n a' e' w h hM, told_of hG (fun h => by cases h; exact ⟨rfl, rfl⟩) (fun _ h => by omega)⟩
        · by_cases h3 : W = 3
          · subst h3
            obtain ⟨n, a', e', hn, hM, hG⟩ := byte_goes s a ha (by omega)
            exact ⟨n, ⟨#[]⟩, a', e', fun w b h => ask3 b s a 0 M A B n hn a' e' w h hM, told_of hG (fun h => by cases h; exact ⟨rfl, rfl⟩) (fun _ h => by omega)⟩
          · by_cases h4 : W = 4
            · subst h4
              obtain ⟨t, a', e', hM, hG, hx⟩ := raw_goes s a ha (by omega) A
              exact ⟨0, t, a', e', fun w b h => ask4 b s a 0 M A B t a' e' w h hM, told_of hG (fun h => by cases h; exact ⟨rfl, rfl⟩) (fun h _ => hx h)⟩
            · obtain ⟨t, a', e', hM, hG⟩ := text_goes s a ha (by omega) A A0 A1
              exact ⟨0, t, a', e', fun w b h => ask5 W (beq_eq_false_iff_ne.2 h0) (beq_eq_false_iff_ne.2 h1) (beq_eq_false_iff_ne.2 h2) (beq_eq_false_iff_ne.2 h3) (beq_eq_false_iff_ne.2 h4) b s a 0 M A B t a' e' w h hM, told_of hG (fun h => by cases h; exact ⟨rfl, rfl⟩) (fun _ h => absurd h h4)⟩
  · refine ⟨0, ⟨#[]⟩, a, e, ?_, .inl ⟨he, rfl, rfl, rfl, rfl⟩⟩
    by_cases h0 : W = 0
    · subst h0
      exact fun w b h => ask0 b s a e M A B 0 a e w h (fun w b h => mvarint_err b s a e M w h (ne0 he))
    · by_cases h1 : W = 1
      · subst h1
        exact fun w b h => ask1 b s a e M A B 0 a e w h (fun w b h => mzag_err b s a e A B w h (ne0 he))
      · by_cases h2 : W = 2
        · subst h2
          exact fun w b h => ask2 b s a e M A B 0 a e w h (fun w b h => mfixed_err b s a e A w h (ne0 he))
        · by_cases h3 : W = 3
          · subst h3
            exact fun w b h => ask3 b s a e M A B 0 (by omega) a e w h (byte_err s a e he)
          · by_cases h4 : W = 4
            · subst h4
              exact fun w b h => ask4 b s a e M A B ⟨#[]⟩ a e w h (fun w b h => mraw_err b s a e A w h (ne0 he))
            · exact fun w b h => ask5 W (beq_eq_false_iff_ne.2 h0) (beq_eq_false_iff_ne.2 h1) (beq_eq_false_iff_ne.2 h2) (beq_eq_false_iff_ne.2 h3) (beq_eq_false_iff_ne.2 h4) b s a e M A B ⟨#[]⟩ a e w h (fun w b h => mtext_err b s a e A w h (ne0 he))
end Go.Proofs.Ytnoejddhdgmkcaa
