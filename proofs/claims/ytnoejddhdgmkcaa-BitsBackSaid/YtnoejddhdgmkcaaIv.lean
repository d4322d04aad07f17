/- An item's 'is', at the bytes that it became, whole and cut short. -/
import Derived.Test.YtnoejddhdgmkcaaIu
namespace Go.Proofs.Ytnoejddhdgmkcaa
open Go.RowKit
theorem extract_list (s : ByteArray) (i j : Nat) : (s.extract i j).data.toList = (s.data.toList.drop i).take (j - i) := by
  rw [ByteArray.data_extract, Array.toList_extract, List.extract_eq_take_drop]
theorem ba_ext {s t : ByteArray} (h : s.data.toList = t.data.toList) : s = t := ByteArray.ext (Array.toList_inj.mp h)
theorem wrap_same (N : Nat) : IntKind.i64.wrap (N : Int) = wrap64 (N : Int) := by
  rw [Bt.wrap_i64]; unfold wrap64; first | done | omega
theorem u32_mod4 (N : Nat) : IntKind.u32.wrap (N : Int) = ((N % 256 ^ 4 : Nat) : Int) := by rw [IntKind.wrap_u32]; omega
theorem u64_mod4 (N : Nat) : IntKind.u64.wrap ((N % 256 ^ 4 : Nat) : Int) = ((N % 256 ^ 4 : Nat) : Int) := by rw [IntKind.wrap_u64]; omega
theorem item_full (W : Int) (N : Nat) (S : ByteArray) (hN : N ≤ 18446744073709551615) (hS : S.size ≤ 6000) (s : ByteArray) (a : Nat) (ha : a ≤ s.size) (hs : s.size ≤ 140737488351232) (r : List UInt8)
    (h : s.data.toList.drop a = Bt.enc W N S ++ r) (b : Nat) (w : World) (hr : RdAt w b s a 0) :
    Calls Try.prog 44 #[.agg #[.int .u8 W, .int .u64 N, .string S], .pointer (some ⟨b, 0, none⟩)] w (IsRet w b s true ((a + (Bt.enc W N S).length : Nat) : Int) 0) := by
  have hl : s.size - a = (Bt.enc W N S).length + r.length := by
    rw [← List.length_append, ← h]; simp
  by_cases h0 : W = 0
  · subst h0
    rw [Bt.enc0] at h hl ⊢
    have hT : TellsU 14 #[.string s, .int .i64 a] N ((a + (Bt.vint N).length : Nat) : Int) 0 := fun w => uvarint_ok s a w ha hs N (Bt.vlen N) _ (by rw [h]; exact Bt.rd_put (by omega) r) (by rw [Bt.vint_length])
    have := is0 b s a N S N _ 0 w hr (fun w b h => mvarint_ok b s a N N _ w h (uto_ok s a N N _ hT (by omega)))
    rwa [beq_self_eq_true] at this
  by_cases h1 : W = 1
  · subst h1
    rw [Bt.enc1] at h hl ⊢
    have hz := Bt.wrap64_range N
    have hz2 := Bt.zig_range hz.1 hz.2
    have hT : TellsU 14 #[.string s, .int .i64 a] ((Bt.zig (wrap64 N)).toNat : Int) ((a + (Bt.vint (Bt.zig (wrap64 N)).toNat).length : Nat) : Int) 0 := fun w => uvarint_ok s a w ha hs _ (Bt.vlen _) _ (by rw [h]; exact Bt.rd_put (by omega) r) (by rw [Bt.vint_length])
    have hc : (((Bt.zig (wrap64 N)).toNat : Nat) : Int) = Bt.zig (wrap64 N) := Int.toNat_of_nonneg hz2.1
    rw [hc] at hT
    have hzz := Bt.zag_zig (wrap64 N)
    have hZ := zto_ok s a (wrap64 N) (wrap64 N) _ _ hz2.1 hz2.2 hT (Int.le_of_eq hzz.symm) (Int.le_of_eq hzz)
    rw [hzz] at hZ
    have := is1 b s a N S (wrap64 N) (wrap_same N) (wrap64 N) _ 0 w hr (fun w b h => mzag_ok b s a _ _ _ _ w h hZ)
    rwa [beq_self_eq_true] at this
  by_cases h2 : W = 2
  · subst h2
    rw [Bt.enc2] at h hl ⊢
    rw [Bt.fx_length] at hl ⊢
    have hf := Bt.fat_put 4 N r _ a h
    have hT := fun w => fixed_ok4 s a w (by omega) hs
    rw [hf] at hT
    have := is2 b s a N S (N % 256 ^ 4) (u32_mod4 N) (u64_mod4 N) _ _ 0 w hr (fun w b h => mfixed_ok b s a 4 _ _ w h hT)
    rwa [beq_self_eq_true] at this
  by_cases h3 : W = 3
  · subst h3
    rw [Bt.enc3] at h hl ⊢
    rw [Bt.fx_length] at hl ⊢
    have hf := Bt.fat_put 8 N r _ a h
    have hT := fun w => fixed_ok8 s a w (by omega) hs
    rw [hf, Nat.mod_eq_of_lt (by omega)] at hT
    have := is3 b s a N S _ _ 0 w hr (fun w b h => mfixed_ok b s a 8 _ _ w h hT)
    rwa [beq_self_eq_true] at this
  · rw [Bt.enc5 N S h0 h1 h2 h3] at h hl ⊢
    rw [List.length_append] at hl
    rw [List.length_append, Bt.vint_length] at ⊢
    rw [Bt.vint_length] at hl
    have hSl : S.data.toList.length = S.size := by simp
    rw [hSl] at hl ⊢
    have hT : TellsU 14 #[.string s, .int .i64 a] S.size ((a + Bt.vlen S.size : Nat) : Int) 0 := fun w => uvarint_ok s a w ha hs _ (Bt.vlen S.size) _ (by rw [h, List.append_assoc]; exact Bt.rd_put (by omega) _) rfl
    have hx : s.extract (a + Bt.vlen S.size) (a + Bt.vlen S.size + S.size) = S := by
      apply ba_ext
      rw [extract_list, ← List.drop_drop, h, List.append_assoc, List.drop_left' (Bt.vint_length _), Nat.add_sub_cancel_left, List.take_left' hSl]
    have hu := uto_ok s a (top S.size) S.size _ hT (by unfold top; split <;> omega)
    have hR := raw_ok s (a + Bt.vlen S.size) S.size (by omega) hs
    rw [hx] at hR
    have hM : Meth 17 [.int .i64 S.size] s a 0 (.string S) ((a + Bt.vlen S.size + S.size : Nat) : Int) 0 := fun w b h => mtext_ok b s a S.size _ _ w h (tto_then s a S.size S.size _ _ _ 0 (by omega) (by omega) (by omega) (by omega) hu hR)
    have := is5 W (beq_eq_false_iff_ne.2 h0) (beq_eq_false_iff_ne.2 h1) (beq_eq_false_iff_ne.2 h2) (beq_eq_false_iff_ne.2 h3) b s a N S S _ 0 w hr hM
    rwa [beq_self_eq_true, Nat.add_assoc] at this
theorem item_cut (W : Int) (N : Nat) (S : ByteArray) (hN : N ≤ 18446744073709551615) (hS : S.size ≤ 6000) (s : ByteArray) (a : Nat) (ha : a ≤ s.size) (hs : s.size ≤ 140737488351232) (m : Nat)
    (h : s.data.toList.drop a = (Bt.enc W N S).take m) (hm : m < (Bt.enc W N S).length) (b : Nat) (w : World) (hr : RdAt w b s a 0) :
    ∃ x, Calls Try.prog 44 #[.agg #[.int .u8 W, .int .u64 N, .string S], .pointer (some ⟨b, 0, none⟩)] w (IsRet w b s x a 8) := by
  have hl : s.size - a = m := by
    have : (s.data.toList.drop a).length = m := by rw [h, List.length_take]; omega
    simpa using this
  by_cases h0 : W = 0
  · subst h0
    rw [Bt.enc0] at h hm
    have hT : TellsU 14 #[.string s, .int .i64 a] 0 0 8 := fun w => uvarint_no s a w ha hs 8 (by omega) (by rw [h]; exact Bt.rd_cut (by omega) hm)
    exact ⟨_, is0 b s a N S 0 a 8 w hr (fun w b h => mvarint_no b s a N 8 w h rfl (uto_no s a N 8 rfl hT))⟩
  by_cases h1 : W = 1
  · subst h1
    rw [Bt.enc1] at h hm
    have hz := Bt.wrap64_range N
    have hz2 := Bt.zig_range hz.1 hz.2
    have hT : TellsU 14 #[.string s, .int .i64 a] 0 0 8 := fun w => uvarint_no s a w ha hs 8 (by omega) (by rw [h]; exact Bt.rd_cut (by omega) hm)
    exact ⟨_, is1 b s a N S (wrap64 N) (wrap_same N) 0 a 8 w hr (fun w b h => mzag_no b s a _ _ 8 w h rfl (zto_no s a _ _ 8 rfl hT))⟩
  by_cases h2 : W = 2
  · subst h2
    rw [Bt.enc2, Bt.fx_length] at hm
    exact ⟨_, is2 b s a N S (N % 256 ^ 4) (u32_mod4 N) (u64_mod4 N) 0 a 8 w hr (fun w b h => mfixed_no b s a 4 8 w h rfl (fun w => fixed_short4 s a w ha (by omega)))⟩
  by_cases h3 : W = 3
  · subst h3
    rw [Bt.enc3, Bt.fx_length] at hm
    exact ⟨_, is3 b s a N S 0 a 8 w hr (fun w b h => mfixed_no b s a 8 8 w h rfl (fun w => fixed_short8 s a w ha (by omega)))⟩
  · rw [Bt.enc5 N S h0 h1 h2 h3] at h hm
    rw [List.length_append, Bt.vint_length] at hm
    have hSl : S.data.toList.length = S.size := by simp
    rw [hSl] at hm
    refine ⟨_, is5 W (beq_eq_false_iff_ne.2 h0) (beq_eq_false_iff_ne.2 h1) (beq_eq_false_iff_ne.2 h2) (beq_eq_false_iff_ne.2 h3) b s a N S ⟨#[]⟩ a 8 w hr (fun w b h' => mtext_no b s a S.size 8 w h' rfl ?_)⟩
    by_cases hv : m < Bt.vlen S.size
    · have hT : TellsU 14 #[.string s, .int .i64 a] 0 0 8 := fun w => uvarint_no s a w ha hs 8 (by omega) (by rw [h, List.take_append_of_le_length (by rw [Bt.vint_length]; omega)]; exact Bt.rd_cut (by omega) (by rw [Bt.vint_length]; exact hv))
      exact tto_no s a S.size 8 (by omega) (by omega) rfl (uto_no s a _ 8 rfl hT)
    · rw [List.take_append, List.take_of_length_le (by rw [Bt.vint_length]; omega)] at h
      have hT : TellsU 14 #[.string s, .int .i64 a] S.size ((a + Bt.vlen S.size : Nat) : Int) 0 := fun w => uvarint_ok s a w ha hs _ (Bt.vlen S.size) _ (by rw [h]; exact Bt.rd_put (by omega) _) rfl
      have hu := uto_ok s a (top S.size) S.size _ hT (by unfold top; split <;> omega)
      exact tto_then s a S.size S.size _ _ _ 8 (by omega) (by omega) (by omega) (by omega) hu (raw_short s (a + Bt.vlen S.size) S.size (by omega) (by omega) (by omega) hs)
end Go.Proofs.Ytnoejddhdgmkcaa
