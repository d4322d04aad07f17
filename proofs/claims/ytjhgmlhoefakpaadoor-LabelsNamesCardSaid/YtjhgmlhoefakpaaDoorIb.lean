/- The contract of IndexAny at a quote and a backslash, of any text. -/
import Derived.Test.YtjhgmlhoefakpaaDoorIa
namespace Go.Proofs.YtjhgmlhoefakpaaDoor
open Go.RowKit
set_option maxRecDepth 100000
set_option maxHeartbeats 1000000
def qbp (c : UInt8) : Bool := [(34 : UInt8), 92].contains c
theorem encN_high {c : Nat} (h : OkR c) (h1 : 128 ≤ c) : ∀ x ∈ encN c, 128 ≤ x := by
  intro x hx
  unfold encN at hx
  unfold OkR at h
  split at hx
  · omega
  · split at hx
    · simp at hx; omega
    · split at hx
      · simp at hx; omega
      · simp at hx; omega
theorem enc_high {c : Nat} (h : OkR c) (h1 : 128 ≤ c) : ∀ x ∈ enc c, 128 ≤ x.toNat := by
  intro x hx
  obtain ⟨y, hy, rfl⟩ := List.mem_map.1 hx
  have := encN_high h h1 y hy
  have h2 := encN_byte h y hy
  simp
  omega
theorem high_skip (s : ByteArray) (pos : Nat) (h : pos < s.size) (h1 : 128 ≤ (s[pos]'h).toNat) :
    1 ≤ (Utf8.decode s pos).2 ∧ pos + (Utf8.decode s pos).2 ≤ s.size ∧ 128 ≤ (Utf8.decode s pos).1 ∧ ((Utf8.decode s pos).1 = 65533 ∨ OkR (Utf8.decode s pos).1) ∧ ∀ j (hj : j < s.size), pos ≤ j → j < pos + (Utf8.decode s pos).2 → 128 ≤ (s[j]'hj).toNat := by
  have hd := decode_high s pos h h1
  refine ⟨hd.2, ?_⟩
  have hne : s.data.toList.drop pos ≠ [] := by
    intro e
    have := drop_len s pos
    rw [e, List.length_nil] at this
    omega
  by_cases hb : (Lib.decodeL (s.data.toList.drop pos)).1 = 65533 ∧ (Lib.decodeL (s.data.toList.drop pos)).2 = 1
  · rw [Lib.decodeL_drop] at hb
    refine ⟨by omega, hd.1, .inl hb.1, fun j hj h2 h3 => ?_⟩
    obtain rfl : j = pos := by omega
    exact h1
  · have e : rn (s.data.toList.drop pos) = Utf8.decode s pos := by
      unfold rn
      rw [if_neg hne, if_neg hb, Lib.decodeL_drop]
    obtain ⟨i1, i2, i3⟩ := rn_inv (l := s.data.toList.drop pos) (by rw [e]; omega)
    rw [e] at i1 i2 i3
    have hl := congrArg List.length i2
    rw [List.length_append, List.length_drop, List.length_drop, ← Lib.size_eq, ← i3] at hl
    refine ⟨by omega, hd.1, .inr i1, fun j hj h2 h3 => ?_⟩
    have hm : s[j] ∈ enc (Utf8.decode s pos).1 := by
      have h4 : (s.data.toList.drop pos)[j - pos]? = some s[j] := by
        rw [List.getElem?_drop, show pos + (j - pos) = j by omega, List.getElem?_eq_getElem (by rw [← Lib.size_eq]; exact hj)]; rfl
      rw [i2, List.getElem?_append_left (by omega)] at h4
      exact List.mem_of_getElem? h4
    exact enc_high i1 hd.1 _ hm
theorem qbp_high {c : UInt8} (h : 128 ≤ c.toNat) : qbp c = false := by
  unfold qbp
  rw [← Bool.not_eq_true]
  intro e
  simp at e
  rcases e with rfl | rfl <;> exact absurd h (by decide)
theorem irune_asc (b : UInt8) (h : b.toNat < 128) (w : World) : ∃ z : Int, (Calls Tryd.prog 98 #[.string { data := #[34, 92] }, .int .i32 b.toNat] w fun e w' => e = .returned (.int .i64 z) ∧ w' = w) ∧ decide (0 ≤ z) = qbp b := by
  refine ⟨_, Tryd.strings_IndexRune_ascii { data := #[34, 92] } b.toNat w (by omega) (by omega), ?_⟩
  have e1 : (b.toNat : Int).toNat.toUInt8 = b := by simp
  rw [e1]
  exact (Lib.contains_iff_indexByte [34, 92] b).symm
theorem zero119 : ∀ w, (zeroValue 119).run Tryd.prog w = .ok (.agg (Array.replicate 256 (.bool false))) w := (zero_of_info (P := Tryd.prog) (t := 119) (n := 256) (by kernel_rfl)).1
theorem ishort_any (s : ByteArray) (hs : s.size ≤ 8) (w : World) : Calls Tryd.prog 86 #[.string s, .string { data := #[34, 92] }] w (Ret w (.int .i64 (fstI s.data.toList qbp))) := by
  have hsz := Lib.size_eq s
  have HA := Lib.hid (fun W => Tryd.strings_shouldUseASCIISet (s.size : Int) W)
  rw [show decide ((8 : Int) < (s.size : Int)) = false from decide_eq_false (by omega)] at HA
  have hemp : ({ data := #[34, 92] } : ByteArray).toList.isEmpty = false := by rw [Lib.toList_data]; rfl
  have HS := Lib.hid hsz
  generalize hX : fstI s.data.toList qbp = X at *
  have HX := Lib.hid hX
  clear hX hsz
  go_enter Tryd.func86, Tryd.ntmps86
  go_wp2_with (first | (go_at_call 99; refine (HA.out _).mono ?_; rintro e w' ⟨rfl, rfl⟩))
  go_loopw [] (fun wr => ∃ pos : Nat, wr.heap[w'.heap.size]? = some (.stringIter s pos) ∧ pos ≤ s.size ∧ Hid (∀ j (hj : j < s.size), j < pos → qbp s[j] = false) ∧ Hid (Below w'.heap.size w' wr)) (fun wr => s.size - wr.iterPos w'.heap.size)
  case atStart => exact ⟨0, World.iter_heap w' s 0, by omega, Lib.hid fun j _ h => by omega, Lib.hid ((Below.refl w'.heap.size w').alloc (Nat.le_refl _) _)⟩
  case round =>
    obtain ⟨pos, hit, hpz, HN, HB⟩ := hrel
    have HI := Lib.hid hit
    by_cases hp : pos < s.size
    · have hnx : ∀ ty, (Instr.next (.pointer (some ⟨w'.heap.size, 0, none⟩)) true ty).run Tryd.prog wr = _ := fun ty => Lib.run_next_any_at wr w'.heap.size s pos ty hit hp
      have hit2 := Lib.iterAt_heap wr w'.heap.size _ _ (pos + (Utf8.decode s pos).2) hit
      have HB2 : Hid (Below w'.heap.size w' (wr.iterAt w'.heap.size s (pos + (Utf8.decode s pos).2))) := Lib.hid (Lib.below_iterAt HB.out (Nat.le_refl _) _ _)
      have HI2 := Lib.hid hit2
      have hszw : w'.heap.size < (wr.iterAt w'.heap.size s (pos + (Utf8.decode s pos).2)).heap.size := (Array.getElem?_eq_some_iff.1 hit2).1
      have HSz := Lib.hid hszw
      clear hit hit2 hszw
      by_cases h128 : (s[pos]'hp).toNat < 128
      · have hda := decode_ascii s pos hp h128
        rw [hda] at hnx HB2 HI2 HSz
        obtain ⟨b, hb⟩ : ∃ b : UInt8, s[pos]'hp = b := ⟨_, rfl⟩
        rw [hb] at hnx h128
        dsimp only at hnx HB2 HI2 HSz
        have HQ := Lib.hid hb
        generalize hW : wr.iterAt w'.heap.size s (pos + 1) = W at *
        clear hW
        obtain ⟨z, hz, hzq⟩ := irune_asc b h128 W
        have HZ := Lib.hid hz
        have HQb := Lib.hid hzq
        clear hz hda hb
        cases hq : qbp b with
        | true =>
          rw [hq] at hzq
          go_wp2_with (first | (go_at_call 98; refine HZ.out.mono ?_; rintro e w2 ⟨rfl, rfl⟩))
          go_ret
          refine ⟨?_, HB2.out⟩
          rw [← HX.out]
          unfold fstI
          rw [fst_of (p := qbp) (k := pos) (by rw [← Lib.size_eq]; exact hp) (by rw [el_at s pos hp, HQ.out]; exact hq) (fun j hj => by rw [el_at s j (by omega)]; exact HN.out j (by omega) hj)]
          rfl
        | false =>
          rw [hq] at hzq
          have HNq := Lib.hid hq
          clear hq
          go_wp2_with (first | (go_at_call 98; refine HZ.out.mono ?_; rintro e w2 ⟨rfl, rfl⟩))
          go_roundw
          case rel => exact ⟨pos + 1, HI2.out, by omega, Lib.hid fun j hj hlt => by
            rcases Nat.lt_or_ge j pos with h | h
            · exact HN.out j hj h
            · obtain rfl : j = pos := by omega
              rw [HQ.out]; exact HNq.out, HB2⟩
          case measure =>
            simp only [World.iterPos, HI2.out, HI.out]
            omega
      · obtain ⟨k1, k2, k3, k4, k5⟩ := high_skip s pos hp (by omega)
        obtain ⟨r, k, hrk⟩ : ∃ r k, Utf8.decode s pos = (r, k) := ⟨_, _, rfl⟩
        rw [hrk] at hnx HB2 HI2 HSz k1 k2 k3 k4 k5
        dsimp only at hnx HB2 HI2 HSz k1 k2 k3 k4 k5
        generalize hW : wr.iterAt w'.heap.size s (pos + k) = W at *
        clear hW hrk
        have HZ : Hid (Calls Tryd.prog 98 #[.string { data := #[34, 92] }, .int .i32 r] W (Ret W (.int .i64 (-1)))) := Lib.hid (by
          by_cases h5 : r = 65533
          · subst h5; exact irune_bad W
          · exact irune_hi r (k4.resolve_left h5) k3 h5 W)
        have HK := Lib.hid (show _ ∧ _ from ⟨k5, k1⟩)
        clear k3 k4 k5 h128
        go_wp2_with (first | (go_at_call 98; refine HZ.out.mono ?_; rintro e w2 ⟨rfl, hb2⟩))
        have HB3 : Hid (Below w'.heap.size w' w2) := Lib.hid (HB2.out.trans (hb2.mono (Nat.le_of_lt HSz.out)))
        have HI3 : Hid (w2.heap[w'.heap.size]? = some (.stringIter s (pos + k))) := Lib.hid (by rw [hb2.block _ HSz.out]; exact HI2.out)
        clear hb2
        go_wp2
        go_roundw
        case rel => exact ⟨pos + k, HI3.out, k2, Lib.hid fun j hj hlt => by
          rcases Nat.lt_or_ge j pos with h | h
          · exact HN.out j hj h
          · exact qbp_high (HK.out.1 j hj h hlt), HB3⟩
        case measure =>
          have := HK.out.2
          simp only [World.iterPos, HI3.out, HI.out]
          omega
    · have hnx : ∀ ty, (Instr.next (.pointer (some ⟨w'.heap.size, 0, none⟩)) true ty).run Tryd.prog wr = _ := fun ty => Lib.run_next_end_at wr w'.heap.size s pos ty hit hp
      obtain rfl : pos = s.size := by omega
      clear hit
      go_wp2
      go_ret
      refine ⟨?_, HB.out⟩
      rw [← HX.out]
      unfold fstI
      rw [fst_no (fun j hj => by rw [el_at s j (by rw [Lib.size_eq]; exact hj)]; exact HN.out j _ (by rw [Lib.size_eq]; exact hj))]
      rfl
theorem iqb_any (s : ByteArray) (hs : s.size ≤ 1000000000) (w : World) : Calls Tryd.prog 86 #[.string s, .string { data := #[34, 92] }] w (Ret w (.int .i64 (fstI s.data.toList qbp))) := by
  by_cases h : s.size ≤ 8
  · exact ishort_any s h w
  · refine (Tryd.strings_IndexAny_long zero119 s { data := #[34, 92] } w (by decide) (by omega) (by omega) (by decide) ?_).mono ?_
    · intro j b hb
      have : b ∈ [(34 : UInt8), 92] := List.mem_of_getElem? hb
      simp at this
      rcases this with rfl | rfl <;> decide
    · rintro e w' ⟨rfl, rfl⟩
      rw [indexAny_fst]
      exact ⟨rfl, ((Below.refl _ w).alloc (Nat.le_refl _) _).alloc (by simp) _⟩
theorem ione_any (s : ByteArray) (c : UInt8) (hc : c.toNat < 128) (w : World) : Calls Tryd.prog 86 #[.string s, .string { data := #[c] }] w (Ret w (.int .i64 (fstI s.data.toList (fun x => [c].contains x)))) := by
  refine (Tryd.strings_IndexAny_one s { data := #[c] } w (by rfl) ?_).mono ?_
  · intro j b hb
    have : b ∈ [c] := List.mem_of_getElem? hb
    simp at this
    subst this; exact hc
  · rintro e w' ⟨rfl, rfl⟩
    rw [indexAny_fst]
    exact ⟨rfl, Below.refl _ _⟩
end Go.Proofs.YtjhgmlhoefakpaaDoor
