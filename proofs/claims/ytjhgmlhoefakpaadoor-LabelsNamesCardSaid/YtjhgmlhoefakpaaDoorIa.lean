/- The contracts of IndexAny at the marks that the reader asks of, CutPrefix, must. -/
import Derived.Test.YtjhgmlhoefakpaaDoorSh2
import Derived.WalkMore
import Derived.BigQuiet
import Derived.Deep.QuietTactic
import Derived.Deep.RegionWith
namespace Go.Proofs.YtjhgmlhoefakpaaDoor
open Go.RowKit
set_option maxRecDepth 100000
set_option maxHeartbeats 1000000
/-- Where the first byte stands that is one of these. -/
def fst : List UInt8 → (UInt8 → Bool) → Option Nat
  | [], _ => none
  | c :: t, p => if p c then some 0 else (fst t p).map (· + 1)
def fstI (l : List UInt8) (p : UInt8 → Bool) : Int := match fst l p with
  | some k => k
  | none => -1
theorem fst_some {p : UInt8 → Bool} : ∀ {l : List UInt8} {k : Nat}, fst l p = some k → ∃ h : k < l.length, p l[k] = true ∧ ∀ j (hj : j < k), p (l[j]'(by omega)) = false
  | [], k, h => by cases h
  | c :: t, k, h => by
    unfold fst at h
    split at h
    · rename_i hc
      cases h
      exact ⟨by simp, hc, fun j hj => by omega⟩
    · rename_i hc
      obtain ⟨m, hm, rfl⟩ := Option.map_eq_some_iff.1 h
      obtain ⟨h1, h2, h3⟩ := fst_some hm
      refine ⟨by simp; omega, h2, fun j hj => ?_⟩
      rcases j with _ | j
      · simpa using hc
      · exact h3 j (by omega)
theorem fst_none {p : UInt8 → Bool} : ∀ {l : List UInt8}, fst l p = none → ∀ c ∈ l, p c = false
  | [], _, c, hc => by cases hc
  | x :: t, h, c, hc => by
    unfold fst at h
    split at h
    · cases h
    · rename_i hx
      rcases List.mem_cons.1 hc with rfl | hc
      · simpa using hx
      · exact fst_none (Option.map_eq_none_iff.1 h) c hc
theorem fst_of {p : UInt8 → Bool} {l : List UInt8} {k : Nat} (h : k < l.length) (h1 : p l[k] = true) (h2 : ∀ j (hj : j < k), p (l[j]'(by omega)) = false) : fst l p = some k := by
  cases e : fst l p with
  | none =>
    have := fst_none e l[k] (List.getElem_mem h)
    rw [h1] at this; cases this
  | some m =>
    obtain ⟨hm, h3, h4⟩ := fst_some e
    rcases Nat.lt_trichotomy m k with hl | rfl | hl
    · have := h2 m hl; rw [h3] at this; cases this
    · rfl
    · have := h4 k hl; rw [h1] at this; cases this
theorem fst_no {p : UInt8 → Bool} {l : List UInt8} (h : ∀ j (hj : j < l.length), p l[j] = false) : fst l p = none := by
  cases e : fst l p with
  | none => rfl
  | some m =>
    obtain ⟨hm, h3, _⟩ := fst_some e
    have := h m hm
    rw [h3] at this; cases this
theorem indexAny_fst (cs : List UInt8) : ∀ l : List UInt8, Lib.indexAny l cs = fstI l (fun c => cs.contains c)
  | [] => rfl
  | b :: l => by
    have ih := indexAny_fst cs l
    unfold Lib.indexAny fstI fst
    rw [ih]
    unfold fstI
    by_cases h : cs.contains b = true
    · rw [if_pos h, if_pos h]; rfl
    · rw [if_neg h, if_neg h]
      cases e : fst l fun c => cs.contains c with
      | none => rfl
      | some k =>
        have : ¬ (((k : Int) == -1) = true) := by rw [beq_iff_eq]; omega
        simp only [Option.map_some]
        rw [if_neg this]
        simp
/-- A quote, a backslash. -/
def qb : ByteArray := { data := #[34, 92] }
theorem encode_enc (r : Nat) (h : OkR r) : (Utf8.encode (r : Int)).data.toList = enc r := by
  have hv : Utf8.valid (r : Int) = true := by unfold Utf8.valid; unfold OkR at h; simp; omega
  unfold Utf8.encode
  rw [hv]
  simp only [if_true, Int.toNat_natCast]
  unfold enc encN
  split
  · rfl
  · split
    · rfl
    · split
      · rfl
      · rfl
theorem irune_two (r : Nat) (h : OkR r) (h1 : 128 ≤ r) (h3 : r < 2048) (w : World) : Calls Tryd.prog 98 #[.string { data := #[34, 92] }, .int .i32 r] w (Ret w (.int .i64 (-1))) := by
  have hV := Lib.hid (fun W => Tryd.utf8_ValidRune (r : Int) W)
  have hv : Lib.validRune (r : Int) = true := by unfold Lib.validRune; unfold OkR at h; simp; omega
  rw [hv] at hV
  have hU := encode_enc r h
  have hl := Lib.size_eq (Utf8.encode (r : Int))
  have he : enc r = [UInt8.ofNat (192 + r / 64), UInt8.ofNat (128 + r % 64)] := by unfold enc encN; rw [if_neg (by omega), if_pos h3]; rfl
  rw [he] at hU
  rw [hU] at hl
  have hN : (Utf8.encode (r : Int)).size = 2 := hl
  have hz : ((r : Int) == 65533) = false := beq_eq_false_iff_ne.2 (by omega)
  have hlt : decide ((r : Int) < 128) = false := decide_eq_false (by omega)
  obtain ⟨U, hUe⟩ : ∃ U, Utf8.encode (r : Int) = U := ⟨_, rfl⟩
  rw [hUe] at hU hl hN
  have h1U : 1 < U.size := by omega
  obtain ⟨y, hy⟩ : ∃ y, U[1]'h1U = y := ⟨_, rfl⟩
  have hyv : y = UInt8.ofNat (128 + r % 64) := by
    have e := el_at U 1 h1U
    rw [← hy, ← e]
    simp [hU]
  have hyn : 128 ≤ y.toNat := by rw [hyv]; simp; omega
  have hne : (((({ data := #[34, 92] } : ByteArray)[1]'(by decide)).toNat : Int) != (y.toNat : Int)) = true := by rw [bne_iff_ne]; show (92 : Int) ≠ _; omega
  have HI : Hid (∀ W, Calls Tryd.prog 111 #[.string (({ data := #[34, 92] } : ByteArray).extract 2 2), .int .u8 y.toNat] W fun e w' => e = .returned (.int .i64 (-1)) ∧ w' = W) := Lib.hid (fun W => by
    have := Tryd.strings_IndexByte (({ data := #[34, 92] } : ByteArray).extract 2 2) (y.toNat : Int) W
    have e : (({ data := #[34, 92] } : ByteArray).extract 2 2).data.toList = [] := by rfl
    rw [e] at this
    exact this)
  clear h hU hl h3 h1 he hv hyv hyn
  go_enter Tryd.func98, Tryd.ntmps98
  go_wp2_with (first | (go_at_call 103; refine (hV.out _).mono ?_; rintro e w' ⟨rfl, rfl⟩))
  go_step3
  go_wp2
  go_loopw [9] (fun i wr => i = .int .i64 1 ∧ wr = w') (fun _ _ => 0)
  case atStart => exact ⟨rfl, rfl⟩
  case round =>
    obtain ⟨rfl, rfl⟩ := hrel
    go_wp2
    go_step3
    go_wp2
    go_big_quiet (fail)
    go_wp2
    refine wp_region_quiet_below (by kernel_rfl) (by kernel_rfl) ?_
    iterate 7 (go_big_quiet_step (fail))
    go_big_quiet_step (first | (go_at_call 111; exact Calls.regrown_of ((HI.out _).mono fun e w' hh => ⟨hh.1, by rw [hh.2]; exact Below.refl _ _⟩)))
    repeat (go_big_quiet_step (fail))
    refine wpQuiet_nil ?_
    intro W2 hw2
    have HB2 : Hid (Below wr.heap.size wr W2) := Lib.hid (by obtain ⟨q, rfl⟩ := hw2; exact below_regrown _ _ _)
    clear hw2
    go_wp2
    show bodyPost Tryd.prog Tryd.f98 (Ret wr (Value.int IntKind.i64 (-1))) Exit.ret _ _
    go_ret
    exact ⟨rfl, HB2.out⟩
theorem irune_hi (r : Nat) (h : OkR r) (h1 : 128 ≤ r) (h2 : r ≠ 65533) (w : World) : Calls Tryd.prog 98 #[.string { data := #[34, 92] }, .int .i32 r] w (Ret w (.int .i64 (-1))) := by
  by_cases h3 : r < 2048
  · exact irune_two r h h1 h3 w
  have hV := Lib.hid (fun W => Tryd.utf8_ValidRune (r : Int) W)
  have hv : Lib.validRune (r : Int) = true := by unfold Lib.validRune; unfold OkR at h; simp; omega
  rw [hv] at hV
  have hU := encode_enc r h
  have hl := Lib.size_eq (Utf8.encode (r : Int))
  rw [hU] at hl
  have hz : ((r : Int) == 65533) = false := beq_eq_false_iff_ne.2 (by omega)
  have hlt : decide ((r : Int) < 128) = false := decide_eq_false (by omega)
  have hN : 3 ≤ (Utf8.encode (r : Int)).size := by
    rw [hl]; unfold enc encN; rw [if_neg (by omega), if_neg (by omega)]; split <;> simp
  have hN4 : (Utf8.encode (r : Int)).size ≤ 4 := by rw [hl]; exact (enc_length r).2
  have hrb : r ≤ 1114111 := by unfold OkR at h; omega
  obtain ⟨U, hUe⟩ : ∃ U, Utf8.encode (r : Int) = U := ⟨_, rfl⟩
  rw [hUe] at hU hl hN hN4
  generalize hNN : U.size = N at *
  obtain ⟨M, hM⟩ : ∃ M, N - 1 = M := ⟨_, rfl⟩
  have hMz : (N : Int) - 1 = (M : Int) := by omega
  have hM2 : decide ((M : Int) < 2) = false := decide_eq_false (by omega)
  clear h hU hl h2 h3 h1 hv
  go_enter Tryd.func98, Tryd.ntmps98
  go_wp2_with (first | (go_at_call 103; refine (hV.out _).mono ?_; rintro e w' ⟨rfl, rfl⟩))
  go_step3
  go_wp2
  go_loopw [9] (fun i wr => i = .int .i64 (M : Int) ∧ wr = w') (fun _ _ => 0)
  case atStart => exact ⟨rfl, rfl⟩
  case round =>
    obtain ⟨rfl, rfl⟩ := hrel
    go_wp2
    rw [Exit.noGoto_ret]
    go_ret
    exact ⟨rfl, Below.refl _ _⟩
theorem irune_bad (w : World) : Calls Tryd.prog 98 #[.string { data := #[34, 92] }, .int .i32 65533] w (Ret w (.int .i64 (-1))) := by
  have hV := Lib.hid (fun W => Tryd.utf8_ValidRune (65533 : Int) W)
  go_enter Tryd.func98, Tryd.ntmps98
  go_wp2
  go_loopw [] (fun wr => ∃ pos : Nat, wr.heap[w.heap.size]? = some (.stringIter { data := #[34, 92] } pos) ∧ Hid (Below w.heap.size w wr)) (fun wr => 2 - wr.iterPos w.heap.size)
  case atStart => exact ⟨0, World.iter_heap w _ 0, Lib.hid ((Below.refl w.heap.size w).alloc (Nat.le_refl _) _)⟩
  case round =>
    obtain ⟨pos, hit, HB⟩ := hrel
    have HI := Lib.hid hit
    by_cases hp : pos < 2
    · have hnx : ∀ ty, (Instr.next (.pointer (some ⟨w.heap.size, 0, none⟩)) true ty).run Tryd.prog wr = _ := fun ty => Lib.run_next_any_at wr w.heap.size { data := #[34, 92] } pos ty hit hp
      have hd : ∃ b : Nat, Utf8.decode { data := #[34, 92] } pos = (b, 1) ∧ b < 128 := by
        rcases (show pos = 0 ∨ pos = 1 by omega) with rfl | rfl
        · exact ⟨34, by rfl, by omega⟩
        · exact ⟨92, by rfl, by omega⟩
      obtain ⟨b, hd, hb⟩ := hd
      rw [hd] at hnx
      have hbz : ((b : Int) == 65533) = false := beq_eq_false_iff_ne.2 (by omega)
      have hit2 := Lib.iterAt_heap wr w.heap.size _ _ (pos + 1) hit
      have HB2 : Hid (Below w.heap.size w (wr.iterAt w.heap.size { data := #[34, 92] } (pos + 1))) := Lib.hid (Lib.below_iterAt HB.out (Nat.le_refl _) _ _)
      have HI2 := Lib.hid hit2
      clear hit hit2 hd
      go_wp2
      go_roundw
      case rel => exact ⟨pos + 1, HI2.out, HB2⟩
      case measure =>
        simp only [World.iterPos, HI2.out, HI.out]
        omega
    · have hnx : ∀ ty, (Instr.next (.pointer (some ⟨w.heap.size, 0, none⟩)) true ty).run Tryd.prog wr = _ := fun ty => Lib.run_next_end_at wr w.heap.size { data := #[34, 92] } pos ty hit hp
      clear hit
      go_wp2
      show bodyPost Tryd.prog Tryd.f98 (Ret w (Value.int IntKind.i64 (-1))) Exit.ret _ _
      go_ret
      exact ⟨rfl, HB.out⟩
end Go.Proofs.YtjhgmlhoefakpaaDoor
