/- The contracts of the reader of shown labels, step by step: what is thrown, too. -/
import Derived.Test.YtjhgmlhoefakpaaDoorPe
import Derived.WalkLawsBesides
namespace Go.Proofs.YtjhgmlhoefakpaaDoor
open Go.RowKit
set_option maxRecDepth 100000
set_option maxHeartbeats 1000000
/-- What is thrown. -/
def pn : List PanicEntry := [{ v := .iface 30 (.int .i64 4), recovered := false }]
/-- The reader stands at this text. -/
def RA (w : World) (R : Nat) (l : List UInt8) : Prop := w.heap[R]? = some (.cells #[.string (bs l)] 50)
theorem RA.lt {w : World} {R : Nat} {l : List UInt8} (h : RA w R l) : R < w.heap.size := (Array.getElem?_eq_some_iff.1 h).1
theorem RA.cell {w : World} {R : Nat} {l : List UInt8} (h : RA w R l) : w.cell? ⟨R, 0, none⟩ = some (.string (bs l)) := by rw [Lib.cell_of_heap h]; rfl
theorem RA.frz {w : World} {R : Nat} {l : List UInt8} (h : RA w R l) : w.frozen? ⟨R, 0, none⟩ = false := Lib.frozen_of_heap h 0
theorem RA.set {w : World} {R : Nat} {l : List UInt8} (h : RA w R l) (l' : List UInt8) : RA (w.setCell ⟨R, 0, none⟩ (.string (bs l'))) R l' := by
  unfold RA at h ⊢
  simp [World.setCell, Array.getElem?_modify, h]
theorem RA.below {w w' : World} {R n : Nat} {l : List UInt8} (h : RA w R l) (hb : Below n w w') (hn : w.heap.size ≤ n) : RA w' R l := (hb.block R (by have := h.lt; omega)).trans h
theorem RA.alloc {w : World} {R : Nat} {l : List UInt8} (h : RA w R l) (o : Obj) : RA (w.alloc o) R l := h.below ((Below.refl w.heap.size w).alloc (Nat.le_refl _) o) (Nat.le_refl _)
/-- What a step leaves: what it tells, and where the reader stands; or that it threw. -/
def Rp (w : World) (R : Nat) (o : Option (Value × List UInt8)) (e : Ending) (w' : World) : Prop := match o with
  | some p => e = .returned p.1 ∧ RA w' R p.2 ∧ w.grownBy w' (some R)
  | none => e = .panicked pn ∧ w.grownBy w' (some R)
theorem must_yes (w : World) : Calls Tryd.prog 61 #[.bool true] w fun e w' => e = .returned (.tuple #[]) ∧ w' = w := by
  go_enter Tryd.func61, Tryd.ntmps61
  go_wp2
  go_end0
  exact ⟨rfl, rfl⟩
theorem must_no (w : World) : Calls Tryd.prog 61 #[.bool false] w fun e w' => e = .panicked pn ∧ w' = w := by
  go_enter Tryd.func61, Tryd.ntmps61
  go_wp2
  exact ⟨rfl, rfl, rfl⟩
theorem next_any (R : Nat) (l : List UInt8) (m : ByteArray) (w : World) (h : RA w R l) :
    Calls Tryd.prog 60 #[.pointer (some ⟨R, 0, none⟩), .string m] w (Rp w R (some (.bool (Lib.hasPrefix l m.data.toList), Lib.trimPrefix l m.data.toList))) := by
  have HC := Lib.hid (Tryd.strings_CutPrefix (bs l) m w)
  rw [bs_data] at HC
  have hc := h.cell
  have hf := h.frz
  have HR := Lib.hid h
  clear h
  generalize Lib.hasPrefix l m.data.toList = b at *
  generalize Lib.trimPrefix l m.data.toList = l' at *
  go_enter Tryd.func60, Tryd.ntmps60
  go_wp2_with (go_at_call 78; refine HC.out.mono ?_; rintro e w' ⟨rfl, rfl⟩)
  go_ret
  exact ⟨rfl, HR.out.set l', grown_set _ 0 R 0 _⟩
def takeL (m l : List UInt8) : Option (Value × List UInt8) := if Lib.hasPrefix l m = true then some (.tuple #[], Lib.trimPrefix l m) else none
theorem take_any (R : Nat) (l : List UInt8) (m : ByteArray) (w : World) (h : RA w R l) :
    Calls Tryd.prog 58 #[.pointer (some ⟨R, 0, none⟩), .string m] w (Rp w R (takeL m.data.toList l)) := by
  have HN := Lib.hid (next_any R l m w h)
  have HY := Lib.hid (fun W => must_yes W)
  have HF := Lib.hid (fun W => must_no W)
  clear h
  unfold takeL
  generalize Lib.hasPrefix l m.data.toList = b at *
  generalize Lib.trimPrefix l m.data.toList = l' at *
  cases b with
  | true =>
    rw [if_pos rfl]
    go_enter Tryd.func58, Tryd.ntmps58
    go_wp2_with (first | (go_at_call 60; refine HN.out.mono ?_; rintro e w1 ⟨rfl, hR, hG⟩) | (go_at_call 61; refine (HY.out _).mono ?_; rintro e w2 ⟨rfl, rfl⟩))
    go_end0
    exact ⟨rfl, hR, hG⟩
  | false =>
    rw [if_neg (by simp)]
    go_enter Tryd.func58, Tryd.ntmps58
    go_wp2_with (first | (go_at_call 60; refine HN.out.mono ?_; rintro e w1 ⟨rfl, hR, hG⟩) | (go_at_call 61; refine (HF.out _).mono ?_; rintro e w2 ⟨rfl, rfl⟩))
    exact ⟨rfl, rfl, hG⟩
def untilL (p : UInt8 → Bool) (l : List UInt8) : Option (Value × List UInt8) := match fst l p with
  | some k => some (.string (bs (l.take k)), l.drop k)
  | none => none
theorem until_any (R : Nat) (l : List UInt8) (hl : l.length ≤ 1000000000) (m : ByteArray) (p : UInt8 → Bool) (w : World) (h : RA w R l)
    (hI : ∀ W, Calls Tryd.prog 86 #[.string (bs l), .string m] W (Ret W (.int .i64 (fstI l p)))) :
    Calls Tryd.prog 76 #[.pointer (some ⟨R, 0, none⟩), .string m] w (Rp w R (untilL p l)) := by
  have HI := Lib.hid hI
  have HY := Lib.hid (fun W => must_yes W)
  have HF := Lib.hid (fun W => must_no W)
  have hc := h.cell
  have HR := Lib.hid h
  clear h hI
  unfold untilL
  unfold fstI at HI
  cases hk : fst l p with
  | some k =>
    rw [hk] at HI
    obtain ⟨hkl, -, -⟩ := fst_some hk
    have hz : (bs l).size = l.length := bs_size l
    have hks : k ≤ (bs l).size := by omega
    have hbz : (bs l).size ≤ 1000000000 := by omega
    have HE1 : Hid ((bs l).extract 0 k = bs (l.take k)) := Lib.hid (by
      apply ByteArray.ext; apply Array.ext'
      simp [List.extract_eq_take_drop, bs])
    have HE2 : Hid ((bs l).extract k (bs l).size = bs (l.drop k)) := Lib.hid (by
      apply ByteArray.ext; apply Array.ext'
      rw [Lib.ext_list]; rfl)
    dsimp only at HI ⊢
    clear hk hkl hz
    generalize hS : bs l = S at *
    go_enter Tryd.func76, Tryd.ntmps76
    go_wp2_with fail
    refine (HI.out _).mono ?_
    rintro e w1 ⟨rfl, hb⟩
    have hc1 : w1.cell? ⟨R, 0, none⟩ = some (.string S) := by rw [← hS]; exact (HR.out.below hb (Nat.le_refl _)).cell
    have hf1 : w1.frozen? ⟨R, 0, none⟩ = false := (HR.out.below hb (Nat.le_refl _)).frz
    have HR1 := Lib.hid (HR.out.below hb (Nat.le_refl _))
    have HG := Lib.hid (grown_below hb (some R))
    clear hb hc
    go_wp2_with (first | (go_at_call 61; refine (HY.out _).mono ?_; rintro e w2 ⟨rfl, rfl⟩))
    go_ret
    refine ⟨by rw [← HE1.out]; rfl, ?_, grown_trans HG.out (grown_set _ 0 R 0 _)⟩
    have := HR1.out.set (l.drop k)
    rw [← HE2.out] at this
    exact this
  | none =>
    rw [hk] at HI
    dsimp only at HI ⊢
    generalize hS : bs l = S at *
    go_enter Tryd.func76, Tryd.ntmps76
    go_wp2_with (first | (go_at_call 86; refine (HI.out _).mono ?_; rintro e w1 ⟨rfl, hb⟩) | (go_at_call 61; refine (HF.out _).mono ?_; rintro e w2 ⟨rfl, rfl⟩))
    exact ⟨rfl, rfl, grown_below hb (some R)⟩
theorem idx_hex (c : UInt8) : Lib.indexByte [48, 49, 50, 51, 52, 53, 54, 55, 56, 57, 97, 98, 99, 100, 101, 102] c = hexI c := by
  have : ∀ n : Fin 256, Lib.indexByte [48, 49, 50, 51, 52, 53, 54, 55, 56, 57, 97, 98, 99, 100, 101, 102] (UInt8.ofNat n.val) = hexI (UInt8.ofNat n.val) := by decide +kernel
  have h := this ⟨c.toNat, UInt8.toNat_lt c⟩
  simpa using h
theorem hexd_lt {c : UInt8} {d : Nat} (h : hexd c = some d) : d < 16 := by
  unfold hexd at h
  split at h
  · cases h; omega
  · split at h
    · cases h; omega
    · cases h
theorem or_hex (a d : Nat) (ha : a < 1048576) (hd : d < 16) : bits .or .i32 ((a * 16 : Nat) : Int) (d : Int) = ((a * 16 + d : Nat) : Int) := by
  have h := u32_or_nat (a * 16) d (by omega) (by omega)
  have h1 : bits .or .u32 ((a * 16 : Nat) : Int) (d : Int) = IntKind.u32.wrap ((BitVec.ofInt 32 ((a * 16 : Nat) : Int) ||| BitVec.ofInt 32 (d : Int)).toNat : Int) := rfl
  have hlt := (BitVec.ofInt 32 ((a * 16 : Nat) : Int) ||| BitVec.ofInt 32 (d : Int)).isLt
  have hor : a * 16 ||| d = a * 16 + d := by
    have := Nat.two_pow_add_eq_or_of_lt (i := 4) (b := d) (by omega) a
    rw [show 2 ^ 4 * a = a * 16 by omega] at this
    exact this.symm
  rw [hor] at h
  rw [h1, IntKind.wrap_u32, Int.emod_eq_of_lt (by omega) (by omega)] at h
  show IntKind.i32.wrap ((BitVec.ofInt 32 ((a * 16 : Nat) : Int) ||| BitVec.ofInt 32 (d : Int)).toNat : Int) = _
  rw [h, IntKind.wrap_i32]
  omega
theorem number_no (s : ByteArray) (h : s.size = 0 ∨ 6 < s.size) (w : World) : Calls Tryd.prog 102 #[.string s] w fun e w' => e = .panicked pn ∧ w' = w := by
  have HF := Lib.hid (fun W => must_no W)
  rcases h with h | h
  · have he := emp_t h
    go_enter Tryd.func102, Tryd.ntmps102
    go_wp2_with (first | (go_at_call 61; refine (HF.out _).mono ?_; rintro e w2 ⟨rfl, rfl⟩))
    exact ⟨rfl, rfl, rfl⟩
  · have he := emp_f (s := s) (by omega)
    have hz : decide ((s.size : Int) ≤ 6) = false := decide_eq_false (by omega)
    go_enter Tryd.func102, Tryd.ntmps102
    go_wp2_with (first | (go_at_call 61; refine (HF.out _).mono ?_; rintro e w2 ⟨rfl, rfl⟩))
    exact ⟨rfl, rfl, rfl⟩
def numE (o : Option Nat) (w : World) (e : Ending) (w' : World) : Prop := (match o with
  | some n => e = .returned (.int .i32 n)
  | none => e = .panicked pn) ∧ w' = w
theorem number_any (s : ByteArray) (w : World) : Calls Tryd.prog 102 #[.string s] w (numE (numL s.data.toList) w) := by
  have hsz := Lib.size_eq s
  by_cases h : s.size = 0 ∨ 6 < s.size
  · have h1 : numL s.data.toList = none := by
      unfold numL
      rw [if_pos]
      rcases h with h | h
      · left; exact List.length_eq_zero_iff.1 (by omega)
      · right; omega
    rw [h1]
    exact number_no s h w
  · have h1 : numL s.data.toList = numGo 0 s.data.toList := by
      unfold numL
      rw [if_neg]
      rintro (h2 | h2)
      · rw [h2, List.length_nil] at hsz; omega
      · omega
    rw [h1]
    obtain ⟨X, hX⟩ : ∃ X, numGo 0 s.data.toList = X := ⟨_, rfl⟩
    rw [hX]
    have HX := Lib.hid hX
    have HY := Lib.hid (fun W => must_yes W)
    have HF := Lib.hid (fun W => must_no W)
    have he := emp_f (s := s) (by omega)
    have hz : decide ((s.size : Int) ≤ 6) = true := decide_eq_true (by omega)
    have h6 : s.size ≤ 6 := by omega
    have HS := Lib.hid hsz
    clear h1 hX hsz h
    go_enter Tryd.func102, Tryd.ntmps102
    go_wp2_with (first | (go_at_call 61; refine (HY.out _).mono ?_; rintro e w2 ⟨rfl, rfl⟩))
    go_loopw [3, 16] (fun n i wr => ∃ (k a : Nat), n = .int .i32 (a : Int) ∧ i = .int .i64 (k : Int) ∧ k ≤ s.size ∧ wr = w2 ∧ Hid (a < 16 ^ k ∧ numGo a (s.data.toList.drop k) = X)) (fun _ i _ => s.size - (intOf i).toNat)
    case atStart => exact ⟨0, 0, rfl, rfl, by omega, rfl, Lib.hid ⟨by decide, HX.out⟩⟩
    case round =>
      obtain ⟨k, a, rfl, rfl, hk, rfl, HE⟩ := hrel
      have ha : a < 16777216 := by
        have h1 := HE.out.1
        have h2 : 16 ^ k ≤ 16 ^ 6 := Nat.pow_le_pow_right (by omega) (by omega)
        omega
      by_cases hlt : k < s.size
      · obtain ⟨c, hc⟩ : ∃ c : UInt8, s[k]'hlt = c := ⟨_, rfl⟩
        have hrun := HE.out.2
        rw [List.drop_eq_getElem_cons (by rw [← HS.out]; exact hlt), el_at s k hlt, hc] at hrun
        have HI := Lib.hid (fun W => Tryd.strings_IndexByte { data := #[48, 49, 50, 51, 52, 53, 54, 55, 56, 57, 97, 98, 99, 100, 101, 102] } (c.toNat : Int) W)
        have hix : Lib.indexByte ({ data := #[48, 49, 50, 51, 52, 53, 54, 55, 56, 57, 97, 98, 99, 100, 101, 102] } : ByteArray).data.toList ((c.toNat : Int).toNat.toUInt8) = hexI c := by
          rw [show ((c.toNat : Int).toNat.toUInt8) = c by simp]
          exact idx_hex c
        rw [hix] at HI
        have a20 : a < 1048576 := by
          have h1 := HE.out.1
          have h2 : 16 ^ k ≤ 16 ^ 5 := Nat.pow_le_pow_right (by omega) (by omega)
          omega
        clear hix
        cases hd : hexd c with
        | some d =>
          have hI2 : hexI c = (d : Int) := by unfold hexI; rw [hd]
          rw [hI2] at HI
          have hd16 := hexd_lt hd
          have hor := or_hex a d a20 hd16
          have HN : Hid (a * 16 + d < 16 ^ (k + 1) ∧ numGo (a * 16 + d) (s.data.toList.drop (k + 1)) = X) := Lib.hid ⟨by have h1 := HE.out.1; rw [Nat.pow_succ]; omega, by
            rw [← hrun]
            show _ = (match hexd c with | some d => numGo (a * 16 + d) (s.data.toList.drop (k + 1)) | none => none)
            rw [hd]⟩
          obtain ⟨M, hM⟩ : ∃ M, a * 16 = M := ⟨_, rfl⟩
          obtain ⟨N, hN⟩ : ∃ N, M + d = N := ⟨_, rfl⟩
          rw [hM] at hor HN
          rw [hN] at hor HN
          have hMz : (a : Int) * 16 = (M : Int) := by omega
          have hMb : M < 16777216 := by omega
          clear hrun hd hI2 hM hN
          go_wp2_with (first | (go_at_call 111; refine (HI.out _).mono ?_; rintro e w2 ⟨rfl, rfl⟩) | (go_at_call 61; refine (HY.out _).mono ?_; rintro e w2 ⟨rfl, rfl⟩))
          go_roundw
          case rel => exact ⟨k + 1, N, rfl, by go_num, by omega, (by first | rfl | trivial), HN⟩
          case measure => (try simp [intOf]); (try omega)
        | none =>
          have hI2 : hexI c = -1 := by unfold hexI; rw [hd]
          rw [hI2] at HI
          have HN : Hid (X = none) := Lib.hid (by
            rw [← hrun]
            show (match hexd c with | some d => numGo (a * 16 + d) (s.data.toList.drop (k + 1)) | none => none) = none
            rw [hd])
          clear hrun hd hI2
          go_wp2_with (first | (go_at_call 111; refine (HI.out _).mono ?_; rintro e w2 ⟨rfl, rfl⟩) | (go_at_call 61; refine (HF.out _).mono ?_; rintro e w2 ⟨rfl, rfl⟩))
          refine ⟨rfl, ?_⟩
          unfold numE
          rw [HN.out]
          exact ⟨rfl, rfl⟩
      · obtain rfl : k = s.size := by omega
        have HN : Hid (X = some a) := Lib.hid (by
          have h1 := HE.out.2
          rw [List.drop_of_length_le (by rw [Lib.size_eq]; exact Nat.le_refl _)] at h1
          exact h1.symm)
        go_wp2
        go_ret
        unfold numE
        rw [HN.out]
        exact ⟨rfl, rfl⟩
end Go.Proofs.YtjhgmlhoefakpaaDoor
