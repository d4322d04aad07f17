/- The contracts of the document's digits, Bytes, hex. -/
import Derived.Test.YtjhgmlhoefakpaaDoorOf
import Derived.Test.YtjhgmlhoefakpaaDoorFm
namespace Go.Proofs.YtjhgmlhoefakpaaDoor
open Go.RowKit
set_option maxRecDepth 100000
set_option maxHeartbeats 1000000
theorem ext_dg (d : Nat) (h : d < 16) : ({ data := #[48, 49, 50, 51, 52, 53, 54, 55, 56, 57, 97, 98, 99, 100, 101, 102] } : ByteArray).extract d (d + 1) = bs [dg d] := by
  have : ∀ d : Fin 16, ({ data := #[48, 49, 50, 51, 52, 53, 54, 55, 56, 57, 97, 98, 99, 100, 101, 102] } : ByteArray).extract d.val (d.val + 1) = bs [dg d.val] := by decide
  exact this ⟨d, h⟩
theorem rdig_any : ∀ (k n : Nat), k ≤ 5 → n < 16 ^ (k + 1) → ∀ w : World, Calls Tryd.prog 55 #[.int .i64 n] w fun e w' => e = .returned (.string (bs ((digF k n).map dg))) ∧ w = w'
  | k, n, hk, hn, w => by
    have hb : n < 16777216 := by
      have : 16 ^ (k + 1) ≤ 16 ^ 6 := Nat.pow_le_pow_right (by omega) (by omega)
      omega
    obtain ⟨d, hd⟩ : ∃ d, n % 16 = d := ⟨_, rfl⟩
    have hd16 : d < 16 := by omega
    have hdz : (n : Int) % 16 = (d : Int) := by omega
    have he := ext_dg d hd16
    by_cases h1 : n < 16
    · rw [digF_small k n h1]
      obtain rfl : n = d := by omega
      clear hn hd
      go_enter Tryd.func55, Tryd.ntmps55
      go_wp2
      go_ret
      exact ⟨rfl, rfl⟩
    · rcases k with _ | k
      · simp at hn; omega
      rw [digF_succ, if_neg h1, hd]
      obtain ⟨q, hq⟩ : ∃ q, n / 16 = q := ⟨_, rfl⟩
      have hqz : (n : Int) / 16 = (q : Int) := by omega
      have IH := Lib.hid (rdig_any k q (by omega) (by rw [Nat.pow_succ] at hn; omega))
      have hlen := digF_len k q
      have hz : (bs ((digF k q).map dg)).size ≤ 6 := by rw [bs_size, List.length_map]; omega
      have hz2 : (bs [dg d]).size ≤ 1 := by rw [bs_size]; simp
      have HR : Hid (bs ((digF k q).map dg) ++ bs [dg d] = bs ((digF k q ++ [d]).map dg)) := Lib.hid (by rw [bs_append, List.map_append]; rfl)
      rw [hq]
      generalize bs ((digF k q).map dg) = T at *
      generalize bs [dg d] = U at *
      have hlt : decide ((n : Int) < 16) = false := decide_eq_false (by omega)
      clear hn hd hq hlen h1
      go_enter Tryd.func55, Tryd.ntmps55
      go_wp2_with (go_at_call 55; refine (IH.out _).mono ?_; rintro e w' ⟨rfl, rfl⟩)
      go_ret
      exact ⟨ret_str HR.out, rfl⟩
theorem rhexs_any (c : Nat) (h : c ≤ 1114111) (w : World) : Calls Tryd.prog 55 #[.int .i64 c] w fun e w' => e = .returned (.string (bs (hexs c))) ∧ w = w' := rdig_any 5 c (by omega) (by omega) w
def hexI (c : UInt8) : Int := match hexd c with
  | some d => d
  | none => -1
theorem hex_any (c : UInt8) (w : World) : Calls Tryd.prog 74 #[.int .u8 c.toNat] w fun e w' => e = .returned (.int .i64 (hexI c)) ∧ w = w' := by
  have hc : c.toNat < 256 := UInt8.toNat_lt c
  unfold hexI hexd
  generalize c.toNat = n at *
  by_cases h1 : 48 ≤ n ∧ n ≤ 57
  · rw [if_pos h1]
    have g1 := h1.1
    have g2 := h1.2
    obtain ⟨m, hm⟩ : ∃ m, n - 48 = m := ⟨_, rfl⟩
    have hmz : (n : Int) - 48 = (m : Int) := by omega
    rw [hm]
    clear h1 hm
    go_enter Tryd.func74, Tryd.ntmps74
    go_wp2
    go_ret
    exact ⟨rfl, rfl⟩
  · rw [if_neg h1]
    by_cases h2 : 97 ≤ n ∧ n ≤ 102
    · rw [if_pos h2]
      have g1 := h2.1
      have g2 := h2.2
      obtain ⟨m, hm⟩ : ∃ m, n - 97 = m := ⟨_, rfl⟩
      have hmz : (n : Int) - 97 = (m : Int) := by omega
      rw [show n - 87 = m + 10 by omega]
      have f1 : decide ((n : Int) ≤ 57) = false := decide_eq_false (by omega)
      have f2 : decide ((48 : Int) ≤ (n : Int)) = true := decide_eq_true (by omega)
      clear h1 h2 hm
      go_enter Tryd.func74, Tryd.ntmps74
      go_wp2
      go_ret
      exact ⟨by simp, rfl⟩
    · rw [if_neg h2]
      rcases (show n < 48 ∨ (58 ≤ n ∧ n < 97) ∨ 103 ≤ n by omega) with g | g | g
      · have f2 : decide ((48 : Int) ≤ (n : Int)) = false := decide_eq_false (by omega)
        have f3 : decide ((97 : Int) ≤ (n : Int)) = false := decide_eq_false (by omega)
        clear h1 h2
        go_enter Tryd.func74, Tryd.ntmps74
        go_wp2
        go_ret
        exact ⟨rfl, rfl⟩
      · have f2 : decide ((48 : Int) ≤ (n : Int)) = true := decide_eq_true (by omega)
        have f1 : decide ((n : Int) ≤ 57) = false := decide_eq_false (by omega)
        have f3 : decide ((97 : Int) ≤ (n : Int)) = false := decide_eq_false (by omega)
        clear h1 h2 g
        go_enter Tryd.func74, Tryd.ntmps74
        go_wp2
        go_ret
        exact ⟨rfl, rfl⟩
      · have f2 : decide ((48 : Int) ≤ (n : Int)) = true := decide_eq_true (by omega)
        have f1 : decide ((n : Int) ≤ 57) = false := decide_eq_false (by omega)
        have f3 : decide ((97 : Int) ≤ (n : Int)) = true := decide_eq_true (by omega)
        have f4 : decide ((n : Int) ≤ 102) = false := decide_eq_false (by omega)
        clear h1 h2 g
        go_enter Tryd.func74, Tryd.ntmps74
        go_wp2
        go_ret
        exact ⟨rfl, rfl⟩
/-- string of new bytes. -/
theorem run_string_new (l : List UInt8) (zs : List Int) (hz : zs = l.map fun c => (c.toNat : Int)) (W : World) (cs : Array Value) (hcs : cs = (zs.map (Value.int .u8)).toArray) (n : Nat) (hn : n = l.length) :
    Sem.run Tryd.prog (convert 26 9 (.slice (some ⟨W.heap.size, 0, none⟩) n n)) (W.alloc (.cells cs 5)) = .ok (.string (bs l)) (W.alloc (.cells cs 5)) := by
  subst hn hz hcs
  refine run_convert_bytes_back _ 26 9 5 ⟨W.heap.size, 0, none⟩ l.length l Tryd.underlying26 Tryd.underlying5 Tryd.underlying9 (fun j hj => ?_)
  have hadd : (⟨W.heap.size, 0, none⟩ : Addr).add j = ⟨W.heap.size, j, none⟩ := by unfold Addr.add; split <;> simp_all
  rw [hadd, World.cell?_alloc_mark]
  simp [hj]
theorem bytes_any (c : Nat) (h : OkR c) (w : World) : Calls Tryd.prog 75 #[.int .i64 c] w fun e w' => e = .returned (.string (bs (enc c))) ∧ Below w.heap.size w w' := by
  have hb : c ≤ 1114111 := by unfold OkR at h; omega
  clear h
  by_cases h1 : c < 128
  · have hcv := run_string_new [UInt8.ofNat c] [(c : Int)] (by simp; omega) w #[.int .u8 c] rfl 1 rfl
    rw [enc_ascii h1]
    go_enter Tryd.func75, Tryd.ntmps75
    go_wp2
    go_ret
    exact ⟨rfl, (Below.refl _ w).alloc (Nat.le_refl _) _⟩
  by_cases h2 : c < 2048
  · obtain ⟨a, ha⟩ : ∃ a, 192 + c / 64 = a := ⟨_, rfl⟩
    obtain ⟨b, hbb⟩ : ∃ b, 128 + c % 64 = b := ⟨_, rfl⟩
    have hea : (192 : Int) + (c : Int) / 64 = (a : Int) := by omega
    have heb : (128 : Int) + (c : Int) % 64 = (b : Int) := by omega
    have ha2 : a < 256 := by omega
    have hb2 : b < 256 := by omega
    have hcv := run_string_new [UInt8.ofNat a, UInt8.ofNat b] [(a : Int), (b : Int)] (by simp; omega) w #[.int .u8 a, .int .u8 b] rfl 2 rfl
    have he : enc c = [UInt8.ofNat a, UInt8.ofNat b] := by unfold enc encN; rw [if_neg h1, if_pos h2, ha, hbb]; rfl
    rw [he]
    clear ha hbb he
    go_enter Tryd.func75, Tryd.ntmps75
    go_wp2
    go_ret
    exact ⟨rfl, (Below.refl _ w).alloc (Nat.le_refl _) _⟩
  have g1 : decide ((c : Int) < 128) = false := decide_eq_false (by omega)
  have g2 : decide ((c : Int) < 2048) = false := decide_eq_false (by omega)
  obtain ⟨q0, hq0⟩ : ∃ q, c / 64 = q := ⟨_, rfl⟩
  obtain ⟨r0, hr0⟩ : ∃ q, q0 % 64 = q := ⟨_, rfl⟩
  obtain ⟨d, hd⟩ : ∃ q, 128 + r0 = q := ⟨_, rfl⟩
  obtain ⟨r1, hr1⟩ : ∃ q, c % 64 = q := ⟨_, rfl⟩
  obtain ⟨b, hbb⟩ : ∃ q, 128 + r1 = q := ⟨_, rfl⟩
  have z0 : (c : Int) / 64 = (q0 : Int) := by omega
  have z1 : (q0 : Int) % 64 = (r0 : Int) := by omega
  have z2 : (128 : Int) + (r0 : Int) = (d : Int) := by omega
  have z3 : (c : Int) % 64 = (r1 : Int) := by omega
  have z4 : (128 : Int) + (r1 : Int) = (b : Int) := by omega
  have hd2 : d < 256 := by omega
  have hb2 : b < 256 := by omega
  have hq0b : q0 < 1000000 := by omega
  have hr0b : r0 < 64 := by omega
  have hr1b : r1 < 64 := by omega
  by_cases h3 : c < 65536
  · have g3 : decide ((c : Int) < 65536) = true := decide_eq_true (by omega)
    obtain ⟨q1, hq1⟩ : ∃ q, c / 4096 = q := ⟨_, rfl⟩
    obtain ⟨a, ha⟩ : ∃ a, 224 + q1 = a := ⟨_, rfl⟩
    have z5 : (c : Int) / 4096 = (q1 : Int) := by omega
    have z6 : (224 : Int) + (q1 : Int) = (a : Int) := by omega
    have ha2 : a < 256 := by omega
    have hq1b : q1 < 32 := by omega
    have hcv := run_string_new [UInt8.ofNat a, UInt8.ofNat d, UInt8.ofNat b] [(a : Int), (d : Int), (b : Int)] (by simp; omega) w #[.int .u8 a, .int .u8 d, .int .u8 b] rfl 3 rfl
    have he : enc c = [UInt8.ofNat a, UInt8.ofNat d, UInt8.ofNat b] := by unfold enc encN; rw [if_neg h1, if_neg h2, if_pos h3, hq1, ha, hr1, hbb, hq0, hr0, hd]; rfl
    rw [he]
    clear ha hbb hd hr1 hq0 hr0 hq1 he h1 h2 h3
    go_enter Tryd.func75, Tryd.ntmps75
    go_wp2
    go_ret
    exact ⟨rfl, (Below.refl _ w).alloc (Nat.le_refl _) _⟩
  · have g3 : decide ((c : Int) < 65536) = false := decide_eq_false (by omega)
    obtain ⟨q1, hq1⟩ : ∃ q, c / 4096 = q := ⟨_, rfl⟩
    obtain ⟨r2, hr2⟩ : ∃ q, q1 % 64 = q := ⟨_, rfl⟩
    obtain ⟨f, hf⟩ : ∃ q, 128 + r2 = q := ⟨_, rfl⟩
    obtain ⟨q2, hq2⟩ : ∃ q, c / 262144 = q := ⟨_, rfl⟩
    obtain ⟨a, ha⟩ : ∃ a, 240 + q2 = a := ⟨_, rfl⟩
    have z5 : (c : Int) / 4096 = (q1 : Int) := by omega
    have z6 : (q1 : Int) % 64 = (r2 : Int) := by omega
    have z7 : (128 : Int) + (r2 : Int) = (f : Int) := by omega
    have z8 : (c : Int) / 262144 = (q2 : Int) := by omega
    have z9 : (240 : Int) + (q2 : Int) = (a : Int) := by omega
    have ha2 : a < 256 := by omega
    have hf2 : f < 256 := by omega
    have hq1b : q1 < 1000000 := by omega
    have hq2b : q2 < 16 := by omega
    have hr2b : r2 < 64 := by omega
    have hcv := run_string_new [UInt8.ofNat a, UInt8.ofNat f, UInt8.ofNat d, UInt8.ofNat b] [(a : Int), (f : Int), (d : Int), (b : Int)] (by simp; omega) w #[.int .u8 a, .int .u8 f, .int .u8 d, .int .u8 b] rfl 4 rfl
    have he : enc c = [UInt8.ofNat a, UInt8.ofNat f, UInt8.ofNat d, UInt8.ofNat b] := by unfold enc encN; rw [if_neg h1, if_neg h2, if_neg h3, hq2, ha, hq1, hr2, hf, hr1, hbb, hq0, hr0, hd]; rfl
    rw [he]
    clear ha hbb hd hr1 hq0 hr0 hq1 hq2 hr2 hf he h1 h2 h3
    go_enter Tryd.func75, Tryd.ntmps75
    go_wp2
    go_ret
    exact ⟨rfl, (Below.refl _ w).alloc (Nat.le_refl _) _⟩
end Go.Proofs.YtjhgmlhoefakpaaDoor
