/- The contracts of the document's Size, low, bytes. -/
import Derived.Test.YtnnogjojoeajnaaRf
import Derived.Test.YtnnogjojoeajnaaEx
namespace Go.Proofs.Ytnnogjojoeajnaa
open Go.RowKit
set_option maxRecDepth 100000 in
set_option maxHeartbeats 400000 in
theorem rsize_any (s : ByteArray) (hs : s.size ≤ 140737488351232) (w : World) :
    Calls Try.prog 20 #[.string s] w fun e w' => e = .returned (.tuple #[.int .u64 (szs s.data.toList).1, .int .i64 (szs s.data.toList).2.2]) ∧ w = w' := by
  obtain ⟨N, C, K, hr⟩ : ∃ N C K, Bt.rd s.data.toList 0 0 = (N, C, K) := ⟨_, _, _, rfl⟩
  unfold szs
  simp only [hr]
  have hf := Bt.rd_facts s.data.toList 0 0 (by omega) (by simp)
  rw [hr] at hf
  dsimp only at hf
  have hNu : N ≤ 18446744073709551615 := by omega
  by_cases hK : K = 0
  · subst hK
    have HU := Lib.hid (ruvarint_ok s 0 w (by omega) hs N C C (by simpa using hr) (by omega) (by omega))
    clear hf hr
    by_cases hN : 4294967296 ≤ N
    · rw [if_neg (by simp), if_pos hN]
      have hN1 : (4294967296 : Int) ≤ (N : Int) := by omega
      have hN2 : (N : Int) ≤ 18446744073709551615 := by omega
      clear hN hNu
      generalize (N : Int) = M at *
      go_enter Try.func20, Try.ntmps20
      go_wp2_with (go_at_call 47; refine HU.out.mono ?_; rintro e w' ⟨rfl, rfl⟩)
      go_ret2
      exact ⟨rfl, rfl⟩
    · rw [if_neg (by simp), if_neg hN]
      have hN1 : (N : Int) < 4294967296 := by omega
      have hN2 : (0 : Int) ≤ (N : Int) := by omega
      clear hN hNu
      dsimp only
      generalize (N : Int) = M at *
      go_enter Try.func20, Try.ntmps20
      go_wp2_with (go_at_call 47; refine HU.out.mono ?_; rintro e w' ⟨rfl, rfl⟩)
      go_ret2
      exact ⟨rfl, rfl⟩
  · have h0 : N = 0 ∧ C = 0 := by
      rcases hf.2.2 with h | h | h
      · exact absurd h hK
      · cases h; exact ⟨rfl, rfl⟩
      · cases h; exact ⟨rfl, rfl⟩
    obtain ⟨rfl, rfl⟩ := h0
    have HU := Lib.hid (ruvarint_no s 0 w (by omega) hs K (by omega) (by simpa using hr))
    clear hf hr
    rw [if_pos hK]
    have hK1 : ((K : Int) != 0) = true := by rw [bne_iff_ne]; omega
    go_enter Try.func20, Try.ntmps20
    go_wp2_with (go_at_call 47; refine HU.out.mono ?_; rintro e w' ⟨rfl, rfl⟩)
    go_ret2
    exact ⟨rfl, rfl⟩
theorem low_snoc' (l : List UInt8) (c : UInt8) : low (l ++ [c]) = low l + c.toNat * 256 ^ l.length := by
  induction l with
  | nil => simp [low]
  | cons b r ih =>
    rw [List.cons_append, low, ih, low, List.length_cons, Nat.pow_succ]
    rw [Nat.mul_add, Nat.add_assoc]
    congr 1
    congr 1
    rw [← Nat.mul_assoc, ← Nat.mul_assoc, Nat.mul_comm 256, Nat.mul_assoc, Nat.mul_comm 256, ← Nat.mul_assoc]
set_option maxRecDepth 100000 in
set_option maxHeartbeats 1000000 in
theorem rlow_any (s : ByteArray) (hs : s.size ≤ 4) (w : World) :
    Calls Try.prog 67 #[.string s] w fun e w' => e = .returned (.int .i64 (low s.data.toList)) ∧ w = w' := by
  have hl0 : s.data.toList.length = s.size := by simp
  go_enter Try.func67, Try.ntmps67
  go_wp2
  go_loop [3, 4, 5] (fun n t i => ∃ (k N T : Nat), n = .int .i64 (N : Int) ∧ t = .int .i64 (T : Int) ∧ i = .int .i64 (k : Int) ∧ k ≤ s.size ∧ N < 4294967296 ∧ T ≤ 4294967296 ∧ Hid (N = low (s.data.toList.take k)) ∧ Hid (T = 256 ^ k)) (fun _ _ i => s.size - (intOf i).toNat)
  case atStart => exact ⟨0, 0, 1, rfl, rfl, rfl, by omega, by omega, by omega, Lib.hid rfl, Lib.hid rfl⟩
  case round =>
    obtain ⟨k, N, T, rfl, rfl, rfl, hk, hN, hT, HN, HT⟩ := hrel
    by_cases hlt : k < s.size
    · have hb := (s[k]).toNat_lt
      have hlow : low (s.data.toList.take (k + 1)) = N + s[k].toNat * T := by
        rw [List.take_succ_eq_append_getElem (by omega), low_snoc', List.length_take, HN.out, HT.out, show min k s.data.toList.length = k by omega]
        rfl
      have hlt2 : low (s.data.toList.take (k + 1)) < 256 ^ (k + 1) := by
        have := low_lt (s.data.toList.take (k + 1))
        rwa [List.length_take, show min (k + 1) s.data.toList.length = k + 1 by omega] at this
      have hp : (256 : Nat) ^ (k + 1) ≤ 256 ^ 4 := Nat.pow_le_pow_right (by omega) (by omega)
      have hT2 : T * 256 = 256 ^ (k + 1) := by rw [HT.out, Nat.pow_succ]
      have e4 : (256 : Nat) ^ 4 = 4294967296 := by decide
      have HM := Lib.hid hlow
      obtain ⟨M, hM⟩ : ∃ M, s[k].toNat * T = M := ⟨_, rfl⟩
      obtain ⟨T2, hT3⟩ : ∃ T2, T * 256 = T2 := ⟨_, rfl⟩
      rw [hM] at hlow HM
      have hNM : N + M < 4294967296 := by omega
      have hTT : T2 ≤ 4294967296 := by omega
      have hmul : (T : Int) * (s[k].toNat : Int) = (M : Int) := by rw [← hM, Int.natCast_mul, Int.mul_comm]
      have hmul2 : (T : Int) * 256 = (T2 : Int) := by rw [← hT3, Int.natCast_mul]; rfl
      have hmul3 : IntKind.i64.wrap ((T : Int) * (s[k].toNat : Int)) = (M : Int) := by rw [hmul, Bt.wrap_i64]; omega
      have hmul4 : IntKind.i64.wrap ((T : Int) * 256) = (T2 : Int) := by rw [hmul2, Bt.wrap_i64]; omega
      have HT2 : Hid (T2 = 256 ^ (k + 1)) := Lib.hid (by omega)
      have hki : (k : Int) < (s.size : Int) := by omega
      clear hM hT3 hT2 hp hlt2 hlow e4
      go_wp2
      go_round
      case rel => exact ⟨k + 1, N + M, T2, by go_num, rfl, by go_num, by omega, by omega, by omega, Lib.hid HM.out.symm, HT2⟩
      case measure => simp [intOf]; omega
    · obtain rfl : k = s.size := by omega
      have HE : Hid (N = low s.data.toList) := Lib.hid (by rw [HN.out, List.take_of_length_le (by omega)])
      go_wp2
      go_ret
      exact ⟨ret_i64 (by rw [HE.out]), rfl⟩
set_option maxRecDepth 100000 in
set_option maxHeartbeats 1000000 in
theorem rbytes_any (n k : Nat) (hn : n ≤ 9223372036854775807) (hk : k ≤ 4) (w : World) :
    Calls Try.prog 68 #[.int .i64 n, .int .i64 k] w fun e w' => e = .returned (.string (bs (Bt.fx k n))) ∧ Below w.heap.size w w' := by
  go_enter Try.func68, Try.ntmps68
  go_wp2
  go_loopw [0, 5, 6] (fun x u i wr => ∃ (j m : Nat) (pre : List UInt8), x = .int .i64 (m : Int) ∧ u = .string (bs pre) ∧ i = .int .i64 (j : Int) ∧ j ≤ k ∧ m ≤ 9223372036854775807 ∧ Hid (pre.length = j) ∧ Hid (pre ++ Bt.fx (k - j) m = Bt.fx k n) ∧ Hid (Below w.heap.size w wr)) (fun _ _ i _ => k - (intOf i).toNat)
  case atStart => exact ⟨0, n, [], rfl, rfl, rfl, by omega, hn, Lib.hid rfl, Lib.hid (by simp), Lib.hid (Below.refl _ _)⟩
  case round =>
    obtain ⟨j, m, pre, rfl, rfl, rfl, hj, hm, HL, HP, HB⟩ := hrel
    by_cases hlt : j < k
    · have hb := (UInt8.ofNat m).toNat_lt
      have hmod : ((m : Int)).tmod 256 = ((m % 256 : Nat) : Int) := by rw [Int.tmod_eq_emod_of_nonneg (by omega)]; omega
      have hdiv : ((m : Int)).tdiv 256 = ((m / 256 : Nat) : Int) := by rw [Int.tdiv_eq_ediv_of_nonneg (by omega)]; omega
      have hdiv2 : ((m : Int)) / 256 = ((m / 256 : Nat) : Int) := by omega
      have hq : m / 256 ≤ 9223372036854775807 := by omega
      have hr : m % 256 < 256 := by omega
      have hfx : Bt.fx (k - j) m = UInt8.ofNat m :: Bt.fx (k - (j + 1)) (m / 256) := by
        rw [show k - j = (k - (j + 1)) + 1 by omega, Bt.fx]
      have hof : UInt8.ofNat m = UInt8.ofNat (m % 256) := (Bt.ofNat_mod m).symm
      have HP2 : Hid ((pre ++ [UInt8.ofNat (m % 256)]) ++ Bt.fx (k - (j + 1)) (m / 256) = Bt.fx k n) := Lib.hid (by
        have := HP.out
        rw [hfx, hof] at this
        simpa using this)
      clear hfx hof hb
      generalize m % 256 = r at *
      generalize m / 256 = q at *
      have e2 : IntKind.u8.wrap (r : Int) = (r : Int) := by rw [Bt.wrap_u8]; omega
      have hcv := run_string_one (UInt8.ofNat r) (r : Int) (Bt.ofNat_toNat (by omega)).symm
      have hps : (bs pre).size ≤ 4 := by rw [bs_size, HL.out]; omega
      have hz1 : (bs [UInt8.ofNat r]).size = 1 := rfl
      have HE : Hid (bs pre ++ bs [UInt8.ofNat r] = bs (pre ++ [UInt8.ofNat r])) := Lib.hid (bs_append _ _)
      generalize bs [UInt8.ofNat r] = cu at *
      generalize hpv : bs pre = pv' at *
      have HPV := Lib.hid hpv
      clear hpv
      go_wp2
      go_roundw
      case rel =>
        refine ⟨j + 1, q, pre ++ [UInt8.ofNat r], rfl, ?_, by go_num, by omega, by omega, Lib.hid (by rw [List.length_append, HL.out]; rfl), HP2, Lib.hid (HB.out.alloc HB.out.size _)⟩
        rw [HE.out]
      case measure => simp [intOf]; omega
    · obtain rfl : j = k := by omega
      have HE : Hid (bs pre = bs (Bt.fx j n)) := Lib.hid (by
        have := HP.out
        rw [Nat.sub_self, Bt.fx, List.append_nil] at this
        rw [this])
      go_wp2
      go_ret
      exact ⟨ret_str HE.out, HB.out⟩
end Go.Proofs.Ytnnogjojoeajnaa
