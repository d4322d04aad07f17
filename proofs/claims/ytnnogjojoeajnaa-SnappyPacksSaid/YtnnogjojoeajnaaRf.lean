/- The contracts of the document's Read, Uvarint, Varint, over the seat's own program. -/
import Derived.Test.YtnnogjojoeajnaaBi
import Derived.Lib.Strings
import Derived.Deep.RegionWith
import Derived.Deep.RegionHeld3
import Derived.Handy
namespace Go.Proofs.Ytnnogjojoeajnaa
open Go.RowKit
namespace Bt
open Go
/-- The document's step: what is added. -/
theorem ref_step (acc T k : Nat) (b : UInt8) (hT : T = 128 ^ k) (hk : k ≤ 9) (ha : acc < 128 ^ k) (h9 : ¬ (k = 9 ∧ 1 < b.toNat)) :
    IntKind.u64.wrap ((acc : Int) + IntKind.u64.wrap ((T : Int) * ((b.toNat : Int) % 128))) = ((acc + b.toNat % 128 * 128 ^ k : Nat) : Int) ∧ acc + b.toNat % 128 * 128 ^ k < 18446744073709551616 := by
  subst hT
  have e9 : (128 : Nat) ^ 9 = 9223372036854775808 := by decide
  have hs : acc + b.toNat % 128 * 128 ^ k < 18446744073709551616 := by
    rcases Nat.lt_or_ge k 9 with h | h
    · have := fits acc (b.toNat % 128) k (by omega) ha (by omega); omega
    · obtain rfl : k = 9 := by omega
      have hb : b.toNat ≤ 1 := by omega
      rw [e9] at ha ⊢; omega
  refine ⟨?_, hs⟩
  have e : ((128 ^ k : Nat) : Int) * ((b.toNat : Int) % 128) = ((b.toNat % 128 * 128 ^ k : Nat) : Int) := by
    rw [Nat.mul_comm, Int.natCast_mul]; rfl
  rw [e]
  simp only [IntKind.wrap_u64]
  omega
end Bt
set_option maxRecDepth 100000 in
set_option maxHeartbeats 1000000 in
theorem read_any (s : ByteArray) (w : World) (hs : s.size ≤ 140737488351232) (N C K : Nat) (hr : Bt.rd s.data.toList 0 0 = (N, C, K)) :
   Calls Try.prog 66 #[.string s] w fun e w' => e = .returned (.tuple #[.int .u64 N, .int .i64 C, .int .i64 K]) ∧ w = w' := by
  have HR := Lib.hid hr
  clear hr
  go_enter Try.func66, Try.ntmps66
  go_wp2
  go_loop [5, 6, 7] (fun n x h => ∃ (k acc T : Nat), k ≤ 9 ∧ k ≤ s.size ∧ Hid (acc < 128 ^ k) ∧ Hid (T = 128 ^ k) ∧ T ≤ 9223372036854775808 ∧ Hid (Bt.rd (s.data.toList.drop k) k acc = (N, C, K)) ∧ n = .int .u64 acc ∧ x = .int .u64 T ∧ h = .int .i64 k) (fun _ _ x => s.size - (intOf x).toNat)
  case atStart => exact ⟨0, 0, 1, by omega, by omega, Lib.hid (by simp), Lib.hid rfl, by omega, HR, rfl, rfl, rfl⟩
  case round =>
    obtain ⟨k, acc, T, hk, hs', HA, HT, hT, HK, rfl, rfl, rfl⟩ := hrel
    by_cases hlt : k < s.size
    · have hb := (s[k]).toNat_lt
      have HL : Hid (s.data.toList.drop k = s[k] :: s.data.toList.drop (k + 1)) := Bt.drop_cons (by simpa using hlt)
      by_cases h9 : k = 9 ∧ 1 < s[k].toNat
      · obtain ⟨rfl, hb1⟩ := h9
        go_wp2
        go_ret3
        have e := HK.out
        rw [HL.out, Bt.rd_form _ _ hb1] at e
        cases e
        exact ⟨ret_uv rfl rfl rfl, rfl⟩
      · have HS := Lib.hid (Bt.ref_step acc T k s[k] HT.out hk HA.out h9)
        have hg : ((((k : Int) == 9)) && decide ((1 : Int) < (s[k].toNat : Int))) = false := by
          rw [Bool.and_eq_false_iff, beq_eq_false_iff_ne, decide_eq_false_iff_not]
          omega
        by_cases h9' : k = 9
        · subst h9'
          have hb1 : s[9].toNat ≤ 1 := by omega
          have hb128 : s[9].toNat < 128 := by omega
          go_wp2
          go_ret3
          have e := HK.out
          rw [HL.out, Bt.rd_end _ _ _ (by omega) hb128] at e
          cases e
          refine ⟨ret_uv ?_ ?_ rfl, rfl⟩
          · have h := HS.out.1
            rw [Nat.mod_eq_of_lt hb128] at h
            rw [← h]
          · omega
        · have h9b : ((k : Int) == 9) = false := by rw [beq_eq_false_iff_ne]; omega
          by_cases hb128 : s[k].toNat < 128
          · go_wp2
            go_ret3
            have e := HK.out
            rw [HL.out, Bt.rd_end _ _ _ (by omega) hb128] at e
            cases e
            refine ⟨ret_uv ?_ ?_ rfl, rfl⟩
            · have h := HS.out.1
              rw [Nat.mod_eq_of_lt hb128] at h
              rw [← h]
            · omega
          · have hb4 : 128 ≤ s[k].toNat := by omega
            have h8 : k ≤ 8 := by omega
            have hT2 : T * 128 ≤ 9223372036854775808 := by
              have := Bt.pow9 (k := k + 1) (by omega)
              rw [HT.out, ← Nat.pow_succ]; exact this
            have HM : Hid (s[k].toNat % 128 = s[k].toNat - 128) := Lib.hid (by omega)
            have HF := Lib.hid (Bt.fits acc (s[k].toNat % 128) k h8 HA.out (by omega))
            have HE : Hid (Bt.rd (s.data.toList.drop (k + 1)) (k + 1) (acc + s[k].toNat % 128 * 128 ^ k) = (N, C, K)) := by
              have e := HK.out
              rw [HL.out, Bt.rd_more _ _ _ h9 hb4, ← HM.out] at e
              exact e
            go_wp2
            go_round
            case rel =>
              refine ⟨k + 1, acc + s[k].toNat % 128 * 128 ^ k, T * 128, by omega, by omega, HF.out.1, Lib.hid (by rw [HT.out, Nat.pow_succ]), hT2, HE, ?_, ?_, ?_⟩
              · rw [HS.out.1]
              · go_num
              · go_num
            case measure => simp [intOf]; omega
    · obtain rfl : k = s.size := by omega
      have e := HK.out
      rw [List.drop_eq_nil_of_le (by simp), Bt.rd_nil] at e
      cases e
      go_wp2
      go_ret3
      exact ⟨ret_uv rfl rfl rfl, rfl⟩
theorem drop_extract (s : ByteArray) (a : Nat) : (s.extract a s.size).data.toList = s.data.toList.drop a := by
  rw [Lib.extract_data, List.take_of_length_le (by simp)]
set_option maxRecDepth 100000 in
set_option maxHeartbeats 1000000 in
theorem ruvarint_ok (s : ByteArray) (at' : Nat) (w : World) (h1 : at' ≤ s.size) (hs : s.size ≤ 140737488351232) (N C X : Nat) (hr : Bt.rd (s.data.toList.drop at') 0 0 = (N, C, 0)) (hX : at' + C = X) (hC : C ≤ 10) :
   Calls Try.prog 47 #[.string s, .int .i64 at'] w fun e w' => e = .returned (.tuple #[.int .u64 N, .int .i64 X, .int .i64 0]) ∧ w = w' := by
  have C1 := fun w => Lib.hid (read_any (s.extract at' s.size) w (by simp; omega) N C 0 (by rw [drop_extract]; exact hr))
  have D1 := Lib.hid C1
  clear C1 hr
  have hg0 : decide ((at' : Int) < 0) = false := decide_eq_false (by omega)
  have hg1 : decide (s.size < at') = false := decide_eq_false (by omega)
  go_enter Try.func47, Try.ntmps47
  go_wp2_with fail
  refine (D1.out _).out.mono ?_
  rintro e w' ⟨rfl, rfl⟩
  go_wp2
  go_ret3
  exact ⟨ret_uv rfl (by omega) rfl, rfl⟩
set_option maxRecDepth 100000 in
set_option maxHeartbeats 1000000 in
theorem ruvarint_no (s : ByteArray) (at' : Nat) (w : World) (h1 : at' ≤ s.size) (hs : s.size ≤ 140737488351232) (K : Nat) (hK : (K : Int) ≠ 0) (hr : Bt.rd (s.data.toList.drop at') 0 0 = (0, 0, K)) :
   Calls Try.prog 47 #[.string s, .int .i64 at'] w fun e w' => e = .returned (.tuple #[.int .u64 0, .int .i64 0, .int .i64 K]) ∧ w = w' := by
  have C1 := fun w => Lib.hid (read_any (s.extract at' s.size) w (by simp; omega) 0 0 K (by rw [drop_extract]; exact hr))
  have D1 := Lib.hid C1
  clear C1 hr
  have hg0 : decide ((at' : Int) < 0) = false := decide_eq_false (by omega)
  have hg1 : decide (s.size < at') = false := decide_eq_false (by omega)
  have hk0 : ((K : Int) != 0) = true := by rw [bne_iff_ne]; exact hK
  go_enter Try.func47, Try.ntmps47
  go_wp2_with fail
  refine (D1.out _).out.mono ?_
  rintro e w' ⟨rfl, rfl⟩
  go_wp2
  go_ret3
  exact ⟨ret_uv rfl rfl rfl, rfl⟩
theorem bs_append (a b : List UInt8) : bs a ++ bs b = bs (a ++ b) := by
  apply ByteArray.ext; simp [bs]
/-- string(b) of one byte, wherever it lies. -/
theorem run_string_one (c : UInt8) (x : Int) (hx : x = (c.toNat : Int)) (W : World) (g : Nat) (h : W.cell? ⟨g, 0, none⟩ = some (.int .u8 x)) :
    Sem.run Try.prog (convert 28 9 (.slice (some ⟨g, 0, none⟩) 1 1)) W = .ok (.string (bs [c])) W := by
  refine run_convert_bytes_back W 28 9 5 ⟨g, 0, none⟩ 1 [c] Try.underlying28 Try.underlying5 Try.underlying9 (fun j hj => ?_)
  have : j = 0 := by simpa using hj
  subst this
  have hadd : (⟨g, 0, none⟩ : Addr).add 0 = ⟨g, 0, none⟩ := by unfold Addr.add; simp
  rw [hadd, h, hx]
  rfl
theorem finA {w w1 : World} {o : Obj} (hb : Below (w.alloc o).drew.heap.size (w.alloc o).drew w1) : Below w.heap.size w w1 :=
  (((Below.refl w.heap.size w).alloc (Nat.le_refl _) o).drew).trans (hb.mono (by simp))
theorem finC {w w1 : World} {o : Obj} (hb : Below w.drew.heap.size w.drew w1) : Below w.heap.size w (w1.alloc o) :=
  Below.alloc (a := w) (w := w1) ⟨hb.os, hb.tape, hb.output, hb.size, hb.block⟩ hb.size o
theorem ret_str {a b : ByteArray} (h : a = b) : Ending.returned (.string a) = .returned (.string b) := by rw [h]
set_option maxRecDepth 100000 in
set_option maxHeartbeats 1000000 in
theorem rvint_small (n : Nat) (w : World) (hn : n < 128) :
   Calls Try.prog 50 #[.int .u64 n] w fun e w' => e = .returned (.string (bs (Bt.vint n))) ∧ Below w.heap.size w w' := by
  have HV := Lib.hid (Bt.vint_small hn)
  have hcv := run_string_one (UInt8.ofNat n) n (Bt.ofNat_toNat (by omega)).symm
  go_enter Try.func50, Try.ntmps50
  go_wp2
  go_ret
  exact ⟨ret_str (by rw [HV.out]), (Below.refl _ _).alloc (Nat.le_refl _) _⟩
set_option maxRecDepth 100000 in
set_option maxHeartbeats 1000000 in
theorem rvint_any (k : Nat) : ∀ (n : Nat) (w : World), n < 128 ^ (k + 1) → n ≤ 18446744073709551615 →
   Calls Try.prog 50 #[.int .u64 n] w fun e w' => e = .returned (.string (bs (Bt.vint n))) ∧ Below w.heap.size w w' := by
  induction k with
  | zero =>
    intro n w hk hn
    exact rvint_small n w (by simpa using hk)
  | succ k ih =>
    intro n w hk hn
    have IH := Lib.hid ih
    clear ih
    by_cases h : n < 128
    · exact rvint_small n w h
    · have hg : 128 ≤ n := by omega
      have HV := Lib.hid (Bt.vint_big hg)
      have HK : Hid (n / 128 < 128 ^ (k + 1)) := by
        refine Lib.hid ?_
        rw [Nat.div_lt_iff_lt_mul (by omega)]; rw [Nat.pow_succ] at hk; exact hk
      clear hk
      have e1 : (n : Int).tmod 128 = ((n % 128 : Nat) : Int) := by rw [Int.tmod_eq_emod_of_nonneg (by omega)]; omega
      have e5 : (n : Int) / 128 = ((n / 128 : Nat) : Int) := by omega
      have hq : n / 128 ≤ 144115188075855871 := by omega
      have hm : n % 128 ≤ 127 := by omega
      generalize n % 128 = m at *
      generalize n / 128 = q at *
      have e2 : IntKind.u8.wrap (m : Int) = (m : Int) := by rw [Bt.wrap_u8]; omega
      have e3 : IntKind.u8.wrap ((m : Int) + 128) = (m : Int) + 128 := by rw [Bt.wrap_u8]; omega
      have e6 : IntKind.u64.wrap (q : Int) = (q : Int) := by rw [IntKind.wrap_u64]; omega
      have hcv := run_string_one (UInt8.ofNat (m + 128)) ((m : Int) + 128) (by rw [Bt.ofNat_toNat (by omega)]; omega)
      have hz1 : (bs [UInt8.ofNat (m + 128)]).size = 1 := rfl
      have hz2 : (bs (Bt.vint q)).size ≤ 10 := by rw [bs_size, Bt.vint_length]; exact Bt.vlen_u64 (by omega)
      have HE : Hid (bs [UInt8.ofNat (m + 128)] ++ bs (Bt.vint q) = bs (Bt.vint n)) := by rw [bs_append, HV.out]; rfl
      have C := fun w => IH.out q w HK.out (by omega)
      generalize bs [UInt8.ofNat (m + 128)] = u at *
      generalize bs (Bt.vint q) = t at *
      have D := Lib.hid C
      clear C HV
      go_enter Try.func50, Try.ntmps50
      go_wp2_with fail
      go_region_with (first | (go_at_call 50; refine (D.out _).mono ?_; rintro e w1 ⟨rfl, hb⟩; have hc := hb.cell (p := ⟨w.heap.size, 0, none⟩)))
      all_goals
        go_wp2
        go_ret
        first
          | exact ⟨ret_str HE.out, finA hb⟩
          | exact ⟨ret_str HE.out, finC hb⟩
theorem rvint (n : Nat) (w : World) (hn : n ≤ 18446744073709551615) :
   Calls Try.prog 50 #[.int .u64 n] w fun e w' => e = .returned (.string (bs (Bt.vint n))) ∧ Below w.heap.size w w' :=
  rvint_any 9 n w (by have e : (128 : Nat) ^ 10 = 1180591620717411303424 := by decide
                      omega) hn
end Go.Proofs.Ytnnogjojoeajnaa
