/- The contracts of 'is' and 'awake'. -/
import Derived.Test.YtnnogjojoeajnaaWq
namespace Go.Proofs.Ytnnogjojoeajnaa
open Go.RowKit
set_option maxRecDepth 100000 in
set_option maxHeartbeats 1000000 in
theorem is_any (t b : ByteArray) (ht : t.size ≤ 100) (hb : bs (blk (pk t.data.toList 0 0 []) t.data.toList) = b) (hbs : b.size ≤ 1000) (w : World) :
    Calls Try.prog 32 #[.string t, .string b] w fun e w' => e = .returned (.bool true) ∧ Below w.heap.size w w' := by
  have hl0 : t.data.toList.length = t.size := by simp
  have HE := fun w => Lib.hid (encode_any t w)
  have HD := fun w => Lib.hid (decode_any b (by omega) 100 (by omega) (by omega) w)
  have e1 : encode t.data.toList = (b.data.toList, 0) := by
    unfold encode
    rw [if_neg (by omega), ← hb]
    rfl
  have e2 : decode b.data.toList 100 = (t.data.toList, 0) := by
    rw [← hb, bs_data, decode_blk (pack_back (most := 65536) t.data.toList (by omega) (by omega)) (by omega), if_neg (by omega)]
  rw [e1] at HE
  rw [e2] at HD
  clear e1 e2 hb hbs hl0
  go_enter Try.func32, Try.ntmps32
  go_wp2_with fail
  refine (HE _).out.mono ?_
  rintro e w1 ⟨rfl, hb1⟩
  have HB1 := Lib.hid hb1
  clear hb1
  go_wp2_with fail
  refine (HD _).out.mono ?_
  rintro e w2 ⟨rfl, hb2⟩
  have HB2 := Lib.hid hb2
  clear hb2
  have e1 := bs_of b
  have e2 := bs_of t
  dsimp only
  rw [e1, e2]
  go_wp2
  go_ret
  exact ⟨rfl, HB1.out.trans (HB2.out.mono HB1.out.size)⟩
theorem vint_small' {n : Nat} (h : n < 128) : Bt.vint n = [UInt8.ofNat n] := Bt.vint_small h
theorem blk0 : bs (blk (pk (⟨#[]⟩ : ByteArray).data.toList 0 0 []) (⟨#[]⟩ : ByteArray).data.toList) = ⟨#[0]⟩ := by
  rw [pk_end _ _ _ _ (by decide), blk, vint_small' (by decide)]
  rfl
theorem blk1 : bs (blk (pk (⟨#[97, 98, 99]⟩ : ByteArray).data.toList 0 0 []) (⟨#[97, 98, 99]⟩ : ByteArray).data.toList) = ⟨#[3, 8, 97, 98, 99]⟩ := by
  rw [pk_lit _ _ _ _ (by decide) (by decide), pk_lit _ _ _ _ (by decide) (by decide), pk_lit _ _ _ _ (by decide) (by decide), pk_end _ _ _ _ (by decide), blk, vint_small' (by decide)]
  decide
theorem blk2 : bs (blk (pk (⟨#[97, 98, 99, 97, 98, 99, 97, 98, 99]⟩ : ByteArray).data.toList 0 0 []) (⟨#[97, 98, 99, 97, 98, 99, 97, 98, 99]⟩ : ByteArray).data.toList) = ⟨#[9, 8, 97, 98, 99, 9, 3]⟩ := by
  rw [pk_lit _ _ _ _ (by decide) (by decide), pk_lit _ _ _ _ (by decide) (by decide), pk_lit _ _ _ _ (by decide) (by decide), pk_copy _ _ _ _ (by decide) (by decide), pk_end _ _ _ _ (by decide), blk, vint_small' (by decide)]
  decide
theorem blk3 : bs (blk (pk (⟨#[97, 97, 97, 97, 97, 97, 97, 97, 97, 97]⟩ : ByteArray).data.toList 0 0 []) (⟨#[97, 97, 97, 97, 97, 97, 97, 97, 97, 97]⟩ : ByteArray).data.toList) = ⟨#[10, 0, 97, 21, 1]⟩ := by
  rw [pk_lit _ _ _ _ (by decide) (by decide), pk_copy _ _ _ _ (by decide) (by decide), pk_end _ _ _ _ (by decide), blk, vint_small' (by decide)]
  decide
theorem mat_ex : mat (⟨#[97, 98, 99, 97, 98, 99, 97, 98, 99]⟩ : ByteArray).data.toList 3 = (3, 6) := by decide
theorem dec_ex : decode (⟨#[5, 1, 1]⟩ : ByteArray).data.toList 100 = ([], 4) := by
  unfold decode
  rw [show (⟨#[5, 1, 1]⟩ : ByteArray).data.toList = Bt.vint 5 ++ [1, 1] from by rw [vint_small' (by decide)]; rfl, szs_blk (by omega)]
  dsimp only
  rw [if_neg (by simp), if_neg (by omega), drop_pre (Bt.vint_length _), its]
  decide
set_option maxRecDepth 100000 in
set_option maxHeartbeats 1000000 in
theorem awake_any (w : World) :
   Calls Try.prog 12 #[] w fun e w' => e = .returned (.bool true) ∧ Below w.heap.size w w' := by
  have C1 := fun w => Lib.hid (decode_any ⟨#[5, 1, 1]⟩ (by decide) 100 (by omega) (by omega) w)
  rw [dec_ex] at C1
  have C2 := fun w => Lib.hid (match_in ⟨#[97, 98, 99, 97, 98, 99, 97, 98, 99]⟩ (by decide) 3 (by decide) w)
  rw [mat_ex] at C2
  have D0 := fun w => Lib.hid (is_any ⟨#[]⟩ _ (by decide) blk0 (by decide) w)
  have D1 := fun w => Lib.hid (is_any ⟨#[97, 98, 99]⟩ _ (by decide) blk1 (by decide) w)
  have D2 := fun w => Lib.hid (is_any ⟨#[97, 98, 99, 97, 98, 99, 97, 98, 99]⟩ _ (by decide) blk2 (by decide) w)
  have D3 := fun w => Lib.hid (is_any ⟨#[97, 97, 97, 97, 97, 97, 97, 97, 97, 97]⟩ _ (by decide) blk3 (by decide) w)
  go_enter Try.func12, Try.ntmps12
  go_wp2_with fail
  refine (C1 _).out.mono ?_
  rintro e w1 ⟨rfl, hb1⟩
  have HB1 := Lib.hid hb1; clear hb1
  go_wp2_with fail
  refine (C2 _).out.mono ?_
  rintro e w2 ⟨rfl, hb2⟩
  have HB2 := Lib.hid hb2; clear hb2
  go_wp2_with fail
  refine (D0 _).out.mono ?_
  rintro e w3 ⟨rfl, hb3⟩
  have HB3 := Lib.hid hb3; clear hb3
  go_wp2_with fail
  refine (D1 _).out.mono ?_
  rintro e w4 ⟨rfl, hb4⟩
  have HB4 := Lib.hid hb4; clear hb4
  go_wp2_with fail
  refine (D2 _).out.mono ?_
  rintro e w5 ⟨rfl, hb5⟩
  have HB5 := Lib.hid hb5; clear hb5
  go_wp2_with fail
  refine (D3 _).out.mono ?_
  rintro e w6 ⟨rfl, hb6⟩
  have HB6 := Lib.hid hb6; clear hb6
  go_wp2
  go_ret
  have t2 := HB1.out.trans (HB2.out.mono HB1.out.size)
  have t3 := t2.trans (HB3.out.mono t2.size)
  have t4 := t3.trans (HB4.out.mono t3.size)
  have t5 := t4.trans (HB5.out.mono t4.size)
  have t6 := t5.trans (HB6.out.mono t5.size)
  exact ⟨rfl, t6⟩
end Go.Proofs.Ytnnogjojoeajnaa
