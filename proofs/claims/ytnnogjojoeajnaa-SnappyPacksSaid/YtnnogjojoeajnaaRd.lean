/- The contract of the document's Decode. -/
import Derived.Test.YtnnogjojoeajnaaRc
namespace Go.Proofs.Ytnnogjojoeajnaa
open Go.RowKit
theorem bs_nil (b : List UInt8) : bs b ++ (⟨#[]⟩ : ByteArray) = bs b := by
  apply ByteArray.ext
  simp [bs]
theorem bs_bytes (b : List UInt8) (t : ByteArray) : bs b ++ t = bs (b ++ t.data.toList) := by
  have := bs_append b t.data.toList
  rw [bs_of] at this
  exact this
theorem bs_one (b : List UInt8) (k : Nat) (hk : k < b.length) : bs b ++ (bs b).extract k (k + 1) = bs (b ++ [b.getD k 0]) := by
  rw [extract_bs, bs_data, show k + 1 - k = 1 by omega, bs_append, List.drop_eq_getElem_cons hk, List.take_succ_cons, List.take_zero, List.getD_eq_getElem?_getD, List.getElem?_eq_getElem hk]
  rfl
/-- What an element's part is like. -/
structure Like (p : Pt) (n : Nat) : Prop where
  lit : p.c = false → p.l = 0 ∧ p.t.size ≤ n
  copy : p.c = true → p.t = ⟨#[]⟩ ∧ 0 ≤ p.l ∧ p.l ≤ 64 ∧ 0 ≤ p.o ∧ p.o ≤ 4294967295
theorem lit_like {r : List UInt8} {K n : Nat} {p : Pt} {k : Nat} (h : lit r K n = (p, k, true)) : Like p r.length := by
  unfold lit at h
  split at h
  · simp only [Prod.mk.injEq, and_true] at h
    rw [← h.1]
    exact ⟨fun _ => ⟨rfl, by rw [bs_size, List.length_take, List.length_drop]; omega⟩, fun e => by cases e⟩
  · simp at h
theorem cpy_like {r : List UInt8} {l o k k' n : Nat} {p : Pt} (h : cpy r l o k = (p, k', true)) (hl : l ≤ 64) (ho : o ≤ 4294967295) : Like p n := by
  unfold cpy at h
  simp only [Prod.mk.injEq] at h
  rw [← h.1]
  exact ⟨fun e => (by cases e), fun _ => ⟨rfl, by show (0 : Int) ≤ (l : Int); omega, by show (l : Int) ≤ 64; omega, by show (0 : Int) ≤ (o : Int); omega, by show (o : Int) ≤ _; omega⟩⟩
theorem el_like {c : UInt8} {r : List UInt8} {p : Pt} {k : Nat} (h : el c r = (p, k, true)) : Like p r.length := by
  have hc := c.toNat_lt
  unfold el at h
  split at h
  · split at h
    · exact lit_like h
    · split at h
      · exact lit_like h
      · simp at h
  · split at h
    · refine cpy_like h (by omega) ?_
      have := low_lt (r.take 1)
      have h2 : (256 : Nat) ^ (r.take 1).length ≤ 256 ^ 1 := Nat.pow_le_pow_right (by omega) (by rw [List.length_take]; omega)
      omega
    · split at h
      · refine cpy_like h (by omega) ?_
        have := low_lt (r.take 2)
        have h2 : (256 : Nat) ^ (r.take 2).length ≤ 256 ^ 2 := Nat.pow_le_pow_right (by omega) (by rw [List.length_take]; omega)
        omega
      · refine cpy_like h (by omega) ?_
        have := low_lt (r.take 4)
        have h2 : (256 : Nat) ^ (r.take 4).length ≤ 256 ^ 4 := Nat.pow_le_pow_right (by omega) (by rw [List.length_take]; omega)
        have e4 : (256 : Nat) ^ 4 = 4294967296 := by decide
        omega
set_option maxRecDepth 100000 in
set_option maxHeartbeats 4000000 in
theorem rdecode_walk (s : ByteArray) (hs : s.size ≤ 1000000) (most : Int) (N C : Nat) (hz : szs s.data.toList = (N, C, 0)) (hN : N < 1000000) (hm : (N : Int) ≤ most) (hm2 : most ≤ 9223372036854775807) (w : World) :
    Calls Try.prog 21 #[.string s, .int .i64 most] w (Told w (dcd N (its (s.data.toList.drop C)) [])) := by
  have hl0 : s.data.toList.length = s.size := by simp
  have HS := Lib.hid (fun W => rsize_any s (by omega) W)
  rw [hz] at HS
  dsimp only at HS
  obtain ⟨hrd, hC⟩ := szs_ok hz
  have hC2 : C ≤ s.size := by omega
  have hC10 : C ≤ 10 := by
    have hf := Bt.rd_facts s.data.toList 0 0 (by omega) (by simp)
    rw [hrd] at hf
    exact (hf.2.1 rfl).2.1
  have HU := Lib.hid (fun W => ruvarint_ok s 0 W (by omega) (by omega) N C C (by simpa using hrd) (by omega) hC10)
  have HEL := Lib.hid (fun (t : ByteArray) c r (h : t.data.toList = c :: r) (ht : t.size ≤ 1000000) W => relem_any t c r h ht W)
  have hN1 : (N : Int) ≤ 1000000 := by omega
  have hm0 : 0 ≤ most := by omega
  have hwm : IntKind.u64.wrap most = most := by rw [IntKind.wrap_u64]; omega
  clear hz hrd hC
  have HL0 := Lib.hid hl0
  clear hl0
  go_enter Try.func21, Try.ntmps21
  go_wp2_with (first | (go_at_call 20; refine (HS.out _).mono ?_; rintro e w' ⟨rfl, rfl⟩) | (go_at_call 47; refine (HU.out _).mono ?_; rintro e w' ⟨rfl, rfl⟩))
  go_loopw [9, 11] (fun x u wr => ∃ (A : Nat) (b : List UInt8), x = .int .i64 (A : Int) ∧ A ≤ s.size ∧ u = .string (bs b) ∧ Hid (b.length ≤ N) ∧ Hid (dcd N (its (s.data.toList.drop A)) b = dcd N (its (s.data.toList.drop C)) []) ∧ Hid (Below w.heap.size w wr)) (fun x _ _ => s.size - (intOf x).toNat)
  case atStart => exact ⟨C, [], rfl, by omega, rfl, Lib.hid (Nat.zero_le _), Lib.hid rfl, Lib.hid (Below.refl _ _)⟩
  case round =>
    obtain ⟨A, b, rfl, hA, rfl, HBL, HR, HB⟩ := hrel
    have hbs : (bs b).size = b.length := rfl
    have hbN : b.length ≤ N := HBL.out
    by_cases hlt : A < s.size
    · obtain ⟨c, r, hc, hd, hdr⟩ := drop_cons' hlt
      have hti : (s.extract A s.size).size ≤ 1000000 := by simp; omega
      have HE := Lib.hid (fun W => HEL.out _ c r hc hti W)
      obtain ⟨p, k, ok, he⟩ : ∃ p k ok, el c r = (p, k, ok) := ⟨_, _, _, rfl⟩
      rw [he] at HE
      have hrun := HR.out
      rw [hd] at hrun
      have hrl : r.length + A + 1 = s.size := by
        have := congrArg List.length hd
        rw [List.length_drop, HL0.out, List.length_cons] at this
        omega
      cases ok with
      | false =>
        rw [its_no he, dcd, if_pos (by decide)] at hrun
        have HRN := Lib.hid hrun
        unfold relem at HE
        simp only [Bool.false_eq_true, if_false, pv, pt0] at HE
        clear hrun hc hd hdr he hti
        go_wp2_with (go_at_call 48; refine (HE.out _).mono ?_; rintro e w5 ⟨rfl, hb5⟩; have HB5 := Lib.hid hb5; clear hb5)
        go_ret2
        rw [← HRN.out]
        have h5 := HB.out.trans (HB5.out.mono HB.out.size)
        exact ⟨rfl, h5.alloc h5.size _⟩
      | true =>
        have hk := el_fits he
        have hlike := el_like he
        rw [its_ok he, dcd, if_neg (by simp), hdr] at hrun
        have HRN := Lib.hid hrun
        unfold relem at HE
        simp only [if_true, pv] at HE
        clear hrun hc hd hdr he hti
        obtain ⟨pc, pt, po, pl⟩ := p
        dsimp only at HE
        have hAk : (A : Int) + ((k + 1 : Nat) : Int) = ((A + (k + 1) : Nat) : Int) := by omega
        obtain ⟨V, hV⟩ : ∃ V, A + (k + 1) = V := ⟨_, rfl⟩
        obtain ⟨K1, hK1⟩ : ∃ K1, k + 1 = K1 := ⟨_, rfl⟩
        rw [hV] at HRN hAk
        rw [hK1] at HE hAk
        have hk0 : ¬ ((K1 : Int) < 0) := by omega
        have hVs : V ≤ s.size := by omega
        have hK1s : K1 ≤ s.size := by omega
        have hAV : A < V := by omega
        have hrs : r.length ≤ 1000000 := by omega
        have HV := Lib.hid hV
        have HK1 := Lib.hid hK1
        clear hV hK1 hk hrl
        cases pc with
        | false =>
          obtain ⟨l1, l2⟩ := hlike.lit rfl
          dsimp only at l1 l2
          subst l1
          have hps : pt.size ≤ 1000000 := by omega
          have HG : Hid (gro b ⟨false, pt, po, 0⟩ = b ++ pt.data.toList) := Lib.hid rfl
          have HC1 : Hid (cnt ⟨false, pt, po, 0⟩ = (pt.size : Int)) := Lib.hid rfl
          have HH1 : Hid (here ⟨false, pt, po, 0⟩ b.length = true) := Lib.hid rfl
          clear hlike l2
          by_cases hbig : (N : Int) < (b.length : Int) + (pt.size : Int)
          · have HR2 : Hid (([], (4 : Int)) = dcd N (its (s.data.toList.drop C)) []) := Lib.hid (by
              have := HRN.out
              rw [HH1.out, HC1.out, decide_eq_true hbig] at this
              exact this)
            have wsum : IntKind.u64.wrap ((b.length : Int) + (pt.size : Int)) = (b.length : Int) + (pt.size : Int) := by rw [IntKind.wrap_u64]; omega
            go_wp2_with (go_at_call 48; refine (HE.out _).mono ?_; rintro e w5 ⟨rfl, hb5⟩; have HB5 := Lib.hid (HB.out.trans (hb5.mono HB.out.size)); clear hb5)
            go_ret2
            rw [← HR2.out]
            exact ⟨rfl, HB5.out.alloc HB5.out.size _⟩
          · have HR2 : Hid (dcd N (its (s.data.toList.drop V)) (b ++ pt.data.toList) = dcd N (its (s.data.toList.drop C)) []) := Lib.hid (by
              have := HRN.out
              rw [HH1.out, HC1.out, decide_eq_false hbig, HG.out] at this
              exact this)
            have wsum : IntKind.u64.wrap ((b.length : Int) + (pt.size : Int)) = (b.length : Int) + (pt.size : Int) := by rw [IntKind.wrap_u64]; omega
            have HE2 : Hid (bs b ++ pt = bs (b ++ pt.data.toList)) := Lib.hid (bs_bytes b pt)
            have HLE : Hid ((b ++ pt.data.toList).length ≤ N) := Lib.hid (by
              have : pt.data.toList.length = pt.size := by simp
              rw [List.length_append]
              omega)
            go_wp2_with (go_at_call 48; refine (HE.out _).mono ?_; rintro e w5 ⟨rfl, hb5⟩; have HB5 := Lib.hid (HB.out.trans (hb5.mono HB.out.size)); clear hb5)
            go_loopw [11, 14] (fun u i wr2 => u = .string (bs b ++ pt) ∧ i = .int .i64 0 ∧ w5.alloc (.cells #[.bool false, .string pt, .int .i64 po, .int .i64 0] 76) = wr2) (fun _ _ _ => 0)
            case atStart => exact ⟨rfl, rfl, rfl⟩
            case round =>
              obtain ⟨rfl, rfl, rfl⟩ := hrel
              go_wp2
              go_roundw
              case rel => exact ⟨V, b ++ pt.data.toList, by go_num, by omega, by rw [HE2.out], HLE, HR2, Lib.hid (HB5.out.alloc HB5.out.size _)⟩
              case measure => simp [intOf]; omega
        | true =>
          obtain ⟨l1, l2, l3, l4, l5⟩ := hlike.copy rfl
          dsimp only at l1 l2 l3 l4 l5
          subst l1
          obtain ⟨o, rfl⟩ := Int.eq_ofNat_of_zero_le l4
          obtain ⟨n, rfl⟩ := Int.eq_ofNat_of_zero_le l2
          have hn64 : n ≤ 64 := by omega
          have HG : Hid (gro b ⟨true, ⟨#[]⟩, o, n⟩ = rep b o n) := Lib.hid (by
            unfold gro
            rw [if_pos rfl, Int.toNat_natCast, Int.toNat_natCast])
          have HC1 : Hid (cnt ⟨true, ⟨#[]⟩, o, n⟩ = (n : Int)) := Lib.hid rfl
          have hsz0 : (⟨#[]⟩ : ByteArray).size = 0 := rfl
          clear hlike l2 l3 l4
          by_cases hh : 1 ≤ o ∧ o ≤ b.length
          · have HH1 : Hid (here ⟨true, ⟨#[]⟩, o, n⟩ b.length = true) := Lib.hid (by
              unfold here
              simp
              omega)
            have ho1 : ¬ ((o : Int) < 1) := by omega
            have ho2 : ¬ ((b.length : Int) < (o : Int)) := by omega
            have wsum : IntKind.u64.wrap ((b.length : Int) + (n : Int)) = (b.length : Int) + (n : Int) := by rw [IntKind.wrap_u64]; omega
            by_cases hbig : (N : Int) < (b.length : Int) + (n : Int)
            · have HR2 : Hid (([], (4 : Int)) = dcd N (its (s.data.toList.drop C)) []) := Lib.hid (by
                have := HRN.out
                rw [HH1.out, HC1.out, decide_eq_true hbig] at this
                exact this)
              go_wp2_with (go_at_call 48; refine (HE.out _).mono ?_; rintro e w5 ⟨rfl, hb5⟩; have HB5 := Lib.hid (HB.out.trans (hb5.mono HB.out.size)); clear hb5)
              go_ret2
              rw [← HR2.out]
              exact ⟨rfl, HB5.out.alloc HB5.out.size _⟩
            · have HR2 : Hid (dcd N (its (s.data.toList.drop V)) (rep b o n) = dcd N (its (s.data.toList.drop C)) []) := Lib.hid (by
                have := HRN.out
                rw [HH1.out, HC1.out, decide_eq_false hbig, HG.out] at this
                exact this)
              have hnil := bs_nil b
              have hbn : b.length + n ≤ N := by omega
              go_wp2_with (go_at_call 48; refine (HE.out _).mono ?_; rintro e w5 ⟨rfl, hb5⟩; have HB5 := Lib.hid (HB.out.trans (hb5.mono HB.out.size)); clear hb5)
              go_loopw [11, 14, 15] (fun u i _ wr2 => ∃ (j m : Nat) (ys : List UInt8), u = .string (bs ys) ∧ i = .int .i64 (j : Int) ∧ j + m = n ∧ Hid (rep ys o m = rep b o n) ∧ Hid (ys.length = b.length + j) ∧ w5.alloc (.cells #[.bool true, .string ⟨#[]⟩, .int .i64 (o : Int), .int .i64 (n : Int)] 76) = wr2) (fun _ i _ _ => n - (intOf i).toNat)
              case atStart => exact ⟨0, n, b, rfl, rfl, by omega, Lib.hid rfl, Lib.hid rfl, rfl⟩
              case round =>
                obtain ⟨j, m, ys, rfl, rfl, hjm, HRP, HYL, rfl⟩ := hrel
                have hys : (bs ys).size = ys.length := rfl
                have hyl := HYL.out
                cases m with
                | zero =>
                  obtain rfl : j = n := by omega
                  have HY : Hid (ys = rep b o j) := Lib.hid HRP.out
                  have HLE : Hid ((rep b o j).length ≤ N) := Lib.hid (by rw [rep_length]; omega)
                  clear hyl hys
                  go_wp2
                  go_roundw
                  case rel => exact ⟨V, rep b o j, by go_num, by omega, by rw [HY.out], HLE, HR2, Lib.hid (HB5.out.alloc HB5.out.size _)⟩
                  case measure => simp [intOf]; omega
                | succ m =>
                  have hlt2 : j < n := by omega
                  obtain ⟨J, hJ⟩ : ∃ J, J + o = ys.length := ⟨ys.length - o, by omega⟩
                  have hJi : (ys.length : Int) - (o : Int) = (J : Int) := by omega
                  have hJl : J < ys.length := by omega
                  have hJs : J + 1 ≤ ys.length := by omega
                  have hyN : ys.length ≤ 1000000 := by omega
                  have HE2 : Hid (bs ys ++ (bs ys).extract J (J + 1) = bs (ys ++ [ys.getD J 0])) := Lib.hid (bs_one ys J hJl)
                  have HRP2 : Hid (rep (ys ++ [ys.getD J 0]) o m = rep b o n) := Lib.hid (by
                    have := HRP.out
                    rw [rep, show ys.length - o = J by omega] at this
                    exact this)
                  have hex : ((bs ys).extract J (J + 1)).size = 1 := by simp [hys]; omega
                  have HJ := Lib.hid hJ
                  clear hJ hyl
                  go_wp2
                  go_roundw
                  case rel => exact ⟨j + 1, m, ys ++ [ys.getD J 0], by rw [HE2.out], by go_num, by omega, HRP2, Lib.hid (by rw [List.length_append, HYL.out]; rfl), trivial⟩
                  case measure => simp [intOf]; omega
          · have HR2 : Hid (([], (4 : Int)) = dcd N (its (s.data.toList.drop C)) []) := Lib.hid (by
              have := HRN.out
              have hf : here ⟨true, ⟨#[]⟩, o, n⟩ b.length = false := by
                unfold here
                simp
                omega
              rw [hf] at this
              exact this)
            by_cases ho1 : o < 1
            · have ho1i : (o : Int) < 1 := by omega
              go_wp2_with (go_at_call 48; refine (HE.out _).mono ?_; rintro e w5 ⟨rfl, hb5⟩; have HB5 := Lib.hid (HB.out.trans (hb5.mono HB.out.size)); clear hb5)
              go_ret2
              rw [← HR2.out]
              exact ⟨rfl, HB5.out.alloc HB5.out.size _⟩
            · have ho1i : 1 ≤ (o : Int) := by omega
              have ho2i : (b.length : Int) < (o : Int) := by omega
              go_wp2_with (go_at_call 48; refine (HE.out _).mono ?_; rintro e w5 ⟨rfl, hb5⟩; have HB5 := Lib.hid (HB.out.trans (hb5.mono HB.out.size)); clear hb5)
              go_ret2
              rw [← HR2.out]
              exact ⟨rfl, HB5.out.alloc HB5.out.size _⟩
    · obtain rfl : A = s.size := by omega
      have hrun := HR.out
      rw [List.drop_of_length_le (by have := HL0.out; omega), its, dcd] at hrun
      have HRN := Lib.hid hrun
      clear hrun
      by_cases hsh : b.length < N
      · have hshi : (b.length : Int) < (N : Int) := by omega
        go_wp2
        go_ret2
        have e := HRN.out
        rw [if_pos hsh] at e
        rw [← e]
        exact ⟨rfl, HB.out⟩
      · have hshi : (N : Int) ≤ (b.length : Int) := by omega
        go_wp2
        go_ret2
        have e := HRN.out
        rw [if_neg hsh] at e
        rw [← e]
        exact ⟨rfl, HB.out⟩
set_option maxRecDepth 100000 in
set_option maxHeartbeats 1000000 in
theorem rdecode_any (s : ByteArray) (hs : s.size ≤ 1000000) (most : Int) (hm1 : -9223372036854775808 ≤ most) (hm2 : most < 1000000) (w : World) :
    Calls Try.prog 21 #[.string s, .int .i64 most] w (Told w (decode s.data.toList most)) := by
  unfold decode
  obtain ⟨N, C, K, hz⟩ : ∃ N C K, szs s.data.toList = (N, C, K) := ⟨_, _, _, rfl⟩
  have HS := Lib.hid (fun W => rsize_any s (by omega) W)
  rw [hz] at HS ⊢
  dsimp only at HS ⊢
  by_cases hK : K = 0
  · subst hK
    rw [if_neg (by simp)]
    have hN : N < 4294967296 := szs_lt hz
    by_cases hm : most < 0 ∨ most < (N : Int)
    · rw [if_pos hm]
      have hN1 : (N : Int) < 4294967296 := by omega
      have hN0 : 0 ≤ (N : Int) := by omega
      clear hN hz
      generalize (N : Int) = M at *
      have key : most < 0 ∨ (0 ≤ most ∧ most < M) := by omega
      clear hm
      rcases key with hm | ⟨hm, hm'⟩
      · go_enter Try.func21, Try.ntmps21
        go_wp2_with (go_at_call 20; refine (HS.out _).mono ?_; rintro e w' ⟨rfl, rfl⟩)
        go_ret2
        exact ⟨rfl, Below.refl _ _⟩
      · have hwm : IntKind.u64.wrap most = most := by rw [IntKind.wrap_u64]; omega
        go_enter Try.func21, Try.ntmps21
        go_wp2_with (go_at_call 20; refine (HS.out _).mono ?_; rintro e w' ⟨rfl, rfl⟩)
        go_ret2
        exact ⟨rfl, Below.refl _ _⟩
    · rw [if_neg hm]
      exact rdecode_walk s hs most N C hz (by omega) (by omega) (by omega) w
  · rw [if_pos hK]
    have hK1 : ((K : Int) != 0) = true := by rw [bne_iff_ne]; omega
    have hN := szs_no hz hK
    clear hz hK hN
    generalize (N : Int) = M at *
    generalize (K : Int) = k at *
    go_enter Try.func21, Try.ntmps21
    go_wp2_with (go_at_call 20; refine (HS.out _).mono ?_; rintro e w' ⟨rfl, rfl⟩)
    go_ret2
    exact ⟨rfl, Below.refl _ _⟩
end Go.Proofs.Ytnnogjojoeajnaa
