/- The document's Encode, Size. -/
import Derived.Test.YtpcpbdcdapmlnaaDoorJc
import Derived.Lib.QuietBelow
namespace Go.Proofs.YtpcpbdcdapmlnaaDoor
open Go Go.RowKit Go.Sort BigFrame
set_option maxRecDepth 100000
set_option maxHeartbeats 2000000 in
theorem rencode_in (g b s : Nat) (l : List Int) (v : Value) (w : World) (hk : KAt w v l) (hm : mayB ⟨g, b, s, l⟩ = true) :
    Calls Tryd.prog 22 #[hval ⟨g, b, s, l⟩ v] w (Ret w (.tuple #[.string (bs (enc ⟨g, b, s, l⟩)), .int .i64 0])) := by
  have ok := mayB_ok hm
  have hg := ok.g2
  have hb := ok.b2
  have hs := ok.s2
  have hl := ok.len
  have hmem := Lib.hid ok.mem
  dsimp only at hg hb hs hl
  have H := rmay_any ⟨g, b, s, l⟩ v (w.alloc (.cells #[.int .i64 (g : Int), .int .i64 (b : Int), .int .i64 (s : Int), v] 26)) (hk.below (below_one w _) (Nat.le_refl _)) (list_len_lt hl)
  rw [hm] at H
  have H := Lib.hid H
  have X0 := Lib.hid (Box4.new w (.int .i64 (g : Int)) (.int .i64 (b : Int)) (.int .i64 (s : Int)) v)
  have HK := Lib.hid hk
  have hp : 0 < l.length := List.length_pos_iff.2 ok.ne
  obtain ⟨G, o, c, rfl, hc⟩ := hk.pos ok.ne
  have hu1 : IntKind.u64.wrap (g : Int) = (g : Int) := by rw [IntKind.wrap_u64]; omega
  have hu2 : IntKind.u64.wrap (b : Int) = (b : Int) := by rw [IntKind.wrap_u64]; omega
  have hu3 : IntKind.u64.wrap (s : Int) = (s : Int) := by rw [IntKind.wrap_u64]; omega
  have hu4 : IntKind.u64.wrap (l.length : Int) = (l.length : Int) := by rw [IntKind.wrap_u64]; omega
  have lg := vint_len_le (n := g) (k := 5) (by omega)
  have lb := vint_len_le (n := b) (k := 5) (by omega)
  have ls := vint_len_le (n := s) (k := 0) (by omega)
  have ll := vint_len_le (n := l.length) (k := 0) (by omega)
  have HE : Hid (bs (enc ⟨g, b, s, l⟩) = (bs (Bt.vint g) ++ bs (Bt.vint b) ++ bs (Bt.vint s) ++ bs (Bt.vint l.length)) ++ bs (encL l)) := Lib.hid (by
    rw [bs_append, bs_append, bs_append, bs_append]
    congr 1
    show Bt.vint g ++ (Bt.vint b ++ (Bt.vint s ++ (Bt.vint l.length ++ encL l))) = _
    simp only [List.append_assoc])
  have HV := Lib.hid (fun (N : Nat) (h : N ≤ 18446744073709551615) W => rvint_any 9 N W (Nat.lt_of_le_of_lt h (by decide)) h)
  have C1 := HV.out g (by omega)
  have C2 := HV.out b (by omega)
  have C3 := HV.out s (by omega)
  have C4 := HV.out l.length (by omega)
  have z1 : (bs (Bt.vint g)).size ≤ 6 := by rw [bs_size]; exact lg
  have z2 : (bs (Bt.vint b)).size ≤ 6 := by rw [bs_size]; exact lb
  have z3 : (bs (Bt.vint s)).size ≤ 1 := by rw [bs_size]; exact ls
  have z4 : (bs (Bt.vint l.length)).size ≤ 1 := by rw [bs_size]; exact ll
  generalize bs (Bt.vint g) = S1 at *
  generalize bs (Bt.vint b) = S2 at *
  generalize bs (Bt.vint s) = S3 at *
  generalize bs (Bt.vint l.length) = S4 at *
  generalize bs (enc ⟨g, b, s, l⟩) = E at *
  have D1 := Lib.hid C1
  have D2 := Lib.hid C2
  have D3 := Lib.hid C3
  have D4 := Lib.hid C4
  clear hk ok hm lg lb ls ll C1 C2 C3 C4
  unfold hval at *
  dsimp only at *
  go_enter Tryd.func22, Tryd.ntmps22
  go_wp2_with fail
  refine H.out.mono ?_
  rintro e w1 ⟨rfl, hb1⟩
  have X1 := Lib.hid (X0.out.below hb1 (by simp))
  have HB1 := Lib.hid (below_trans' (below_one w _) hb1)
  clear hb1 X0 H
  go_wp2_with fail
  have k0 := fun d os => cell_regrown X1.out.c0 d os
  have k1 := fun d os => cell_regrown X1.out.c1 d os
  have k2 := fun d os => cell_regrown X1.out.c2 d os
  have k3 := fun d os => cell_regrown X1.out.c3 d os
  have F1 := Lib.hid (fun d os => Calls.regrown_of (D1.out (grow (redrawn w1 d) os)))
  have F2 := Lib.hid (fun d os => Calls.regrown_of (D2.out (grow (redrawn w1 d) os)))
  have F3 := Lib.hid (fun d os => Calls.regrown_of (D3.out (grow (redrawn w1 d) os)))
  have F4 := Lib.hid (fun d os => Calls.regrown_of (D4.out (grow (redrawn w1 d) os)))
  refine wp_region_quiet_below (by kernel_rfl) (by kernel_rfl) ?_
  iterate 3 (go_big_quiet_step (fail))
  go_big_quiet_step (first | (go_at_call 57; exact F1.out _ _))
  iterate 3 (go_big_quiet_step (fail))
  go_big_quiet_step (first | (go_at_call 57; exact F2.out _ _))
  iterate 4 (go_big_quiet_step (fail))
  go_big_quiet_step (first | (go_at_call 57; exact F3.out _ _))
  iterate 5 (go_big_quiet_step (fail))
  go_big_quiet_step (first | (go_at_call 57; exact F4.out _ _))
  iterate 2 (go_big_quiet_step (fail))
  refine wpQuiet_nil ?_
  intro W2 hw2
  have hb2 : Below w1.heap.size w1 W2 := by obtain ⟨q, rfl⟩ := hw2; exact below_regrown _ _ _
  have HB2 := Lib.hid (below_trans' HB1.out hb2)
  have X2 := Lib.hid (X1.out.below hb2 X1.out.lt)
  have hz : (S1 ++ S2 ++ S3 ++ S4).size ≤ 14 := by simp only [ByteArray.size_append]; omega
  generalize S1 ++ S2 ++ S3 ++ S4 = P at *
  clear hw2 hb2 k0 k1 k2 k3 F1 F2 F3 F4 D1 D2 D3 D4 hu1 hu2 hu3 hu4 z1 z2 z3 z4 X1 HB1
  go_wp2
  go_loopw [4, 5] (fun u i wl => ∃ (k : Nat) (S : ByteArray), i = .int .i64 (k : Int) ∧ u = .string S ∧ k ≤ l.length ∧ S.size ≤ 14 + k ∧ Hid (S = P ++ bs (encL (l.take k))) ∧ Hid (Box4 wl w.heap.size (.int .i64 (g : Int)) (.int .i64 (b : Int)) (.int .i64 (s : Int)) (.slice (some ⟨G, o, none⟩) l.length c)) ∧ Hid (Below w.heap.size w wl)) (fun _ i _ => l.length - (intOf i).toNat)
  case atStart => exact ⟨0, P, rfl, rfl, by omega, by omega, Lib.hid (by show P = P ++ ⟨#[]⟩; apply ByteArray.ext; rw [ByteArray.data_append]; simp), X2, HB2⟩
  case round =>
    obtain ⟨k, S, rfl, rfl, hk, hS, HS, HX, HB⟩ := hrel
    have a3 := HX.out.c3
    by_cases hlt : k < l.length
    · have hcell := (HK.out.below HB.out (Nat.le_refl _)).at k hlt
      have hkc : k < c := by omega
      have hm1 := hmem.out l[k] (List.getElem_mem hlt)
      obtain ⟨n, hn⟩ := Int.eq_ofNat_of_zero_le (show 0 ≤ l[k] by omega)
      have hen : encL (l.take (k + 1)) = encL (l.take k) ++ Bt.vint n := by rw [List.take_succ_eq_append_getElem hlt, encL_snoc, hn]; rfl
      have HN : Hid (P ++ bs (encL (l.take (k + 1))) = (P ++ bs (encL (l.take k))) ++ bs (Bt.vint n)) := Lib.hid (by rw [hen, ← bs_append, ByteArray.append_assoc])
      clear hen
      rw [hn] at hcell hm1
      have hu5 : IntKind.u64.wrap (n : Int) = (n : Int) := by rw [IntKind.wrap_u64]; omega
      have hT : (bs (Bt.vint n)).size ≤ 1 := by rw [bs_size]; exact vint_len_le (n := n) (k := 0) (by omega)
      have CN := Lib.hid (HV.out n (by omega) wr)
      generalize bs (Bt.vint n) = T at *
      go_wp2_with fail
      refine CN.out.mono ?_
      rintro e w6 ⟨rfl, hb⟩
      have HX6 := Lib.hid (HX.out.below hb HX.out.lt)
      have HB6 := Lib.hid (below_trans' HB.out hb)
      have hzz : (S ++ T).size ≤ 14 + (k + 1) := by rw [ByteArray.size_append]; omega
      have HS2 : Hid (S ++ T = P ++ bs (encL (l.take (k + 1)))) := Lib.hid (by rw [HN.out, ← HS.out])
      clear hb a3 hcell
      go_wp2
      go_roundw
      case rel => exact ⟨k + 1, S ++ T, by go_num, rfl, by omega, hzz, HS2, HX6, HB6⟩
      case measure => simp [intOf]; omega
    · have hall : l.take k = l := List.take_of_length_le (by omega)
      have HS2 : Hid (S = E) := Lib.hid (by rw [HS.out, hall, HE.out])
      clear hall
      go_wp2
      go_ret2
      exact ⟨by rw [HS2.out]; rfl, HB.out⟩
theorem rencode_ok (h : He) (v : Value) (w : World) (hk : KAt w v h.log) (hm : mayB h = true) : Calls Tryd.prog 22 #[hval h v] w (Ret w (.tuple #[.string (bs (enc h)), .int .i64 0])) := by
  obtain ⟨g, b, s, l⟩ := h
  have ok := mayB_ok hm
  have h1 := ok.g1; have h2 := ok.b1; have h3 := ok.s1
  dsimp only at h1 h2 h3
  obtain ⟨g, rfl⟩ := Int.eq_ofNat_of_zero_le (show 0 ≤ g by omega)
  obtain ⟨b, rfl⟩ := Int.eq_ofNat_of_zero_le h2
  obtain ⟨s, rfl⟩ := Int.eq_ofNat_of_zero_le h3
  exact rencode_in g b s l v w hk hm
set_option maxHeartbeats 400000 in
theorem rencode_no (h : He) (v : Value) (w : World) (hk : KAt w v h.log) (hl : h.log.length ≤ 9223372036854775807) (hm : mayB h = false) : Calls Tryd.prog 22 #[hval h v] w (Ret w (.tuple #[.string ⟨#[]⟩, .int .i64 4])) := by
  have H := rmay_any h v (w.alloc (.cells #[.int .i64 h.gen, .int .i64 h.base, .int .i64 h.snap, v] 26)) (hk.below (below_one w _) (Nat.le_refl _)) hl
  rw [hm] at H
  have H := Lib.hid H
  unfold hval at *
  clear hk hm
  go_enter Tryd.func22, Tryd.ntmps22
  go_wp2_with fail
  refine H.out.mono ?_
  rintro e w1 ⟨rfl, hb⟩
  have HB := Lib.hid (below_trans' (below_one w _) hb)
  clear hb
  go_wp2
  go_ret2
  exact ⟨rfl, HB.out⟩
theorem rencode_any (h : He) (v : Value) (w : World) (hk : KAt w v h.log) (hl : h.log.length ≤ 9223372036854775807) : Calls Tryd.prog 22 #[hval h v] w (Ret w (.tuple #[.string (encR h).1, .int .i64 ((encR h).2 : Int)])) := by
  unfold encR
  cases hm : mayB h
  · rw [if_neg (by simp)]; exact rencode_no h v w hk hl hm
  · rw [if_pos rfl]; exact rencode_ok h v w hk hm
set_option maxHeartbeats 400000 in
theorem rsize_any (h : He) (v : Value) (w : World) (hk : KAt w v h.log) (hl : h.log.length ≤ 9223372036854775807) : Calls Tryd.prog 26 #[hval h v] w (Ret w (.int .i64 (sizR h : Int))) := by
  have H := Lib.hid (rencode_any h v (w.alloc (.cells #[.int .i64 h.gen, .int .i64 h.base, .int .i64 h.snap, v] 26)) (hk.below (below_one w _) (Nat.le_refl _)) hl)
  cases hm : mayB h
  · have e1 : encR h = (⟨#[]⟩, 4) := by unfold encR; rw [hm]; rfl
    have e2 : sizR h = 0 := by unfold sizR; rw [hm]; rfl
    rw [e1] at H
    rw [e2]
    clear e1 e2 hk hm
    unfold hval at *
    go_enter Tryd.func26, Tryd.ntmps26
    go_wp2_with fail
    refine H.out.mono ?_
    rintro e w1 ⟨rfl, hb⟩
    have HB := Lib.hid (below_trans' (below_one w _) hb)
    clear hb
    go_wp2
    go_ret
    exact ⟨rfl, HB.out⟩
  · have e1 : encR h = (bs (enc h), 0) := by unfold encR; rw [hm]; rfl
    have e2 : sizR h = 9 + (bs (enc h)).size := by unfold sizR; rw [hm, bs_size]; rfl
    have e3 : (bs (enc h)).size ≤ 44 := by rw [bs_size]; exact enc_len (mayB_ok hm)
    rw [e1] at H
    rw [e2]
    clear e1 e2 hk hm
    generalize bs (enc h) = E at *
    unfold hval at *
    go_enter Tryd.func26, Tryd.ntmps26
    go_wp2_with fail
    refine H.out.mono ?_
    rintro e w1 ⟨rfl, hb⟩
    have HB := Lib.hid (below_trans' (below_one w _) hb)
    clear hb
    go_wp2
    go_ret
    exact ⟨by first | rfl | (simp; done), HB.out⟩
end Go.Proofs.YtpcpbdcdapmlnaaDoor
