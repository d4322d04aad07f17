/- Encode of a head that may be. -/
import Derived.Test.YtieemdcoomilaaaGreatDoorHb
import Derived.Deep.RegionHeld3
import Derived.Deep.RegionLaw
set_option linter.unusedVariables false
set_option linter.unusedSimpArgs false
namespace Go.Proofs.YtieemdcoomilaaaGreatDoor
open Go Go.RowKit
set_option maxRecDepth 100000
theorem list_len_lt {l : List Int} (h : l.length ≤ 30) : l.length ≤ 9223372036854775807 := by omega
/-- What goes from put to put. -/
structure Eb (w W : World) (x y z u v : Value) (l : List UInt8) : Prop where
  X : Box4 W w.heap.size x y z u
  B : Below w.heap.size w W
  O : Own W (w.heap.size + 1) v (l.map bv)
  Z : w.heap.size + 1 ≤ W.heap.size
theorem Eb.put {w W W' : World} {x y z u v v' : Value} {l l' : List UInt8} (h : Eb w W x y z u v l) (hO : Own W' (w.heap.size + 1) v' (l'.map bv)) (hS : Step W W' v v') : Eb w W' x y z u v' l' :=
  ⟨h.X.kept hS.grown (fun e => by have := (h.O.lt _ e.symm).1; omega), h.B.trans (hS.below h.B.size (fun k hk => by have := (h.O.lt k hk).1; omega)), hO, Nat.le_trans h.Z hS.grown.size⟩
set_option maxHeartbeats 2000000 in
theorem encode_in (g b s : Nat) (l : List Int) (v : Value) (w : World) (hk : KAt w v l) (hm : mayB ⟨g, b, s, l⟩ = true) :
    Calls Tryz.prog 119 #[hval ⟨g, b, s, l⟩ v] w (Ret w (.tuple #[.string (bs (enc ⟨g, b, s, l⟩)), .int .i64 0])) := by
  have ok := mayB_ok hm
  have hg := ok.g2
  have hb := ok.b2
  have hs := ok.s2
  have hl := ok.len
  have hmem := Lib.hid ok.mem
  dsimp only at hg hb hs hl
  have H := may_any ⟨g, b, s, l⟩ v (w.alloc (.cells #[.int .i64 (g : Int), .int .i64 (b : Int), .int .i64 (s : Int), v] 40)) (hk.below (below_one w _) (Nat.le_refl _)) (list_len_lt hl)
  rw [hm] at H
  have H := Lib.hid H
  have X0 := Lib.hid (Box4.new w (.int .i64 (g : Int)) (.int .i64 (b : Int)) (.int .i64 (s : Int)) v)
  have HK := Lib.hid hk
  have hp : 0 < l.length := List.length_pos_iff.2 ok.ne
  obtain ⟨G, o, c, rfl, hc⟩ := hk.pos ok.ne
  have hu1 : IntKind.u64.wrap (g : Int) = (g : Int) := by rw [IntKind.wrap_u64]; omega
  have hu2 : IntKind.u64.wrap (b : Int) = (b : Int) := by rw [IntKind.wrap_u64]; omega
  have hu3 : IntKind.u64.wrap (s : Int) = (s : Int) := by rw [IntKind.wrap_u64]; omega
  have hu4 : IntKind.u64.wrap (l.length : Int) = (l.length : Int) := by rw [IntKind.wrap_u64]; omega
  have lg := vint_len_le (n := g) (k := 5) (by omega)
  have lb := vint_len_le (n := b) (k := 5) (by omega)
  have ls := vint_len_le (n := s) (k := 0) (by omega)
  have ll := vint_len_le (n := l.length) (k := 0) (by omega)
  have HE : Hid (enc ⟨g, b, s, l⟩ = Bt.vint g ++ (Bt.vint b ++ (Bt.vint s ++ (Bt.vint l.length ++ encL l)))) := Lib.hid rfl
  generalize enc ⟨g, b, s, l⟩ = E at *
  clear hk ok hm
  unfold hval at *
  dsimp only at *
  go_enter Tryz.func119, Tryz.ntmps119
  go_wp2_with fail
  refine H.out.mono ?_
  rintro e w1 ⟨rfl, hb1⟩
  have X1 := Lib.hid (X0.out.below hb1 (by simp))
  have HB1 := Lib.hid (below_trans' (below_one w _) hb1)
  have hz1 : Hid (w.heap.size + 1 ≤ w1.heap.size) := Lib.hid (by have := hb1.size; simpa using this)
  clear hb1 X0 H
  have a0 := X1.out.c0; have a1 := X1.out.c1; have a2 := X1.out.c2; have a3 := X1.out.c3
  have E1 : Hid (Eb w w1 _ _ _ _ (.slice none 0 0) []) := Lib.hid ⟨X1.out, HB1.out, Own.nil _ _, hz1.out⟩
  clear X1 HB1 hz1
  go_wp2_with fail
  refine (put_own g (by omega) (w.heap.size + 1) _ ([]) _ E1.out.O E1.out.Z ?_).mono ?_
  · simp only [List.length_append, List.length_nil]; omega
  rintro e w2 ⟨v2, rfl, hO, hS⟩
  have E2 : Hid (Eb w w2 _ _ _ _ v2 ([] ++ Bt.vint g)) := Lib.hid (E1.out.put hO hS)
  clear hO hS a0 a1 a2 a3 E1
  have a0 := E2.out.X.c0; have a1 := E2.out.X.c1; have a2 := E2.out.X.c2; have a3 := E2.out.X.c3
  go_wp2_with fail
  refine (put_own b (by omega) (w.heap.size + 1) _ ([] ++ Bt.vint g) _ E2.out.O E2.out.Z ?_).mono ?_
  · simp only [List.length_append, List.length_nil]; omega
  rintro e w3 ⟨v3, rfl, hO, hS⟩
  have E3 : Hid (Eb w w3 _ _ _ _ v3 ([] ++ Bt.vint g ++ Bt.vint b)) := Lib.hid (E2.out.put hO hS)
  clear hO hS a0 a1 a2 a3 E2
  have a0 := E3.out.X.c0; have a1 := E3.out.X.c1; have a2 := E3.out.X.c2; have a3 := E3.out.X.c3
  go_wp2_with fail
  refine (put_own s (by omega) (w.heap.size + 1) _ ([] ++ Bt.vint g ++ Bt.vint b) _ E3.out.O E3.out.Z ?_).mono ?_
  · simp only [List.length_append, List.length_nil]; omega
  rintro e w4 ⟨v4, rfl, hO, hS⟩
  have E4 : Hid (Eb w w4 _ _ _ _ v4 ([] ++ Bt.vint g ++ Bt.vint b ++ Bt.vint s)) := Lib.hid (E3.out.put hO hS)
  clear hO hS a0 a1 a2 a3 E3
  have a0 := E4.out.X.c0; have a1 := E4.out.X.c1; have a2 := E4.out.X.c2; have a3 := E4.out.X.c3
  go_wp2_with fail
  refine (put_own l.length (by omega) (w.heap.size + 1) _ ([] ++ Bt.vint g ++ Bt.vint b ++ Bt.vint s) _ E4.out.O E4.out.Z ?_).mono ?_
  · simp only [List.length_append, List.length_nil]; omega
  rintro e w5 ⟨v5, rfl, hO, hS⟩
  have E5 : Hid (Eb w w5 _ _ _ _ v5 ([] ++ Bt.vint g ++ Bt.vint b ++ Bt.vint s ++ Bt.vint l.length)) := Lib.hid (E4.out.put hO hS)
  clear hO hS a0 a1 a2 a3 E4
  have a0 := E5.out.X.c0; have a1 := E5.out.X.c1; have a2 := E5.out.X.c2; have a3 := E5.out.X.c3
  have HL : Hid (([] ++ Bt.vint g ++ Bt.vint b ++ Bt.vint s ++ Bt.vint l.length).length ≤ 14) := Lib.hid (by simp only [List.length_append, List.length_nil]; omega)
  have HE2 : Hid (E = ([] ++ Bt.vint g ++ Bt.vint b ++ Bt.vint s ++ Bt.vint l.length) ++ encL l) := Lib.hid (by rw [HE.out]; simp only [List.nil_append, List.append_assoc])
  clear HE
  generalize ([] ++ Bt.vint g ++ Bt.vint b ++ Bt.vint s ++ Bt.vint l.length) = P at *
  clear hu1 hu2 hu3 hu4 lg lb ls ll
  go_wp2
  go_loopw [4, 33] (fun u i wl => ∃ k : Nat, i = .int .i64 (k : Int) ∧ k ≤ l.length ∧ Hid (Eb w wl (.int .i64 (g : Int)) (.int .i64 (b : Int)) (.int .i64 (s : Int)) (.slice (some ⟨G, o, none⟩) l.length c) u (P ++ encL (l.take k)))) (fun _ i _ => l.length - (intOf i).toNat)
  case atStart => exact ⟨0, rfl, by omega, Lib.hid (by have := E5.out; simpa [encL] using this)⟩
  case round =>
    obtain ⟨k, rfl, hk, HI⟩ := hrel
    by_cases hlt : k < l.length
    · have hcell := (HK.out.below HI.out.B (Nat.le_refl _)).at k hlt
      have hkc : k < c := by omega
      have hm1 := hmem.out l[k] (List.getElem_mem hlt)
      obtain ⟨n, hn⟩ := Int.eq_ofNat_of_zero_le (show 0 ≤ l[k] by omega)
      have hen : encL (l.take (k + 1)) = encL (l.take k) ++ Bt.vint n := by rw [List.take_succ_eq_append_getElem hlt, encL_snoc, hn]; rfl
      have HN := Lib.hid hen
      have hl1 : Hid ((P ++ encL (l.take k)).length ≤ 100) := Lib.hid (by
        have h1 := HL.out
        have h2 := encL_len (l.take k) (fun t ht => hmem.out t (List.mem_of_mem_take ht))
        rw [List.length_append, h2, List.length_take]; omega)
      clear hen
      rw [hn] at hcell hm1
      have hu5 : IntKind.u64.wrap (n : Int) = (n : Int) := by rw [IntKind.wrap_u64]; omega
      go_wp2_with fail
      refine (put_own n (by omega) (w.heap.size + 1) _ _ _ HI.out.O HI.out.Z (Nat.le_trans hl1.out (by decide))).mono ?_
      rintro e w6 ⟨v6, rfl, hO, hS⟩
      have E6 := Lib.hid (HI.out.put hO hS)
      clear hO hS
      go_wp2
      go_roundw
      case rel => exact ⟨k + 1, by go_num, by omega, Lib.hid (by have := E6.out; rw [List.append_assoc, ← HN.out] at this; exact this)⟩
      case measure => simp [intOf]; omega
    · have hall : l.take k = l := List.take_of_length_le (by omega)
      have HO : Hid (Own wr (w.heap.size + 1) u4 (E.map bv)) := Lib.hid (by have := HI.out.O; rw [hall, ← HE2.out] at this; exact this)
      have hr := run_string_Own wr (w.heap.size + 1) 92 9 5 u4 E HO.out Tryz.underlying92 Tryz.underlying5 Tryz.underlying9
      have hr : Sem.run Tryz.prog (convert 92 9 u4) wr = .ok (.string (bs E)) wr := hr
      have HB := Lib.hid HI.out.B
      go_wp2
      go_ret2
      exact ⟨rfl, HB.out⟩
theorem encode_ok (h : He) (v : Value) (w : World) (hk : KAt w v h.log) (hm : mayB h = true) : Calls Tryz.prog 119 #[hval h v] w (Ret w (.tuple #[.string (bs (enc h)), .int .i64 0])) := by
  obtain ⟨g, b, s, l⟩ := h
  have ok := mayB_ok hm
  have h1 := ok.g1; have h2 := ok.b1; have h3 := ok.s1
  dsimp only at h1 h2 h3
  obtain ⟨g, rfl⟩ := Int.eq_ofNat_of_zero_le (show 0 ≤ g by omega)
  obtain ⟨b, rfl⟩ := Int.eq_ofNat_of_zero_le h2
  obtain ⟨s, rfl⟩ := Int.eq_ofNat_of_zero_le h3
  exact encode_in g b s l v w hk hm
/-- What Encode tells. -/
def encR (h : He) : ByteArray × Nat := if mayB h = true then (bs (enc h), 0) else (⟨#[]⟩, 4)
theorem encode_any (h : He) (v : Value) (w : World) (hk : KAt w v h.log) (hl : h.log.length ≤ 9223372036854775807) : Calls Tryz.prog 119 #[hval h v] w (Ret w (.tuple #[.string (encR h).1, .int .i64 ((encR h).2 : Int)])) := by
  unfold encR
  cases hm : mayB h
  · rw [if_neg (by simp)]; exact encode_no h v w hk hl hm
  · rw [if_pos rfl]; exact encode_ok h v w hk hm
/-- A head's frame. -/
def whl (h : He) : ByteArray := bs (Fr.frm 3 (enc h))
def whR (h : He) : ByteArray × Nat := if mayB h = true then (whl h, 0) else (⟨#[]⟩, 4)
theorem whl_size {h : He} : (whl h).size = 9 + (enc h).length := by unfold whl; rw [bs_size, Fr.frm_length]
set_option maxHeartbeats 400000 in
theorem whole_any (h : He) (v : Value) (w : World) (hk : KAt w v h.log) (hl : h.log.length ≤ 9223372036854775807) (hT : Hid (Tab w)) : Calls Tryz.prog 97 #[hval h v] w (Ret w (.tuple #[.string (whR h).1, .int .i64 ((whR h).2 : Int)])) := by
  have H := encode_any h v (w.alloc (.cells #[.int .i64 h.gen, .int .i64 h.base, .int .i64 h.snap, v] 40)) (hk.below (below_one w _) (Nat.le_refl _)) hl
  unfold whR
  unfold encR at H
  cases hm : mayB h
  · rw [hm, if_neg (by simp)] at H
    rw [if_neg (by simp)]
    have H := Lib.hid H
    unfold hval at *
    clear hk
    go_enter Tryz.func97, Tryz.ntmps97
    go_wp2_with fail
    refine H.out.mono ?_
    rintro e w1 ⟨rfl, hb⟩
    have HB := Lib.hid (below_trans' (below_one w _) hb)
    clear hb
    go_wp2
    go_ret2
    exact ⟨rfl, HB.out⟩
  · rw [hm, if_pos rfl] at H
    rw [if_pos rfl]
    have HM := Lib.hid (fun W (hW : Tab W) => make_ok 3 (bs (enc h)) ⟨by decide, by decide⟩ (by rw [bs_size]; have := enc_len (mayB_ok hm); omega) W (Lib.hid hW))
    have HF : Hid (bs (Fr.frm 3 (bs (enc h)).data.toList) = whl h) := Lib.hid rfl
    rw [HF.out] at HM
    have H := Lib.hid H
    unfold hval at *
    clear hk HF
    generalize whl h = F at *
    generalize bs (enc h) = E at *
    go_enter Tryz.func97, Tryz.ntmps97
    go_wp2_with fail
    refine H.out.mono ?_
    rintro e w1 ⟨rfl, hb⟩
    have HB := Lib.hid (below_trans' (below_one w _) hb)
    clear hb
    go_wp2_with fail
    refine (HM.out _ (hT.out.below HB.out)).mono ?_
    rintro e w2 ⟨rfl, hb⟩
    have HB2 := Lib.hid (below_trans' HB.out hb)
    clear hb
    go_wp2
    go_ret2
    exact ⟨rfl, HB2.out⟩
def sizR (h : He) : Nat := if mayB h = true then 9 + (enc h).length else 0
set_option maxHeartbeats 400000 in
theorem hsize_any (h : He) (v : Value) (w : World) (hk : KAt w v h.log) (hl : h.log.length ≤ 9223372036854775807) (hT : Hid (Tab w)) : Calls Tryz.prog 60 #[hval h v] w (Ret w (.int .i64 (sizR h : Int))) := by
  have H := Lib.hid (whole_any h v (w.alloc (.cells #[.int .i64 h.gen, .int .i64 h.base, .int .i64 h.snap, v] 40)) (hk.below (below_one w _) (Nat.le_refl _)) hl (Lib.hid (hT.out.below (below_one w _))))
  have hz : (whR h).1.size = sizR h := by
    unfold whR sizR
    cases hm : mayB h
    · rfl
    · rw [if_pos rfl, if_pos rfl]; exact whl_size
  have hz2 : sizR h ≤ 100 := by
    unfold sizR
    cases hm : mayB h
    · rw [if_neg (by simp)]; omega
    · rw [if_pos rfl]; have := enc_len (mayB_ok hm); omega
  generalize (whR h).1 = F at *
  generalize (whR h).2 = E at *
  generalize sizR h = N at *
  unfold hval at *
  clear hk
  subst hz
  go_enter Tryz.func60, Tryz.ntmps60
  go_wp2_with fail
  refine H.out.mono ?_
  rintro e w1 ⟨rfl, hb⟩
  have HB := Lib.hid (below_trans' (below_one w _) hb)
  clear hb
  go_wp2
  go_ret
  exact ⟨rfl, HB.out⟩
end Go.Proofs.YtieemdcoomilaaaGreatDoor
namespace Go.Proofs.YtieemdcoomilaaaGreatDoor
open Go Go.RowKit
set_option maxRecDepth 100000
/-- The next varint, up to most: the number, where the reader stands then, its error. -/
def vr (s : ByteArray) (most a e : Nat) : Nat × Nat × Nat :=
  if e ≠ 0 then (0, a, e)
  else if (Bt.rd (s.data.toList.drop a) 0 0).2.2 ≠ 0 then (0, a, (Bt.rd (s.data.toList.drop a) 0 0).2.2)
  else if most < (Bt.rd (s.data.toList.drop a) 0 0).1 then (0, a, 40)
  else ((Bt.rd (s.data.toList.drop a) 0 0).1, a + (Bt.rd (s.data.toList.drop a) 0 0).2.1, 0)
theorem vr_facts (s : ByteArray) (most a e : Nat) (ha : a ≤ s.size) : (vr s most a e).1 ≤ most ∧ (vr s most a e).2.1 ≤ s.size ∧ a ≤ (vr s most a e).2.1 := by
  unfold vr
  by_cases he : e ≠ 0
  · rw [if_pos he]; exact ⟨Nat.zero_le _, ha, Nat.le_refl _⟩
  rw [if_neg he]
  have hf := Bt.rd_facts (s.data.toList.drop a) 0 0 (by omega) (by simp)
  have hl : (s.data.toList.drop a).length = s.size - a := by simp
  generalize Bt.rd (s.data.toList.drop a) 0 0 = R at *
  obtain ⟨N, C, K⟩ := R
  dsimp only at *
  by_cases hK : K ≠ 0
  · rw [if_pos hK]; exact ⟨Nat.zero_le _, ha, Nat.le_refl _⟩
  rw [if_neg hK]
  have h2 := hf.2.1 (by omega)
  by_cases hm : most < N
  · rw [if_pos hm]; exact ⟨Nat.zero_le _, ha, Nat.le_refl _⟩
  rw [if_neg hm]
  exact ⟨by omega, by show a + C ≤ s.size; omega, Nat.le_add_right _ _⟩
theorem varint_any (b : Nat) (s : ByteArray) (a e most : Nat) (w : World) (h : RdAt w b s (a : Int) (e : Int)) (ha : a ≤ s.size) (hs : s.size ≤ 140737488351232) :
    Calls Tryz.prog 161 #[.pointer (some ⟨b, 0, none⟩), .int .u64 (most : Int)] w (RdRet w b s (.int .u64 ((vr s most a e).1 : Int)) ((vr s most a e).2.1 : Int) ((vr s most a e).2.2 : Int)) := by
  unfold vr
  by_cases he : e ≠ 0
  · rw [if_pos he]
    exact mvarint_err b s a e most w h (ne0 he)
  rw [if_neg he]
  obtain rfl : e = 0 := by omega
  rcases uv_cases s a ha hs with ⟨N, C, hr, hT, h1, h2, h3⟩ | ⟨K, hr, hK, hT⟩
  · rw [hr, if_neg (by simp)]
    dsimp only
    by_cases hm : most < N
    · rw [if_pos hm]
      exact mvarint_no b s a most 40 w h rfl (uto_big s a most N _ hT (by omega))
    · rw [if_neg hm]
      exact mvarint_ok b s a most N _ w h (uto_ok s a most N _ hT (by omega))
  · rw [hr, if_pos hK]
    exact mvarint_no b s a most K w h (ne0 hK) (uto_no s a most K (eq0 hK) hT)
set_option maxHeartbeats 400000 in
theorem below_any (b : Nat) (s : ByteArray) (a e n : Nat) (w : World) (h : RdAt w b s (a : Int) (e : Int)) (ha : a ≤ s.size) (hs : s.size ≤ 140737488351232) (hn : 1 ≤ n) (hn2 : n ≤ 1000000) :
    Calls Tryz.prog 162 #[.pointer (some ⟨b, 0, none⟩), .int .i64 (n : Int)] w (RdRet w b s (.int .i64 ((vr s (n - 1) a e).1 : Int)) ((vr s (n - 1) a e).2.1 : Int) ((vr s (n - 1) a e).2.2 : Int)) := by
  have H := varint_any b s a e (n - 1) w h ha hs
  have hf := (vr_facts s (n - 1) a e ha).1
  rw [show ((n - 1 : Nat) : Int) = (n : Int) - 1 by omega] at H
  have H := Lib.hid H
  generalize (vr s (n - 1) a e).1 = N at *
  generalize (vr s (n - 1) a e).2.1 = A at *
  generalize (vr s (n - 1) a e).2.2 = E at *
  have hw : IntKind.u64.wrap ((n : Int) - 1) = (n : Int) - 1 := by rw [IntKind.wrap_u64]; omega
  clear h
  go_enter Tryz.func162, Tryz.ntmps162
  go_wp2_with fail
  refine H.out.mono ?_
  rintro e w1 ⟨rfl, hr, hg⟩
  go_wp2
  go_ret
  exact ⟨rfl, hr, hg⟩
/-- What End tells. -/
def endE (s : ByteArray) (a e : Nat) : Nat := if e ≠ 0 then e else if a < s.size then 4 else 0
set_option maxHeartbeats 400000 in
theorem end_any (b : Nat) (s : ByteArray) (a e : Nat) (w : World) (h : RdAt w b s (a : Int) (e : Int)) (ha : a ≤ s.size) (hs : s.size ≤ 140737488351232) :
    Calls Tryz.prog 163 #[.pointer (some ⟨b, 0, none⟩)] w fun en w' => en = .returned (.int .i64 (endE s a e : Int)) ∧ ∃ m, w' = w.drewN m := by
  have HE := Lib.hid (err_any b (e : Int) w h.c2)
  have HL := Lib.hid (left_any b s (a : Int) w h.c0 h.c1 (by omega) (by omega) hs)
  clear h
  unfold endE
  by_cases he : e ≠ 0
  · rw [if_pos he]
    have h1 : ((e : Int) != 0) = true := ne0 he
    go_enter Tryz.func163, Tryz.ntmps163
    go_wp2_with fail
    refine HE.out.mono ?_
    rintro e w1 ⟨rfl, rfl⟩
    go_wp2
    go_ret
    exact ⟨rfl, 0, rfl⟩
  · rw [if_neg he]
    obtain rfl : e = 0 := by omega
    by_cases hl : a < s.size
    · rw [if_pos hl]
      have h2 : (0 : Int) < (s.size : Int) - (a : Int) := by omega
      go_enter Tryz.func163, Tryz.ntmps163
      go_wp2_with fail
      refine HE.out.mono ?_
      rintro e w1 ⟨rfl, rfl⟩
      go_wp2_with fail
      refine HL.out.mono ?_
      rintro e w1 ⟨rfl, m, rfl⟩
      go_wp2
      go_ret
      exact ⟨rfl, m, rfl⟩
    · rw [if_neg hl]
      have h2 : ¬ ((0 : Int) < (s.size : Int) - (a : Int)) := by omega
      go_enter Tryz.func163, Tryz.ntmps163
      go_wp2_with fail
      refine HE.out.mono ?_
      rintro e w1 ⟨rfl, rfl⟩
      go_wp2_with fail
      refine HL.out.mono ?_
      rintro e w1 ⟨rfl, m, rfl⟩
      go_wp2
      go_ret
      exact ⟨rfl, m, rfl⟩
set_option maxHeartbeats 400000 in
theorem rnew_any (s : ByteArray) (w : World) : Calls Tryz.prog 160 #[.string s] w fun e w' => e = .returned (.pointer (some ⟨w.heap.size, 0, none⟩)) ∧ w.alloc (.cells #[.string s, .int .i64 0, .int .i64 0] 205) = w' := by
  go_enter Tryz.func160, Tryz.ntmps160
  go_wp2
  go_ret
  exact ⟨rfl, rfl⟩
theorem RdAt.new (s : ByteArray) (w : World) : RdAt (w.alloc (.cells #[.string s, .int .i64 0, .int .i64 0] 205)) w.heap.size s 0 0 := by
  have hb : (w.alloc (.cells #[.string s, .int .i64 0, .int .i64 0] 205)).heap[w.heap.size]? = some (.cells #[.string s, .int .i64 0, .int .i64 0] 205 (0, 0)) := heap_alloc_new w _
  generalize w.alloc (.cells #[.string s, .int .i64 0, .int .i64 0] 205) = W at *
  exact ⟨by simp [World.cell?, hb], by simp [World.cell?, hb], by simp [World.cell?, hb], by simp [World.frozen?, hb], by simp [World.frozen?, hb]⟩
end Go.Proofs.YtieemdcoomilaaaGreatDoor
namespace Go.Proofs.YtieemdcoomilaaaGreatDoor
open Go Go.RowKit
set_option maxRecDepth 100000
def iv (t : Int) : Value := .int .i64 t
theorem Own.kat {w : World} {base : Nat} {v : Value} {l : List Int} (h : Own w base v (l.map iv)) : KAt w v l := by
  rcases h with ⟨rfl, h0⟩ | ⟨g, cap, rfl, _, _, hc, _, _, hcs⟩
  · exact .inl ⟨by simpa using h0, _, _, rfl⟩
  · rw [List.length_map] at *
    refine .inr ⟨g, 0, cap, rfl, hc, fun j hj => ?_⟩
    rw [Nat.zero_add, hcs j (by simpa using hj), List.getElem?_map, List.getElem?_eq_getElem hj]
    rfl
theorem step_append_Own {P : Program} {ops : Array Oper} {o : Oper} {a : Act} {w : World} {K : Act → World → Prop} {Q : Exit → Act → World → Prop} {E : Prop} (hg : o.guard = none) (s x : Operand) (t tx : TypeId)
    (ho : o.op = .call { callee := .builtin .append, args := #[s, x], argTypes := #[t, tx] })
    (base : Nat) (e : TypeId) (i : TypeInfo) (z : Value) (bytes : Nat) (ht : P.underlying t = some (.slice e)) (hi : P.info? e = some i) (hz : i.zero = some z)
    (hsize : i.size = 1) (hby : i.bytes = bytes) (hzs : z.cells = #[z])
    (v : Value) (xs : List Value) (hs : a.eval s = v) (hown : Own w base v xs) (vx : Value) (n : Nat) (news : List Value) (hx : a.eval x = vx) (hsrc : Src P 1 tx vx n news w)
    (hbytes : (xs.length + n) * bytes ≤ 140737488355328) (hml : xs.length + n ≤ 140737488355328) (hbase : base ≤ w.heap.size)
    (hK : ∀ v' w', Own w' base v' (xs ++ news) → Step w w' v v' → K (a.put o.dst v') w') :
    if Region.wanted o (yielded ops a.tmps) = true then Oper.wp P o a w K Q else E := by
  have hw : Region.wanted o (yielded ops a.tmps) = true := by simp [Region.wanted, hg]
  rw [if_pos hw]
  exact wp_append_Own w s x t tx ho base e i z bytes ht hi hz hsize hby hzs v xs hs hown vx n news hx hsrc hbytes hml hbase fun v' w' h1 h2 h3 => hK v' w' h1 ⟨h2, h3⟩
theorem Tryz.info3 : (Tryz.prog.info? 3).map (fun i => (i.zero, i.size, i.bytes)) = some (some (.int .i64 0), 1, 8) := by kernel_rfl
section
variable {W W' : World} {B m : Nat} {x y z u : Value}
theorem Box4.set0 (h : Box4 W B x y z u) (a : Value) : Box4 (W.setCell ⟨B, 0, none⟩ a) B a y z u := by unfold Box4 at *; simp [World.setCell, Array.getElem?_modify, h]
theorem Box4.set1 (h : Box4 W B x y z u) (a : Value) : Box4 (W.setCell ⟨B, 1, none⟩ a) B x a z u := by unfold Box4 at *; simp [World.setCell, Array.getElem?_modify, h]
theorem Box4.set2 (h : Box4 W B x y z u) (a : Value) : Box4 (W.setCell ⟨B, 2, none⟩ a) B x y a u := by unfold Box4 at *; simp [World.setCell, Array.getElem?_modify, h]
theorem Box4.set3 (h : Box4 W B x y z u) (a : Value) : Box4 (W.setCell ⟨B, 3, none⟩ a) B x y z a := by unfold Box4 at *; simp [World.setCell, Array.getElem?_modify, h]
theorem Box4.setAll (h : Box4 W B x y z u) (a b c d : Value) : Box4 ((((W.setCell ⟨B, 0, none⟩ a).setCell ⟨B, 1, none⟩ b).setCell ⟨B, 2, none⟩ c).setCell ⟨B, 3, none⟩ d) B a b c d := (((h.set0 a).set1 b).set2 c).set3 d
end
theorem load26 {w : World} (B : Nat) (x y z u : Value) (hB : Box4 w B x y z u) : (loadVar 40 ⟨B, 0, none⟩).run Tryz.prog w = .ok (.agg #[x, y, z, u]) w :=
  run_loadVar_row (P := Tryz.prog) w B 40 40 #[x, y, z, u] (0, 0) _ hB Tryz.underlying40 rfl (by kernel_rfl)
theorem ret4 {fn : Func} {R : Ending → World → Prop} {a : Act} {w : World} {x y z u r : Value} {p q : Tmp} (hr : fn.results = #[.cell p 40, .tmp q]) (B : Nat) (h2 : a.tmps.getD p undef = .pointer (some ⟨B, 0, none⟩)) (h3 : a.tmps.getD q undef = r) (hd : a.defers = [])
    (hB : Box4 w B x y z u) (hR : R (.returned (.tuple #[.agg #[x, y, z, u], r])) w) : bodyPost Tryz.prog fn R .ret a w :=
  bodyPost_ret (by
    have hl := load26 B x y z u hB
    rw [results_cell_tmp hr, h2, h3]
    simp [asAddr, hl, Result.andThen]) hd hR
theorem ret4one {fn : Func} {R : Ending → World → Prop} {a : Act} {w : World} {x y z u : Value} {p : Tmp} (hr : fn.results = #[.cell p 40]) (B : Nat) (h2 : a.tmps.getD p undef = .pointer (some ⟨B, 0, none⟩)) (hd : a.defers = [])
    (hB : Box4 w B x y z u) (hR : R (.returned (.agg #[x, y, z, u])) w) : bodyPost Tryz.prog fn R .ret a w :=
  bodyPost_ret (by
    have hl := load26 B x y z u hB
    have hp' : a.tmps[p]?.getD undef = .pointer (some ⟨B, 0, none⟩) := by simpa using h2
    simp [results, hr, hp', asAddr, hl]) hd hR
theorem below_set4 {n : Nat} {w w' : World} (h : Below n w w') {B : Nat} (hB : n ≤ B) (a b c d : Value) : Below n w ((((w'.setCell ⟨B, 0, none⟩ a).setCell ⟨B, 1, none⟩ b).setCell ⟨B, 2, none⟩ c).setCell ⟨B, 3, none⟩ d) :=
  below_setD (below_setD (below_setD (below_setD h hB _ _) hB _ _) hB _ _) hB _ _
theorem grown_set4 (w : World) (B : Nat) (a b c d : Value) : w.grownBy ((((w.setCell ⟨B, 0, none⟩ a).setCell ⟨B, 1, none⟩ b).setCell ⟨B, 2, none⟩ c).setCell ⟨B, 3, none⟩ d) (some B) :=
  grown_trans (grown_trans (grown_trans (grown_setCell _ _ _ _) (grown_setCell _ _ _ _)) (grown_setCell _ _ _ _)) (grown_setCell _ _ _ _)
theorem Own.set4 {w : World} {base B : Nat} {v : Value} {xs : List Value} (h : Own w base v xs) (hB : B < base) (a b c d : Value) : Own ((((w.setCell ⟨B, 0, none⟩ a).setCell ⟨B, 1, none⟩ b).setCell ⟨B, 2, none⟩ c).setCell ⟨B, 3, none⟩ d) base v xs :=
  h.kept (grown_set4 w B a b c d) (Or.inr (fun e => by have := (h.lt _ e).1; omega))
theorem Own.belowAll {w w' : World} {base : Nat} {v : Value} {xs : List Value} (h : Own w base v xs) (hb : Below w.heap.size w w') : Own w' base v xs := h.below hb (fun k hk => (h.lt k hk).2)
/-- k tapes, read one behind the other. -/
def vrs (s : ByteArray) : Nat → Nat → Nat → List Nat × Nat × Nat
  | 0, a, e => ([], a, e)
  | k + 1, a, e => ((vrs s k a e).1 ++ [(vr s 31 (vrs s k a e).2.1 (vrs s k a e).2.2).1], (vr s 31 (vrs s k a e).2.1 (vrs s k a e).2.2).2)
theorem vrs_facts (s : ByteArray) : ∀ (k a e : Nat), a ≤ s.size → (vrs s k a e).1.length = k ∧ (vrs s k a e).2.1 ≤ s.size ∧ ∀ t ∈ (vrs s k a e).1, t ≤ 31
  | 0, a, e, h => ⟨rfl, h, fun t ht => by cases ht⟩
  | k + 1, a, e, h => by
    obtain ⟨h1, h2, h3⟩ := vrs_facts s k a e h
    have hf := vr_facts s 31 (vrs s k a e).2.1 (vrs s k a e).2.2 h2
    refine ⟨by show ((vrs s k a e).1 ++ _).length = k + 1; rw [List.length_append, h1]; rfl, hf.2.1, fun t ht => ?_⟩
    rcases List.mem_append.1 ht with ht | ht
    · exact h3 t ht
    · rw [List.mem_singleton] at ht; subst ht; exact hf.1
/-- The four numbers ahead of the log. -/
def r1 (s : ByteArray) := vr s 1099511627776 0 0
def r2 (s : ByteArray) := vr s 1099511627776 (r1 s).2.1 (r1 s).2.2
def r3 (s : ByteArray) := vr s 31 (r2 s).2.1 (r2 s).2.2
def r4 (s : ByteArray) := vr s 31 (r3 s).2.1 (r3 s).2.2
def r5 (s : ByteArray) := vrs s (r4 s).1 (r4 s).2.1 (r4 s).2.2
def nat2 (l : List Nat) : List Int := l.map Int.ofNat
/-- What is read of a payload, and how reading ends. -/
def rdH (s : ByteArray) : He := ⟨(r1 s).1, (r2 s).1, (r3 s).1, nat2 (r5 s).1⟩
def rdE (s : ByteArray) : Nat := endE s (r5 s).2.1 (r5 s).2.2
def he0 : He := ⟨0, 0, 0, []⟩
/-- What Decode tells. -/
def dcR (s : ByteArray) : He × Nat := if rdE s ≠ 0 then (he0, rdE s) else if mayB (rdH s) = true then (rdH s, 0) else (he0, 4)
/-- A head that is told in new memory, with an error, or with what else it comes with. -/
def DcRet (w : World) (h : He) (r : Value) (e : Ending) (w' : World) : Prop := ∃ v, e = .returned (.tuple #[hval h v, r]) ∧ Own w' w.heap.size v (h.log.map iv) ∧ Below w.heap.size w w'
/-- How it lies in the midst of Decode. -/
structure Dm (w W : World) (s : ByteArray) (a e : Nat) (x y z : Int) (u : Value) : Prop where
  R : RdAt W (w.heap.size + 1) s a e
  H : Box4 W (w.heap.size + 1 + 1) (.int .i64 x) (.int .i64 y) (.int .i64 z) u
  Q : Box4 W w.heap.size (.int .i64 0) (.int .i64 0) (.int .i64 0) (.slice none 0 0)
  B : Below w.heap.size w W
  Z : w.heap.size + 3 ≤ W.heap.size
theorem Dm.read {w W W' : World} {s : ByteArray} {a e a' e' : Nat} {x y z : Int} {u : Value} (h : Dm w W s a e x y z u) (hR : RdAt W' (w.heap.size + 1) s a' e') (hg : W.grownBy W' (some (w.heap.size + 1))) : Dm w W' s a' e' x y z u :=
  ⟨hR, h.H.kept hg (by simp), h.Q.kept hg (by simp), below_grown h.B hg h.B.size (by omega), Nat.le_trans h.Z hg.size⟩
theorem Dm.grown {w W W' : World} {s : ByteArray} {a e : Nat} {x y z : Int} {u : Value} (h : Dm w W s a e x y z u) {r : Option Nat} (hg : W.grownBy W' r) (hr : ∀ k, r = some k → w.heap.size + 3 ≤ k) : Dm w W' s a e x y z u :=
  have n0 : some w.heap.size ≠ r := fun e => by have := hr _ e.symm; omega
  have n1 : some (w.heap.size + 1) ≠ r := fun e => by have := hr _ e.symm; omega
  have n2 : some (w.heap.size + 1 + 1) ≠ r := fun e => by have := hr _ e.symm; omega
  ⟨h.R.congr (hg.block _ h.R.lt n1), h.H.kept hg n2, h.Q.kept hg n0, h.B.grown hg h.B.size (fun k hk => by have := hr k hk; omega), Nat.le_trans h.Z hg.size⟩
theorem Dm.st {w W : World} {s : ByteArray} {a e : Nat} {x y z x' y' z' : Int} {u u' : Value} (h : Dm w W s a e x y z u) (j : Nat) (v : Value) (hH : Box4 (W.setCell ⟨w.heap.size + 1 + 1, j, none⟩ v) (w.heap.size + 1 + 1) (.int .i64 x') (.int .i64 y') (.int .i64 z') u') : Dm w (W.setCell ⟨w.heap.size + 1 + 1, j, none⟩ v) s a e x' y' z' u' :=
  ⟨h.R.congr (Below.heap_setCell _ _ _ _ (by simp)), hH, h.Q.apart (by simp; omega) _, below_setD h.B (by omega) _ _, by simp [World.setCell]; exact h.Z⟩
end Go.Proofs.YtieemdcoomilaaaGreatDoor
