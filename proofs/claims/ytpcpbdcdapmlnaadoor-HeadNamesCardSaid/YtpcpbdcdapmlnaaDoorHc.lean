/- What a head that may be is made of; Encode, whole, Size. -/
import Derived.Test.YtpcpbdcdapmlnaaDoorHa
namespace Go.Proofs.YtpcpbdcdapmlnaaDoor
open Go Go.RowKit
set_option maxRecDepth 100000
/-- How many tapes below n may still be named. -/
def fr (S : Nat → Bool) : Nat → Nat
  | 0 => 0
  | n + 1 => fr S n + (if 2 ≤ n ∧ S n = false then 1 else 0)
theorem fr_mark (S : Nat → Bool) (t : Nat) (ht : 2 ≤ t) (hS : S t = false) : ∀ n, fr (mark S t) n + (if t < n then 1 else 0) = fr S n
  | 0 => rfl
  | n + 1 => by
    have ih := fr_mark S t ht hS n
    unfold fr
    by_cases e : n = t
    · subst e
      rw [if_neg (by omega)] at ih
      have h1 : mark S n n = true := by unfold mark; rw [if_pos rfl]
      rw [if_pos (show n < n + 1 by omega), if_neg (show ¬ (2 ≤ n ∧ mark S n n = false) by rw [h1]; simp), if_pos (show 2 ≤ n ∧ S n = false from ⟨ht, hS⟩)]
      omega
    · have h1 : mark S t n = S n := by unfold mark; rw [if_neg e]
      rw [h1]
      by_cases h2 : t < n
      · rw [if_pos h2] at ih; rw [if_pos (show t < n + 1 by omega)]; omega
      · rw [if_neg h2] at ih; rw [if_neg (show ¬ t < n + 1 by omega)]; omega
theorem ad_iff {S : Nat → Bool} {t : Int} : ad S t = true ↔ (2 ≤ t ∧ t < 32) ∧ S t.toNat = false := by
  unfold ad; simp
theorem dis_cons {S : Nat → Bool} {t : Int} {r : List Int} (h : dis S (t :: r) = true) : ad S t = true ∧ dis (mark S t.toNat) r = true := by
  unfold dis at h
  cases ha : ad S t
  · rw [ha] at h; simp at h
  · rw [ha, if_pos rfl] at h; exact ⟨rfl, h⟩
theorem dis_len : ∀ (l : List Int) (S : Nat → Bool), dis S l = true → l.length ≤ fr S 32
  | [], _, _ => Nat.zero_le _
  | t :: r, S, h => by
    obtain ⟨h1, h2⟩ := dis_cons h
    have ih := dis_len r _ h2
    obtain ⟨h3, h4⟩ := ad_iff.1 h1
    have := fr_mark S t.toNat (by omega) h4 32
    rw [if_pos (by omega)] at this
    simp only [List.length_cons]
    omega
theorem dis_mem : ∀ (l : List Int) (S : Nat → Bool), dis S l = true → ∀ t ∈ l, (2 ≤ t ∧ t < 32) ∧ S t.toNat = false
  | [], _, _, t, ht => by cases ht
  | u :: r, S, h, t, ht => by
    obtain ⟨h1, h2⟩ := dis_cons h
    obtain ⟨h3, h4⟩ := ad_iff.1 h1
    rcases List.mem_cons.1 ht with rfl | ht
    · exact ⟨h3, h4⟩
    · have := dis_mem r _ h2 t ht
      refine ⟨this.1, ?_⟩
      have h5 := this.2
      unfold mark at h5
      by_cases e : t.toNat = u.toNat
      · rw [if_pos e] at h5; cases h5
      · rw [if_neg e] at h5; exact h5
theorem fr_no32 : fr no32 32 = 30 := by decide
/-- What may be said of a head that may be. -/
structure He.ok (h : He) : Prop where
  g1 : 1 ≤ h.gen
  g2 : h.gen ≤ 1099511627776
  b1 : 0 ≤ h.base
  b2 : h.base ≤ 1099511627776
  s1 : 0 ≤ h.snap
  s2 : h.snap < 32
  ne : h.log ≠ []
  len : h.log.length ≤ 30
  mem : ∀ t ∈ h.log, 2 ≤ t ∧ t < 32
theorem mayB_ok {h : He} (hm : mayB h = true) : h.ok := by
  unfold mayB gtop at hm
  by_cases h1 : h.gen < 1
  · rw [if_pos h1] at hm; cases hm
  rw [if_neg h1] at hm
  by_cases h2 : 1099511627776 < h.gen
  · rw [if_pos h2] at hm; cases hm
  rw [if_neg h2] at hm
  by_cases h3 : h.base < 0
  · rw [if_pos h3] at hm; cases hm
  rw [if_neg h3] at hm
  by_cases h4 : 1099511627776 < h.base
  · rw [if_pos h4] at hm; cases hm
  rw [if_neg h4] at hm
  by_cases h5 : h.log = []
  · rw [if_pos h5] at hm; cases hm
  rw [if_neg h5] at hm
  by_cases h6 : h.snap = 0
  · rw [if_pos h6] at hm
    by_cases h7 : h.base ≠ 0
    · rw [if_pos h7] at hm; cases hm
    rw [if_neg h7] at hm
    have hl := dis_len _ _ hm
    rw [fr_no32] at hl
    exact ⟨by omega, by omega, by omega, by omega, by omega, by omega, h5, hl, fun t ht => (dis_mem _ _ hm t ht).1⟩
  · rw [if_neg h6] at hm
    cases h7 : ad no32 h.snap
    · rw [h7] at hm; simp at hm
    · rw [h7, if_pos rfl] at hm
      obtain ⟨h8, h9⟩ := ad_iff.1 h7
      have hl := dis_len _ _ hm
      have := fr_mark no32 h.snap.toNat (by omega) h9 32
      rw [fr_no32, if_pos (by omega)] at this
      exact ⟨by omega, by omega, by omega, by omega, by omega, by omega, h5, by omega, fun t ht => (dis_mem _ _ hm t ht).1⟩
/-- A head's payload. -/
def encL : List Int → List UInt8
  | [] => []
  | t :: r => Bt.vint t.toNat ++ encL r
def enc (h : He) : List UInt8 := Bt.vint h.gen.toNat ++ (Bt.vint h.base.toNat ++ (Bt.vint h.snap.toNat ++ (Bt.vint h.log.length ++ encL h.log)))
theorem encL_snoc : ∀ (l : List Int) (t : Int), encL (l ++ [t]) = encL l ++ Bt.vint t.toNat
  | [], t => by show Bt.vint t.toNat ++ [] = [] ++ _; simp
  | u :: r, t => by
    show Bt.vint u.toNat ++ encL (r ++ [t]) = (Bt.vint u.toNat ++ encL r) ++ _
    rw [encL_snoc r t, List.append_assoc]
theorem vint_len_le {n k : Nat} (h : n < 128 ^ (k + 1)) : (Bt.vint n).length ≤ k + 1 := by rw [Bt.vint_length]; exact Bt.vlen_le k n h
theorem encL_len : ∀ (l : List Int), (∀ t ∈ l, 2 ≤ t ∧ t < 32) → (encL l).length = l.length
  | [], _ => rfl
  | t :: r, h => by
    have h1 := h t (by simp)
    show (Bt.vint t.toNat ++ encL r).length = r.length + 1
    rw [List.length_append, encL_len r (fun u hu => h u (by simp [hu])), Bt.vint_length, Bt.vlen_small (by omega)]
    omega
theorem enc_len {h : He} (hm : h.ok) : (enc h).length ≤ 44 := by
  have h1 := hm.g1; have h2 := hm.g2; have h3 := hm.b1; have h4 := hm.b2; have h5 := hm.s1; have h6 := hm.s2; have h7 := hm.len
  have a := vint_len_le (n := h.gen.toNat) (k := 5) (by omega)
  have b := vint_len_le (n := h.base.toNat) (k := 5) (by omega)
  have c := vint_len_le (n := h.snap.toNat) (k := 0) (by omega)
  have d := vint_len_le (n := h.log.length) (k := 0) (by omega)
  have e := encL_len h.log hm.mem
  unfold enc
  simp only [List.length_append]
  omega
/-- A block of a head's four cells. -/
def Box4 (W : World) (B : Nat) (x y z u : Value) : Prop := W.heap[B]? = some (.cells #[x, y, z, u] 26 (0, 0))
section
variable {W W' : World} {B m : Nat} {x y z u : Value}
theorem Box4.lt (h : Box4 W B x y z u) : B < W.heap.size := (Array.getElem?_eq_some_iff.1 h).1
theorem Box4.c0 (h : Box4 W B x y z u) : W.cell? ⟨B, 0, none⟩ = some x := by simp [World.cell?, show W.heap[B]? = _ from h]
theorem Box4.c1 (h : Box4 W B x y z u) : W.cell? ⟨B, 1, none⟩ = some y := by simp [World.cell?, show W.heap[B]? = _ from h]
theorem Box4.c2 (h : Box4 W B x y z u) : W.cell? ⟨B, 2, none⟩ = some z := by simp [World.cell?, show W.heap[B]? = _ from h]
theorem Box4.c3 (h : Box4 W B x y z u) : W.cell? ⟨B, 3, none⟩ = some u := by simp [World.cell?, show W.heap[B]? = _ from h]
theorem Box4.free (h : Box4 W B x y z u) (j : Nat) : W.frozen? ⟨B, j, none⟩ = false := by simp [World.frozen?, show W.heap[B]? = _ from h]
theorem Box4.below (h : Box4 W B x y z u) (hb : Below m W W') (hm : B < m) : Box4 W' B x y z u := (hb.block B hm).trans h
theorem Box4.kept {row : Option Nat} (h : Box4 W B x y z u) (hg : W.grownBy W' row) (hne : some B ≠ row) : Box4 W' B x y z u := (hg.block B h.lt hne).trans h
theorem Box4.alloc (h : Box4 W B x y z u) (o : Obj) : Box4 (W.alloc o) B x y z u := (Below.heap_alloc W o B h.lt).trans h
theorem Box4.new (W : World) (x y z u : Value) : Box4 (W.alloc (.cells #[x, y, z, u] 26)) W.heap.size x y z u := heap_alloc_new W _
theorem Box4.apart {a : Addr} (h : Box4 W B x y z u) (ha : B ≠ a.block) (v : Value) : Box4 (W.setCell a v) B x y z u := (Below.heap_setCell W a v B ha).trans h
end
set_option maxHeartbeats 400000 in
theorem encode_no (h : He) (v : Value) (w : World) (hk : KAt w v h.log) (hl : h.log.length ≤ 9223372036854775807) (hm : mayB h = false) : Calls Tryd.prog 11 #[hval h v] w (Ret w (.tuple #[.string ⟨#[]⟩, .int .i64 4])) := by
  have H := may_any h v (w.alloc (.cells #[.int .i64 h.gen, .int .i64 h.base, .int .i64 h.snap, v] 26)) (hk.below (below_one w _) (Nat.le_refl _)) hl
  rw [hm] at H
  have H := Lib.hid H
  unfold hval at *
  obtain ⟨g, b, s, l⟩ := h
  dsimp only at *
  clear hk
  go_enter Tryd.func11, Tryd.ntmps11
  go_wp2_with fail
  refine H.out.mono ?_
  rintro e w1 ⟨rfl, hb⟩
  have HB := Lib.hid (below_trans' (below_one w _) hb)
  clear hb
  go_wp2
  go_ret2
  exact ⟨rfl, HB.out⟩
end Go.Proofs.YtpcpbdcdapmlnaaDoor
namespace Go.Proofs.YtpcpbdcdapmlnaaDoor
open Go Go.RowKit
set_option maxRecDepth 100000
theorem list_len_lt {l : List Int} (h : l.length ≤ 30) : l.length ≤ 9223372036854775807 := by omega
/-- What goes from put to put. -/
structure Eb (w W : World) (x y z u v : Value) (l : List UInt8) : Prop where
  X : Box4 W w.heap.size x y z u
  B : Below w.heap.size w W
  O : Own W (w.heap.size + 1) v (l.map bv)
  Z : w.heap.size + 1 ≤ W.heap.size
theorem Eb.put {w W W' : World} {x y z u v v' : Value} {l l' : List UInt8} (h : Eb w W x y z u v l) (hO : Own W' (w.heap.size + 1) v' (l'.map bv)) (hS : Step W W' v v') : Eb w W' x y z u v' l' :=
  ⟨h.X.kept hS.grown (fun e => by have := (h.O.lt _ e.symm).1; omega), h.B.trans (hS.below h.B.size (fun k hk => by have := (h.O.lt k hk).1; omega)), hO, Nat.le_trans h.Z hS.grown.size⟩
set_option maxHeartbeats 2000000 in
theorem encode_in (g b s : Nat) (l : List Int) (v : Value) (w : World) (hk : KAt w v l) (hm : mayB ⟨g, b, s, l⟩ = true) :
    Calls Tryd.prog 11 #[hval ⟨g, b, s, l⟩ v] w (Ret w (.tuple #[.string (bs (enc ⟨g, b, s, l⟩)), .int .i64 0])) := by
  have ok := mayB_ok hm
  have hg := ok.g2
  have hb := ok.b2
  have hs := ok.s2
  have hl := ok.len
  have hmem := Lib.hid ok.mem
  dsimp only at hg hb hs hl
  have H := may_any ⟨g, b, s, l⟩ v (w.alloc (.cells #[.int .i64 (g : Int), .int .i64 (b : Int), .int .i64 (s : Int), v] 26)) (hk.below (below_one w _) (Nat.le_refl _)) (list_len_lt hl)
  rw [hm] at H
  have H := Lib.hid H
  have X0 := Lib.hid (Box4.new w (.int .i64 (g : Int)) (.int .i64 (b : Int)) (.int .i64 (s : Int)) v)
  have HK := Lib.hid hk
  have hp : 0 < l.length := List.length_pos_iff.2 ok.ne
  obtain ⟨G, o, c, rfl, hc⟩ := hk.pos ok.ne
  have hu1 : IntKind.u64.wrap (g : Int) = (g : Int) := by rw [IntKind.wrap_u64]; omega
  have hu2 : IntKind.u64.wrap (b : Int) = (b : Int) := by rw [IntKind.wrap_u64]; omega
  have hu3 : IntKind.u64.wrap (s : Int) = (s : Int) := by rw [IntKind.wrap_u64]; omega
  have hu4 : IntKind.u64.wrap (l.length : Int) = (l.length : Int) := by rw [IntKind.wrap_u64]; omega
  have lg := vint_len_le (n := g) (k := 5) (by omega)
  have lb := vint_len_le (n := b) (k := 5) (by omega)
  have ls := vint_len_le (n := s) (k := 0) (by omega)
  have ll := vint_len_le (n := l.length) (k := 0) (by omega)
  have HE : Hid (enc ⟨g, b, s, l⟩ = Bt.vint g ++ (Bt.vint b ++ (Bt.vint s ++ (Bt.vint l.length ++ encL l)))) := Lib.hid rfl
  generalize enc ⟨g, b, s, l⟩ = E at *
  clear hk ok hm
  unfold hval at *
  dsimp only at *
  go_enter Tryd.func11, Tryd.ntmps11
  go_wp2_with fail
  refine H.out.mono ?_
  rintro e w1 ⟨rfl, hb1⟩
  have X1 := Lib.hid (X0.out.below hb1 (by simp))
  have HB1 := Lib.hid (below_trans' (below_one w _) hb1)
  have hz1 : Hid (w.heap.size + 1 ≤ w1.heap.size) := Lib.hid (by have := hb1.size; simpa using this)
  clear hb1 X0 H
  have a0 := X1.out.c0; have a1 := X1.out.c1; have a2 := X1.out.c2; have a3 := X1.out.c3
  have E1 : Hid (Eb w w1 _ _ _ _ (.slice none 0 0) []) := Lib.hid ⟨X1.out, HB1.out, Own.nil _ _, hz1.out⟩
  clear X1 HB1 hz1
  go_wp2_with fail
  refine (put_own g (by omega) (w.heap.size + 1) _ ([]) _ E1.out.O E1.out.Z ?_).mono ?_
  · simp only [List.length_append, List.length_nil]; omega
  rintro e w2 ⟨v2, rfl, hO, hS⟩
  have E2 : Hid (Eb w w2 _ _ _ _ v2 ([] ++ Bt.vint g)) := Lib.hid (E1.out.put hO hS)
  clear hO hS a0 a1 a2 a3 E1
  have a0 := E2.out.X.c0; have a1 := E2.out.X.c1; have a2 := E2.out.X.c2; have a3 := E2.out.X.c3
  go_wp2_with fail
  refine (put_own b (by omega) (w.heap.size + 1) _ ([] ++ Bt.vint g) _ E2.out.O E2.out.Z ?_).mono ?_
  · simp only [List.length_append, List.length_nil]; omega
  rintro e w3 ⟨v3, rfl, hO, hS⟩
  have E3 : Hid (Eb w w3 _ _ _ _ v3 ([] ++ Bt.vint g ++ Bt.vint b)) := Lib.hid (E2.out.put hO hS)
  clear hO hS a0 a1 a2 a3 E2
  have a0 := E3.out.X.c0; have a1 := E3.out.X.c1; have a2 := E3.out.X.c2; have a3 := E3.out.X.c3
  go_wp2_with fail
  refine (put_own s (by omega) (w.heap.size + 1) _ ([] ++ Bt.vint g ++ Bt.vint b) _ E3.out.O E3.out.Z ?_).mono ?_
  · simp only [List.length_append, List.length_nil]; omega
  rintro e w4 ⟨v4, rfl, hO, hS⟩
  have E4 : Hid (Eb w w4 _ _ _ _ v4 ([] ++ Bt.vint g ++ Bt.vint b ++ Bt.vint s)) := Lib.hid (E3.out.put hO hS)
  clear hO hS a0 a1 a2 a3 E3
  have a0 := E4.out.X.c0; have a1 := E4.out.X.c1; have a2 := E4.out.X.c2; have a3 := E4.out.X.c3
  go_wp2_with fail
  refine (put_own l.length (by omega) (w.heap.size + 1) _ ([] ++ Bt.vint g ++ Bt.vint b ++ Bt.vint s) _ E4.out.O E4.out.Z ?_).mono ?_
  · simp only [List.length_append, List.length_nil]; omega
  rintro e w5 ⟨v5, rfl, hO, hS⟩
  have E5 : Hid (Eb w w5 _ _ _ _ v5 ([] ++ Bt.vint g ++ Bt.vint b ++ Bt.vint s ++ Bt.vint l.length)) := Lib.hid (E4.out.put hO hS)
  clear hO hS a0 a1 a2 a3 E4
  have a0 := E5.out.X.c0; have a1 := E5.out.X.c1; have a2 := E5.out.X.c2; have a3 := E5.out.X.c3
  have HL : Hid (([] ++ Bt.vint g ++ Bt.vint b ++ Bt.vint s ++ Bt.vint l.length).length ≤ 14) := Lib.hid (by simp only [List.length_append, List.length_nil]; omega)
  have HE2 : Hid (E = ([] ++ Bt.vint g ++ Bt.vint b ++ Bt.vint s ++ Bt.vint l.length) ++ encL l) := Lib.hid (by rw [HE.out]; simp only [List.nil_append, List.append_assoc])
  clear HE
  generalize ([] ++ Bt.vint g ++ Bt.vint b ++ Bt.vint s ++ Bt.vint l.length) = P at *
  clear hu1 hu2 hu3 hu4 lg lb ls ll
  go_wp2
  go_loopw [4, 33] (fun u i wl => ∃ k : Nat, i = .int .i64 (k : Int) ∧ k ≤ l.length ∧ Hid (Eb w wl (.int .i64 (g : Int)) (.int .i64 (b : Int)) (.int .i64 (s : Int)) (.slice (some ⟨G, o, none⟩) l.length c) u (P ++ encL (l.take k)))) (fun _ i _ => l.length - (intOf i).toNat)
  case atStart => exact ⟨0, rfl, by omega, Lib.hid (by have := E5.out; simpa [encL] using this)⟩
  case round =>
    obtain ⟨k, rfl, hk, HI⟩ := hrel
    by_cases hlt : k < l.length
    · have hcell := (HK.out.below HI.out.B (Nat.le_refl _)).at k hlt
      have hkc : k < c := by omega
      have hm1 := hmem.out l[k] (List.getElem_mem hlt)
      obtain ⟨n, hn⟩ := Int.eq_ofNat_of_zero_le (show 0 ≤ l[k] by omega)
      have hen : encL (l.take (k + 1)) = encL (l.take k) ++ Bt.vint n := by rw [List.take_succ_eq_append_getElem hlt, encL_snoc, hn]; rfl
      have HN := Lib.hid hen
      have hl1 : Hid ((P ++ encL (l.take k)).length ≤ 100) := Lib.hid (by
        have h1 := HL.out
        have h2 := encL_len (l.take k) (fun t ht => hmem.out t (List.mem_of_mem_take ht))
        rw [List.length_append, h2, List.length_take]; omega)
      clear hen
      rw [hn] at hcell hm1
      have hu5 : IntKind.u64.wrap (n : Int) = (n : Int) := by rw [IntKind.wrap_u64]; omega
      go_wp2_with fail
      refine (put_own n (by omega) (w.heap.size + 1) _ _ _ HI.out.O HI.out.Z (Nat.le_trans hl1.out (by decide))).mono ?_
      rintro e w6 ⟨v6, rfl, hO, hS⟩
      have E6 := Lib.hid (HI.out.put hO hS)
      clear hO hS
      go_wp2
      go_roundw
      case rel => exact ⟨k + 1, by go_num, by omega, Lib.hid (by have := E6.out; rw [List.append_assoc, ← HN.out] at this; exact this)⟩
      case measure => simp [intOf]; omega
    · have hall : l.take k = l := List.take_of_length_le (by omega)
      have HO : Hid (Own wr (w.heap.size + 1) u4 (E.map bv)) := Lib.hid (by have := HI.out.O; rw [hall, ← HE2.out] at this; exact this)
      have hr := run_string_Own wr (w.heap.size + 1) 65 9 5 u4 E HO.out Tryd.underlying65 Tryd.underlying5 Tryd.underlying9
      have hr : Sem.run Tryd.prog (convert 65 9 u4) wr = .ok (.string (bs E)) wr := hr
      have HB := Lib.hid HI.out.B
      go_wp2
      go_ret2
      exact ⟨rfl, HB.out⟩
theorem encode_ok (h : He) (v : Value) (w : World) (hk : KAt w v h.log) (hm : mayB h = true) : Calls Tryd.prog 11 #[hval h v] w (Ret w (.tuple #[.string (bs (enc h)), .int .i64 0])) := by
  obtain ⟨g, b, s, l⟩ := h
  have ok := mayB_ok hm
  have h1 := ok.g1; have h2 := ok.b1; have h3 := ok.s1
  dsimp only at h1 h2 h3
  obtain ⟨g, rfl⟩ := Int.eq_ofNat_of_zero_le (show 0 ≤ g by omega)
  obtain ⟨b, rfl⟩ := Int.eq_ofNat_of_zero_le h2
  obtain ⟨s, rfl⟩ := Int.eq_ofNat_of_zero_le h3
  exact encode_in g b s l v w hk hm
/-- What Encode tells. -/
def encR (h : He) : ByteArray × Nat := if mayB h = true then (bs (enc h), 0) else (⟨#[]⟩, 4)
theorem encode_any (h : He) (v : Value) (w : World) (hk : KAt w v h.log) (hl : h.log.length ≤ 9223372036854775807) : Calls Tryd.prog 11 #[hval h v] w (Ret w (.tuple #[.string (encR h).1, .int .i64 ((encR h).2 : Int)])) := by
  unfold encR
  cases hm : mayB h
  · rw [if_neg (by simp)]; exact encode_no h v w hk hl hm
  · rw [if_pos rfl]; exact encode_ok h v w hk hm
/-- A head's frame. -/
def whl (h : He) : ByteArray := bs (Fr.frm 3 (enc h))
def whR (h : He) : ByteArray × Nat := if mayB h = true then (whl h, 0) else (⟨#[]⟩, 4)
theorem whl_size {h : He} : (whl h).size = 9 + (enc h).length := by unfold whl; rw [bs_size, Fr.frm_length]
set_option maxHeartbeats 400000 in
theorem whole_any (h : He) (v : Value) (w : World) (hk : KAt w v h.log) (hl : h.log.length ≤ 9223372036854775807) (hT : Hid (Tab w)) : Calls Tryd.prog 40 #[hval h v] w (Ret w (.tuple #[.string (whR h).1, .int .i64 ((whR h).2 : Int)])) := by
  have H := encode_any h v (w.alloc (.cells #[.int .i64 h.gen, .int .i64 h.base, .int .i64 h.snap, v] 26)) (hk.below (below_one w _) (Nat.le_refl _)) hl
  unfold whR
  unfold encR at H
  cases hm : mayB h
  · rw [hm, if_neg (by simp)] at H
    rw [if_neg (by simp)]
    have H := Lib.hid H
    unfold hval at *
    clear hk
    go_enter Tryd.func40, Tryd.ntmps40
    go_wp2_with fail
    refine H.out.mono ?_
    rintro e w1 ⟨rfl, hb⟩
    have HB := Lib.hid (below_trans' (below_one w _) hb)
    clear hb
    go_wp2
    go_ret2
    exact ⟨rfl, HB.out⟩
  · rw [hm, if_pos rfl] at H
    rw [if_pos rfl]
    have HM := Lib.hid (fun W (hW : Tab W) => make_ok 3 (bs (enc h)) ⟨by decide, by decide⟩ (by rw [bs_size]; have := enc_len (mayB_ok hm); omega) W (Lib.hid hW))
    have HF : Hid (bs (Fr.frm 3 (bs (enc h)).data.toList) = whl h) := Lib.hid rfl
    rw [HF.out] at HM
    have H := Lib.hid H
    unfold hval at *
    clear hk HF
    generalize whl h = F at *
    generalize bs (enc h) = E at *
    go_enter Tryd.func40, Tryd.ntmps40
    go_wp2_with fail
    refine H.out.mono ?_
    rintro e w1 ⟨rfl, hb⟩
    have HB := Lib.hid (below_trans' (below_one w _) hb)
    clear hb
    go_wp2_with fail
    refine (HM.out _ (hT.out.below HB.out)).mono ?_
    rintro e w2 ⟨rfl, hb⟩
    have HB2 := Lib.hid (below_trans' HB.out hb)
    clear hb
    go_wp2
    go_ret2
    exact ⟨rfl, HB2.out⟩
def sizR (h : He) : Nat := if mayB h = true then 9 + (enc h).length else 0
set_option maxHeartbeats 400000 in
theorem hsize_any (h : He) (v : Value) (w : World) (hk : KAt w v h.log) (hl : h.log.length ≤ 9223372036854775807) (hT : Hid (Tab w)) : Calls Tryd.prog 13 #[hval h v] w (Ret w (.int .i64 (sizR h : Int))) := by
  have H := Lib.hid (whole_any h v (w.alloc (.cells #[.int .i64 h.gen, .int .i64 h.base, .int .i64 h.snap, v] 26)) (hk.below (below_one w _) (Nat.le_refl _)) hl (Lib.hid (hT.out.below (below_one w _))))
  have hz : (whR h).1.size = sizR h := by
    unfold whR sizR
    cases hm : mayB h
    · rfl
    · rw [if_pos rfl, if_pos rfl]; exact whl_size
  have hz2 : sizR h ≤ 100 := by
    unfold sizR
    cases hm : mayB h
    · rw [if_neg (by simp)]; omega
    · rw [if_pos rfl]; have := enc_len (mayB_ok hm); omega
  generalize (whR h).1 = F at *
  generalize (whR h).2 = E at *
  generalize sizR h = N at *
  unfold hval at *
  clear hk
  subst hz
  go_enter Tryd.func13, Tryd.ntmps13
  go_wp2_with fail
  refine H.out.mono ?_
  rintro e w1 ⟨rfl, hb⟩
  have HB := Lib.hid (below_trans' (below_one w _) hb)
  clear hb
  go_wp2
  go_ret
  exact ⟨rfl, HB.out⟩
end Go.Proofs.YtpcpbdcdapmlnaaDoor
