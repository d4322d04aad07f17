/- The contracts of package bits' functions that snappy calls, over the seat's own program. -/
import Derived.Test.YtnnogjojoeajnaaProg
import Derived.Test.YtnnogjojoeajnaaMa
import Derived.Test.YtnnogjojoeajnaaOw
import Derived.WalkKit
import Derived.WalkLawsBesides
import Derived.WalkSpells
import Derived.Deep.LoopGhost
import Derived.Lib.Hide
import Derived.Deep.QuietTactic
import Derived.BigQuiet
import Derived.Handy
namespace Go.Proofs.Ytnnogjojoeajnaa
open Go.RowKit
set_option maxHeartbeats 400000 in
theorem isPlace_any (s : ByteArray) (at' : Int) (w : World) :
   Calls Try.prog 65 #[.string s, .int .i64 at'] w fun e w' => e = .returned (.bool (decide (0 ≤ at' ∧ at' ≤ (s.size : Int)))) ∧ w = w' := by
  by_cases h : 0 ≤ at'
  · go_enter Try.func65, Try.ntmps65
    go_wp2
    go_ret
    refine ⟨by simp [h], rfl⟩
  · go_enter Try.func65, Try.ntmps65
    go_wp2
    go_ret
    refine ⟨by rw [decide_eq_false (by omega)]; rfl, rfl⟩
theorem getElem_toList (s : ByteArray) (j : Nat) (h : j < s.size) : s.data.toList[j]'(by simpa using h) = s[j] := rfl
theorem ret_uv {n n' x x' k k' : Int} (h1 : n = n') (h2 : x = x') (h3 : k = k') : Ending.returned (.tuple #[.int .u64 n, .int .i64 x, .int .i64 k]) = Ending.returned (.tuple #[.int .u64 n', .int .i64 x', .int .i64 k']) := by rw [h1, h2, h3]
set_option maxRecDepth 100000 in
set_option maxHeartbeats 1000000 in
theorem uvarint_in (s : ByteArray) (at' : Nat) (w : World) (h1 : at' ≤ s.size) (hs : s.size ≤ 140737488351232) (N C K : Nat) (hr : Bt.rd (s.data.toList.drop at') 0 0 = (N, C, K)) :
   Calls Try.prog 46 #[.string s, .int .i64 at'] w fun e w' => e = .returned (.tuple #[.int .u64 N, .int .i64 (if K = 0 then ((at' + C : Nat) : Int) else 0), .int .i64 K]) ∧ w = w' := by
  have hd : decide (0 ≤ (at' : Int) ∧ (at' : Int) ≤ (s.size : Int)) = true := decide_eq_true (by omega)
  have HR := Lib.hid hr
  clear hr
  go_enter Try.func46, Try.ntmps46
  go_wp2
  go_step3
  go_wp2_with (go_at_call 65; refine (isPlace_any _ _ _).mono ?_; rintro e w' ⟨rfl, rfl⟩; simp only [hd])
  go_step3
  go_wp2
  go_loop [4, 5, 7] (fun n x h => ∃ (k acc : Nat), k ≤ 9 ∧ at' + k ≤ s.size ∧ Hid (acc < 128 ^ k) ∧ Hid (Bt.rd (s.data.toList.drop (at' + k)) k acc = (N, C, K)) ∧ n = .int .u64 acc ∧ x = .int .i64 ((at' + k : Nat) : Int) ∧ h = .int .i64 ((7 * k : Nat) : Int)) (fun _ x _ => s.size - (intOf x).toNat)
  case atStart => exact ⟨0, 0, by omega, by omega, Lib.hid (by simp), HR, rfl, rfl, rfl⟩
  case round =>
    obtain ⟨k, acc, hk, hs', HA, HK, rfl, rfl, rfl⟩ := hrel
    by_cases hlt : at' + k < s.size
    · have hb := (s[at' + k]).toNat_lt
      have HL : Hid (s.data.toList.drop (at' + k) = s[at' + k] :: s.data.toList.drop (at' + (k + 1))) := Bt.drop_cons (by simpa using hlt)
      by_cases h9 : k = 9
      · subst h9
        by_cases hb1 : 1 < s[at' + 9].toNat
        · go_wp2
          rw [Exit.noGoto_ret]
          go_ret3
          have e := HK.out
          rw [HL.out, Bt.rd_form _ _ hb1] at e
          cases e
          exact ⟨ret_uv rfl rfl rfl, rfl⟩
        · have hb2 : s[at' + 9].toNat ≤ 1 := by omega
          go_wp2
          rw [Exit.noGoto_ret]
          go_ret3
          have e := HK.out
          rw [HL.out, Bt.rd_end _ _ _ (by omega) (by omega)] at e
          cases e
          exact ⟨ret_uv (Bt.or_last _ _ HA.out hb2) (by simp; omega) rfl, rfl⟩
      · have h8 : k ≤ 8 := by omega
        have h63 : ((7 * (k : Int)) == 63) = false := by rw [beq_eq_false_iff_ne]; omega
        by_cases hb3 : s[at' + k].toNat < 128
        · go_wp2
          rw [Exit.noGoto_ret]
          go_ret3
          have e := HK.out
          rw [HL.out, Bt.rd_end _ _ _ (by omega) (by omega)] at e
          cases e
          exact ⟨ret_uv (Bt.or_step _ _ _ h8 HA.out hb3) (by simp; omega) rfl, rfl⟩
        · have hb4 : 128 ≤ s[at' + k].toNat := by omega
          have HF := Lib.hid (Bt.fits acc (s[at' + k].toNat - 128) k h8 HA.out (by omega))
          have HE : Hid (Bt.rd (s.data.toList.drop (at' + (k + 1))) (k + 1) (acc + (s[at' + k].toNat - 128) * 128 ^ k) = (N, C, K)) := by
            have e := HK.out
            rw [HL.out, Bt.rd_more _ _ _ (by omega) hb4] at e
            exact e
          go_wp2
          go_round
          case rel =>
            refine ⟨k + 1, acc + (s[at' + k].toNat - 128) * 128 ^ k, ?_, ?_, HF.out.1, HE, ?_, ?_, ?_⟩
            · omega
            · omega
            · rw [Bt.or_step' acc k (s[at' + k]) h8 HA.out hb4]
            · go_num
            · go_num
          case measure => simp [intOf]; omega
    · obtain rfl : k = s.size - at' := by omega
      have hq : (((at' + (s.size - at') : Nat) : Int) == (s.size : Int)) = true := by rw [beq_iff_eq]; omega
      have e := HK.out
      rw [List.drop_eq_nil_of_le (by simp; omega), Bt.rd_nil] at e
      cases e
      go_wp2
      all_goals
        (try rw [Exit.noGoto_ret])
        go_ret3
        exact ⟨ret_uv rfl rfl rfl, rfl⟩
set_option maxHeartbeats 400000 in
theorem uvarint_out (s : ByteArray) (at' : Int) (w : World) (h : at' < 0 ∨ (s.size : Int) < at') :
   Calls Try.prog 46 #[.string s, .int .i64 at'] w fun e w' => e = .returned (.tuple #[.int .u64 0, .int .i64 0, .int .i64 1]) ∧ w = w' := by
  have hd : decide (0 ≤ at' ∧ at' ≤ (s.size : Int)) = false := decide_eq_false (by omega)
  go_enter Try.func46, Try.ntmps46
  go_wp2
  go_step3
  go_wp2_with (go_at_call 65; refine (isPlace_any _ _ _).mono ?_; rintro e w' ⟨rfl, rfl⟩; simp only [hd])
  rw [Exit.noGoto_ret]
  go_ret3
  exact ⟨rfl, rfl⟩
theorem ret_u64 {a b : Int} (h : a = b) : Ending.returned (.int .u64 a) = .returned (.int .u64 b) := by rw [h]
theorem ret_i64 {a b : Int} (h : a = b) : Ending.returned (.int .i64 a) = .returned (.int .i64 b) := by rw [h]
theorem uvarint_ok (s : ByteArray) (at' : Nat) (w : World) (h1 : at' ≤ s.size) (hs : s.size ≤ 140737488351232) (N C X : Nat) (hr : Bt.rd (s.data.toList.drop at') 0 0 = (N, C, 0)) (hX : at' + C = X) :
   Calls Try.prog 46 #[.string s, .int .i64 at'] w fun e w' => e = .returned (.tuple #[.int .u64 N, .int .i64 X, .int .i64 0]) ∧ w = w' := by
  have h := uvarint_in s at' w h1 hs N C 0 hr
  rw [if_pos rfl, hX] at h
  exact h
theorem uvarint_no (s : ByteArray) (at' : Nat) (w : World) (h1 : at' ≤ s.size) (hs : s.size ≤ 140737488351232) (K : Nat) (hK : K ≠ 0) (hr : Bt.rd (s.data.toList.drop at') 0 0 = (0, 0, K)) :
   Calls Try.prog 46 #[.string s, .int .i64 at'] w fun e w' => e = .returned (.tuple #[.int .u64 0, .int .i64 0, .int .i64 K]) ∧ w = w' := by
  have h := uvarint_in s at' w h1 hs 0 0 K hr
  rw [if_neg hK] at h
  exact h
theorem Try.info5 : (Try.prog.info? 5).map (fun i => (i.zero, i.size, i.bytes)) = some (some (.int .u8 0), 1, 1) := by kernel_rfl
theorem bv_ofNat {n : Nat} {x : Int} (h : x = ((UInt8.ofNat n).toNat : Int)) : Value.int .u8 x = bv (UInt8.ofNat n) := by rw [h]; rfl
theorem own_snoc {w : World} {base : Nat} {v : Value} {xs : List UInt8} {c : UInt8} {x : Value} (hx : x = bv c) (h : Own w base v (xs.map bv ++ [x])) : Own w base v ((xs ++ [c]).map bv) := by
  rw [List.map_append, List.map_cons, List.map_nil, ← hx]; exact h
set_option maxRecDepth 100000 in
set_option maxHeartbeats 1000000 in
theorem put_own (n : Nat) (hn : n ≤ 18446744073709551615) (base : Nat) (v : Value) (xs : List UInt8) (w : World) (hown : Own w base v (xs.map bv)) (hb : base ≤ w.heap.size) (hl : xs.length ≤ 140737488355000) :
   Calls Try.prog 41 #[v, .int .u64 n] w (OwnRet w base v (xs ++ Bt.vint n)) := by
  have hv := Bt.vlen_u64 (n := n) (by omega)
  obtain ⟨i0, hi, hz0, hz1, hz2⟩ := info_parts Try.info5
  have HO := Lib.hid hown
  clear hown
  go_enter Try.func41, Try.ntmps41
  go_wp2
  go_loopw [0, 1] (fun u x wr => ∃ (m : Nat) (pre : List UInt8), x = .int .u64 m ∧ m ≤ 18446744073709551615 ∧ Hid (pre ++ Bt.vint m = Bt.vint n) ∧ Hid (Own wr base u ((xs ++ pre).map bv)) ∧ Hid (Step w wr v u)) (fun _ x _ => (intOf x).toNat)
  case atStart => exact ⟨n, [], rfl, by omega, Lib.hid rfl, by rw [List.append_nil]; exact HO, Lib.hid (Step.refl _ _)⟩
  case round =>
    obtain ⟨m, pre, rfl, hm, HP, HW, HS⟩ := hrel
    have hpl : pre.length ≤ 10 := by
      have := congrArg List.length HP.out
      rw [List.length_append, Bt.vint_length, Bt.vint_length] at this
      have := Bt.vlen_pos m
      omega
    have hxl : ((xs ++ pre).map bv).length ≤ 140737488355100 := by simp; omega
    have HB : Hid (base ≤ wr.heap.size) := Lib.hid (Nat.le_trans hb HS.out.grown.size)
    by_cases hlt : 128 ≤ m
    · have HV := Lib.hid (Bt.vint_big hlt)
      go_wp2_with (at_builtin; refine wpList_append_Own _ rfl (.tmp 9) (.tmp 13) 28 28 rfl base 5 i0 (.int .u8 0) 1 Try.underlying28 hi hz0 hz1 hz2 rfl u0 ((xs ++ pre).map bv) rfl (HW.out.alloc _) _ 1 _ rfl (Src.one wr Try.underlying28 _ _ rfl) ?c1 ?c2 ?c3 ?_; rotate_right; intro v' w1 hown1 hgr hwh; have HO1 := Lib.hid hown1; have HG := Lib.hid hgr; have HH := Lib.hid hwh; clear hown1 hgr hwh)
      case c1 => omega
      case c2 => omega
      case c3 => exact Nat.le_trans HB.out (by simp)
      go_roundw
      case rel =>
        refine ⟨m / 128, pre ++ [UInt8.ofNat (m % 128 + 128)], by go_num, by omega, Lib.hid ?_, Lib.hid ?_, Lib.hid ?_⟩
        · rw [← HP.out, HV.out]; simp
        · rw [← List.append_assoc]
          exact own_snoc (bv_ofNat (by rw [Bt.or128', Bt.ofNat_toNat (by omega)])) HO1.out
        · exact (HS.out.alloc _).trans ⟨HG.out, HH.out⟩
      case measure => simp [intOf]; omega
    · have HV := Lib.hid (Bt.vint_small (n := m) (by omega))
      go_wp2_with (at_builtin; refine wpList_append_Own _ rfl (.tmp 15) (.tmp 18) 28 28 rfl base 5 i0 (.int .u8 0) 1 Try.underlying28 hi hz0 hz1 hz2 rfl u0 ((xs ++ pre).map bv) rfl (HW.out.alloc _) _ 1 _ rfl (Src.one wr Try.underlying28 _ _ rfl) ?c1 ?c2 ?c3 ?_; rotate_right; intro v' w1 hown1 hgr hwh; have HO1 := Lib.hid hown1; have HG := Lib.hid hgr; have HH := Lib.hid hwh; clear hown1 hgr hwh)
      case c1 => omega
      case c2 => omega
      case c3 => exact Nat.le_trans HB.out (by simp)
      go_ret
      refine ⟨v', rfl, ?_, (HS.out.alloc _).trans ⟨HG.out, HH.out⟩⟩
      rw [← HP.out, HV.out, ← List.append_assoc]
      exact own_snoc (bv_ofNat (Bt.ofNat_toNat (by omega)).symm) HO1.out
/-- What a call of function f tells, at any world. -/
def TellsU (f : Nat) (args : Array Value) (n x k : Int) : Prop := ∀ w : World, Calls Try.prog f args w fun e w' => e = .returned (.tuple #[.int .u64 n, .int .i64 x, .int .i64 k]) ∧ w = w'
def TellsS (f : Nat) (args : Array Value) (n : ByteArray) (x k : Int) : Prop := ∀ w : World, Calls Try.prog f args w fun e w' => e = .returned (.tuple #[.string n, .int .i64 x, .int .i64 k]) ∧ w = w'
set_option maxRecDepth 100000 in
set_option maxHeartbeats 400000 in
theorem uto_ok (s : ByteArray) (a most n x : Int) (h : TellsU 46 #[.string s, .int .i64 a] n x 0) (hm : n ≤ most) : TellsU 69 #[.string s, .int .i64 a, .int .u64 most] n x 0 := by
  intro w
  have T := Lib.hid h
  clear h
  go_enter Try.func69, Try.ntmps69
  go_wp2_with (go_at_call 46; refine (T.out _).mono ?_; rintro e w' ⟨rfl, rfl⟩)
  go_ret3
  exact ⟨rfl, rfl⟩
set_option maxRecDepth 100000 in
set_option maxHeartbeats 400000 in
theorem uto_no (s : ByteArray) (a most k : Int) (hk : (k == 0) = false) (h : TellsU 46 #[.string s, .int .i64 a] 0 0 k) : TellsU 69 #[.string s, .int .i64 a, .int .u64 most] 0 0 k := by
  intro w
  have T := Lib.hid h
  clear h
  go_enter Try.func69, Try.ntmps69
  go_wp2_with (go_at_call 46; refine (T.out _).mono ?_; rintro e w' ⟨rfl, rfl⟩)
  go_ret3
  exact ⟨rfl, rfl⟩
theorem ret_raw {s t : ByteArray} {x y k : Int} (h : s = t) (h2 : x = y) : Ending.returned (.tuple #[.string s, .int .i64 x, .int .i64 k]) = Ending.returned (.tuple #[.string t, .int .i64 y, .int .i64 k]) := by rw [h, h2]
set_option maxRecDepth 100000 in
set_option maxHeartbeats 400000 in
theorem raw_ok (s : ByteArray) (a z : Nat) (h : a + z ≤ s.size) (hs : s.size ≤ 140737488351232) : TellsS 76 #[.string s, .int .i64 a, .int .i64 z] (s.extract a (a + z)) ((a + z : Nat) : Int) 0 := by
  intro w
  have g1 : (z : Int) ≤ (s.size : Int) - (a : Int) := by omega
  go_enter Try.func76, Try.ntmps76
  go_wp2
  go_ret3
  exact ⟨ret_raw rfl (by omega), rfl⟩
set_option maxRecDepth 100000 in
set_option maxHeartbeats 400000 in
theorem raw_arg (s : ByteArray) (a z : Int) (h : z < 0) : TellsS 76 #[.string s, .int .i64 a, .int .i64 z] ⟨#[]⟩ 0 1 := by
  intro w
  go_enter Try.func76, Try.ntmps76
  go_wp2
  go_ret3
  exact ⟨rfl, rfl⟩
set_option maxRecDepth 100000 in
set_option maxHeartbeats 400000 in
theorem raw_short (s : ByteArray) (a : Nat) (z : Int) (h0 : 0 ≤ z) (h1 : a ≤ s.size) (h : (s.size : Int) - (a : Int) < z) (hs : s.size ≤ 140737488351232) : TellsS 76 #[.string s, .int .i64 a, .int .i64 z] ⟨#[]⟩ 0 8 := by
  intro w
  go_enter Try.func76, Try.ntmps76
  go_wp2
  go_ret3
  exact ⟨rfl, rfl⟩
/-- A reader's three cells in block b. -/
structure RdAt (w : World) (b : Nat) (s : ByteArray) (a e : Int) : Prop where
  c0 : w.cell? ⟨b, 0, none⟩ = some (.string s)
  c1 : w.cell? ⟨b, 1, none⟩ = some (.int .i64 a)
  c2 : w.cell? ⟨b, 2, none⟩ = some (.int .i64 e)
  f1 : w.frozen? ⟨b, 1, none⟩ = false
  f2 : w.frozen? ⟨b, 2, none⟩ = false
theorem RdAt.congr {w w' : World} {b : Nat} {s : ByteArray} {a e : Int} (h : RdAt w b s a e) (hb : w'.heap[b]? = w.heap[b]?) : RdAt w' b s a e :=
  ⟨(World.cell?_of_block (a := ⟨b, 0, none⟩) hb).trans h.c0, (World.cell?_of_block (a := ⟨b, 1, none⟩) hb).trans h.c1, (World.cell?_of_block (a := ⟨b, 2, none⟩) hb).trans h.c2,
    (World.frozen?_of_block (a := ⟨b, 1, none⟩) hb).trans h.f1, (World.frozen?_of_block (a := ⟨b, 2, none⟩) hb).trans h.f2⟩
theorem RdAt.lt {w : World} {b : Nat} {s : ByteArray} {a e : Int} (h : RdAt w b s a e) : b < w.heap.size := World.block_lt_of_cell? w ⟨b, 0, none⟩ h.c0
theorem RdAt.at {w : World} {b : Nat} {s : ByteArray} {a e x : Int} (h : RdAt w b s a e) : RdAt (w.setCell ⟨b, 1, none⟩ (.int .i64 x)) b s x e :=
  ⟨by rw [World.cell?_setCell_other _ _ _ _ (by simp)]; exact h.c0, World.cell?_setCell_same _ _ _ h.c1, by rw [World.cell?_setCell_other _ _ _ _ (by simp)]; exact h.c2,
    by rw [World.frozen?_setCell]; exact h.f1, by rw [World.frozen?_setCell]; exact h.f2⟩
theorem RdAt.err {w : World} {b : Nat} {s : ByteArray} {a e x : Int} (h : RdAt w b s a e) : RdAt (w.setCell ⟨b, 2, none⟩ (.int .i64 x)) b s a x :=
  ⟨by rw [World.cell?_setCell_other _ _ _ _ (by simp)]; exact h.c0, by rw [World.cell?_setCell_other _ _ _ _ (by simp)]; exact h.c1, World.cell?_setCell_same _ _ _ h.c2,
    by rw [World.frozen?_setCell]; exact h.f1, by rw [World.frozen?_setCell]; exact h.f2⟩
/-- What a call on a reader leaves: the value; the reader's new cells; nothing else that was there has turned. -/
def RdRet (w : World) (b : Nat) (s : ByteArray) (v : Value) (a e : Int) (en : Ending) (w' : World) : Prop :=
  en = .returned v ∧ RdAt w' b s a e ∧ w.grownBy w' (some b)
theorem grown_drewN (w : World) (m b : Nat) : w.grownBy (w.drewN m) (some b) := ⟨rfl, rfl, rfl, Nat.le_refl _, fun _ _ _ => rfl⟩
theorem grown_set (w : World) (m b j : Nat) (u : Value) : w.grownBy ((w.drewN m).setCell ⟨b, j, none⟩ u) (some b) :=
  ⟨rfl, rfl, rfl, by simp [World.setCell], fun k _ hk => Below.heap_setCell (w.drewN m) _ _ k (fun e => hk (by rw [e]))⟩
theorem RdAt.drewN {w : World} {b : Nat} {s : ByteArray} {a e : Int} (h : RdAt w b s a e) (m : Nat) : RdAt (w.drewN m) b s a e := h.congr rfl
set_option maxRecDepth 100000 in
set_option maxHeartbeats 400000 in
theorem err_any (b : Nat) (e : Int) (w : World) (hc : w.cell? ⟨b, 2, none⟩ = some (.int .i64 e)) :
    Calls Try.prog 57 #[.pointer (some ⟨b, 0, none⟩)] w fun en w' => en = .returned (.int .i64 e) ∧ w = w' := by
  go_enter Try.func57, Try.ntmps57
  go_wp2
  go_ret
  exact ⟨rfl, rfl⟩
set_option maxRecDepth 100000 in
set_option maxHeartbeats 400000 in
theorem left_any (b : Nat) (s : ByteArray) (a : Int) (w : World) (hc0 : w.cell? ⟨b, 0, none⟩ = some (.string s)) (hc1 : w.cell? ⟨b, 1, none⟩ = some (.int .i64 a)) (ha : 0 ≤ a) (ha2 : a ≤ (s.size : Int)) (hs : s.size ≤ 140737488351232) :
    Calls Try.prog 55 #[.pointer (some ⟨b, 0, none⟩)] w fun en w' => en = .returned (.int .i64 ((s.size : Int) - a)) ∧ ∃ m, w' = w.drewN m := by
  go_enter Try.func55, Try.ntmps55
  go_wp2
  go_quiet (fail)
  go_wp2
  go_ret
  exact ⟨rfl, _, rfl⟩
set_option maxRecDepth 100000 in
set_option maxHeartbeats 400000 in
theorem take_ok (b : Nat) (s : ByteArray) (a x : Int) (w : World) (h : RdAt w b s a 0) :
    Calls Try.prog 70 #[.pointer (some ⟨b, 0, none⟩), .int .i64 x, .int .i64 0] w fun en w' => en = .returned (.tuple #[]) ∧ w.setCell ⟨b, 1, none⟩ (.int .i64 x) = w' := by
  have c1 := h.c1
  have f1 := h.f1
  clear h
  go_enter Try.func70, Try.ntmps70
  go_wp2
  go_end0
  exact ⟨rfl, rfl⟩
set_option maxRecDepth 100000 in
set_option maxHeartbeats 400000 in
theorem take_no (b : Nat) (s : ByteArray) (a x k : Int) (w : World) (h : RdAt w b s a 0) (hk : (k != 0) = true) :
    Calls Try.prog 70 #[.pointer (some ⟨b, 0, none⟩), .int .i64 x, .int .i64 k] w fun en w' => en = .returned (.tuple #[]) ∧ w.setCell ⟨b, 2, none⟩ (.int .i64 k) = w' := by
  have c2 := h.c2
  have f2 := h.f2
  clear h
  go_enter Try.func70, Try.ntmps70
  go_wp2
  refine bodyPost_ret (results_none rfl _ _ _) rfl ?_
  exact ⟨rfl, rfl⟩
set_option maxRecDepth 100000 in
set_option maxHeartbeats 400000 in
theorem mvarint_ok (b : Nat) (s : ByteArray) (a : Int) (most : Int) (n : Int) (x : Int) (w : World) (h : RdAt w b s a 0)
    (hT : ∀ w : World, Calls Try.prog 69 #[.string s, .int .i64 a, .int .u64 most] w fun e w' => e = .returned (.tuple #[.int .u64 n, .int .i64 x, .int .i64 0]) ∧ w = w') :
    Calls Try.prog 54 #[.pointer (some ⟨b, 0, none⟩), .int .u64 most] w (RdRet w b s (.int .u64 n) x 0) := by
  have c0 := h.c0
  have c1 := h.c1
  have c2 := h.c2
  have H := Lib.hid h
  have T := Lib.hid hT
  clear h hT
  go_enter Try.func54, Try.ntmps54
  go_wp2_with (go_at_call 57; refine (err_any b 0 _ c2).mono ?_; rintro e w' ⟨rfl, rfl⟩)
  go_quiet ((go_at_call 69; exact Calls.quiet_of_same ((T.out _).mono fun _ _ h => ⟨h.1, h.2.symm⟩)))
  rename_i nq
  go_wp2_with (go_at_call 70; refine (take_ok b s a x _ (H.out.drewN nq)).mono ?_; rintro e w' ⟨rfl, rfl⟩)
  go_ret
  exact ⟨rfl, (H.out.drewN _).at, grown_set _ _ _ _ _⟩
set_option maxRecDepth 100000 in
set_option maxHeartbeats 400000 in
theorem mraw_ok (b : Nat) (s : ByteArray) (a : Int) (z : Int) (n : ByteArray) (x : Int) (w : World) (h : RdAt w b s a 0)
    (hT : ∀ w : World, Calls Try.prog 76 #[.string s, .int .i64 a, .int .i64 z] w fun e w' => e = .returned (.tuple #[.string n, .int .i64 x, .int .i64 0]) ∧ w = w') :
    Calls Try.prog 72 #[.pointer (some ⟨b, 0, none⟩), .int .i64 z] w (RdRet w b s (.string n) x 0) := by
  have c0 := h.c0
  have c1 := h.c1
  have c2 := h.c2
  have H := Lib.hid h
  have T := Lib.hid hT
  clear h hT
  go_enter Try.func72, Try.ntmps72
  go_wp2_with (go_at_call 57; refine (err_any b 0 _ c2).mono ?_; rintro e w' ⟨rfl, rfl⟩)
  go_quiet ((go_at_call 76; exact Calls.quiet_of_same ((T.out _).mono fun _ _ h => ⟨h.1, h.2.symm⟩)))
  rename_i nq
  go_wp2_with (go_at_call 70; refine (take_ok b s a x _ (H.out.drewN nq)).mono ?_; rintro e w' ⟨rfl, rfl⟩)
  go_ret
  exact ⟨rfl, (H.out.drewN _).at, grown_set _ _ _ _ _⟩
set_option maxRecDepth 100000 in
set_option maxHeartbeats 400000 in
theorem mraw_no (b : Nat) (s : ByteArray) (a : Int) (z : Int) (k : Int) (w : World) (h : RdAt w b s a 0) (hk : (k != 0) = true)
    (hT : ∀ w : World, Calls Try.prog 76 #[.string s, .int .i64 a, .int .i64 z] w fun e w' => e = .returned (.tuple #[.string ⟨#[]⟩, .int .i64 0, .int .i64 k]) ∧ w = w') :
    Calls Try.prog 72 #[.pointer (some ⟨b, 0, none⟩), .int .i64 z] w (RdRet w b s (.string ⟨#[]⟩) a k) := by
  have c0 := h.c0
  have c1 := h.c1
  have c2 := h.c2
  have H := Lib.hid h
  have T := Lib.hid hT
  clear h hT
  go_enter Try.func72, Try.ntmps72
  go_wp2_with (go_at_call 57; refine (err_any b 0 _ c2).mono ?_; rintro e w' ⟨rfl, rfl⟩)
  go_quiet ((go_at_call 76; exact Calls.quiet_of_same ((T.out _).mono fun _ _ h => ⟨h.1, h.2.symm⟩)))
  rename_i nq
  go_wp2_with (go_at_call 70; refine (take_no b s a 0 k _ (H.out.drewN nq) hk).mono ?_; rintro e w' ⟨rfl, rfl⟩)
  go_ret
  exact ⟨rfl, (H.out.drewN _).err, grown_set _ _ _ _ _⟩
set_option maxRecDepth 100000 in
set_option maxHeartbeats 400000 in
theorem mraw_err (b : Nat) (s : ByteArray) (a e : Int) (z : Int) (w : World) (h : RdAt w b s a e) (he : (e != 0) = true) :
    Calls Try.prog 72 #[.pointer (some ⟨b, 0, none⟩), .int .i64 z] w (RdRet w b s (.string ⟨#[]⟩) a e) := by
  have c2 := h.c2
  have H := Lib.hid h
  clear h
  go_enter Try.func72, Try.ntmps72
  go_wp2_with (go_at_call 57; refine (err_any b e _ c2).mono ?_; rintro e w' ⟨rfl, rfl⟩)
  go_ret
  exact ⟨rfl, H.out, World.grownBy.refl w _⟩
end Go.Proofs.Ytnnogjojoeajnaa
