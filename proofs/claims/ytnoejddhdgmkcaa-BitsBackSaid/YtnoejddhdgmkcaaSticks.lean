/- BitsSticks: for every text and every list of asks the law answers true. No condition. -/
import Derived.Test.YtnoejddhdgmkcaaRows
import Derived.Test.YtnoejddhdgmkcaaAw
import Derived.Test.YtnoejddhdgmkcaaAs
import Derived.Test.YtnoejddhdgmkcaaOp
import Derived.WalkKit
import Derived.ProofKit
import Derived.OpenShut
import Derived.ShutString
namespace Go.Proofs.Ytnoejddhdgmkcaa
open Go.RowKit
set_option maxRecDepth 100000 in
set_option maxHeartbeats 400000 in
theorem new_any (s : ByteArray) (w : World) : Calls Try.prog 16 #[.string s] w fun e w' => e = .returned (.pointer (some ⟨w.heap.size, 0, none⟩)) ∧ w.alloc (.cells #[.string s, .int .i64 0, .int .i64 0] 75) = w' := by
  go_enter Try.func16, Try.ntmps16
  go_wp2
  go_ret
  exact ⟨rfl, rfl⟩
theorem RdAt.new (w : World) (s : ByteArray) : RdAt (w.alloc (.cells #[.string s, .int .i64 0, .int .i64 0] 75)) w.heap.size s 0 0 := by
  have hat : (w.alloc (.cells #[.string s, .int .i64 0, .int .i64 0] 75)).heap[w.heap.size]? = some (.cells #[.string s, .int .i64 0, .int .i64 0] 75 (0, 0)) := heap_alloc_new w _
  refine ⟨?_, ?_, ?_, ?_, ?_⟩
  · simp only [World.cell?, hat]; rfl
  · simp only [World.cell?, hat]; rfl
  · simp only [World.cell?, hat]; rfl
  · simp only [World.frozen?, hat]; rfl
  · simp only [World.frozen?, hat]; rfl

set_option maxRecDepth 100000 in
set_option maxHeartbeats 400000 in
theorem end_err (b : Nat) (e : Int) (w : World) (hc : w.cell? ⟨b, 2, none⟩ = some (.int .i64 e)) (he : (e != 0) = true) :
    Calls Try.prog 21 #[.pointer (some ⟨b, 0, none⟩)] w fun en w' => en = .returned (.int .i64 e) ∧ w = w' := by
  go_enter Try.func21, Try.ntmps21
  go_wp2_with (go_at_call 18; refine (err_any b _ _ hc).mono ?_; rintro e1 w3 ⟨rfl, rfl⟩)
  go_ret
  exact ⟨rfl, rfl⟩
set_option maxRecDepth 100000 in
set_option maxHeartbeats 400000 in
theorem end_more (b : Nat) (s : ByteArray) (a : Int) (w : World) (h : RdAt w b s a 0) (ha : 0 ≤ a) (ha2 : a < (s.size : Int)) (hs : s.size ≤ 140737488351232) :
    Calls Try.prog 21 #[.pointer (some ⟨b, 0, none⟩)] w fun en w' => en = .returned (.int .i64 4) ∧ ∃ m, w' = w.drewN m := by
  have H := Lib.hid h
  clear h
  go_enter Try.func21, Try.ntmps21
  go_wp2_with (first | (go_at_call 18; refine (err_any b _ _ H.out.c2).mono ?_; rintro e1 w3 ⟨rfl, rfl⟩) | (go_at_call 22; refine (left_any b s a _ H.out.c0 H.out.c1 (by omega) (by omega) (by omega)).mono ?_; rintro e1 w3 ⟨rfl, m, rfl⟩))
  go_ret
  exact ⟨rfl, _, rfl⟩
set_option maxRecDepth 100000 in
set_option maxHeartbeats 400000 in
theorem end_all (b : Nat) (s : ByteArray) (w : World) (h : RdAt w b s (s.size : Int) 0) (hs : s.size ≤ 140737488351232) :
    Calls Try.prog 21 #[.pointer (some ⟨b, 0, none⟩)] w fun en w' => en = .returned (.int .i64 0) ∧ ∃ m, w' = w.drewN m := by
  have H := Lib.hid h
  clear h
  go_enter Try.func21, Try.ntmps21
  go_wp2_with (first | (go_at_call 18; refine (err_any b _ _ H.out.c2).mono ?_; rintro e1 w3 ⟨rfl, rfl⟩) | (go_at_call 22; refine (left_any b s _ _ H.out.c0 H.out.c1 (by omega) (by omega) (by omega)).mono ?_; rintro e1 w3 ⟨rfl, m, rfl⟩))
  go_ret
  exact ⟨rfl, _, rfl⟩
namespace bitsSticks
open Go.ChangeShapes Go.WideShapes Go.ChangeAt Go.RowKit
open Go.ChangeMaps (open_string shut_string)
set_option linter.unusedVariables false
set_option maxRecDepth 100000 in
set_option maxHeartbeats 4000000 in
theorem main (s : ByteArray) (bl off len cap : Nat) (q : Nat → Quad) (hs : s.size ≤ 3000) (hl : len ≤ 200) (hp : 0 < len) (w : World) (hA : AsksAt w bl off len q) :
    Calls Try.prog 11 #[.string s, .slice (some ⟨bl, off, none⟩) len cap] w fun e w' => e = .returned (.bool true) ∧ Below w.heap.size w w' := by
  have hbl := hA.lt hp
  have HA := Lib.hid hA
  clear hA
  go_enter Try.func11, Try.ntmps11
  go_wp2_with fail
  refine (awake_any _).mono ?_
  rintro e w1 ⟨rfl, hb1⟩
  have HB := Lib.hid hb1; clear hb1
  go_wp2_with fail
  refine (new_any s _).mono ?_
  rintro e w2 ⟨rfl, rfl⟩
  have R := Lib.hid (RdAt.new w1 s)
  have hb : w.heap.size ≤ w1.heap.size := HB.out.size
  have HB2 := Lib.hid (HB.out.alloc hb (.cells #[.string s, .int .i64 0, .int .i64 0] 75))
  go_wp2
  go_loopw [6] (fun i wr => ∃ (k a e : Nat), i = .int .i64 k ∧ k ≤ len ∧ a ≤ s.size ∧ Hid (RdAt wr w1.heap.size s a e) ∧ Hid (Below w.heap.size w wr)) (fun i _ => len - (intOf i).toNat)
  case atStart => exact ⟨0, 0, 0, rfl, by omega, by omega, R, HB2⟩
  case round =>
    obtain ⟨k, a, e, rfl, hk, ha, R, HB⟩ := hrel
    by_cases hlt : k < len
    · have hAr := (HA.out.keep (HB.out.block bl hbl)).c k hlt
      rcases hq : q k with ⟨W, N, A, B⟩
      rw [hq] at hAr
      clear hq
      obtain ⟨c0, c1, c2, c3, ok⟩ := hAr
      simp only at c0 c1 c2 c3
      have hW := Go.bounds_u8 ok.w
      have hN := Go.bounds_u64 ok.n
      have hAA := Go.bounds_i64 ok.a
      simp only at hW hN hAA
      obtain ⟨n, t, a', e', hAsk, hT⟩ := ask_spec s a e ha hs W N A B hW.1 hN.1 hAA.1 hAA.2
      have HAsk := Lib.hid hAsk
      have HT := Lib.hid hT
      clear hAsk hT ok hW hN hAA
      have c1 : wr.cell? ⟨bl, off + k * 4 + 1, none⟩ = some (.int .u64 N) := c1
      have c2 : wr.cell? ⟨bl, off + k * 4 + 2, none⟩ = some (.int .i64 A) := c2
      have c3 : wr.cell? ⟨bl, off + k * 4 + 3, none⟩ = some (.int .i64 B) := c3
      rw [Nat.add_zero] at c0
      have X0 : Hid (w.cell? ⟨bl, off + k * 4, none⟩ = some (.int .u8 W)) := Lib.hid ((HB.out.cell (p := ⟨bl, off + k * 4, none⟩) hbl).symm.trans c0)
      have X2 : Hid (w.cell? ⟨bl, off + k * 4 + 2, none⟩ = some (.int .i64 A)) := Lib.hid ((HB.out.cell (p := ⟨bl, off + k * 4 + 2, none⟩) hbl).symm.trans c2)
      rcases HT.out with ⟨he, rfl, rfl, rfl, rfl⟩ | ⟨rfl, he, rfl, rfl, rfl⟩ | ⟨rfl, rfl, ha1, ha2, hx⟩
      · have g0 := ne0 he
        have g1 := eq0 he
        clear HT he
        go_wp2_with (first
          | (go_at_call 18; refine (err_any _ _ _ R.out.c2).mono ?_; rintro e1 w3 ⟨rfl, rfl⟩)
          | (go_at_call 19; refine (at_any _ _ _ R.out.c1).mono ?_; rintro e1 w3 ⟨rfl, rfl⟩)
          | (go_at_call 39; refine (HAsk.out _ _ R.out).mono ?_; rintro e1 w3 ⟨rfl, hR, hG⟩; have R := Lib.hid hR; have HB := Lib.hid (HB.out.grown hG HB.out.size (fun _ h => by cases h; exact hb)); clear hR hG)
          | (go_at_call 22; refine (left_any _ s _ _ R.out.c0 R.out.c1 (by omega) (by omega) (by omega)).mono ?_; rintro e1 w3 ⟨rfl, m, rfl⟩; have R := Lib.hid (R.out.drewN m); have HB := Lib.hid (below_drewN HB.out m)))
        go_roundw
        case rel => exact ⟨k + 1, a', e', by go_num, by omega, by omega, R, HB⟩
        case measure => simp [intOf]; omega
      · have g0 := ne0 he
        have g1 := eq0 he
        clear HT he
        go_wp2_with (first
          | (go_at_call 18; refine (err_any _ _ _ R.out.c2).mono ?_; rintro e1 w3 ⟨rfl, rfl⟩)
          | (go_at_call 19; refine (at_any _ _ _ R.out.c1).mono ?_; rintro e1 w3 ⟨rfl, rfl⟩)
          | (go_at_call 39; refine (HAsk.out _ _ R.out).mono ?_; rintro e1 w3 ⟨rfl, hR, hG⟩; have R := Lib.hid hR; have HB := Lib.hid (HB.out.grown hG HB.out.size (fun _ h => by cases h; exact hb)); clear hR hG)
          | (go_at_call 22; refine (left_any _ s _ _ R.out.c0 R.out.c1 (by omega) (by omega) (by omega)).mono ?_; rintro e1 w3 ⟨rfl, m, rfl⟩; have R := Lib.hid (R.out.drewN m); have HB := Lib.hid (below_drewN HB.out m)))
        go_roundw
        case rel => exact ⟨k + 1, a', e', by go_num, by omega, by omega, R, HB⟩
        case measure => simp [intOf]; omega
      · by_cases hW4 : W = 4
        · obtain ⟨hx1, hx2⟩ := hx hW4
          subst hW4
          have t1 : t.toList = (s.extract a a').toList := by rw [hx1]
          have t2 : ((t.size : Int) != A) = false := by rw [bne_eq_false_iff_eq, hx1]; simp; omega
          clear HT hx hx1 hx2
          go_wp2_with (first
            | (go_at_call 18; refine (err_any _ _ _ R.out.c2).mono ?_; rintro e1 w3 ⟨rfl, rfl⟩)
            | (go_at_call 19; refine (at_any _ _ _ R.out.c1).mono ?_; rintro e1 w3 ⟨rfl, rfl⟩)
            | (go_at_call 39; refine (HAsk.out _ _ R.out).mono ?_; rintro e1 w3 ⟨rfl, hR, hG⟩; have R := Lib.hid hR; have HB := Lib.hid (HB.out.grown hG HB.out.size (fun _ h => by cases h; exact hb)); clear hR hG)
            | (go_at_call 22; refine (left_any _ s _ _ R.out.c0 R.out.c1 (by omega) (by omega) (by omega)).mono ?_; rintro e1 w3 ⟨rfl, m, rfl⟩; have R := Lib.hid (R.out.drewN m); have HB := Lib.hid (below_drewN HB.out m); have d0 := (HB.out.cell (p := ⟨bl, off + k * 4, none⟩) hbl).trans X0.out; have d2 := (HB.out.cell (p := ⟨bl, off + k * 4 + 2, none⟩) hbl).trans X2.out))
          go_roundw
          case rel => exact ⟨k + 1, a', 0, by go_num, by omega, by omega, R, HB⟩
          case measure => simp [intOf]; omega
        · have g4 : (W == 4) = false := beq_eq_false_iff_ne.2 hW4
          clear HT hx hW4
          go_wp2_with (first
            | (go_at_call 18; refine (err_any _ _ _ R.out.c2).mono ?_; rintro e1 w3 ⟨rfl, rfl⟩)
            | (go_at_call 19; refine (at_any _ _ _ R.out.c1).mono ?_; rintro e1 w3 ⟨rfl, rfl⟩)
            | (go_at_call 39; refine (HAsk.out _ _ R.out).mono ?_; rintro e1 w3 ⟨rfl, hR, hG⟩; have R := Lib.hid hR; have HB := Lib.hid (HB.out.grown hG HB.out.size (fun _ h => by cases h; exact hb)); clear hR hG)
            | (go_at_call 22; refine (left_any _ s _ _ R.out.c0 R.out.c1 (by omega) (by omega) (by omega)).mono ?_; rintro e1 w3 ⟨rfl, m, rfl⟩; have R := Lib.hid (R.out.drewN m); have HB := Lib.hid (below_drewN HB.out m); have d0 := (HB.out.cell (p := ⟨bl, off + k * 4, none⟩) hbl).trans X0.out; have d2 := (HB.out.cell (p := ⟨bl, off + k * 4 + 2, none⟩) hbl).trans X2.out))
          go_roundw
          case rel => exact ⟨k + 1, a', 0, by go_num, by omega, by omega, R, HB⟩
          case measure => simp [intOf]; omega
    · obtain rfl : k = len := by omega
      by_cases he : e = 0
      · subst he
        by_cases hae : a = s.size
        · subst hae
          go_wp2_with (first
            | (go_at_call 18; refine (err_any _ _ _ R.out.c2).mono ?_; rintro e1 w3 ⟨rfl, rfl⟩)
            | (go_at_call 19; refine (at_any _ _ _ R.out.c1).mono ?_; rintro e1 w3 ⟨rfl, rfl⟩)
            | (go_at_call 21; refine (end_all _ s _ R.out (by omega)).mono ?_; rintro e1 w3 ⟨rfl, m, rfl⟩; have R := Lib.hid (R.out.drewN m); have HB := Lib.hid (below_drewN HB.out m)))
          go_ret
          exact ⟨rfl, HB.out⟩
        · have hlt' : a < s.size := by omega
          have hne : ((a : Int) == (s.size : Int)) = false := by rw [beq_eq_false_iff_ne]; omega
          go_wp2_with (first
            | (go_at_call 18; refine (err_any _ _ _ R.out.c2).mono ?_; rintro e1 w3 ⟨rfl, rfl⟩)
            | (go_at_call 19; refine (at_any _ _ _ R.out.c1).mono ?_; rintro e1 w3 ⟨rfl, rfl⟩)
            | (go_at_call 21; refine (end_more _ s _ _ R.out (by omega) (by omega) (by omega)).mono ?_; rintro e1 w3 ⟨rfl, m, rfl⟩; have R := Lib.hid (R.out.drewN m); have HB := Lib.hid (below_drewN HB.out m)))
          go_ret
          exact ⟨rfl, HB.out⟩
      · have g0 := ne0 he
        have g1 := eq0 he
        clear he
        go_wp2_with (first
          | (go_at_call 18; refine (err_any _ _ _ R.out.c2).mono ?_; rintro e1 w3 ⟨rfl, rfl⟩)
          | (go_at_call 19; refine (at_any _ _ _ R.out.c1).mono ?_; rintro e1 w3 ⟨rfl, rfl⟩)
          | (go_at_call 21; refine (end_err _ _ _ R.out.c2 g0).mono ?_; rintro e1 w3 ⟨rfl, rfl⟩))
        go_ret
        exact ⟨rfl, HB.out⟩
set_option maxRecDepth 100000 in
set_option maxHeartbeats 2000000 in
theorem long (s : ByteArray) (a0 : Option Addr) (len cap : Nat) (h : 3000 < s.size ∨ 200 < len) (w : World) :
    Calls Try.prog 11 #[.string s, .slice a0 len cap] w fun e w' => e = .returned (.bool true) ∧ Below w.heap.size w w' := by
  by_cases hs : 3000 < s.size
  · go_enter Try.func11, Try.ntmps11
    go_wp2_with fail
    refine (awake_any _).mono ?_
    rintro e w1 ⟨rfl, hb1⟩
    have HB1 := Lib.hid hb1; clear hb1
    go_wp2
    go_ret
    exact ⟨rfl, HB1.out⟩
  · have hl : 200 < len := by omega
    clear h
    go_enter Try.func11, Try.ntmps11
    go_wp2_with fail
    refine (awake_any _).mono ?_
    rintro e w1 ⟨rfl, hb1⟩
    have HB1 := Lib.hid hb1; clear hb1
    go_wp2
    go_ret
    exact ⟨rfl, HB1.out⟩
set_option maxRecDepth 100000 in
set_option maxHeartbeats 2000000 in
theorem nothing (s : ByteArray) (a0 : Option Addr) (cap : Nat) (hs : s.size ≤ 3000) (w : World) :
    Calls Try.prog 11 #[.string s, .slice a0 0 cap] w fun e w' => e = .returned (.bool true) ∧ Below w.heap.size w w' := by
  by_cases hz : s.size = 0
  · have e1 : (((0 : Int)) == (s.size : Int)) = true := by rw [beq_iff_eq]; omega
    have HZ := Lib.hid hz
    clear hz
    go_enter Try.func11, Try.ntmps11
    go_wp2_with fail
    refine (awake_any _).mono ?_
    rintro e w1 ⟨rfl, hb1⟩
    have HB := Lib.hid hb1; clear hb1
    go_wp2_with fail
    refine (new_any s _).mono ?_
    rintro e w2 ⟨rfl, rfl⟩
    have R := Lib.hid (RdAt.new w1 s)
    have R0 : Hid (RdAt (w1.alloc (.cells #[.string s, .int .i64 0, .int .i64 0] 75)) w1.heap.size s (s.size : Int) 0) := by
      rw [HZ.out]; exact R
    have HB := Lib.hid (HB.out.alloc HB.out.size (.cells #[.string s, .int .i64 0, .int .i64 0] 75))
    go_wp2
    refine wp_loop_rounds 1 ?_
    rw [rounds_succ]
    go_wp2_with (first
      | (go_at_call 18; refine (err_any _ _ _ R.out.c2).mono ?_; rintro e1 w3 ⟨rfl, rfl⟩)
      | (go_at_call 19; refine (at_any _ _ _ R.out.c1).mono ?_; rintro e1 w3 ⟨rfl, rfl⟩)
      | (go_at_call 21; refine (end_all _ s _ R0.out (by omega)).mono ?_; rintro e1 w3 ⟨rfl, m, rfl⟩; have R := Lib.hid (R.out.drewN m); have HB := Lib.hid (below_drewN HB.out m)))
    go_ret
    exact ⟨rfl, HB.out⟩
  · have e1 : (((0 : Int)) == (s.size : Int)) = false := by rw [beq_eq_false_iff_ne]; omega
    have hpos : 0 < s.size := by omega
    clear hz
    go_enter Try.func11, Try.ntmps11
    go_wp2_with fail
    refine (awake_any _).mono ?_
    rintro e w1 ⟨rfl, hb1⟩
    have HB := Lib.hid hb1; clear hb1
    go_wp2_with fail
    refine (new_any s _).mono ?_
    rintro e w2 ⟨rfl, rfl⟩
    have R := Lib.hid (RdAt.new w1 s)
    have HB := Lib.hid (HB.out.alloc HB.out.size (.cells #[.string s, .int .i64 0, .int .i64 0] 75))
    go_wp2
    refine wp_loop_rounds 1 ?_
    rw [rounds_succ]
    go_wp2_with (first
      | (go_at_call 18; refine (err_any _ _ _ R.out.c2).mono ?_; rintro e1 w3 ⟨rfl, rfl⟩)
      | (go_at_call 19; refine (at_any _ _ _ R.out.c1).mono ?_; rintro e1 w3 ⟨rfl, rfl⟩)
      | (go_at_call 21; refine (end_more _ s _ _ R.out (by omega) (by omega) (by omega)).mono ?_; rintro e1 w3 ⟨rfl, m, rfl⟩; have R := Lib.hid (R.out.drewN m); have HB := Lib.hid (below_drewN HB.out m)))
    go_ret
    exact ⟨rfl, HB.out⟩
theorem core (s : ByteArray) (v : Value) (u : Unit) (w0 : s.size ≤ maxLen) (w : World) (h : Asks w v) :
    Calls Try.prog 11 #[.string s, v] w fun e w' => e = .returned (.bool true) ∧ Below w.heap.size w w' := by
  by_cases hs : 3000 < s.size
  · rcases h with ⟨a, cap, rfl⟩ | ⟨b, off, len, cap, q, rfl, _, _⟩
    · exact long s _ _ _ (.inl hs) w
    · exact long s _ _ _ (.inl hs) w
  · rcases h with ⟨a, cap, rfl⟩ | ⟨b, off, len, cap, q, rfl, hp, hA⟩
    · exact nothing s a cap (by omega) w
    · by_cases hl : 200 < len
      · exact long s _ _ _ (.inr hl) w
      · exact main s b off len cap q (by omega) (by omega) hp w hA
theorem own : ownKnob Try.prog.godebug = none := by kernel_rfl
theorem laidOut : laidOutB Try.prog = true := by kernel_rfl
set_option maxRecDepth 100000 in
theorem lifted (os : Os) (started : os.Started) (H : Type) (enc : TypeId × Value → H) :
    ReturnsInHanded {} Try.checked os 11 .any (Rows.bitsSticksSpec.pre6 enc Try.prog Try.f11 Rows.bitsSticksRow.domain false) (Rows.bitsSticksSpec.post enc Try.prog Try.f11 false true false false) := by
  refine returnsInHanded_of_change (C := Try.checked) own started (by kernel_rfl) Try.func11
    (ChangeSpec.witness6 (enc := enc) (C := Try.checked) false ⟨#[], #[.string ByteArray.empty, .slice none 0 0], []⟩ 8 (by kernel_rfl) (by kernel_rfl) (by kernel_rfl) (by kernel_rfl)) ?_
  intro W base args ds gs before hval0 hW hcnd _
  have hval : ∀ (j : Nat) t v, Try.f11.params[j]? = some t → args[j]? = some v → Value.okWide Try.prog W .any base t v := hval0
  have hW' := hW
  obtain ⟨p, q, hA0, hV, rfl, hfz, hnd⟩ := hW
  have hA : DataW.TrodAll enc Try.prog W 0 (fun _ => true) true Try.f11.params.toList args.toList ds p := hA0
  rw [Try.params11] at hA hval
  obtain ⟨v0, vs0, d0, ds0, p0, q0, hargs, rfl, rfl, h0, r0⟩ := trodAll_cons hA
  obtain ⟨v1, vs1, d1, ds1, p1, q1, rfl, rfl, rfl, h1, r1⟩ := trodAll_cons r0
  obtain ⟨rfl, rfl, rfl⟩ := trodAll_nil r1
  obtain rfl : args = #[v0, v1] := by cases args; simp_all
  obtain ⟨rfl, rfl⟩ := trodVars_none hV
  have k0 := h0
  have lt0 : ∀ x ∈ p0, x.block < W.heap.size := by obtain ⟨m, hm⟩ := k0; exact DataW.trod_lt m _ _ _ hm
  have k1 := h1
  have lt1 : ∀ x ∈ p1, x.block < W.heap.size := by obtain ⟨m, hm⟩ := k1; exact DataW.trod_lt m _ _ _ hm
  obtain ⟨a0, rfl, rfl, rfl, w0⟩ := open_string Try.underlying9 (hval 0 9 v0 rfl rfl) h0
  obtain ⟨a1, w1⟩ := open_asks (hval 1 51 v1 rfl rfl) h1
  clear hA0 hval0
  refine (core a0 v1 a1 w0 W w1).mono fun e W' ⟨he, bel⟩ => ?_
  subst he
  exact ⟨_, rfl, _, _, _, [], _, [], hW', trodAll_mk1 (shut_bool Try.underlying4 _), (trodAll_cons_mk (Below.trod laidOut (by kernel_rfl) (of_decide_eq_true (by kernel_rfl)) k0 bel lt0) (trodAll_cons_mk (Below.trod laidOut (by kernel_rfl) (of_decide_eq_true (by kernel_rfl)) k1 bel lt1) trodAll_mk0)), rfl, bel.frame _, fun h => by cases h⟩
theorem over : Rows.bitsSticksRow.holds Try.pinned (OpenSpec.ofChange Rows.bitsSticksSpec) :=
  OpenClaim.holds_of_wide 11 Try.f11 rfl rfl rfl rfl rfl rfl rfl ⟨rfl, rfl, rfl, rfl, rfl⟩ rfl rfl rfl rfl rfl (by kernel_rfl) Try.func11 (by kernel_rfl)
    (of_decide_eq_true (by kernel_rfl)) (by unfold Func.isWrapper; first | (rw [if_pos (by decide +kernel)]; kernel_rfl) | (rw [if_neg (by decide +kernel)]; exact ⟨rfl, rfl⟩))
    (fun os started H enc _ => lifted os started H enc)
theorem proved : Rows.BitsSticksSaid := over
end bitsSticks
end Go.Proofs.Ytnoejddhdgmkcaa
