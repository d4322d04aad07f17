/- Matches: alike, the iterators over places, longest. -/
import Derived.Test.YtnnogjojoeajnaaIt
import Derived.Test.YtnnogjojoeajnaaQr
namespace Go.Proofs.Ytnnogjojoeajnaa
open Go.RowKit Go.Shelf Go.Sort
attribute [local go_sem] Oper.semAt_some
/-- How many bytes two texts have alike from their begin on, most at most. -/
def alk : List UInt8 → List UInt8 → Nat → Nat
  | x :: xs, y :: ys, m + 1 => if x = y then alk xs ys m + 1 else 0
  | _, _, _ => 0
theorem alk_le : ∀ (m : Nat) (xs ys : List UInt8), alk xs ys m ≤ m
  | 0, xs, ys => by cases xs <;> cases ys <;> simp [alk]
  | m + 1, [], ys => by simp [alk]
  | m + 1, x :: xs, [] => by simp [alk]
  | m + 1, x :: xs, y :: ys => by
    rw [alk]
    have := alk_le m xs ys
    split <;> omega
def al (l : List UInt8) (p a most : Nat) : Nat := alk (l.drop p) (l.drop a) most
theorem getB (s : ByteArray) (j : Nat) (h : j < s.size) : s.data.toList.drop j = s[j] :: s.data.toList.drop (j + 1) := by
  rw [List.drop_eq_getElem_cons (by simpa using h)]
  rfl
theorem below_drewN {n : Nat} {A B : World} (h : Below n A B) (m : Nat) : Below n A (B.drewN m) := ⟨h.os, h.tape, h.output, h.size, h.block⟩
set_option maxRecDepth 100000 in
set_option maxHeartbeats 1000000 in
theorem alike_any (s : ByteArray) (p a most : Nat) (w : World) (hp : p ≤ a) (ha : a + most ≤ s.size) (hm : most ≤ 64) (hs : s.size ≤ 1000000000000) :
    Calls Try.prog 63 #[.string s, .int .i64 p, .int .i64 a, .int .i64 most] w fun e w' => e = .returned (.int .i64 (al s.data.toList p a most)) ∧ Below w.heap.size w w' := by
  go_enter Try.func63, Try.ntmps63
  go_wp2
  go_loopw [9] (fun i wr => ∃ (k m : Nat), i = .int .i64 (k : Int) ∧ k + m = most ∧ Hid (alk (s.data.toList.drop (p + k)) (s.data.toList.drop (a + k)) m + k = al s.data.toList p a most) ∧ Hid (Below w.heap.size w wr)) (fun i _ => most - (intOf i).toNat)
  case atStart => exact ⟨0, most, rfl, by omega, Lib.hid rfl, Lib.hid (Below.refl _ _)⟩
  case round =>
    obtain ⟨k, m, rfl, hkm, HK, HB⟩ := hrel
    cases m with
    | zero =>
      have hlt : decide ((k : Int) < (most : Int)) = false := decide_eq_false (by omega)
      have hlt2 : decide (k < most) = false := decide_eq_false (by omega)
      have HE : Hid ((k : Int) = (al s.data.toList p a most : Int)) := Lib.hid (by rw [← HK.out]; cases s.data.toList.drop (p + k) <;> cases s.data.toList.drop (a + k) <;> simp [alk])
      go_wp2
      go_big_quiet (fail)
      go_wp2
      go_ret
      exact ⟨by rw [HE.out]; rfl, below_drewN HB.out _⟩
    | succ m =>
      have hlt : decide ((k : Int) < (most : Int)) = true := decide_eq_true (by omega)
      have hlt2 : decide (k < most) = true := decide_eq_true (by omega)
      obtain ⟨X, hX⟩ : ∃ X, X = p + k := ⟨_, rfl⟩
      obtain ⟨Y, hY⟩ : ∃ Y, Y = a + k := ⟨_, rfl⟩
      have h1 : X < s.size := by omega
      have h2 : Y < s.size := by omega
      have h1i : (X : Int) < (s.size : Int) := by omega
      have h2i : (Y : Int) < (s.size : Int) := by omega
      have w1 : IntKind.i64.wrap ((p : Int) + (k : Int)) = (X : Int) := by rw [Bt.wrap_i64]; omega
      have w2 : IntKind.i64.wrap ((a : Int) + (k : Int)) = (Y : Int) := by rw [Bt.wrap_i64]; omega
      have hk := HK.out
      rw [← hX, ← hY, getB s _ h1, getB s _ h2, alk] at hk
      have e1 : X + 1 = p + (k + 1) := by omega
      have e2 : Y + 1 = a + (k + 1) := by omega
      rw [e1, e2] at hk
      have HK2 := Lib.hid hk
      have HXX := Lib.hid hX; have HYY := Lib.hid hY
      clear hk hX hY e1 e2
      generalize hx : s[X] = x at *
      generalize hy : s[Y] = y at *
      by_cases hxy : x = y
      · subst hxy
        have he : (x == x) = true := by simp
        go_wp2
        go_big_quiet (fail)
        rename_i nq
        go_wp2
        go_roundw
        case rel =>
          refine ⟨k + 1, m, by go_num, by omega, Lib.hid ?_, Lib.hid (below_drewN HB.out _)⟩
          have := HK2.out
          rw [if_pos trivial] at this
          omega
        case measure => simp [intOf]; omega
      · have he : (x == y) = false := by rw [beq_eq_false_iff_ne]; exact hxy
        have hbv : ((x.toNat : Int) == (y.toNat : Int)) = false := by
          rw [beq_eq_false_iff_ne]
          intro e
          exact hxy (UInt8.toNat_inj.1 (by omega))
        have hbv2 : (x.toNat == y.toNat) = false := by
          rw [beq_eq_false_iff_ne]
          intro e
          exact hxy (UInt8.toNat_inj.1 (by omega))
        have HE : Hid ((k : Int) = (al s.data.toList p a most : Int)) := Lib.hid (by
          have := HK2.out
          rw [if_neg hxy] at this
          omega)
        go_wp2
        go_big_quiet (fail)
        go_wp2
        go_ret
        exact ⟨by rw [HE.out]; rfl, below_drewN HB.out _⟩
/-- All places ahead of one, the nearest first. -/
def desc : Nat → List Nat
  | 0 => []
  | k + 1 => k :: desc k
def enc1 (p : Nat) : Array Value := #[.int .i64 p]
theorem allAhead_any (a : Int) (w : World) :
    Calls Try.prog 45 #[.int .i64 a] w fun e w' => e = .returned (.func (.func 64) #[] #[.pointer (some ⟨w.heap.size, 0, none⟩)]) ∧ w' = w.alloc (.cells #[.int .i64 a] 3) := by
  go_enter Try.func45, Try.ntmps45
  go_wp2
  go_ret
  exact ⟨rfl, rfl⟩
theorem nearest_any (v : Value) (hv : ∃ a n c, v = .slice a n c) (w : World) :
    Calls Try.prog 59 #[v] w fun e w' => e = .returned (.func (.func 75) #[] #[.pointer (some ⟨w.heap.size, 0, none⟩)]) ∧ w' = w.alloc (.cells #[v] 90) := by
  obtain ⟨a, n, c, rfl⟩ := hv
  go_enter Try.func59, Try.ntmps59
  go_wp2
  go_ret
  exact ⟨rfl, rfl⟩
set_option maxRecDepth 100000 in
set_option maxHeartbeats 1000000 in
theorem allAhead_gives (n : Nat) (hn : 1 ≤ n) (a : Nat) (ha : a ≤ 1000000000000) (q : Nat → Prop) (W : World) (b0 : Nat) (hb0 : W.cell? ⟨b0, 0, none⟩ = some (.int .i64 a)) :
    Gives n Try.prog 64 #[.pointer (some ⟨b0, 0, none⟩)] enc1 (desc a) 0 q W := by
  intro l J Jx hJ hJx hY h0
  have HJ := Lib.hid hJ
  have HJx := Lib.hid hJx
  have HY := Lib.hid hY
  have H0 := Lib.hid h0
  clear hJ hJx hY h0
  refine callsIn_of_wp Try.func64 rfl trivial ?_ rfl
  simp only [Try.ntmps64, List.size_toArray, List.length_cons, List.length_nil, Nat.reduceAdd, Nat.reduceSub, Array.replicate_succ, Array.replicate_zero, List.push_toArray, List.append_toArray, List.nil_append, List.cons_append]
  gi_wp2
  gi_loopw [3] (fun p wr => ∃ (k : Nat), p = .int .i64 ((k : Int) - 1) ∧ k ≤ 1000000000000 ∧ Hid (W.heap.size ≤ wr.heap.size) ∧ Hid (J (desc k) wr)) (fun p _ => (intOf p + 1).toNat)
  case atStart => exact ⟨a, rfl, ha, Lib.hid (Nat.le_refl _), H0⟩
  case round =>
    obtain ⟨k, rfl, hk, HZ, HI⟩ := hrel
    cases k with
    | zero =>
      have e0 : ((0 : Nat) : Int) - 1 = -1 := by omega
      rw [e0]
      gi_wp2
      refine ⟨fun _ h => (by cases h), ?_⟩
      gi_wp2
      go_end0
      exact ⟨⟨_, rfl⟩, .inl HI.out⟩
    | succ k =>
      have e0 : ((k + 1 : Nat) : Int) - 1 = (k : Int) := by omega
      rw [e0]
      obtain ⟨fn, tmps, assign, body, hy, hR⟩ := HY.out k (desc k) wr HI.out (by have := HZ.out; omega)
      have HYR := Lib.hid hR
      clear hR
      simp only [enc1] at hy
      gi_wp2
      refine HYR.out.mono ?_
      rintro e W3 (⟨rfl, hJ3, hk3⟩ | ⟨rfl, hJx3⟩)
      · have HJ3 := Lib.hid hJ3
        have HK3 := Lib.hid hk3
        clear hJ3 hk3
        gi_wp2
        go_roundw
        case rel => exact ⟨k, rfl, by omega, Lib.hid (Nat.le_trans HZ.out HK3.out.size), HJ3⟩
        case measure => simp [intOf]
      · have HJ3 := Lib.hid hJx3
        clear hJx3
        gi_wp2
        go_end0
        exact ⟨⟨_, rfl⟩, .inr HJ3.out⟩
/-- A row of places read in memory: its cells. -/
def PlacesAt (W : World) (v : Value) (zs : List Nat) : Prop :=
  (zs = [] ∧ ∃ c, v = .slice none 0 c) ∨ ∃ g c, v = .slice (some ⟨g, 0, none⟩) zs.length c ∧ ∀ j (h : j < zs.length), W.cell? ⟨g, j, none⟩ = some (.int .i64 (zs[j] : Int))
theorem PlacesAt.slice {W : World} {v : Value} {zs : List Nat} (h : PlacesAt W v zs) : ∃ a c, v = .slice a zs.length c := by
  rcases h with ⟨rfl, c, rfl⟩ | ⟨g, c, rfl, _⟩
  · exact ⟨_, _, rfl⟩
  · exact ⟨_, _, rfl⟩
theorem PlacesAt.congr {W W' : World} {v : Value} {zs : List Nat} (h : PlacesAt W v zs) (hb : ∀ g, v.ownBlock = some g → W'.heap[g]? = W.heap[g]?) : PlacesAt W' v zs := by
  rcases h with ⟨rfl, c, rfl⟩ | ⟨g, c, rfl, h⟩
  · exact .inl ⟨rfl, c, rfl⟩
  · exact .inr ⟨g, c, rfl, fun j hj => (World.cell?_of_block (a := ⟨g, j, none⟩) (hb g rfl)).trans (h j hj)⟩
theorem PlacesAt.lt {W : World} {v : Value} {zs : List Nat} (h : PlacesAt W v zs) (hz : 0 < zs.length) : ∀ g, v.ownBlock = some g → g < W.heap.size := by
  rcases h with ⟨rfl, c, rfl⟩ | ⟨g, c, rfl, h⟩
  · simp at hz
  · intro g' e
    simp [Value.ownBlock] at e
    subst e
    exact World.block_lt_of_cell? W ⟨g, 0, none⟩ (h 0 hz)
theorem take_rev (zs : List Nat) (k : Nat) (h : k < zs.length) : (zs.take (k + 1)).reverse = zs[k] :: (zs.take k).reverse := by
  rw [List.take_succ_eq_append_getElem h, List.reverse_append]
  rfl
set_option maxRecDepth 100000 in
set_option maxHeartbeats 1000000 in
theorem nearest_gives (n : Nat) (hn : 1 ≤ n) (v : Value) (zs : List Nat) (hz : zs.length ≤ 1000000000000) (W : World) (b0 : Nat) (hb0 : Boxed W b0 90 v) (hp : PlacesAt W v zs) :
    Gives n Try.prog 75 #[.pointer (some ⟨b0, 0, none⟩)] enc1 zs.reverse 0 (fun j => j = b0 ∨ some j = v.ownBlock) W := by
  intro l J Jx hJ hJx hY h0
  have HJ := Lib.hid hJ
  have HJx := Lib.hid hJx
  have HY := Lib.hid hY
  have H0 := Lib.hid h0
  have HP := Lib.hid hp
  have HB := Lib.hid hb0
  obtain ⟨va, vc, hv⟩ := hp.slice
  generalize hL : zs.length = L at *
  have HL := Lib.hid hL
  have hcb := hb0.cell
  clear hJ hJx hY h0 hp hb0 hL
  subst hv
  refine callsIn_of_wp Try.func75 rfl trivial ?_ rfl
  simp only [Try.ntmps75, List.size_toArray, List.length_cons, List.length_nil, Nat.reduceAdd, Nat.reduceSub, Array.replicate_succ, Array.replicate_zero, List.push_toArray, List.append_toArray, List.nil_append, List.cons_append]
  gi_wp2
  gi_loopw [3] (fun p wr => ∃ (k : Nat), p = .int .i64 ((k : Int) - 1) ∧ k ≤ L ∧ Hid (W.heap.size ≤ wr.heap.size) ∧ Hid (Boxed wr b0 90 (.slice va L vc)) ∧ Hid (PlacesAt wr (.slice va L vc) zs) ∧ Hid (J (zs.take k).reverse wr)) (fun p _ => (intOf p + 1).toNat)
  case atStart => exact ⟨L, rfl, Nat.le_refl _, Lib.hid (Nat.le_refl _), HB, HP, Lib.hid (by rw [← HL.out, List.take_length]; exact H0.out)⟩
  case round =>
    clear hcb
    obtain ⟨k, rfl, hk, HZ, HBX, HPL, HI⟩ := hrel
    cases k with
    | zero =>
      have e0 : ((0 : Nat) : Int) - 1 = -1 := by omega
      rw [e0]
      gi_wp2
      refine ⟨fun _ h => (by cases h), ?_⟩
      gi_wp2
      go_end0
      exact ⟨⟨_, rfl⟩, .inl HI.out⟩
    | succ k =>
      have e0 : ((k + 1 : Nat) : Int) - 1 = (k : Int) := by omega
      rw [e0]
      have hkl : k < zs.length := by have := HL.out; omega
      rcases HPL.out with ⟨he, _⟩ | ⟨g, c, hg, hcs⟩
      · exact absurd hkl (by rw [he]; simp)
      · have hcb := HBX.out.cell
        cases hg
        have hck := hcs k hkl
        clear hcs
        have hi := HI.out
        rw [take_rev zs k hkl] at hi
        obtain ⟨fn, tmps, assign, body, hy, hR⟩ := HY.out zs[k] (zs.take k).reverse wr hi (by have := HZ.out; omega)
        have HYR := Lib.hid hR
        clear hR hi
        simp only [enc1] at hy
        generalize zs[k] = Z at *
        gi_wp2
        refine HYR.out.mono ?_
        rintro e W3 (⟨rfl, hJ3, hk3⟩ | ⟨rfl, hJx3⟩)
        · have HJ3 := Lib.hid hJ3
          have HK3 := Lib.hid hk3
          clear hJ3 hk3
          gi_wp2
          go_roundw
          case rel =>
            refine ⟨k, rfl, by omega, Lib.hid (Nat.le_trans HZ.out HK3.out.size), Lib.hid ((HK3.out.same _ (.inl rfl) HBX.out.lt).trans HBX.out), Lib.hid (HPL.out.congr (fun g' e => HK3.out.same _ (.inr e.symm) (HPL.out.lt (by omega) g' e))), HJ3⟩
          case measure => simp [intOf]
        · have HJ3 := Lib.hid hJx3
          clear hJx3
          gi_wp2
          go_end0
          exact ⟨⟨_, rfl⟩, .inr HJ3.out⟩
end Go.Proofs.Ytnnogjojoeajnaa
