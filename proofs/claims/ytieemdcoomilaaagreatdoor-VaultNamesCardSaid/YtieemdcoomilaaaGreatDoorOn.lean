/- refused; One, the program's and the document's. -/
import Derived.Test.YtieemdcoomilaaaGreatDoorSh
import Derived.Maps.AppendAt
import Derived.Laws.AppendOwn
import Derived.RangeFuncBox
import Derived.Test.YtieemdcoomilaaaGreatDoorFb
import Derived.Deep.QuietTactic
set_option linter.unusedVariables false
set_option linter.unusedSimpArgs false
namespace Go.Proofs.YtieemdcoomilaaaGreatDoor
open Go Go.RowKit
set_option maxRecDepth 100000
theorem ret_two {s : ByteArray} {b : Bool} {w w' : World} (h : Below w.heap.size w w') : Ret w (.tuple #[.string s, .bool b]) (.returned (.tuple #[.string s, .bool b])) w' := ⟨rfl, h⟩
theorem below_more {w w1 : World} (o : Obj) (h : Below w.heap.size w w1) : Below w.heap.size w (w1.alloc o) := h.alloc h.size _
/-- What One tells. -/
def oneY (s : ByteArray) (k : UInt8) : Prop := Fr.er s.data.toList = 0 ∧ Fr.kd s.data.toList = k ∧ 9 + Fr.ln s.data.toList = s.size
instance (s : ByteArray) (k : UInt8) : Decidable (oneY s k) := by unfold oneY; infer_instance
def oneV (s : ByteArray) (k : UInt8) : Value := if oneY s k then .tuple #[.string (bs (Fr.pl s.data.toList)), .bool true] else .tuple #[.string ⟨#[]⟩, .bool false]
theorem bh_zero (s : ByteArray) : bh s 0 = s.data.toList := rfl
theorem er1_zero (s : ByteArray) : er1 s 0 = Fr.er s.data.toList := er1_at s 0 (Nat.zero_le _)
set_option maxHeartbeats 1000000 in
theorem one_no (s : ByteArray) (k : UInt8) (E : Nat) (h0 : E ≠ 0) (w : World) (hR : Calls Tryz.prog 111 #[.string s, .int .i64 0] w (Ret w (noV E))) :
    Calls Tryz.prog 86 #[.string s, .int .u8 k.toNat] w (Ret w (.tuple #[.string ⟨#[]⟩, .bool false])) := by
  have HR := Lib.hid hR
  have hE : ((E : Int) != 0) = true := by rw [bne_iff_ne]; omega
  clear hR
  go_enter Tryz.func86, Tryz.ntmps86
  go_wp2_with fail
  refine HR.out.mono ?_
  rintro e w1 ⟨rfl, hb1⟩
  have HB1 := Lib.hid (below_more (.cells #[.int .u8 0, .string ⟨#[]⟩, .int .i64 0] 145) hb1)
  clear hb1
  go_wp2
  go_ret2
  exact ⟨rfl, HB1.out⟩
set_option maxHeartbeats 1000000 in
theorem one_kind (s T : ByteArray) (k : UInt8) (q X : Nat) (hq : (q : Int) ≠ (k.toNat : Int)) (hX : X = s.size) (w : World) (hR : Calls Tryz.prog 111 #[.string s, .int .i64 0] w (Ret w (.tuple #[fv (q : Int) T 0, .int .i64 (X : Int), .int .i64 0]))) :
    Calls Tryz.prog 86 #[.string s, .int .u8 k.toNat] w (Ret w (.tuple #[.string ⟨#[]⟩, .bool false])) := by
  have HR := Lib.hid hR
  have hE : ((q : Int) != (k.toNat : Int)) = true := by rw [bne_iff_ne]; exact hq
  have hE2 : ((X : Int) != (s.size : Int)) = false := by subst hX; simp
  clear hR hq
  generalize (k.toNat : Int) = K at *
  clear hX
  go_enter Tryz.func86, Tryz.ntmps86
  go_wp2_with fail
  refine HR.out.mono ?_
  rintro e w1 ⟨rfl, hb1⟩
  have HB1 := Lib.hid (below_more (.cells #[.int .u8 (q : Int), .string T, .int .i64 0] 145) hb1)
  clear hb1
  go_wp2
  go_ret2
  exact ⟨rfl, HB1.out⟩
set_option maxHeartbeats 1000000 in
theorem one_more (s T : ByteArray) (k : UInt8) (q X : Nat) (hX : (X : Int) ≠ (s.size : Int)) (w : World) (hR : Calls Tryz.prog 111 #[.string s, .int .i64 0] w (Ret w (.tuple #[fv (q : Int) T 0, .int .i64 (X : Int), .int .i64 0]))) :
    Calls Tryz.prog 86 #[.string s, .int .u8 k.toNat] w (Ret w (.tuple #[.string ⟨#[]⟩, .bool false])) := by
  have HR := Lib.hid hR
  have hE2 : ((X : Int) != (s.size : Int)) = true := by rw [bne_iff_ne]; exact hX
  clear hR
  generalize (k.toNat : Int) = K at *
  rcases Bool.eq_false_or_eq_true ((q : Int) != K) with hE | hE
  all_goals
    go_enter Tryz.func86, Tryz.ntmps86
    go_wp2_with fail
    refine HR.out.mono ?_
    rintro e w1 ⟨rfl, hb1⟩
    have HB1 := Lib.hid (below_more (.cells #[.int .u8 (q : Int), .string T, .int .i64 0] 145) hb1)
    clear hb1
    go_wp2
    go_ret2
    exact ⟨rfl, HB1.out⟩
set_option maxHeartbeats 1000000 in
theorem one_yes (s T : ByteArray) (k : UInt8) (X : Nat) (hX : X = s.size) (w : World) (hR : Calls Tryz.prog 111 #[.string s, .int .i64 0] w (Ret w (.tuple #[fv (k.toNat : Int) T 0, .int .i64 (X : Int), .int .i64 0]))) :
    Calls Tryz.prog 86 #[.string s, .int .u8 k.toNat] w (Ret w (.tuple #[.string T, .bool true])) := by
  have HR := Lib.hid hR
  have hE2 : ((X : Int) != (s.size : Int)) = false := by subst hX; simp
  clear hR hX
  generalize (k.toNat : Int) = K at *
  have hE : (K != K) = false := by simp
  go_enter Tryz.func86, Tryz.ntmps86
  go_wp2_with fail
  refine HR.out.mono ?_
  rintro e w1 ⟨rfl, hb1⟩
  have HB1 := Lib.hid (below_more (.cells #[.int .u8 K, .string T, .int .i64 0] 145) hb1)
  clear hb1
  go_wp2
  go_ret2
  exact ⟨rfl, HB1.out⟩
theorem one_any (s : ByteArray) (k : UInt8) (w : World) (hs : s.size ≤ 140737488351232) (hT : Hid (Tab w)) :
    Calls Tryz.prog 86 #[.string s, .int .u8 k.toNat] w (Ret w (oneV s k)) := by
  have hz := er1_zero s
  unfold oneV
  by_cases he : Fr.er s.data.toList = 0
  · have hg := Fr.er_good.1 he
    have hR := read_ok s 0 hg w hs hT
    rw [bh_zero] at hR
    by_cases hk : Fr.kd s.data.toList = k
    · by_cases hx : 9 + Fr.ln s.data.toList = s.size
      · rw [if_pos ⟨he, hk, hx⟩]
        subst hk
        exact one_yes s _ _ _ (by omega) w hR
      · rw [if_neg (fun h => hx h.2.2)]
        exact one_more s _ k _ _ (by omega) w hR
    · rw [if_neg (fun h => hk h.2.1)]
      have hq : ((Fr.kd s.data.toList).toNat : Int) ≠ (k.toNat : Int) := fun e => hk (UInt8.toNat.inj (by omega))
      by_cases hx : 9 + Fr.ln s.data.toList = s.size
      · exact one_kind s _ k _ _ hq (by omega) w hR
      · exact one_more s _ k _ _ (by omega) w hR
  · rw [if_neg (fun h => he h.1)]
    exact one_no s k _ he w (read_bad s 0 _ hz he w hs hT)
end Go.Proofs.YtieemdcoomilaaaGreatDoor
namespace Go.Proofs.YtieemdcoomilaaaGreatDoor
open Go Go.ChangeShapes Go.WideShapes Go.RowKit
set_option maxRecDepth 100000
theorem ownsRow_shape {w : World} {base e z n : Nat} {v : Value} {xs : List Value} (h : w.ownsRow base e z v n xs) : ∃ a c, v = .slice a n c := by
  rcases h.2 with ⟨rfl, hn⟩ | ⟨g, cap, cur, rfl, _⟩
  · exact ⟨_, _, by rw [hn]⟩
  · exact ⟨_, _, rfl⟩
theorem ownsRow_below {w w' : World} {base e z n m : Nat} {v : Value} {xs : List Value} (h : w.ownsRow base e z v n xs) (hb : Below m w w') (hn : w.heap.size ≤ m) : w'.ownsRow base e z v n xs := by
  obtain ⟨h1, h2⟩ := h
  refine ⟨h1, h2.imp id ?_⟩
  rintro ⟨g, cap, cur, e, hb', hh, rest⟩
  exact ⟨g, cap, cur, e, hb', (hb.block g (Nat.lt_of_lt_of_le (Array.getElem?_eq_some_iff.1 hh).1 hn)).trans hh, rest⟩
theorem ownsRow_mono {w : World} {base b e z n : Nat} {v : Value} {xs : List Value} (h : w.ownsRow base e z v n xs) (hb : b ≤ base) : w.ownsRow b e z v n xs := by
  obtain ⟨h1, h2⟩ := h
  refine ⟨h1, h2.imp id ?_⟩
  rintro ⟨g, cap, cur, rfl, hg, rest⟩
  exact ⟨g, cap, cur, rfl, Nat.le_trans hb hg, rest⟩
theorem own_lt {w : World} {base e z n : Nat} {v : Value} {xs : List Value} (h : w.ownsRow base e z v n xs) : ∀ g, v.ownBlock = some g → base ≤ g ∧ g < w.heap.size := by
  intro k hk
  rcases h.2 with ⟨rfl, _⟩ | ⟨g, cap, cur, rfl, hb, hh, _⟩
  · simp [Value.ownBlock] at hk
  · simp [Value.ownBlock] at hk
    subst hk
    exact ⟨hb, (Array.getElem?_eq_some_iff.1 hh).1⟩
theorem own_mark {w : World} {base e z n : Nat} {v : Value} {xs : List Value} (h : w.ownsRow base e z v n xs) : ∀ g, v.ownBlock = some g → ∃ cur, w.heap[g]? = some (.cells cur e) := by
  intro k hk
  rcases h.2 with ⟨rfl, _⟩ | ⟨g, cap, cur, rfl, hb, hh, _⟩
  · simp [Value.ownBlock] at hk
  · simp [Value.ownBlock] at hk
    subst hk
    exact ⟨cur, hh⟩
/-- A frame as three cells say it. -/
structure Fq where
  k : Int
  p : ByteArray
  a : Int
def Fq.v (q : Fq) : Value := fv q.k q.p q.a
def qf (f : Fr.Fm) : Fq := ⟨(f.k.toNat : Int), bs f.p, (f.a : Int)⟩
def fcs (q : Fq) : List Value := [.int .u8 q.k, .string q.p, .int .i64 q.a]
/-- The cells of frames. -/
def fls (l : List Fq) : List Value := l.flatMap fcs
theorem fls_cons (p : Fq) (r : List Fq) : fls (p :: r) = fcs p ++ fls r := rfl
theorem fls_append (l : List Fq) (p : Fq) : fls (l ++ [p]) = fls l ++ fcs p := by simp [fls]
theorem fls_len (l : List Fq) : (fls l).length = l.length * 3 := by
  induction l with
  | nil => rfl
  | cons f r ih => rw [fls_cons, List.length_append, ih, List.length_cons]; simp [fcs]; omega
theorem fls_at : ∀ (l : List Fq) (j : Nat) (h : j < l.length), (fls l)[j * 3]? = some (.int .u8 l[j].k) ∧ (fls l)[j * 3 + 1]? = some (.string l[j].p) ∧ (fls l)[j * 3 + 2]? = some (.int .i64 l[j].a)
  | [], j, h => by simp at h
  | f :: r, 0, _ => ⟨rfl, rfl, rfl⟩
  | f :: r, j + 1, h => by
    have ih := fls_at r j (by simpa using h)
    have e : ∀ i, (fls (f :: r))[i + 3]? = (fls r)[i]? := fun i => by
      rw [fls_cons, List.getElem?_append_right (by simp [fcs])]; simp [fcs]
    rw [show (j + 1) * 3 = j * 3 + 3 by omega, show j * 3 + 3 + 1 = j * 3 + 1 + 3 by omega, show j * 3 + 3 + 2 = j * 3 + 2 + 3 by omega, e, e, e]
    simpa using ih
/-- The call owns frames. -/
def O3 (E : TypeId) (w : World) (base : Nat) (v : Value) (l : List Fq) : Prop := w.ownsRow base E 3 v l.length (fls l)
/-- Frames, read wherever they begin. -/
def At3 (W : World) (v : Value) (l : List Fq) : Prop :=
  (l = [] ∧ ∃ a c, v = .slice a 0 c) ∨ ∃ g o c, v = .slice (some ⟨g, o, none⟩) l.length c ∧
    ∀ j (h : j < l.length), W.cell? ⟨g, o + j * 3, none⟩ = some (.int .u8 l[j].k) ∧ W.cell? ⟨g, o + j * 3 + 1, none⟩ = some (.string l[j].p) ∧ W.cell? ⟨g, o + j * 3 + 2, none⟩ = some (.int .i64 l[j].a)
section
variable {E : TypeId} {w w' : World} {base b m : Nat} {v : Value} {l : List Fq}
theorem O3.shape (h : O3 E w base v l) : ∃ a c, v = .slice a l.length c := ownsRow_shape h
theorem O3.below (h : O3 E w base v l) (hb : Below m w w') (hn : w.heap.size ≤ m) : O3 E w' base v l := ownsRow_below h hb hn
theorem O3.mono (h : O3 E w base v l) (hb : b ≤ base) : O3 E w b v l := ownsRow_mono h hb
theorem O3.lt (h : O3 E w base v l) : ∀ g, v.ownBlock = some g → base ≤ g ∧ g < w.heap.size := own_lt h
theorem O3.nil (E : TypeId) (w : World) (base : Nat) : O3 E w base (.slice none 0 0) [] := ⟨rfl, .inl ⟨rfl, rfl⟩⟩
theorem O3.at (h : O3 E w base v l) : At3 w v l := by
  have h0 := h
  unfold O3 at h0
  rcases h0.2 with ⟨rfl, hn⟩ | ⟨g, cap, cur, rfl, _⟩
  · exact .inl ⟨List.eq_nil_of_length_eq_zero hn, _, _, rfl⟩
  · refine .inr ⟨g, 0, cap, rfl, fun j hj => ?_⟩
    obtain ⟨c0, c1, c2⟩ := fls_at l j hj
    simp only [Nat.zero_add]
    rw [h0.cellAt _ (by omega), h0.cellAt _ (by omega), h0.cellAt _ (by omega)]
    exact ⟨c0, c1, c2⟩
theorem At3.same (h : At3 w v l) (hb : ∀ g, g < w.heap.size → v.ownBlock = some g → w'.heap[g]? = w.heap[g]?) : At3 w' v l := by
  rcases h with h | ⟨g, o, c, rfl, h⟩
  · exact .inl h
  · refine .inr ⟨g, o, c, rfl, fun j hj => ?_⟩
    have hlt := World.block_lt_of_cell? w ⟨g, _, none⟩ (h j hj).1
    have e : ∀ o, w'.cell? ⟨g, o, none⟩ = w.cell? ⟨g, o, none⟩ := fun o => World.cell?_of_block (a := ⟨g, o, none⟩) (hb g hlt rfl)
    rw [e, e, e]
    exact h j hj
theorem At3.below (h : At3 w v l) (hb : Below m w w') (hn : w.heap.size ≤ m) : At3 w' v l := h.same fun g hg _ => hb.block g (by omega)
theorem At3.slice (h : At3 w v l) : ∃ a c, v = .slice a l.length c := by
  rcases h with ⟨rfl, a, c, rfl⟩ | ⟨g, o, c, rfl, _⟩
  · exact ⟨_, _, rfl⟩
  · exact ⟨_, _, rfl⟩
theorem At3.nil (W : World) : At3 W (.slice none 0 0) [] := .inl ⟨rfl, _, _, rfl⟩
end
theorem Tryz.info145 : (Tryz.prog.info? 145).map (fun i => (i.zero, i.size, i.bytes)) = some (some (.agg #[.int .u8 0, .string ⟨#[]⟩, .int .i64 0]), 3, 32) := by kernel_rfl
theorem Tryz.info66 : (Tryz.prog.info? 66).map (fun i => (i.zero, i.size, i.bytes)) = some (some (.agg #[.int .u8 0, .string ⟨#[]⟩, .int .i64 0]), 3, 32) := by kernel_rfl
theorem cells_new3 (W : World) (x0 x1 x2 : Value) (t : TypeId) : ∀ j u, [x0, x1, x2][j]? = some u → (W.alloc (.cells #[x0, x1, x2] t)).cell? ((⟨W.heap.size, 0, none⟩ : Addr).add j) = some u := by
  intro j u hj
  have hadd : (⟨W.heap.size, 0, none⟩ : Addr).add j = ⟨W.heap.size, j, none⟩ := by unfold Addr.add; split <;> simp_all
  rw [hadd, World.cell?_alloc_mark]
  match j, hj with
  | 0, hj => exact hj
  | 1, hj => exact hj
  | 2, hj => exact hj
theorem one3 (k : Int) (p : ByteArray) (a : Int) : ∀ u ∈ [Value.int .u8 k, Value.string p, Value.int .i64 a], u.oneCell' = true := by
  intro u hu
  rcases List.mem_cons.1 hu with rfl | hu
  · rfl
  rcases List.mem_cons.1 hu with rfl | hu
  · rfl
  rcases List.mem_singleton.1 hu with rfl
  rfl
end Go.Proofs.YtieemdcoomilaaaGreatDoor
namespace Go.Proofs.YtieemdcoomilaaaGreatDoor
open Go Go.RowKit
set_option maxRecDepth 100000
set_option maxHeartbeats 1000000 in
theorem number_any (s : ByteArray) (a : Nat) (w : World) (h : a + 4 ≤ s.size) (hs : s.size ≤ 140737488351232) :
    Calls Tryz.prog 77 #[.string s, .int .i64 (a : Int)] w fun e w' => e = .returned (.int .u64 (Bt.fat s.data.toList a 4 : Nat)) ∧ w = w' := by
  have HB : Hid (Bt.fat s.data.toList a 4 < 256 ^ 4) := Bt.fat_lt
  go_enter Tryz.func77, Tryz.ntmps77
  go_wp2
  go_loop [5, 6] (fun n i => ∃ (k acc : Nat), k ≤ 4 ∧ Hid (acc = Bt.fat s.data.toList (a + k) (4 - k)) ∧ n = .int .u64 acc ∧ i = .int .i64 ((k : Int) - 1)) (fun _ i => (intOf i + 1).toNat)
  case atStart => exact ⟨4, 0, by omega, Lib.hid rfl, rfl, rfl⟩
  case round =>
    obtain ⟨k, acc, hk, HA, rfl, rfl⟩ := hrel
    by_cases hlt : 1 ≤ k
    · obtain ⟨j, rfl⟩ : ∃ j, k = j + 1 := ⟨k - 1, by omega⟩
      have hin : a + j < s.size := by omega
      have HF : Hid (Bt.fat s.data.toList (a + j) (4 - j) = s[a + j].toNat + 256 * acc) := by
        rw [HA.out, show 4 - j = (4 - (j + 1)) + 1 from by omega, ← Nat.add_assoc a j 1]
        exact Bt.fat_cons (by simpa using hin)
      have hbb := (s[a + j]).toNat_lt
      have hacc : acc ≤ 72057594037927935 := by
        have h := @Bt.fat_lt s.data.toList (a + (j + 1)) (4 - (j + 1))
        rw [← HA.out] at h
        have h2 := Nat.pow_le_pow_right (n := 256) (by omega) (show 4 - (j + 1) ≤ 7 by omega)
        have e7 : (256 : Nat) ^ 7 = 72057594037927936 := by decide
        omega
      go_wp2
      go_round
      case rel =>
        refine ⟨j, s[a + j].toNat + 256 * acc, by omega, Lib.hid HF.out.symm, ?_, ?_⟩
        · go_num
        · go_num
      case measure => simp [intOf]
    · obtain rfl : k = 0 := by omega
      go_wp2
      go_ret
      exact ⟨ret_u64 (by rw [HA.out, Nat.add_zero]), rfl⟩
set_option maxHeartbeats 1000000 in
theorem rread_arg (s : ByteArray) (at' : Int) (w : World) (hs : s.size ≤ 140737488351232) (h : at' < 0 ∨ (s.size : Int) < at') :
    Calls Tryz.prog 36 #[.string s, .int .i64 at'] w (Ret w (noV 1)) := by
  by_cases h0 : at' < 0
  · go_enter Tryz.func36, Tryz.ntmps36
    go_wp2
    exact ret3 Tryz.results36 tri28 w.heap.size rfl rfl rfl rfl (heap_alloc_new w _) ⟨rfl, below_one _ _⟩
  · have h1 : (s.size : Int) < at' := by omega
    clear h
    go_enter Tryz.func36, Tryz.ntmps36
    go_wp2
    exact ret3 Tryz.results36 tri28 w.heap.size rfl rfl rfl rfl (heap_alloc_new w _) ⟨rfl, below_one _ _⟩
set_option maxHeartbeats 1000000 in
theorem rread_nine (s : ByteArray) (a : Nat) (w : World) (hs : s.size ≤ 140737488351232) (h : a ≤ s.size) (h9 : s.size < a + 9) :
    Calls Tryz.prog 36 #[.string s, .int .i64 (a : Int)] w (Ret w (noV 8)) := by
  go_enter Tryz.func36, Tryz.ntmps36
  go_wp2
  exact ret3 Tryz.results36 tri28 w.heap.size rfl rfl rfl rfl (heap_alloc_new w _) ⟨rfl, below_one _ _⟩
theorem below_drewN {m : Nat} {w w1 : World} (n : Nat) (h : Below m w w1) : Below m w (w1.drewN n) := by
  induction n with
  | zero => exact h
  | succ n ih => exact Below.drew ih
/-- What the document's number is. -/
def Nx (s : ByteArray) (a n : Nat) : Prop := ∀ w, Calls Tryz.prog 77 #[.string s, .int .i64 (a : Int)] w fun e w' => e = .returned (.int .u64 (n : Int)) ∧ w = w'
set_option maxHeartbeats 1000000 in
theorem rread_large (s : ByteArray) (a n : Nat) (w : World) (hs : s.size ≤ 140737488351232) (h9 : a + 9 ≤ s.size) (h1 : Nx s a n) (hn : 262144 < n) :
    Calls Tryz.prog 36 #[.string s, .int .i64 (a : Int)] w (Ret w (noV 40)) := by
  have H1 := Lib.hid h1
  clear h1
  go_enter Tryz.func36, Tryz.ntmps36
  go_wp2_with fail
  refine (H1.out _).mono ?_
  rintro e w' ⟨rfl, rfl⟩
  go_wp2
  exact ret3 Tryz.results36 tri28 w.heap.size rfl rfl rfl rfl (heap_alloc_new w _) ⟨rfl, below_one _ _⟩
set_option maxHeartbeats 1000000 in
theorem rread_cut (s : ByteArray) (a n : Nat) (w : World) (hs : s.size ≤ 140737488351232) (h9 : a + 9 ≤ s.size) (h1 : Nx s a n) (hn : n ≤ 262144) (hc : s.size < a + 9 + n) :
    Calls Tryz.prog 36 #[.string s, .int .i64 (a : Int)] w (Ret w (noV 8)) := by
  have H1 := Lib.hid h1
  obtain ⟨D, hD⟩ : ∃ D : Nat, (s.size : Int) - a - 9 = (D : Int) := ⟨s.size - a - 9, by omega⟩
  have hD2 : D < n := by omega
  clear h1
  go_enter Tryz.func36, Tryz.ntmps36
  go_wp2_with fail
  refine (H1.out _).mono ?_
  rintro e w' ⟨rfl, rfl⟩
  go_wp2
  exact ret3 Tryz.results36 tri28 w.heap.size rfl rfl rfl rfl (heap_alloc_new w _) ⟨rfl, below_one _ _⟩
set_option maxHeartbeats 1000000 in
theorem rread_sum (s : ByteArray) (a n c C M X : Nat) (w : World) (hs : s.size ≤ 140737488351232) (h9 : a + 9 ≤ s.size) (h1 : Nx s a n) (h2 : Nx s (a + 4) c) (hn : n ≤ 262144) (hX : a + 9 + n = X) (hc : X ≤ s.size) (T : ByteArray) (hT : s.extract (a + 8) X = T) (hM4 : M < 4294967296)
    (hS : ∀ w', Calls Tryz.prog 79 #[.string T] w' fun e w'' => e = .returned (.int .u32 (C : Int)) ∧ w' = w'')
    (hM : ∀ w', Calls Tryz.prog 78 #[.int .u32 (C : Int)] w' fun e w'' => e = .returned (.int .u32 (M : Int)) ∧ w' = w'') (hne : (c : Int) ≠ (M : Int)) :
    Calls Tryz.prog 36 #[.string s, .int .i64 (a : Int)] w (Ret w (noV 42)) := by
  have H1 := Lib.hid h1
  have H2 := Lib.hid h2
  have HS := Lib.hid hS
  have HM := Lib.hid hM
  have e1 : (a : Int) + 9 + (n : Int) = (X : Int) := by omega
  obtain ⟨D, hD⟩ : ∃ D : Nat, (s.size : Int) - a - 9 = (D : Int) := ⟨s.size - a - 9, by omega⟩
  have hD2 : n ≤ D := by omega
  have hX1 : a + 8 ≤ X := by omega
  have hmw : IntKind.u64.wrap (M : Int) = (M : Int) := by rw [IntKind.wrap_u64]; omega
  have hb : ((c : Int) == (M : Int)) = false := by rw [beq_eq_false_iff_ne]; exact hne
  have hb2 : ((c : Int) != (M : Int)) = true := by rw [bne_iff_ne]; exact hne
  clear h1 h2 hS hM hX hne
  go_enter Tryz.func36, Tryz.ntmps36
  go_wp2_with fail
  refine (H1.out _).mono ?_
  rintro e w' ⟨rfl, rfl⟩
  go_wp2_with fail
  go_big_quiet (first | (go_at_call 77; exact Calls.quiet_of_same ((H2.out _).mono fun _ _ h => ⟨h.1, h.2.symm⟩)) | (go_at_call 79; exact Calls.quiet_of_same ((HS.out _).mono fun _ _ h => ⟨h.1, h.2.symm⟩)) | (go_at_call 78; exact Calls.quiet_of_same ((HM.out _).mono fun _ _ h => ⟨h.1, h.2.symm⟩)))
  go_wp2
  exact ret3 Tryz.results36 tri28 w.heap.size rfl rfl rfl rfl (set3 _ _ _ (heap_alloc_new w _)) ⟨rfl, below_set3 (below_drewN _ (below_one _ _)) (Nat.le_refl _) _ _ _⟩
end Go.Proofs.YtieemdcoomilaaaGreatDoor
namespace Go.Proofs.YtieemdcoomilaaaGreatDoor
open Go Go.RowKit
set_option maxRecDepth 100000
set_option maxHeartbeats 1000000 in
theorem rread_kind (s : ByteArray) (a n c C M X : Nat) (w : World) (hs : s.size ≤ 140737488351232) (h9 : a + 9 ≤ s.size) (h1 : Nx s a n) (h2 : Nx s (a + 4) c) (hn : n ≤ 262144) (hX : a + 9 + n = X) (hc : X ≤ s.size) (T : ByteArray) (hT : s.extract (a + 8) X = T) (hM4 : M < 4294967296)
    (hS : ∀ w', Calls Tryz.prog 79 #[.string T] w' fun e w'' => e = .returned (.int .u32 (C : Int)) ∧ w' = w'')
    (hM : ∀ w', Calls Tryz.prog 78 #[.int .u32 (C : Int)] w' fun e w'' => e = .returned (.int .u32 (M : Int)) ∧ w' = w'') (he : (c : Int) = (M : Int)) (k : UInt8) (hk : s[a + 8] = k) (hkk : k.toNat < 1 ∨ 3 < k.toNat) :
    Calls Tryz.prog 36 #[.string s, .int .i64 (a : Int)] w (Ret w (noV 4)) := by
  have H1 := Lib.hid h1
  have H2 := Lib.hid h2
  have HS := Lib.hid hS
  have HM := Lib.hid hM
  have e1 : (a : Int) + 9 + (n : Int) = (X : Int) := by omega
  obtain ⟨D, hD⟩ : ∃ D : Nat, (s.size : Int) - a - 9 = (D : Int) := ⟨s.size - a - 9, by omega⟩
  have hD2 : n ≤ D := by omega
  have hX1 : a + 8 ≤ X := by omega
  have hmw : IntKind.u64.wrap (M : Int) = (M : Int) := by rw [IntKind.wrap_u64]; omega
  have hX2 : a + 9 ≤ X := by omega
  obtain rfl : M = c := by omega
  clear h1 h2 hS hM hX he
  have hk8 := k.toNat_lt
  by_cases hk1 : k.toNat < 1
  · clear hkk
    go_enter Tryz.func36, Tryz.ntmps36
    go_wp2_with fail
    refine (H1.out _).mono ?_
    rintro e w' ⟨rfl, rfl⟩
    go_wp2_with fail
    go_big_quiet (first | (go_at_call 77; exact Calls.quiet_of_same ((H2.out _).mono fun _ _ h => ⟨h.1, h.2.symm⟩)) | (go_at_call 79; exact Calls.quiet_of_same ((HS.out _).mono fun _ _ h => ⟨h.1, h.2.symm⟩)) | (go_at_call 78; exact Calls.quiet_of_same ((HM.out _).mono fun _ _ h => ⟨h.1, h.2.symm⟩)))
    go_wp2
    exact ret3 Tryz.results36 tri28 w.heap.size rfl rfl rfl rfl (set3 _ _ _ (heap_alloc_new w _)) ⟨rfl, below_set3 (below_drewN _ (below_one _ _)) (Nat.le_refl _) _ _ _⟩
  · have hk3 : 3 < k.toNat := by omega
    clear hkk
    go_enter Tryz.func36, Tryz.ntmps36
    go_wp2_with fail
    refine (H1.out _).mono ?_
    rintro e w' ⟨rfl, rfl⟩
    go_wp2_with fail
    go_big_quiet (first | (go_at_call 77; exact Calls.quiet_of_same ((H2.out _).mono fun _ _ h => ⟨h.1, h.2.symm⟩)) | (go_at_call 79; exact Calls.quiet_of_same ((HS.out _).mono fun _ _ h => ⟨h.1, h.2.symm⟩)) | (go_at_call 78; exact Calls.quiet_of_same ((HM.out _).mono fun _ _ h => ⟨h.1, h.2.symm⟩)))
    go_wp2
    exact ret3 Tryz.results36 tri28 w.heap.size rfl rfl rfl rfl (set3 _ _ _ (heap_alloc_new w _)) ⟨rfl, below_set3 (below_drewN _ (below_one _ _)) (Nat.le_refl _) _ _ _⟩
set_option maxHeartbeats 1000000 in
theorem rread_right (s : ByteArray) (a n c C M X : Nat) (w : World) (hs : s.size ≤ 140737488351232) (h9 : a + 9 ≤ s.size) (h1 : Nx s a n) (h2 : Nx s (a + 4) c) (hn : n ≤ 262144) (hX : a + 9 + n = X) (hc : X ≤ s.size) (T : ByteArray) (hT : s.extract (a + 8) X = T) (hM4 : M < 4294967296)
    (hS : ∀ w', Calls Tryz.prog 79 #[.string T] w' fun e w'' => e = .returned (.int .u32 (C : Int)) ∧ w' = w'')
    (hM : ∀ w', Calls Tryz.prog 78 #[.int .u32 (C : Int)] w' fun e w'' => e = .returned (.int .u32 (M : Int)) ∧ w' = w'') (he : (c : Int) = (M : Int)) (k : UInt8) (hk : s[a + 8] = k) (hkk : 1 ≤ k.toNat ∧ k.toNat ≤ 3) (Q : ByteArray) (hQ : s.extract (a + 9) X = Q) :
    Calls Tryz.prog 36 #[.string s, .int .i64 (a : Int)] w (Ret w (.tuple #[fv k.toNat Q (a : Int), .int .i64 (X : Int), .int .i64 0])) := by
  have H1 := Lib.hid h1
  have H2 := Lib.hid h2
  have HS := Lib.hid hS
  have HM := Lib.hid hM
  have e1 : (a : Int) + 9 + (n : Int) = (X : Int) := by omega
  obtain ⟨D, hD⟩ : ∃ D : Nat, (s.size : Int) - a - 9 = (D : Int) := ⟨s.size - a - 9, by omega⟩
  have hD2 : n ≤ D := by omega
  have hX1 : a + 8 ≤ X := by omega
  have hmw : IntKind.u64.wrap (M : Int) = (M : Int) := by rw [IntKind.wrap_u64]; omega
  have hX2 : a + 9 ≤ X := by omega
  obtain rfl : M = c := by omega
  clear h1 h2 hS hM hX he
  obtain ⟨hk1, hk3⟩ := hkk
  have hk8 := k.toNat_lt
  go_enter Tryz.func36, Tryz.ntmps36
  go_wp2_with fail
  refine (H1.out _).mono ?_
  rintro e w' ⟨rfl, rfl⟩
  go_wp2_with fail
  go_big_quiet (first | (go_at_call 77; exact Calls.quiet_of_same ((H2.out _).mono fun _ _ h => ⟨h.1, h.2.symm⟩)) | (go_at_call 79; exact Calls.quiet_of_same ((HS.out _).mono fun _ _ h => ⟨h.1, h.2.symm⟩)) | (go_at_call 78; exact Calls.quiet_of_same ((HM.out _).mono fun _ _ h => ⟨h.1, h.2.symm⟩)))
  go_wp2
  go_region
  go_wp2
  exact ret3 Tryz.results36 tri28 w.heap.size rfl rfl rfl rfl (set3 _ _ _ (heap_alloc_new w _)) ⟨rfl, below_set3 (below_drewN _ (below_one _ _)) (Nat.le_refl _) _ _ _⟩
theorem nx_any (s : ByteArray) (a : Nat) (hs : s.size ≤ 140737488351232) (h : a + 4 ≤ s.size) : Nx s a (Bt.fat s.data.toList a 4) := fun w => number_any s a w h hs
theorem nx_ln (s : ByteArray) (a : Nat) (hs : s.size ≤ 140737488351232) (h : a + 9 ≤ s.size) : Nx s a (Fr.ln (bh s a)) := by
  have := nx_any s a hs (by omega)
  unfold Fr.ln
  rw [fat_drop]; exact this
theorem nx_cs (s : ByteArray) (a : Nat) (hs : s.size ≤ 140737488351232) (h : a + 9 ≤ s.size) : Nx s (a + 4) (Fr.cs (bh s a)) := by
  have := nx_any s (a + 4) hs (by omega)
  unfold Fr.cs
  rw [fat_drop]; exact this
theorem kd_at (s : ByteArray) (a : Nat) (h : a + 8 < s.size) : s[a + 8] = Fr.kd (bh s a) := by
  unfold Fr.kd
  rw [List.getD_eq_getElem?_getD, List.getElem?_drop, List.getElem?_eq_getElem (by simpa using h)]; rfl
theorem rread_bad (s : ByteArray) (at' : Int) (E : Nat) (hE : er1 s at' = E) (h0 : E ≠ 0) (w : World) (hs : s.size ≤ 140737488351232) :
    Calls Tryz.prog 36 #[.string s, .int .i64 at'] w (Ret w (noV E)) := by
  by_cases hp : at' < 0 ∨ (s.size : Int) < at'
  · rw [er1_out s at' hp] at hE
    subst hE
    exact rread_arg s at' w hs hp
  obtain ⟨a, rfl⟩ := Int.eq_ofNat_of_zero_le (a := at') (by omega)
  have ha : a ≤ s.size := by omega
  rw [er1_at s a ha] at hE
  by_cases h9 : s.size < a + 9
  · have : Fr.er (bh s a) = 8 := by unfold Fr.er; rw [if_pos (by rw [bh_length]; omega)]
    rw [this] at hE; subst hE
    exact rread_nine s a w hs ha h9
  have h9' : a + 9 ≤ s.size := by omega
  have c1 := nx_ln s a hs h9'
  have c2 := nx_cs s a hs h9'
  have hl := bh_length s a
  unfold Fr.er at hE
  rw [if_neg (by omega)] at hE
  by_cases h1 : 262144 < Fr.ln (bh s a)
  · rw [if_pos h1] at hE; subst hE
    exact rread_large s a _ w hs h9' c1 h1
  rw [if_neg h1] at hE
  by_cases h2 : (bh s a).length < 9 + Fr.ln (bh s a)
  · rw [if_pos h2] at hE; subst hE
    exact rread_cut s a _ w hs h9' c1 (by omega) (by omega)
  rw [if_neg h2] at hE
  have hX : a + 9 + Fr.ln (bh s a) ≤ s.size := by omega
  have hb := bs_toData _ _ (body_ext s a _ hX rfl)
  have hsz : (bs (Fr.kd (bh s a) :: Fr.pl (bh s a))).size ≤ 140737488351232 := by
    rw [← hb, ByteArray.size_extract]; omega
  have hS := fun w' => rof_any (bs (Fr.kd (bh s a) :: Fr.pl (bh s a))) w' hsz
  have hM := fun w' => rmask_any (Sm.add 0 (Fr.kd (bh s a) :: Fr.pl (bh s a))) w' (Sm.add_lt (by omega) _)
  by_cases h3 : Fr.cs (bh s a) ≠ Fr.ck (Fr.kd (bh s a) :: Fr.pl (bh s a))
  · rw [if_pos h3] at hE; subst hE
    exact rread_sum s a _ _ _ _ _ w hs h9' c1 c2 (by omega) rfl hX _ hb (Sm.mask_lt _) hS hM (fun e => h3 (by exact_mod_cast e))
  rw [if_neg h3] at hE
  by_cases h4 : (Fr.kd (bh s a)).toNat < 1 ∨ 3 < (Fr.kd (bh s a)).toNat
  · rw [if_pos h4] at hE; subst hE
    exact rread_kind s a _ _ _ _ _ w hs h9' c1 c2 (by omega) rfl hX _ hb (Sm.mask_lt _) hS hM (by exact_mod_cast Classical.not_not.1 h3) (Fr.kd (bh s a)) (kd_at s a (by omega)) h4
  · rw [if_neg h4] at hE
    exact absurd hE.symm h0
theorem rread_ok (s : ByteArray) (a : Nat) (hg : Fr.Good (bh s a)) (w : World) (hs : s.size ≤ 140737488351232) :
    Calls Tryz.prog 36 #[.string s, .int .i64 (a : Int)] w (Ret w (.tuple #[fv ((Fr.kd (bh s a)).toNat : Nat) (bs (Fr.pl (bh s a))) (a : Int), .int .i64 ((a + 9 + Fr.ln (bh s a) : Nat) : Int), .int .i64 0])) := by
  have hl := bh_length s a
  have hn := hg.nine
  have hw := hg.whole
  have hm := hg.most
  have h9' : a + 9 ≤ s.size := by omega
  have c1 := nx_ln s a hs h9'
  have c2 := nx_cs s a hs h9'
  have hX : a + 9 + Fr.ln (bh s a) ≤ s.size := by omega
  have hb := bs_toData _ _ (body_ext s a _ hX rfl)
  have hsz : (bs (Fr.kd (bh s a) :: Fr.pl (bh s a))).size ≤ 140737488351232 := by
    rw [← hb, ByteArray.size_extract]; omega
  have hS := fun w' => rof_any (bs (Fr.kd (bh s a) :: Fr.pl (bh s a))) w' hsz
  have hM := fun w' => rmask_any (Sm.add 0 (Fr.kd (bh s a) :: Fr.pl (bh s a))) w' (Sm.add_lt (by omega) _)
  refine rread_right s a _ _ _ _ _ w hs h9' c1 c2 hm rfl hX _ hb (Sm.mask_lt _) hS hM (by exact_mod_cast hg.sum) (Fr.kd (bh s a)) (kd_at s a (by omega)) hg.kind (bs (Fr.pl (bh s a))) ?_
  refine bs_toData _ _ ?_
  rw [ext_toList, List.drop_take]
  unfold Fr.pl
  rw [List.drop_drop, show a + 9 + Fr.ln (bh s a) - (a + 9) = Fr.ln (bh s a) by omega]
end Go.Proofs.YtieemdcoomilaaaGreatDoor
