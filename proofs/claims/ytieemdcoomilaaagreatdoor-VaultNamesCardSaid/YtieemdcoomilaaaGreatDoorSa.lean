/- Plain numbers: what carrying makes of a number, the checksum of a text as one number, masking. Nothing of the program. -/
import Derived.Laws.BitsAllLaws
import Derived.RowKit
import Derived.IntWalk
import Derived.Test.YtieemdcoomilaaaGreatDoorProg
import Derived.WalkKit
import Derived.WalkLawsBesides
import Derived.WalkSpells
import Derived.Deep.LoopGhost
import Derived.Lib.Hide
import Derived.Below
import Derived.Test.YtieemdcoomilaaaGreatDoorRows
import Derived.ProofKit
import Derived.LaidMore
import Derived.OpenShut
import Derived.Stop.Joined
import Derived.ShutString
import Derived.Lib.LaidTab
set_option linter.unusedVariables false
set_option linter.unusedSimpArgs false
namespace Go.Proofs.YtieemdcoomilaaaGreatDoor.Sm
open Go Go.RowKit
/-- One step of carrying. -/
def st (c : Nat) : Nat := if c % 2 = 1 then c / 2 ^^^ 2197175160 else c / 2
/-- So many steps. -/
def it : Nat → Nat → Nat
  | 0, c => c
  | n + 1, c => it n (st c)
theorem xor_div2 (a b : Nat) : (a ^^^ b) / 2 = a / 2 ^^^ b / 2 := by
  have := Nat.shiftRight_xor_distrib (a := a) (b := b) (i := 1)
  simpa [Nat.shiftRight_eq_div_pow] using this
theorem xor_mod2 (a b : Nat) : (a ^^^ b) % 2 = a % 2 ^^^ b % 2 := Nat.xor_mod_two_pow (n := 1)
theorem xor_cancel (m x : Nat) : m ^^^ (m ^^^ x) = x := by rw [← Nat.xor_assoc, Nat.xor_self, Nat.zero_xor]
theorem st_xor (a b : Nat) : st (a ^^^ b) = st a ^^^ st b := by
  unfold st
  rw [xor_div2, xor_mod2]
  rcases Nat.mod_two_eq_zero_or_one a with ha | ha <;> rcases Nat.mod_two_eq_zero_or_one b with hb | hb <;> rw [ha, hb]
  · rfl
  · rw [if_pos (by decide), if_neg (by decide), if_pos rfl, Nat.xor_assoc]
  · rw [if_pos (by decide), if_pos rfl, if_neg (by decide), Nat.xor_assoc, Nat.xor_comm (b / 2), ← Nat.xor_assoc]
  · rw [if_neg (by decide), if_pos rfl, if_pos rfl, Nat.xor_comm (b / 2), Nat.xor_assoc (a / 2), xor_cancel]
theorem st_zero : st 0 = 0 := rfl
theorem st_even (x : Nat) : st (2 * x) = x := by unfold st; rw [if_neg (by omega)]; omega
theorem it_succ (n c : Nat) : it (n + 1) c = it n (st c) := rfl
theorem it_one (c : Nat) : it 1 c = st c := rfl
theorem it_add (m n c : Nat) : it (m + n) c = it n (it m c) := by
  induction m generalizing c with
  | zero => rw [Nat.zero_add]; rfl
  | succ m ih => rw [Nat.succ_add, it_succ, ih, it_succ]
theorem it_comm (m n c : Nat) : it m (it n c) = it n (it m c) := by rw [← it_add, ← it_add, Nat.add_comm]
theorem st_it (n c : Nat) : st (it n c) = it (n + 1) c := by rw [it_add n 1 c, it_one]
theorem it_xor (n a b : Nat) : it n (a ^^^ b) = it n a ^^^ it n b := by
  induction n generalizing a b with
  | zero => rfl
  | succ n ih => rw [it_succ, st_xor, ih, it_succ, it_succ]
theorem it_zero (n : Nat) : it n 0 = 0 := by
  induction n with
  | zero => rfl
  | succ n ih => rw [it_succ, st_zero, ih]
theorem it_shift (n x : Nat) : it n (2 ^ n * x) = x := by
  induction n generalizing x with
  | zero => simp [it]
  | succ n ih => rw [it_succ, Nat.pow_succ, Nat.mul_comm (2 ^ n) 2, Nat.mul_assoc, st_even, ih]
theorem st_lt {c : Nat} (h : c < 4294967296) : st c < 4294967296 := by
  unfold st
  split
  · exact Nat.xor_lt_two_pow (n := 32) (by omega) (by omega)
  · omega
theorem it_lt {c : Nat} (n : Nat) (h : c < 4294967296) : it n c < 4294967296 := by
  induction n generalizing c with
  | zero => exact h
  | succ n ih => exact ih (st_lt h)
theorem xor_lt {a b : Nat} (h : a < 4294967296) (h' : b < 4294967296) : a ^^^ b < 4294967296 := Nat.xor_lt_two_pow (n := 32) h h'
/-- A number that is carried to 0 is 0. -/
theorem st_eq_zero {c : Nat} (h : c < 4294967296) (h0 : st c = 0) : c = 0 := by
  unfold st at h0
  split at h0
  · exfalso
    have e : c / 2 = 2197175160 := by
      have := congrArg (· ^^^ 2197175160) h0
      simpa [Nat.xor_assoc] using this
    omega
  · omega
theorem it_eq_zero {c : Nat} (n : Nat) (h : c < 4294967296) (h0 : it n c = 0) : c = 0 := by
  induction n generalizing c with
  | zero => exact h0
  | succ n ih => exact st_eq_zero h (ih (st_lt h) h0)

/-- Two numbers with no bit in common. -/
theorem add_eq_xor (k x y : Nat) (h : y < 2 ^ k) : 2 ^ k * x + y = 2 ^ k * x ^^^ y := by
  apply Nat.eq_of_testBit_eq
  intro i
  rw [Nat.testBit_two_pow_mul_add x h, Nat.testBit_xor, Nat.testBit_two_pow_mul]
  by_cases hi : i < k
  · rw [if_pos hi]
    have : decide (k ≤ i) = false := decide_eq_false (by omega)
    simp [this]
  · rw [if_neg hi, Nat.testBit_lt_two_pow (Nat.lt_of_lt_of_le h (Nat.pow_le_pow_right (by omega) (by omega)))]
    have : decide (k ≤ i) = true := decide_eq_true (by omega)
    simp [this]
theorem split_xor (k c : Nat) : c = 2 ^ k * (c / 2 ^ k) ^^^ c % 2 ^ k := by
  rw [← add_eq_xor k _ _ (Nat.mod_lt _ (Nat.two_pow_pos k))]
  exact (Nat.div_add_mod c (2 ^ k)).symm

/-- The table. -/
def tab : List Nat := [0, 274646895, 549293790, 820201905, 1098587580, 1361435347, 1640403810, 1905808397, 2197175160, 2460548119, 2722870694, 2987750089, 3280807620, 3553878443, 3811616794, 4084100981]
theorem tab_it : ∀ r, r < 16 → tab.getD r 0 = it 4 r := by decide
theorem four (c : Nat) : it 4 c = c / 16 ^^^ tab.getD (c % 16) 0 := by
  conv => lhs; rw [split_xor 4 c, it_xor, it_shift]
  rw [tab_it _ (Nat.mod_lt _ (by omega))]
theorem eight (c : Nat) : it 8 c = it 4 (it 4 c) := it_add 4 4 c
theorem tab_lt (r : Nat) (h : r < 16) : tab.getD r 0 < 4294967296 := by
  rw [tab_it r h]; exact it_lt _ (by omega)

/-- A text as one number: its first byte is lowest. -/
def num : List UInt8 → Nat
  | [] => 0
  | b :: r => b.toNat + 256 * num r
/-- The register behind a text. -/
def crc (c : Nat) (l : List UInt8) : Nat := l.foldl (fun c b => it 8 (c ^^^ b.toNat)) c
theorem crc_nil (c : Nat) : crc c [] = c := rfl
theorem crc_cons (c : Nat) (b : UInt8) (r : List UInt8) : crc c (b :: r) = crc (it 8 (c ^^^ b.toNat)) r := List.foldl_cons ..
theorem num_cons (b : UInt8) (r : List UInt8) : num (b :: r) = 256 * num r ^^^ b.toNat := by
  rw [num, Nat.add_comm]
  exact add_eq_xor 8 (num r) b.toNat b.toNat_lt
theorem crc_num (c : Nat) (l : List UInt8) : crc c l = it (8 * l.length) (c ^^^ num l) := by
  induction l generalizing c with
  | nil => rw [crc_nil, num, Nat.xor_zero]; rfl
  | cons b r ih =>
    rw [crc_cons, ih, num_cons, List.length_cons, Nat.mul_succ, Nat.add_comm, it_add 8]
    have e : it 8 (c ^^^ (256 * num r ^^^ b.toNat)) = it 8 (c ^^^ b.toNat) ^^^ num r := by
      rw [show c ^^^ (256 * num r ^^^ b.toNat) = (c ^^^ b.toNat) ^^^ 2 ^ 8 * num r from by rw [Nat.xor_assoc, Nat.xor_comm b.toNat], it_xor, it_shift]
    rw [e]
theorem crc_append (c : Nat) (l r : List UInt8) : crc c (l ++ r) = crc (crc c l) r := List.foldl_append ..
theorem crc_snoc (c : Nat) (l : List UInt8) (b : UInt8) : crc c (l ++ [b]) = it 8 (crc c l ^^^ b.toNat) := by rw [crc_append, crc_cons, crc_nil]
theorem crc_lt {c : Nat} (h : c < 4294967296) (l : List UInt8) : crc c l < 4294967296 := by
  induction l generalizing c with
  | nil => exact h
  | cons b r ih => rw [crc_cons]; exact ih (it_lt _ (xor_lt h (by have := b.toNat_lt; omega)))
/-- Add: the checksum of a text whose checksum is c, and l behind it. -/
def add (c : Nat) (l : List UInt8) : Nat := 4294967295 ^^^ crc (4294967295 ^^^ c) l
theorem add_lt {c : Nat} (h : c < 4294967296) (l : List UInt8) : add c l < 4294967296 := xor_lt (by omega) (crc_lt (xor_lt (by omega) h) l)
def join (a b : Nat) (n : Int) : Nat := it (8 * n.toNat) a ^^^ b
theorem join_lt {a b : Nat} (n : Int) (h : a < 4294967296) (h' : b < 4294967296) : join a b n < 4294967296 := xor_lt (it_lt _ h) h'
theorem add_nil (c : Nat) : add c [] = c := xor_cancel _ _
theorem add_append (c : Nat) (l r : List UInt8) : add (add c l) r = add c (l ++ r) := by
  unfold add
  rw [xor_cancel, crc_append]
theorem join_zero (a : Nat) : join a 0 0 = a := by unfold join; simp [it]
theorem join_of (l r : List UInt8) : join (add 0 l) (add 0 r) r.length = add 0 (l ++ r) := by
  unfold join add
  rw [Int.toNat_natCast, crc_append, crc_num _ r, crc_num _ r, Nat.xor_zero]
  generalize crc 4294967295 l = x
  rw [it_xor _ 4294967295 x, it_xor _ 4294967295 (num r), it_xor _ x (num r)]
  generalize it (8 * r.length) 4294967295 = p
  generalize it (8 * r.length) x = q
  generalize it (8 * r.length) (num r) = s
  rw [← Nat.xor_assoc 4294967295 p s, Nat.xor_comm 4294967295 p, Nat.xor_assoc p 4294967295 s, Nat.xor_assoc p q, Nat.xor_comm q, ← Nat.xor_assoc p _ q, xor_cancel, Nat.xor_assoc, Nat.xor_comm s q]
theorem xor3 (m a b c : Nat) : (m ^^^ a) ^^^ (m ^^^ b) ^^^ (m ^^^ c) = m ^^^ (a ^^^ b ^^^ c) := by
  rw [Nat.xor_comm m a, Nat.xor_assoc a m, xor_cancel, Nat.xor_comm m c, ← Nat.xor_assoc, Nat.xor_comm m]
theorem add3 (k : Nat) (l r s t : List UInt8) (h1 : l.length = k) (h2 : r.length = k) (h3 : s.length = k) (h4 : t.length = k) (h : num t = num l ^^^ num r ^^^ num s) :
    add 0 t = add 0 l ^^^ add 0 r ^^^ add 0 s := by
  unfold add
  rw [crc_num, crc_num, crc_num, crc_num, h1, h2, h3, h4, xor3, ← it_xor, ← it_xor, Nat.xor_zero, xor3, h]

/-- Masking. -/
def rot (c : Nat) : Nat := c / 32768 + c % 32768 * 131072
def back (c : Nat) : Nat := c % 131072 * 32768 + c / 131072
theorem rot_lt {c : Nat} (h : c < 4294967296) : rot c < 4294967296 := by unfold rot; omega
theorem back_lt {c : Nat} (h : c < 4294967296) : back c < 4294967296 := by unfold back; omega
theorem back_rot (c : Nat) (h : c < 4294967296) : back (rot c) = c := by unfold rot back; omega
theorem rot_back (c : Nat) (h : c < 4294967296) : rot (back c) = c := by unfold rot back; omega
def up (c : Nat) : Nat := (c + 2726488792) % 4294967296
def down (c : Nat) : Nat := (c + 4294967296 - 2726488792) % 4294967296
theorem up_lt (c : Nat) : up c < 4294967296 := Nat.mod_lt _ (by omega)
theorem down_lt (c : Nat) : down c < 4294967296 := Nat.mod_lt _ (by omega)
theorem down_up (c : Nat) (h : c < 4294967296) : down (up c) = c := by unfold up down; omega
theorem up_down (c : Nat) (h : c < 4294967296) : up (down c) = c := by unfold up down; omega
def mask (c : Nat) : Nat := up (rot c)
def plain (m : Nat) : Nat := back (down m)
theorem mask_lt (c : Nat) : mask c < 4294967296 := up_lt _
theorem plain_lt (m : Nat) : plain m < 4294967296 := back_lt (down_lt _)
theorem plain_mask (c : Nat) (h : c < 4294967296) : plain (mask c) = c := by
  unfold plain mask; rw [down_up _ (rot_lt h), back_rot _ h]
theorem mask_plain (c : Nat) (h : c < 4294967296) : mask (plain c) = c := by
  unfold plain mask; rw [rot_back _ (down_lt _), up_down _ h]
theorem mask_inj (a b : Nat) (h : a < 4294967296) (h' : b < 4294967296) : mask a = mask b ↔ a = b :=
  ⟨fun e => by rw [← plain_mask a h, e, plain_mask b h'], fun e => by rw [e]⟩

/-- The highest bit, carried. -/
theorem it_unit (i : Nat) (h : i ≤ 31) : it i 2147483648 = 2 ^ (31 - i) := by
  have e : 2147483648 = 2 ^ i * 2 ^ (31 - i) := by rw [← Nat.pow_add, show i + (31 - i) = 31 from by omega]
  rw [e, it_shift]
theorem unit_div (i : Nat) (h : i ≤ 31) : 2147483648 / 2 ^ i = 2 ^ (31 - i) := by
  have e : 2147483648 = 2 ^ i * 2 ^ (31 - i) := by rw [← Nat.pow_add, show i + (31 - i) = 31 from by omega]
  rw [e, Nat.mul_div_cancel_left _ (Nat.two_pow_pos i)]
theorem mod_step (a j : Nat) : a % 2 ^ (j + 1) = (a.testBit j).toNat * 2 ^ j ^^^ a % 2 ^ j := by
  rw [Nat.mul_comm, ← add_eq_xor j _ _ (Nat.mod_lt _ (Nat.two_pow_pos j)), Nat.mod_pow_succ, Nat.toNat_testBit, Nat.add_comm]
theorem and_pow (a j : Nat) : a &&& 2 ^ j = (a.testBit j).toNat * 2 ^ j := by
  apply Nat.eq_of_testBit_eq
  intro i
  rw [Nat.testBit_and, Nat.testBit_two_pow, Nat.mul_comm, Nat.testBit_two_pow_mul]
  by_cases h : j = i
  · subst h
    simp
    cases a.testBit j <;> rfl
  · by_cases h2 : j ≤ i
    · have : (a.testBit j).toNat.testBit (i - j) = false := by
        have e : i - j = (i - j - 1) + 1 := by omega
        rw [e, Nat.testBit_succ]
        cases a.testBit j <;> simp
      simp [h, this]
    · simp [h, h2]
theorem times_end (n a : Nat) : it n (a % 2 ^ (32 - 32)) = 0 := by rw [Nat.sub_self, Nat.pow_zero, Nat.mod_one, it_zero]
theorem times_step (n a i p q b : Nat) (hi : i ≤ 31) (hq : q = 2147483648 / 2 ^ i) (hb : b = it (n + i) 2147483648) (h : p ^^^ it n (a % 2 ^ (32 - i)) = it n a) :
    (a &&& q = 0 → p ^^^ it n (a % 2 ^ (32 - (i + 1))) = it n a) ∧ (a &&& q ≠ 0 → p ^^^ b ^^^ it n (a % 2 ^ (32 - (i + 1))) = it n a) := by
  have hq2 : q = 2 ^ (31 - i) := by rw [hq, unit_div i hi]
  have hb2 : b = it n (2 ^ (31 - i)) := by rw [hb, Nat.add_comm, it_add, it_unit i hi]
  have e1 : a &&& q = (a.testBit (31 - i)).toNat * q := by rw [hq2]; exact and_pow a (31 - i)
  have e2 := mod_step a (31 - i)
  rw [show 31 - i + 1 = 32 - i from by omega] at e2
  have hQ : (a.testBit (31 - i)).toNat * 2 ^ (31 - i) = (a.testBit (31 - i)).toNat * q := by rw [hq2]
  rw [e2, it_xor, hQ] at h
  rw [show 32 - (i + 1) = 31 - i from by omega]
  have hp : 0 < q := by rw [hq2]; exact Nat.two_pow_pos _
  cases hB : a.testBit (31 - i) with
  | false =>
    rw [hB] at h e1
    simp only [Bool.toNat_false, Nat.zero_mul, it_zero, Nat.zero_xor] at h e1
    exact ⟨fun _ => h, fun hn => absurd e1 hn⟩
  | true =>
    rw [hB] at h e1
    simp only [Bool.toNat_true, Nat.one_mul] at h e1
    refine ⟨fun h0 => by omega, fun _ => ?_⟩
    have hb3 : b = it n q := by rw [hb2, hq2]
    rw [hb3, Nat.xor_assoc]; exact h
theorem unit_ne (i : Nat) (h : i ≤ 31) : 2147483648 / 2 ^ i ≠ 0 := by
  rw [unit_div i h]; exact Nat.ne_of_gt (Nat.two_pow_pos _)
theorem unit_lt (i : Nat) : 2147483648 / 2 ^ i < 4294967296 := by
  have := Nat.div_le_self 2147483648 (2 ^ i); omega
theorem unit_half (i : Nat) : 2147483648 / 2 ^ i / 2 = 2147483648 / 2 ^ (i + 1) := by rw [Nat.div_div_eq_div_mul, Nat.pow_succ]
theorem join_step (a k m : Nat) : it (8 * (2 ^ (k + 1) * (m / 2))) (if m % 2 = 1 then it (8 * 2 ^ k) a else a) = it (8 * (2 ^ k * m)) a := by
  have e : m = 2 * (m / 2) + m % 2 := by omega
  split
  · rename_i h
    rw [← it_add]
    congr 1
    rw [← Nat.mul_add]
    congr 1
    conv => rhs; rw [e, h, Nat.mul_add, Nat.mul_one]
    rw [Nat.pow_succ, Nat.mul_assoc, Nat.add_comm]
  · rename_i h
    congr 2
    conv => rhs; rw [e, show m % 2 = 0 from by omega, Nat.add_zero]
    rw [Nat.pow_succ, Nat.mul_assoc]
end Go.Proofs.YtieemdcoomilaaaGreatDoor.Sm
namespace Go.Proofs.YtieemdcoomilaaaGreatDoor
open Go.RowKit
/-- The table lies where its initialiser lays it. -/
def Tab (w : World) : Prop := 0 < w.heap.size ∧ ∀ i, i < 16 → w.cell? ⟨0, i, none⟩ = some (.int .u32 ((Sm.tab.getD i 0 : Nat) : Int))
theorem Tab.below {w w' : World} (h : Tab w) (hb : Below w.heap.size w w') : Tab w' :=
  ⟨Nat.lt_of_lt_of_le h.1 hb.size, fun i hi => (hb.cell (p := ⟨0, i, none⟩) h.1).trans (h.2 i hi)⟩
theorem ret_u32 {a b : Int} (h : a = b) : Ending.returned (.int .u32 a) = .returned (.int .u32 b) := by rw [h]
theorem and15 (c : Nat) (hc : c < 4294967296) : bits .and .u32 (c : Int) 15 = ((c % 16 : Nat) : Int) := by
  have := u32_and_nat c 15 hc (by omega)
  rw [nat_mask4] at this
  simpa using this
theorem four_walk (c : Nat) (hc : c < 4294967296) : bits .xor .u32 ((c : Int) / 16) ((Sm.tab.getD (c % 16) 0 : Nat) : Int) = ((Sm.it 4 c : Nat) : Int) := by
  rw [Sm.four, show ((c : Int) / 16) = ((c / 16 : Nat) : Int) from by omega, u32_xor_nat _ _ (by omega) (Sm.tab_lt _ (by omega))]
set_option maxRecDepth 100000 in
set_option maxHeartbeats 1000000 in
theorem overByte_in (c r t x r' t' x' : Nat) (w : World) (h1 : w.cell? ⟨0, r, none⟩ = some (.int .u32 (t : Int))) (h2 : w.cell? ⟨0, r', none⟩ = some (.int .u32 (t' : Int)))
    (_hc : c < 4294967296) (_hx : x < 4294967296) (hr : r < 16) (hr' : r' < 16) (e1 : bits .and .u32 (c : Int) 15 = (r : Int)) (e2 : bits .xor .u32 ((c : Int) / 16) (t : Int) = (x : Int)) (e3 : bits .and .u32 (x : Int) 15 = (r' : Int)) (e4 : bits .xor .u32 ((x : Int) / 16) (t' : Int) = (x' : Int)) :
   Calls Tryz.prog 147 #[.int .u32 c] w fun e w' => e = .returned (.int .u32 x') ∧ w = w' := by
  go_enter Tryz.func147, Tryz.ntmps147
  go_wp2
  go_ret
  exact ⟨rfl, rfl⟩
theorem overByte_any (c : Nat) (w : World) (hc : c < 4294967296) (hT : Hid (Tab w)) :
   Calls Tryz.prog 147 #[.int .u32 c] w fun e w' => e = .returned (.int .u32 (Sm.it 8 c : Nat)) ∧ w = w' := by
  have hx := Sm.it_lt 4 hc
  rw [Sm.eight]
  exact overByte_in c _ _ _ _ _ _ w (hT.out.2 (c % 16) (by omega)) (hT.out.2 (Sm.it 4 c % 16) (by omega)) hc hx (by omega) (by omega) (and15 c hc) (four_walk c hc) (and15 _ hx) (four_walk _ hx)
theorem xor_nat (a b : Nat) (ha : a < 4294967296) (hb : b < 4294967296) : bits .xor .u32 (a : Int) (b : Int) = ((a ^^^ b : Nat) : Int) := u32_xor_nat a b ha hb
theorem ones_xor (a : Nat) (ha : a < 4294967296) : bits .xor .u32 IntKind.u32.max (a : Int) = ((4294967295 ^^^ a : Nat) : Int) := u32_xor_nat 4294967295 a (by omega) ha
theorem take_snoc (s : ByteArray) (k : Nat) (h : k < s.size) : s.data.toList.take (k + 1) = s.data.toList.take k ++ [s[k]] := by
  rw [List.take_succ_eq_append_getElem (by simpa using h)]; rfl
set_option maxRecDepth 100000 in
set_option maxHeartbeats 1000000 in
theorem add_in (c C R : Nat) (s : ByteArray) (w : World) (hs : s.size ≤ 140737488351232) (hT : Hid (Tab w)) (hC : C < 4294967296)
    (e1 : bits .xor .u32 IntKind.u32.max (c : Int) = (C : Int)) (e2 : Hid (bits .xor .u32 IntKind.u32.max ((Sm.crc C s.data.toList : Nat) : Int) = (R : Int))) :
   Calls Tryz.prog 118 #[.int .u32 c, .string s] w fun e w' => e = .returned (.int .u32 R) ∧ w = w' := by
  go_enter Tryz.func118, Tryz.ntmps118
  go_wp2
  go_loop [0, 10] (fun n x => ∃ (k r : Nat), k ≤ s.size ∧ Hid (r = Sm.crc C (s.data.toList.take k)) ∧ n = .int .u32 r ∧ x = .int .i64 k) (fun _ x => s.size - (intOf x).toNat)
  case atStart => exact ⟨0, C, by omega, Lib.hid rfl, rfl, rfl⟩
  case round =>
    obtain ⟨k, r, hk, HR, rfl, rfl⟩ := hrel
    have hr : r < 4294967296 := by rw [HR.out]; exact Sm.crc_lt hC _
    by_cases hlt : k < s.size
    · have hb := (s[k]).toNat_lt
      have hx : r ^^^ (s[k]).toNat < 4294967296 := Sm.xor_lt hr (by omega)
      have e3 := u32_xor_nat r (s[k]).toNat hr (by omega)
      have HS : Hid (Sm.it 8 (r ^^^ (s[k]).toNat) = Sm.crc C (s.data.toList.take (k + 1))) := Lib.hid (by rw [take_snoc s k hlt, Sm.crc_snoc, ← HR.out])
      go_wp2_with (go_at_call 147; refine (overByte_any _ _ hx hT).mono ?_; rintro e w' ⟨rfl, rfl⟩)
      go_round
      case rel => exact ⟨k + 1, _, by omega, HS, rfl, by go_num⟩
      case measure => simp [intOf]; omega
    · obtain rfl : k = s.size := by omega
      have e4 : bits .xor .u32 IntKind.u32.max ((r : Nat) : Int) = (R : Int) := by rw [HR.out, List.take_of_length_le (by simp)]; exact e2.out
      go_wp2
      go_ret
      exact ⟨rfl, rfl⟩
theorem add_any (c : Nat) (s : ByteArray) (w : World) (hc : c < 4294967296) (hs : s.size ≤ 140737488351232) (hT : Hid (Tab w)) :
   Calls Tryz.prog 118 #[.int .u32 c, .string s] w fun e w' => e = .returned (.int .u32 (Sm.add c s.data.toList : Nat)) ∧ w = w' :=
  add_in c (4294967295 ^^^ c) (Sm.add c s.data.toList) s w hs hT (Sm.xor_lt (by omega) hc) (ones_xor c hc) (Lib.hid (ones_xor _ (Sm.crc_lt (Sm.xor_lt (by omega) hc) _)))
set_option maxRecDepth 100000 in
set_option maxHeartbeats 1000000 in
theorem of_any (s : ByteArray) (w : World) (hs : s.size ≤ 140737488351232) (hT : Hid (Tab w)) :
   Calls Tryz.prog 94 #[.string s] w fun e w' => e = .returned (.int .u32 (Sm.add 0 s.data.toList : Nat)) ∧ w = w' := by
  go_enter Tryz.func94, Tryz.ntmps94
  go_wp2_with (go_at_call 118; refine (add_any 0 _ _ (by omega) hs hT).mono ?_; rintro e w' ⟨rfl, rfl⟩)
  go_ret
  exact ⟨rfl, rfl⟩
theorem or_rot (c : Nat) (hc : c < 4294967296) : bits .or .u32 ((c : Int) / 32768) ((c : Int) * 131072 % 4294967296) = (Sm.rot c : Nat) := by
  rw [show (c : Int) / 32768 = ((c / 32768 : Nat) : Int) from by omega, show (c : Int) * 131072 % 4294967296 = ((c % 32768 * 131072 : Nat) : Int) from by omega,
    u32_or_nat _ _ (by omega) (by omega), Nat.or_comm, nat_join 17 _ _ (by omega) (by omega), Nat.add_comm]
  rfl
set_option maxRecDepth 100000 in
set_option maxHeartbeats 1000000 in
theorem mask_any (c : Nat) (w : World) (hc : c < 4294967296) :
   Calls Tryz.prog 93 #[.int .u32 c] w fun e w' => e = .returned (.int .u32 (Sm.mask c : Nat)) ∧ w = w' := by
  go_enter Tryz.func93, Tryz.ntmps93
  go_wp2
  go_ret
  refine ⟨ret_u32 ?_, rfl⟩
  rw [or_rot c hc]
  show _ = (((Sm.rot c + 2726488792) % 4294967296 : Nat) : Int)
  omega
theorem beq_nat (a b : Nat) : ((a : Int) == (b : Int)) = (a == b) := by
  by_cases h : a = b
  · subst h; simp
  · rw [beq_eq_false_iff_ne.2 h, beq_eq_false_iff_ne.2 (by omega)]
set_option maxRecDepth 100000 in
set_option maxHeartbeats 1000000 in
theorem same_any (s : ByteArray) (m : Nat) (w : World) (hs : s.size ≤ 140737488351232) (hT : Hid (Tab w)) :
   Calls Tryz.prog 132 #[.string s, .int .u32 m] w fun e w' => e = .returned (.bool (Sm.mask (Sm.add 0 s.data.toList) == m)) ∧ w = w' := by
  have hA := Sm.add_lt (c := 0) (by omega) s.data.toList
  go_enter Tryz.func132, Tryz.ntmps132
  go_wp2_with (first | (go_at_call 94; refine (of_any _ _ hs hT).mono ?_; rintro e w' ⟨rfl, rfl⟩) | (go_at_call 93; refine (mask_any _ _ hA).mono ?_; rintro e w' ⟨rfl, rfl⟩))
  go_ret
  exact ⟨congrArg (fun b => Ending.returned (.bool b)) (beq_nat _ _), rfl⟩
end Go.Proofs.YtieemdcoomilaaaGreatDoor
namespace Go.Proofs.YtieemdcoomilaaaGreatDoor
open Go.ChangeShapes Go.WideShapes Go.ChangeAt Go.RowKit
theorem own : ownKnob Tryz.prog.godebug = none := by kernel_rfl
theorem laidOut : laidOutB Tryz.prog = true := by kernel_rfl
def laid : List (String × DataW Unit) := [("baton/sum.fourSteps", Rows.laid_baton_sum_fourSteps)]
theorem gTab : Tryz.prog.globalNamed "baton/sum.fourSteps" = some 0 := by kernel_rfl
theorem tTab : (Tryz.prog.globals[0]?).map (·.type) = some 193 := by kernel_rfl
def doorSteps : Nat := 14
theorem door_met (os : Os) (args : Array Value) : laidMetH Tryz.prog laid ((World.doorLaid Tryz.prog doorSteps os).forCall (fun _ _ => 0) ⟨#[], args, []⟩).memory :=
  laidMetH_of_parts3 (fuel := 8) (laidMet_of_run' 8 (by kernel_rfl) (by kernel_rfl)) (by kernel_rfl) (by kernel_rfl)
theorem door_tab : Rows.laid_baton_sum_fourSteps = (Lib.tabData .u32 (Sm.tab.map fun n : Nat => (n : Int)) : DataW Unit) := rfl
theorem of_laid {W : World} (h : laidMetH Tryz.prog laid W) : Tab W := by
  rw [MakeChecks.laidMetH_plain _ _ _ (by kernel_rfl)] at h
  have h2 : laidMet Tryz.prog [("baton/sum.fourSteps", (Lib.tabData .u32 (Sm.tab.map fun n : Nat => (n : Int)) : DataW Unit))] W := h
  have hT := Lib.tabIs_of_head gTab tTab Tryz.underlying193 Tryz.underlying114 (by kernel_rfl) (by kernel_rfl) h2
  have hc : ∀ i, i < 16 → W.cell? ⟨0, i, none⟩ = some (.int .u32 ((Sm.tab.getD i 0 : Nat) : Int)) := by
    intro i hi
    have := hT.cell gTab i (by simpa [Sm.tab] using hi)
    rw [this]
    have e : (Sm.tab.map fun n : Nat => (n : Int)).getD i 0 = ((Sm.tab.getD i 0 : Nat) : Int) := by
      simp only [List.getD_eq_getElem?_getD, List.getElem?_map]
      cases Sm.tab[i]? <;> rfl
    rw [e]
  refine ⟨?_, hc⟩
  have h0 := hc 0 (by omega)
  rcases Nat.eq_zero_or_pos W.heap.size with hz | hz
  · simp [World.cell?, hz] at h0
  · exact hz
end Go.Proofs.YtieemdcoomilaaaGreatDoor
