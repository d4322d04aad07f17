/- Write requests, plainly: series written and read; there and back; no longer; joined; other fields; twice. Nothing of the program. -/
import Derived.Test.YtioflicmpnkfeaaGreatPg
import Derived.Test.YtioflicmpnkfeaaGreatLs
namespace Go.Proofs.YtioflicmpnkfeaaGreat
open Go Go.RowKit
set_option maxRecDepth 100000
structure Sm.ok (x : Sm) : Prop where
  lo : -9223372036854775808 ≤ x.t
  hi : x.t ≤ 9223372036854775807
  b : x.b < 18446744073709551616
/-- A time as a number without a sign, and back. -/
def tn (t : Int) : Nat := (t % 18446744073709551616).toNat
def nt (n : Nat) : Int := if n < 9223372036854775808 then (n : Int) else (n : Int) - 18446744073709551616
theorem nt_tn {t : Int} (h1 : -9223372036854775808 ≤ t) (h2 : t ≤ 9223372036854775807) : nt (tn t) = t := by
  unfold nt tn
  split <;> omega
theorem tn_lt (t : Int) : tn t < 18446744073709551616 := by unfold tn; omega
theorem tn_nt {n : Nat} (h : n < 18446744073709551616) : tn (nt n) = n := by
  unfold tn nt
  split <;> omega
theorem nt_ok {n : Nat} (h : n < 18446744073709551616) : -9223372036854775808 ≤ nt n ∧ nt n ≤ 9223372036854775807 := by
  unfold nt
  split <;> omega
theorem tn_zero {t : Int} (h1 : -9223372036854775808 ≤ t) (h2 : t ≤ 9223372036854775807) : tn t = 0 ↔ t = 0 := by unfold tn; omega
def part (n : Nat) (t : List UInt8) : Fd := ⟨n, 2, 0, t⟩
def eM (fs : List Fd) : List UInt8 := fs.flatMap fby
def fLb (x : Lb) : List Fd := (if x.n.data.toList = [] then [] else [part 1 x.n.data.toList]) ++ (if x.v.data.toList = [] then [] else [part 2 x.v.data.toList])
def fSm (x : Sm) : List Fd := (if x.b = 0 then [] else [⟨1, 1, x.b, []⟩]) ++ (if x.t = 0 then [] else [⟨2, 0, tn x.t, []⟩])
def eLb (x : Lb) : List UInt8 := eM (fLb x)
def eSm (x : Sm) : List UInt8 := eM (fSm x)
def fSr (x : Sr) : List Fd := x.ls.map (fun y => part 1 (eLb y)) ++ x.ss.map (fun y => part 2 (eSm y))
def eSr (x : Sr) : List UInt8 := eM (fSr x)
def fRq (l : List Sr) : List Fd := l.map fun x => part 1 (eSr x)
/-- The request of series. -/
def eRq (l : List Sr) : List UInt8 := eM (fRq l)
def ba (t : List UInt8) : ByteArray := ⟨t.toArray⟩
def lb0 : Lb := ⟨⟨#[]⟩, ⟨#[]⟩⟩
def sm0 : Sm := ⟨0, 0⟩
/-- The label of fields: the last name, the last value count. -/
def gLb : List Fd → Lb → Lb × Nat
  | [], x => (x, 0)
  | f :: r, x => if 2 < f.n then gLb r x else if f.w ≠ 2 then (lb0, 4) else if f.n = 1 then gLb r ⟨ba f.t, x.v⟩ else gLb r ⟨x.n, ba f.t⟩
def gSm : List Fd → Sm → Sm × Nat
  | [], x => (x, 0)
  | f :: r, x => if f.n = 1 then (if f.w = 1 then gSm r ⟨x.t, f.v⟩ else (sm0, 4)) else if f.n = 2 then (if f.w = 0 then gSm r ⟨nt f.v, x.b⟩ else (sm0, 4)) else gSm r x
def rLb (s : List UInt8) : Lb × Nat := if (msg s []).2 ≠ 0 then (lb0, (msg s []).2) else gLb (msg s []).1 lb0
def rSm (s : List UInt8) : Sm × Nat := if (msg s []).2 ≠ 0 then (sm0, (msg s []).2) else gSm (msg s []).1 sm0
/-- The parts of a number, read by rd, as far as they are right; what is wrong with the next one. -/
def pts {α : Type} (n : Nat) (rd : List UInt8 → α × Nat) : List Fd → List α × Nat
  | [] => ([], 0)
  | f :: r => if f.n = n then (if (rd f.t).2 ≠ 0 then ([], (rd f.t).2) else ((rd f.t).1 :: (pts n rd r).1, (pts n rd r).2)) else pts n rd r
def bad2 (fs : List Fd) : Bool := fs.any fun f => decide (f.n ≤ 2) && decide (f.w ≠ 2)
def bad1 (fs : List Fd) : Bool := fs.any fun f => decide (f.n = 1) && decide (f.w ≠ 2)
def gSr (fs : List Fd) : Sr × Nat := if bad2 fs then (⟨[], []⟩, 4) else if (pts 1 rLb fs).2 ≠ 0 then (⟨[], []⟩, (pts 1 rLb fs).2) else if (pts 2 rSm fs).2 ≠ 0 then (⟨[], []⟩, (pts 2 rSm fs).2) else (⟨(pts 1 rLb fs).1, (pts 2 rSm fs).1⟩, 0)
def rSr (s : List UInt8) : Sr × Nat := if (msg s []).2 ≠ 0 then (⟨[], []⟩, (msg s []).2) else gSr (msg s []).1
def gRq (fs : List Fd) : List Sr × Nat := if bad1 fs then ([], 4) else pts 1 rSr fs
/-- The series of a request: those ahead of the one that is wrong, and the error. -/
def rRq (s : List UInt8) : List Sr × Nat := if (msg s []).2 ≠ 0 then ([], (msg s []).2) else gRq (msg s []).1
/-! Parts. -/
theorem pts_cons {α : Type} {n : Nat} {rd : List UInt8 → α × Nat} (f : Fd) (r : List Fd) : pts n rd (f :: r) = if f.n = n then (if (rd f.t).2 ≠ 0 then ([], (rd f.t).2) else ((rd f.t).1 :: (pts n rd r).1, (pts n rd r).2)) else pts n rd r := rfl
theorem pts_app {α : Type} {n : Nat} {rd : List UInt8 → α × Nat} : ∀ (a b : List Fd), (pts n rd a).2 = 0 → pts n rd (a ++ b) = ((pts n rd a).1 ++ (pts n rd b).1, (pts n rd b).2)
  | [], b, _ => rfl
  | f :: r, b, h => by
    rw [pts_cons] at h
    rw [List.cons_append, pts_cons, pts_cons]
    by_cases h1 : f.n = n
    · rw [if_pos h1] at h
      rw [if_pos h1, if_pos h1]
      by_cases h2 : (rd f.t).2 ≠ 0
      · rw [if_pos h2] at h; exact absurd h h2
      · rw [if_neg h2] at h
        rw [if_neg h2, if_neg h2, pts_app r b h]; rfl
    · rw [if_neg h1] at h
      rw [if_neg h1, if_neg h1, pts_app r b h]
theorem pts_err {α : Type} {n : Nat} {rd : List UInt8 → α × Nat} : ∀ (a b : List Fd), (pts n rd a).2 ≠ 0 → pts n rd (a ++ b) = pts n rd a
  | [], b, h => absurd rfl h
  | f :: r, b, h => by
    rw [pts_cons] at h
    rw [List.cons_append, pts_cons, pts_cons]
    by_cases h1 : f.n = n
    · rw [if_pos h1] at h
      rw [if_pos h1, if_pos h1]
      by_cases h2 : (rd f.t).2 ≠ 0
      · rw [if_pos h2, if_pos h2]
      · rw [if_neg h2] at h
        rw [if_neg h2, if_neg h2, pts_err r b h]
    · rw [if_neg h1] at h
      rw [if_neg h1, if_neg h1, pts_err r b h]
theorem pts_skip {α : Type} {n : Nat} {rd : List UInt8 → α × Nat} : ∀ (a : List Fd), (∀ f ∈ a, f.n ≠ n) → pts n rd a = ([], 0)
  | [], _ => rfl
  | f :: r, h => by rw [pts, if_neg (h f (by simp)), pts_skip r (fun g hg => h g (by simp [hg]))]
theorem pts_map {α β : Type} {n : Nat} {rd : List UInt8 → α × Nat} (e : β → List UInt8) (g : β → α) : ∀ (l : List β), (∀ x ∈ l, rd (e x) = (g x, 0)) → pts n rd (l.map fun x => part n (e x)) = (l.map g, 0)
  | [], _ => rfl
  | x :: r, h => by
    rw [List.map_cons, pts, if_pos (show (part n (e x)).n = n from rfl), show (part n (e x)).t = e x from rfl, h x (by simp), if_neg (by simp), pts_map e g r (fun y hy => h y (by simp [hy]))]
    rfl
/-! There and back. -/
theorem msg_eM {fs : List Fd} (h : ∀ f ∈ fs, f.ok) : msg (eM fs) [] = (fs, 0) := msg_write fs h
theorem part_ok {n : Nat} {t : List UInt8} (hn : 1 ≤ n ∧ n ≤ 536870911) (h : t.length < 18446744073709551616) : (part n t).ok := by
  refine ⟨?_, fun e => ?_, fun e => ?_, fun _ => ⟨rfl, h⟩, fun e => absurd rfl e⟩
  · unfold mayk part; simp; omega
  · rcases e with e | e <;> cases e
  · cases e
structure Lb.ok (x : Lb) : Prop where
  n : x.n.data.toList.length < 18446744073709551616
  v : x.v.data.toList.length < 18446744073709551616
theorem fLb_ok {x : Lb} (h : x.ok) : ∀ f ∈ fLb x, f.ok := by
  intro f hf
  unfold fLb at hf
  rcases List.mem_append.1 hf with hf | hf
  · split at hf
    · cases hf
    · rw [List.mem_singleton] at hf; subst hf; exact part_ok (by omega) h.n
  · split at hf
    · cases hf
    · rw [List.mem_singleton] at hf; subst hf; exact part_ok (by omega) h.v
theorem fSm_ok {x : Sm} (h : x.ok) : ∀ f ∈ fSm x, f.ok := by
  intro f hf
  unfold fSm at hf
  rcases List.mem_append.1 hf with hf | hf
  · split at hf
    · cases hf
    · rw [List.mem_singleton] at hf; subst hf
      refine ⟨rfl, fun _ => h.b, fun e => absurd e (show ¬ ((1 : Nat) = 5) by decide), fun e => absurd e (show ¬ ((1 : Nat) = 2) by decide), fun _ => rfl⟩
  · split at hf
    · cases hf
    · rw [List.mem_singleton] at hf; subst hf
      refine ⟨rfl, fun _ => tn_lt _, fun e => absurd e (show ¬ ((0 : Nat) = 5) by decide), fun e => absurd e (show ¬ ((0 : Nat) = 2) by decide), fun _ => rfl⟩
theorem ba_list (s : ByteArray) : ba s.data.toList = s := by cases s; rfl
theorem ba_nil {s : ByteArray} (h : s.data.toList = []) : s = ⟨#[]⟩ := by rw [← ba_list s, h]; rfl
theorem gLb_f (x : Lb) : gLb (fLb x) lb0 = (x, 0) := by
  unfold fLb
  obtain ⟨n, v⟩ := x
  by_cases h1 : n.data.toList = [] <;> by_cases h2 : v.data.toList = []
  · rw [if_pos h1, if_pos h2, ba_nil h1, ba_nil h2]; rfl
  · rw [if_pos h1, if_neg h2, ba_nil h1]
    show (({ n := _, v := ba v.data.toList } : Lb), 0) = _
    rw [ba_list]; rfl
  · rw [if_neg h1, if_pos h2, ba_nil h2]
    show (({ n := ba n.data.toList, v := _ } : Lb), 0) = _
    rw [ba_list]; rfl
  · rw [if_neg h1, if_neg h2]
    show (({ n := ba n.data.toList, v := ba v.data.toList } : Lb), 0) = _
    rw [ba_list, ba_list]
theorem gSm_f {x : Sm} (h : x.ok) : gSm (fSm x) sm0 = (x, 0) := by
  unfold fSm
  obtain ⟨t, b⟩ := x
  have ht := nt_tn h.lo h.hi
  by_cases h1 : b = 0 <;> by_cases h2 : t = 0
  · rw [if_pos h1, if_pos h2, h1, h2]; rfl
  · rw [if_pos h1, if_neg h2, h1]
    show (({ t := nt (tn t), b := _ } : Sm), 0) = _
    rw [ht]; rfl
  · rw [if_neg h1, if_pos h2, h2]; rfl
  · rw [if_neg h1, if_neg h2]
    show (({ t := nt (tn t), b := _ } : Sm), 0) = _
    rw [ht]
theorem rLb_e {x : Lb} (h : x.ok) : rLb (eLb x) = (x, 0) := by
  unfold rLb eLb
  rw [msg_eM (fLb_ok h), if_neg (by simp), gLb_f]
theorem rSm_e {x : Sm} (h : x.ok) : rSm (eSm x) = (x, 0) := by
  unfold rSm eSm
  rw [msg_eM (fSm_ok h), if_neg (by simp), gSm_f h]
structure Sr.ok (x : Sr) : Prop where
  l : ∀ y ∈ x.ls, y.ok ∧ (eLb y).length < 18446744073709551616
  s : ∀ y ∈ x.ss, y.ok ∧ (eSm y).length < 18446744073709551616
theorem fSr_ok {x : Sr} (h : x.ok) : ∀ f ∈ fSr x, f.ok := by
  intro f hf
  unfold fSr at hf
  rcases List.mem_append.1 hf with hf | hf
  · obtain ⟨y, hy, rfl⟩ := List.mem_map.1 hf; exact part_ok (by omega) (h.l y hy).2
  · obtain ⟨y, hy, rfl⟩ := List.mem_map.1 hf; exact part_ok (by omega) (h.s y hy).2
theorem bad2_parts {fs : List Fd} (h : ∀ f ∈ fs, 2 < f.n ∨ f.w = 2) : bad2 fs = false := by
  unfold bad2
  rw [List.any_eq_false]
  intro f hf
  have := h f hf
  simp
  omega
theorem bad1_parts {fs : List Fd} (h : ∀ f ∈ fs, f.n ≠ 1 ∨ f.w = 2) : bad1 fs = false := by
  unfold bad1
  rw [List.any_eq_false]
  intro f hf
  have := h f hf
  simp
  omega
theorem map_id' {α : Type} (l : List α) : l.map (fun x => x) = l := by simp
theorem gSr_f {x : Sr} (h : x.ok) : gSr (fSr x) = (x, 0) := by
  have hL : pts 1 rLb (x.ls.map fun y => part 1 (eLb y)) = (x.ls, 0) := by rw [pts_map eLb (fun y => y) _ (fun y hy => rLb_e (h.l y hy).1), map_id']
  have hS : pts 2 rSm (x.ss.map fun y => part 2 (eSm y)) = (x.ss, 0) := by rw [pts_map eSm (fun y => y) _ (fun y hy => rSm_e (h.s y hy).1), map_id']
  have hL2 : pts 1 rLb (x.ss.map fun y => part 2 (eSm y)) = ([], 0) := pts_skip _ (fun f hf => by obtain ⟨y, _, rfl⟩ := List.mem_map.1 hf; exact (by decide : (2 : Nat) ≠ 1))
  have hS2 : pts 2 rSm (x.ls.map fun y => part 1 (eLb y)) = ([], 0) := pts_skip _ (fun f hf => by obtain ⟨y, _, rfl⟩ := List.mem_map.1 hf; exact (by decide : (1 : Nat) ≠ 2))
  have e1 : pts 1 rLb (fSr x) = (x.ls, 0) := by unfold fSr; rw [pts_app _ _ (by rw [hL]), hL, hL2, List.append_nil]
  have e2 : pts 2 rSm (fSr x) = (x.ss, 0) := by unfold fSr; rw [pts_app _ _ (by rw [hS2]), hS2, hS, List.nil_append]
  unfold gSr
  rw [bad2_parts (fun f hf => .inr (by
    unfold fSr at hf
    rcases List.mem_append.1 hf with hf | hf <;> obtain ⟨y, _, rfl⟩ := List.mem_map.1 hf <;> rfl)), e1, e2]
  rfl
theorem rSr_e {x : Sr} (h : x.ok) : rSr (eSr x) = (x, 0) := by
  unfold rSr eSr
  rw [msg_eM (fSr_ok h), if_neg (by simp), gSr_f h]
/-- Series that may be written. -/
structure Rok (l : List Sr) : Prop where
  s : ∀ x ∈ l, x.ok ∧ (eSr x).length < 18446744073709551616
theorem fRq_ok {l : List Sr} (h : Rok l) : ∀ f ∈ fRq l, f.ok := by
  intro f hf
  obtain ⟨y, hy, rfl⟩ := List.mem_map.1 hf
  exact part_ok (by omega) (h.s y hy).2
theorem pts_fRq {l : List Sr} (h : Rok l) : pts 1 rSr (fRq l) = (l, 0) := by
  unfold fRq
  rw [pts_map eSr (fun y => y) _ (fun y hy => rSr_e (h.s y hy).1), map_id']
theorem bad1_fRq (l : List Sr) : bad1 (fRq l) = false := bad1_parts (fun f hf => .inr (by obtain ⟨y, _, rfl⟩ := List.mem_map.1 hf; rfl))
theorem rRq_e {l : List Sr} (h : Rok l) : rRq (eRq l) = (l, 0) := by
  unfold rRq eRq
  rw [msg_eM (fRq_ok h), if_neg (by simp)]
  unfold gRq
  rw [bad1_fRq, pts_fRq h]
  rfl
/-! One behind the other. -/
theorem bad1_app (a b : List Fd) : bad1 (a ++ b) = (bad1 a || bad1 b) := List.any_append ..
theorem msg_both {a b : List UInt8} {fs : List Fd} (h : msg a [] = (fs, 0)) (ha : a.length < 18446744073709551616) (hb : b.length < 18446744073709551616) : msg (a ++ b) [] = if (msg b []).2 = 0 then (fs ++ (msg b []).1, 0) else ([], (msg b []).2) := by
  rw [msg_join a.length a b [] fs (Nat.le_refl _) ha h, msg_acc b.length b fs (Nat.le_refl _) hb]
theorem rRq_parts {s : List UInt8} {l : List Sr} (h : rRq s = (l, 0)) : ∃ fs, msg s [] = (fs, 0) ∧ bad1 fs = false ∧ pts 1 rSr fs = (l, 0) := by
  unfold rRq at h
  split at h
  · rename_i h1
    exact absurd (congrArg Prod.snd h) h1
  · rename_i h1
    refine ⟨(msg s []).1, by rw [← Decidable.not_not.1 h1], ?_⟩
    unfold gRq at h
    split at h
    · cases h
    · rename_i h2
      exact ⟨by simpa using h2, h⟩
theorem rRq_join {s t : List UInt8} {a b : List Sr} (hs : s.length < 18446744073709551616) (ht : t.length < 18446744073709551616) (h : rRq s = (a, 0)) (k : rRq t = (b, 0)) : rRq (s ++ t) = (a ++ b, 0) := by
  obtain ⟨fs, h1, h2, h3⟩ := rRq_parts h
  obtain ⟨gs, k1, k2, k3⟩ := rRq_parts k
  have e := msg_both h1 hs ht
  rw [k1, if_pos rfl] at e
  unfold rRq
  rw [e, if_neg (by simp)]
  unfold gRq
  rw [bad1_app, h2, k2, pts_app _ _ (by rw [h3]), h3, k3]
  rfl
/-- What is told of a request, and bytes behind it. -/
theorem rRq_ahead {l : List Sr} (h : Rok l) (s : List UInt8) (hl : (eRq l).length < 18446744073709551616) (hs : s.length < 18446744073709551616) : ∃ m k, rRq (eRq l ++ s) = (m, k) ∧ ((k ≠ 0 ∧ m = []) ∨ ∃ r, m = l ++ r) := by
  have e : msg (eRq l ++ s) [] = _ := msg_both (msg_eM (fRq_ok h)) hl hs
  unfold rRq
  rw [e]
  by_cases h0 : (msg s []).2 = 0
  · rw [if_pos h0, if_neg (by simp)]
    unfold gRq
    rw [bad1_app, bad1_fRq, Bool.false_or, pts_app _ _ (by rw [pts_fRq h]), pts_fRq h]
    by_cases h1 : bad1 (msg s []).1 = true
    · rw [if_pos h1]; exact ⟨_, _, rfl, .inl ⟨by decide, rfl⟩⟩
    · rw [if_neg h1]; exact ⟨_, _, rfl, .inr ⟨_, rfl⟩⟩
  · rw [if_neg h0, if_pos h0]
    exact ⟨[], (msg s []).2, rfl, .inl ⟨h0, rfl⟩⟩
/-! No longer. -/
theorem eM_cons (f : Fd) (r : List Fd) : eM (f :: r) = fby f ++ eM r := rfl
theorem eM_app (a b : List Fd) : eM (a ++ b) = eM a ++ eM b := by unfold eM; rw [List.flatMap_append]
theorem part_len (n : Nat) (t : List UInt8) : (fby (part n t)).length = Bt.vlen (n * 8 + 2) + (Bt.vlen t.length + t.length) := by
  unfold fby vby part
  simp only
  rw [if_neg (by decide), if_neg (by decide), if_pos trivial, List.length_append, List.length_append, Bt.vint_length, Bt.vint_length]
theorem part_mono (n : Nat) {s t : List UInt8} (h : s.length ≤ t.length) : (fby (part n s)).length ≤ (fby (part n t)).length := by
  rw [part_len, part_len]
  have := Bt.vlen_mono _ _ h
  omega
def nLen (x : Lb) : Nat := if x.n.data.toList = [] then 0 else (fby (part 1 x.n.data.toList)).length
def vLen (x : Lb) : Nat := if x.v.data.toList = [] then 0 else (fby (part 2 x.v.data.toList)).length
theorem eLb_len (x : Lb) : (eLb x).length = nLen x + vLen x := by
  unfold eLb fLb nLen vLen
  rw [eM_app, List.length_append]
  congr 1
  · split
    · rfl
    · simp [eM]
  · split
    · rfl
    · simp [eM]
theorem fd_part {f : Fd} (h : f.ok) (hw : f.w = 2) : f = part f.n f.t := by
  obtain ⟨n, w, v, t⟩ := f
  have := (h.v2 hw).1
  simp only at hw this
  subst hw this
  rfl
theorem fd_num {f : Fd} (h : f.ok) {a b : Nat} (hn : f.n = a) (hw : f.w = b) (hb : b ≠ 2) : f = ⟨a, b, f.v, []⟩ := by
  have ht := h.t2 (by rw [hw]; exact hb)
  obtain ⟨n, w, v, t⟩ := f
  simp only at hn hw ht
  rw [hn, hw, ht]
theorem gLb_len : ∀ (fs : List Fd) (x y : Lb), (∀ f ∈ fs, f.ok) → gLb fs x = (y, 0) → (eLb y).length ≤ (eLb x).length + (eM fs).length
  | [], x, y, _, h => by cases h; exact Nat.le_add_right _ _
  | f :: r, x, y, hok, h => by
    have hr := fun x y h => gLb_len r x y (fun g hg => hok g (by simp [hg])) h
    have hf := hok f (by simp)
    rw [eM_cons, List.length_append]
    unfold gLb at h
    split at h
    · have := hr _ _ h; omega
    · split at h
      · cases h
      · rename_i h2
        have h2 : f.w = 2 := Decidable.not_not.1 h2
        have e := fd_part hf h2
        have hn := (mayk_w hf.may).1
        split at h
        · rename_i h1
          have := hr _ _ h
          rw [eLb_len, eLb_len] at this
          rw [eLb_len y, eLb_len x]
          have e1 : nLen ⟨ba f.t, x.v⟩ ≤ (fby f).length := by
            unfold nLen
            split
            · omega
            · rw [e, h1]; exact part_mono 1 (by simp [ba, part])
          have e2 : vLen ⟨ba f.t, x.v⟩ = vLen x := rfl
          omega
        · rename_i h1
          have := hr _ _ h
          rw [eLb_len, eLb_len] at this
          rw [eLb_len y, eLb_len x]
          have e1 : vLen ⟨x.n, ba f.t⟩ ≤ (fby f).length := by
            unfold vLen
            split
            · omega
            · rw [e, show f.n = 2 by omega]; exact part_mono 2 (by simp [ba, part])
          have e2 : nLen ⟨x.n, ba f.t⟩ = nLen x := rfl
          omega
theorem msg_len {s : List UInt8} (hs : s.length < 18446744073709551616) {fs : List Fd} (h : msg s [] = (fs, 0)) : (∀ f ∈ fs, f.ok) ∧ (eM fs).length ≤ s.length := by
  obtain ⟨gs, h1, h2, h3⟩ := msg_facts s.length s [] fs (Nat.le_refl _) hs h
  rw [List.nil_append] at h1
  subst h1
  exact ⟨h2, h3⟩
theorem rLb_len {s : List UInt8} {x : Lb} (hs : s.length < 18446744073709551616) (h : rLb s = (x, 0)) : (eLb x).length ≤ s.length := by
  unfold rLb at h
  split at h
  · rename_i h1; exact absurd (congrArg Prod.snd h) h1
  · rename_i h1
    obtain ⟨k1, k2⟩ := msg_len hs (fs := (msg s []).1) (by rw [← Decidable.not_not.1 h1])
    have := gLb_len _ _ _ k1 h
    have e : (eLb lb0).length = 0 := rfl
    omega
def bLen (x : Sm) : Nat := if x.b = 0 then 0 else (fby ⟨1, 1, x.b, []⟩).length
def tLen (x : Sm) : Nat := if x.t = 0 then 0 else (fby ⟨2, 0, tn x.t, []⟩).length
theorem eSm_len (x : Sm) : (eSm x).length = bLen x + tLen x := by
  unfold eSm fSm bLen tLen
  rw [eM_app, List.length_append]
  congr 1
  · split
    · rfl
    · simp [eM]
  · split
    · rfl
    · simp [eM]
theorem gSm_len : ∀ (fs : List Fd) (x y : Sm), (∀ f ∈ fs, f.ok) → gSm fs x = (y, 0) → (eSm y).length ≤ (eSm x).length + (eM fs).length
  | [], x, y, _, h => by cases h; exact Nat.le_add_right _ _
  | f :: r, x, y, hok, h => by
    have hr := fun x y h => gSm_len r x y (fun g hg => hok g (by simp [hg])) h
    have hf := hok f (by simp)
    rw [eM_cons, List.length_append]
    unfold gSm at h
    split at h
    · rename_i h1
      split at h
      · rename_i h2
        have := hr _ _ h
        rw [eSm_len, eSm_len] at this
        rw [eSm_len y, eSm_len x]
        have e1 : bLen ⟨x.t, f.v⟩ ≤ (fby f).length := by
          unfold bLen
          split
          · omega
          · have := fd_num hf h1 h2 (by decide)
            simp only
            rw [← this]
            exact Nat.le_refl _
        have e2 : tLen ⟨x.t, f.v⟩ = tLen x := rfl
        omega
      · cases h
    · split at h
      · rename_i h1
        split at h
        · rename_i h2
          have := hr _ _ h
          rw [eSm_len, eSm_len] at this
          rw [eSm_len y, eSm_len x]
          have e1 : tLen ⟨nt f.v, x.b⟩ ≤ (fby f).length := by
            unfold tLen
            split
            · omega
            · have h3 := tn_nt (hf.v0 (.inl h2))
              have := fd_num hf h1 h2 (by decide)
              simp only
              rw [h3, ← this]
              exact Nat.le_refl _
          have e2 : bLen ⟨nt f.v, x.b⟩ = bLen x := rfl
          omega
        · cases h
      · have := hr _ _ h; omega
theorem rSm_len {s : List UInt8} {x : Sm} (hs : s.length < 18446744073709551616) (h : rSm s = (x, 0)) : (eSm x).length ≤ s.length := by
  unfold rSm at h
  split at h
  · rename_i h1; exact absurd (congrArg Prod.snd h) h1
  · rename_i h1
    obtain ⟨k1, k2⟩ := msg_len hs (fs := (msg s []).1) (by rw [← Decidable.not_not.1 h1])
    have := gSm_len _ _ _ k1 h
    have e : (eSm sm0).length = 0 := rfl
    omega
theorem rLb_ok {s : List UInt8} {x : Lb} (hs : s.length < 18446744073709551616) (h : rLb s = (x, 0)) : x.ok ∧ (eLb x).length < 18446744073709551616 := by
  have h1 := rLb_len hs h
  have h2 := eLb_len x
  refine ⟨⟨?_, ?_⟩, by omega⟩
  · have : x.n.data.toList.length ≤ nLen x := by
      unfold nLen
      split
      · rename_i e; rw [e]; exact Nat.zero_le _
      · rw [part_len]; omega
    omega
  · have : x.v.data.toList.length ≤ vLen x := by
      unfold vLen
      split
      · rename_i e; rw [e]; exact Nat.zero_le _
      · rw [part_len]; omega
    omega
theorem gSm_ok : ∀ (fs : List Fd) (x y : Sm), (∀ f ∈ fs, f.ok) → x.ok → gSm fs x = (y, 0) → y.ok
  | [], x, y, _, hx, h => by cases h; exact hx
  | f :: r, x, y, hok, hx, h => by
    have hr := fun x y hx h => gSm_ok r x y (fun g hg => hok g (by simp [hg])) hx h
    have hf := hok f (by simp)
    unfold gSm at h
    split at h
    · split at h
      · rename_i h2
        exact hr ⟨x.t, f.v⟩ y ⟨hx.lo, hx.hi, hf.v0 (.inr h2)⟩ h
      · cases h
    · split at h
      · split at h
        · rename_i h2
          have h3 := nt_ok (hf.v0 (.inl h2))
          exact hr ⟨nt f.v, x.b⟩ y ⟨h3.1, h3.2, hx.b⟩ h
        · cases h
      · exact hr _ _ hx h
theorem rSm_ok {s : List UInt8} {x : Sm} (hs : s.length < 18446744073709551616) (h : rSm s = (x, 0)) : x.ok ∧ (eSm x).length < 18446744073709551616 := by
  have h1 := rSm_len hs h
  refine ⟨?_, by omega⟩
  unfold rSm at h
  split at h
  · rename_i h1; exact absurd (congrArg Prod.snd h) h1
  · rename_i h1
    obtain ⟨k1, k2⟩ := msg_len hs (fs := (msg s []).1) (by rw [← Decidable.not_not.1 h1])
    exact gSm_ok _ _ _ k1 ⟨by decide, by decide, by decide⟩ h
def wt (n : Nat) : List Fd → Nat
  | [] => 0
  | f :: r => (if f.n = n then (fby f).length else 0) + wt n r
theorem wt_le (n : Nat) : ∀ fs : List Fd, wt n fs ≤ (eM fs).length
  | [] => Nat.le_refl _
  | f :: r => by have := wt_le n r; rw [wt, eM_cons, List.length_append]; split <;> omega
theorem wt_12 : ∀ fs : List Fd, wt 1 fs + wt 2 fs ≤ (eM fs).length
  | [] => Nat.le_refl _
  | f :: r => by
    have := wt_12 r
    rw [wt, wt, eM_cons, List.length_append]
    by_cases h : f.n = 1
    · rw [if_pos h, if_neg (by omega)]; omega
    · rw [if_neg h]; split <;> omega
theorem pts_len {α : Type} {n : Nat} {rd : List UInt8 → α × Nat} {e : α → List UInt8} : ∀ (fs : List Fd) (l : List α), (∀ f ∈ fs, f.ok ∧ (f.n = n → f.w = 2)) → (∀ f ∈ fs, f.n = n → ∀ x, rd f.t = (x, 0) → (e x).length ≤ f.t.length) → pts n rd fs = (l, 0) → (eM (l.map fun x => part n (e x))).length ≤ wt n fs
  | [], l, _, _, h => by cases h; exact Nat.le_refl _
  | f :: r, l, h1, h2, h => by
    have hr := fun l h => pts_len r l (fun g hg => h1 g (by simp [hg])) (fun g hg => h2 g (by simp [hg])) h
    rw [pts_cons] at h
    rw [wt]
    split at h
    · rename_i hn
      rw [if_pos hn]
      split at h
      · rename_i hb; exact absurd (congrArg Prod.snd h) hb
      · rename_i hb
        obtain ⟨e1, hz⟩ := Prod.mk.inj h
        subst e1
        have k1 := hr (pts n rd r).1 (by rw [← hz])
        have k2 := h2 f (by simp) hn (rd f.t).1 (by rw [← Decidable.not_not.1 hb])
        obtain ⟨h3, h4⟩ := h1 f (by simp)
        have k3 : f = part n f.t := by rw [← hn]; exact fd_part h3 (h4 hn)
        have k4 := part_mono n k2
        rw [← k3] at k4
        rw [List.map_cons, eM_cons, List.length_append]
        omega
    · rename_i hn
      rw [if_neg hn]
      have := hr l h
      omega
theorem pts_mem {α : Type} {n : Nat} {rd : List UInt8 → α × Nat} : ∀ (fs : List Fd) (l : List α) (k : Nat), pts n rd fs = (l, k) → ∀ x ∈ l, ∃ f ∈ fs, f.n = n ∧ rd f.t = (x, 0)
  | [], l, k, h, x, hx => by cases h; cases hx
  | f :: r, l, k, h, x, hx => by
    rw [pts_cons] at h
    split at h
    · rename_i hn
      split at h
      · cases h; cases hx
      · rename_i hb
        cases h
        rcases List.mem_cons.1 hx with rfl | hx
        · exact ⟨f, by simp, hn, by rw [← Decidable.not_not.1 hb]⟩
        · obtain ⟨g, hg, k⟩ := pts_mem r _ _ rfl x hx
          exact ⟨g, by simp [hg], k⟩
    · obtain ⟨g, hg, k⟩ := pts_mem r _ _ h x hx
      exact ⟨g, by simp [hg], k⟩
theorem bad2_all {fs : List Fd} (h : bad2 fs = false) : ∀ f ∈ fs, f.n ≤ 2 → f.w = 2 := by
  intro f hf hn
  unfold bad2 at h
  rw [List.any_eq_false] at h
  have := h f hf
  simp at this
  omega
theorem bad1_all {fs : List Fd} (h : bad1 fs = false) : ∀ f ∈ fs, f.n = 1 → f.w = 2 := by
  intro f hf hn
  unfold bad1 at h
  rw [List.any_eq_false] at h
  have := h f hf
  simp at this
  omega
theorem gSr_parts {fs : List Fd} {x : Sr} (h : gSr fs = (x, 0)) : bad2 fs = false ∧ pts 1 rLb fs = (x.ls, 0) ∧ pts 2 rSm fs = (x.ss, 0) := by
  unfold gSr at h
  split at h
  · cases h
  · rename_i h1
    split at h
    · rename_i h2; exact absurd (congrArg Prod.snd h) h2
    · rename_i h2
      split at h
      · rename_i h3; exact absurd (congrArg Prod.snd h) h3
      · rename_i h3
        cases h
        exact ⟨by simpa using h1, by rw [← Decidable.not_not.1 h2], by rw [← Decidable.not_not.1 h3]⟩
theorem tlen {fs : List Fd} (h : ∀ f ∈ fs, f.ok) {f : Fd} (hf : f ∈ fs) (hw : f.w = 2) : f.t.length < 18446744073709551616 := ((h f hf).v2 hw).2
theorem rSr_ok {s : List UInt8} {x : Sr} (hs : s.length < 18446744073709551616) (h : rSr s = (x, 0)) : x.ok ∧ (eSr x).length ≤ s.length := by
  unfold rSr at h
  split at h
  · rename_i h1; exact absurd (congrArg Prod.snd h) h1
  · rename_i h1
    obtain ⟨k1, k2⟩ := msg_len hs (fs := (msg s []).1) (by rw [← Decidable.not_not.1 h1])
    generalize (msg s []).1 = fs at *
    obtain ⟨b, pl, ps⟩ := gSr_parts h
    have hb := bad2_all b
    have w1 : ∀ f ∈ fs, f.n = 1 → f.t.length < 18446744073709551616 := fun f hf hn => tlen k1 hf (hb f hf (by omega))
    have w2 : ∀ f ∈ fs, f.n = 2 → f.t.length < 18446744073709551616 := fun f hf hn => tlen k1 hf (hb f hf (by omega))
    refine ⟨⟨fun y hy => ?_, fun y hy => ?_⟩, ?_⟩
    · obtain ⟨f, hf, hn, hr⟩ := pts_mem _ _ _ pl y hy
      exact rLb_ok (w1 f hf hn) hr
    · obtain ⟨f, hf, hn, hr⟩ := pts_mem _ _ _ ps y hy
      exact rSm_ok (w2 f hf hn) hr
    · have c1 := pts_len (e := eLb) fs _ (fun f hf => ⟨k1 f hf, fun hn => hb f hf (by omega)⟩) (fun f hf hn y hy => rLb_len (w1 f hf hn) hy) pl
      have c2 := pts_len (e := eSm) fs _ (fun f hf => ⟨k1 f hf, fun hn => hb f hf (by omega)⟩) (fun f hf hn y hy => rSm_len (w2 f hf hn) hy) ps
      have c3 := wt_12 fs
      unfold eSr fSr
      rw [eM_app, List.length_append]
      omega
theorem rRq_ok {s : List UInt8} {l : List Sr} (hs : s.length < 18446744073709551616) (h : rRq s = (l, 0)) : Rok l ∧ (eRq l).length ≤ s.length := by
  obtain ⟨fs, h1, h2, h3⟩ := rRq_parts h
  obtain ⟨k1, k2⟩ := msg_len hs h1
  have hb := bad1_all h2
  have w1 : ∀ f ∈ fs, f.n = 1 → f.t.length < 18446744073709551616 := fun f hf hn => tlen k1 hf (hb f hf hn)
  refine ⟨⟨fun x hx => ?_⟩, ?_⟩
  · obtain ⟨f, hf, hn, hr⟩ := pts_mem _ _ _ h3 x hx
    obtain ⟨q1, q2⟩ := rSr_ok (w1 f hf hn) hr
    have := w1 f hf hn
    exact ⟨q1, by omega⟩
  · have c1 := pts_len (e := eSr) fs _ (fun f hf => ⟨k1 f hf, hb f hf⟩) (fun f hf hn y hy => (rSr_ok (w1 f hf hn) hy).2) h3
    have c3 := wt_le 1 fs
    unfold eRq fRq
    omega
/-! Other fields, in between. -/
def between (o : Fd) (fs : List Fd) : List Fd := o :: fs.flatMap fun f => [f, o]
theorem pts_between {α : Type} {n : Nat} {rd : List UInt8 → α × Nat} {o : Fd} (ho : o.n ≠ n) : ∀ (fs : List Fd), pts n rd (fs.flatMap fun f => [f, o]) = pts n rd fs
  | [] => rfl
  | f :: r => by
    rw [List.flatMap_cons, List.cons_append, List.cons_append, List.nil_append, pts_cons, pts_cons, if_neg ho, pts_between ho r, pts_cons f r]
theorem pts_btw {α : Type} {n : Nat} {rd : List UInt8 → α × Nat} {o : Fd} (ho : o.n ≠ n) (fs : List Fd) : pts n rd (between o fs) = pts n rd fs := by
  unfold between
  rw [pts_cons, if_neg ho, pts_between ho]
theorem gLb_skip {o : Fd} (ho : 2 < o.n) (r : List Fd) (x : Lb) : gLb (o :: r) x = gLb r x := by rw [gLb, if_pos ho]
theorem gLb_name {t : List UInt8} (r : List Fd) (x : Lb) : gLb (part 1 t :: r) x = gLb r ⟨ba t, x.v⟩ := rfl
theorem gLb_val {t : List UInt8} (r : List Fd) (x : Lb) : gLb (part 2 t :: r) x = gLb r ⟨x.n, ba t⟩ := rfl
theorem gSm_skip {o : Fd} (ho : 2 < o.n) (r : List Fd) (x : Sm) : gSm (o :: r) x = gSm r x := by rw [gSm, if_neg (by omega), if_neg (by omega)]
theorem gSm_bits {b : Nat} {t : List UInt8} (r : List Fd) (x : Sm) : gSm (⟨1, 1, b, t⟩ :: r) x = gSm r ⟨x.t, b⟩ := rfl
theorem gSm_time {n : Nat} {t : List UInt8} (r : List Fd) (x : Sm) : gSm (⟨2, 0, n, t⟩ :: r) x = gSm r ⟨nt n, x.b⟩ := rfl
end Go.Proofs.YtioflicmpnkfeaaGreat
