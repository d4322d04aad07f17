/- Between the program's All and Last and the plain reading of requests. Nothing of the program's text. -/
import Derived.Test.YtioflicmpnkfeaaGreatZq
namespace Go.Proofs.YtioflicmpnkfeaaGreat
open Go Go.RowKit
set_option maxRecDepth 100000
/-- The texts, the numbers of the fields of a number. -/
def tx (n : Nat) (fs : List Fd) : List (List UInt8) := (fs.filter fun f => decide (f.n = n)).map Fd.t
def vs (n : Nat) (fs : List Fd) : List Nat := (fs.filter fun f => decide (f.n = n)).map Fd.v
/-- Is a field of the number of another wire type? -/
def bd (n w : Nat) (fs : List Fd) : Bool := fs.any fun f => decide (f.n = n) && decide (f.w ≠ w)
theorem tx_cons (n : Nat) (f : Fd) (r : List Fd) : tx n (f :: r) = if f.n = n then f.t :: tx n r else tx n r := by
  unfold tx
  by_cases h : f.n = n
  · rw [List.filter_cons_of_pos (by simpa using h), if_pos h, List.map_cons]
  · rw [List.filter_cons_of_neg (by simpa using h), if_neg h]
theorem vs_cons (n : Nat) (f : Fd) (r : List Fd) : vs n (f :: r) = if f.n = n then f.v :: vs n r else vs n r := by
  unfold vs
  by_cases h : f.n = n
  · rw [List.filter_cons_of_pos (by simpa using h), if_pos h, List.map_cons]
  · rw [List.filter_cons_of_neg (by simpa using h), if_neg h]
theorem bd_cons (n w : Nat) (f : Fd) (r : List Fd) : bd n w (f :: r) = (decide (f.n = n ∧ f.w ≠ w) || bd n w r) := by
  unfold bd
  rw [List.any_cons, Bool.decide_and]
theorem as_T (f : Fd) : asT (gfd f).v = if f.w = 2 then (bs f.t, true) else (⟨#[]⟩, false) := by
  obtain ⟨n, w, v, t⟩ := f
  unfold gfd vlOf
  dsimp only
  repeat' split
  all_goals first | rfl | omega
theorem as_E (f : Fd) : asE (gfd f).v = if f.w = 1 then (f.v, true) else (0, false) := by
  obtain ⟨n, w, v, t⟩ := f
  unfold gfd vlOf
  dsimp only
  repeat' split
  all_goals first | rfl | omega
theorem as_V (f : Fd) : asV (gfd f).v = if f.w = 0 then (f.v, true) else (0, false) := by
  obtain ⟨n, w, v, t⟩ := f
  unfold gfd vlOf
  dsimp only
  repeat' split
  all_goals first | rfl | omega
theorem alk_gen {α : Type} (pk : Vl → α × Bool) (w : Nat) (g : Fd → α) (d : α) (h : ∀ f, pk (gfd f).v = if f.w = w then (g f, true) else (d, false)) (n : Nat) : ∀ (fs : List Fd) (acc : List α),
    alk pk (n : Int) (fs.map gfd) acc = if bd n w fs = true then ([], 4) else (acc ++ (fs.filter fun f => decide (f.n = n)).map g, 0)
  | [], acc => by simp [alk, bd]
  | f :: r, acc => by
    rw [List.map_cons, alk, bd_cons, h f]
    have hn : ((gfd f).n = (n : Int)) ↔ f.n = n := by unfold gfd; simp only; omega
    by_cases h1 : f.n = n
    · rw [if_pos (hn.2 h1), List.filter_cons_of_pos (by simpa using h1)]
      by_cases h2 : f.w = w
      · rw [if_pos h2, if_pos rfl, alk_gen pk w g d h n r]
        simp [h1, h2]
      · rw [if_neg h2, if_neg (by simp), if_pos (by simp [h1, h2])]
    · rw [if_neg (fun e => h1 (hn.1 e)), List.filter_cons_of_neg (by simpa using h1), alk_gen pk w g d h n r]
      simp [h1]
theorem alk_T (n : Nat) (fs : List Fd) : alk asT (n : Int) (fs.map gfd) [] = if bd n 2 fs = true then ([], 4) else ((tx n fs).map bs, 0) := by
  rw [alk_gen asT 2 (fun f => bs f.t) _ as_T]; simp [tx]; rfl
theorem alk_E (n : Nat) (fs : List Fd) : alk asE (n : Int) (fs.map gfd) [] = if bd n 1 fs = true then ([], 4) else (vs n fs, 0) := by
  rw [alk_gen asE 1 (fun f => f.v) _ as_E]; simp [vs]
theorem alk_V (n : Nat) (fs : List Fd) : alk asV (n : Int) (fs.map gfd) [] = if bd n 0 fs = true then ([], 4) else (vs n fs, 0) := by
  rw [alk_gen asV 0 (fun f => f.v) _ as_V]; simp [vs]
/-- The last one. -/
def lastD {α : Type} : List α → α → α
  | [], d => d
  | a :: r, _ => lastD r a
theorem lastD_eq {α : Type} : ∀ (l : List α) (d : α), lastD l d = (match l.getLast? with | none => d | some a => a)
  | [], d => rfl
  | a :: r, d => by
    rw [lastD, lastD_eq r a]
    cases r with
    | nil => rfl
    | cons b s => simp [List.getLast?_cons_cons, List.getLast?_eq_some_getLast]
theorem lst_ok {α : Type} (d : α) (M : List α) : (lst d (M, 0)).1 = lastD M d ∧ (lst d (M, 0)).2.2 = 0 := by
  unfold lst
  rw [if_pos rfl, lastD_eq]
  split <;> simp_all
theorem lst_no {α : Type} (d : α) (M : List α) : lst d (M, 4) = (d, false, 4) := rfl
theorem lastD_map {α β : Type} (g : α → β) : ∀ (l : List α) (d : α), lastD (l.map g) (g d) = g (lastD l d)
  | [], d => rfl
  | a :: r, d => lastD_map g r a
theorem gLb_eq : ∀ (fs : List Fd) (x : Lb), (∀ f ∈ fs, f.ok) → gLb fs x = if (bd 1 2 fs || bd 2 2 fs) = true then (lb0, 4) else (⟨lastD ((tx 1 fs).map bs) x.n, lastD ((tx 2 fs).map bs) x.v⟩, 0)
  | [], x, _ => rfl
  | f :: r, x, hok => by
    have hn := (mayk_w (hok f (by simp)).may).1
    have ih := fun x => gLb_eq r x (fun g hg => hok g (by simp [hg]))
    rw [gLb, bd_cons, bd_cons, tx_cons, tx_cons]
    by_cases h1 : 2 < f.n
    · rw [if_pos h1, ih, if_neg (show f.n ≠ 1 by omega), if_neg (show f.n ≠ 2 by omega), decide_eq_false (fun e => by omega), decide_eq_false (fun e => by omega), Bool.false_or, Bool.false_or]
    · rw [if_neg h1]
      by_cases h2 : f.w = 2
      · rw [if_neg (fun e => e h2), decide_eq_false (fun e => e.2 h2), decide_eq_false (fun e => e.2 h2), Bool.false_or, Bool.false_or]
        by_cases h3 : f.n = 1
        · rw [if_pos h3, if_pos h3, if_neg (show f.n ≠ 2 by omega), ih]; rfl
        · rw [if_neg h3, if_neg h3, if_pos (show f.n = 2 by omega), ih]; rfl
      · rw [if_pos h2]
        have : (decide (f.n = 1 ∧ f.w ≠ 2) || bd 1 2 r || (decide (f.n = 2 ∧ f.w ≠ 2) || bd 2 2 r)) = true := by
          rcases (show f.n = 1 ∨ f.n = 2 by omega) with e | e <;> simp [e, h2]
        rw [if_pos this]
theorem gSm_eq : ∀ (fs : List Fd) (x : Sm), gSm fs x = if (bd 1 1 fs || bd 2 0 fs) = true then (sm0, 4) else (⟨lastD ((vs 2 fs).map nt) x.t, lastD (vs 1 fs) x.b⟩, 0)
  | [], x => rfl
  | f :: r, x => by
    have ih := fun x => gSm_eq r x
    rw [gSm, bd_cons, bd_cons, vs_cons, vs_cons]
    by_cases h1 : f.n = 1
    · rw [if_pos h1, if_pos h1, if_neg (show f.n ≠ 2 by omega)]
      by_cases h2 : f.w = 1
      · rw [if_pos h2, ih, decide_eq_false (fun e => e.2 h2), decide_eq_false (fun e => by omega), Bool.false_or, Bool.false_or]; rfl
      · rw [if_neg h2, decide_eq_true ⟨h1, h2⟩]; rfl
    · rw [if_neg h1, if_neg h1]
      by_cases h2 : f.n = 2
      · rw [if_pos h2, if_pos h2]
        by_cases h3 : f.w = 0
        · rw [if_pos h3, ih, decide_eq_false (fun e => h1 e.1), decide_eq_false (fun e => e.2 h3), Bool.false_or, Bool.false_or]; rfl
        · have : (decide (f.n = 1 ∧ f.w ≠ 1) || bd 1 1 r || (decide (f.n = 2 ∧ f.w ≠ 0) || bd 2 0 r)) = true := by simp [h2, h3]
          rw [if_neg h3, if_pos this]
      · rw [if_neg h2, if_neg h2, ih, decide_eq_false (fun e => h1 e.1), decide_eq_false (fun e => h2 e.1), Bool.false_or, Bool.false_or]
/-- Parts read of texts, up to the first one that is wrong. -/
def pt {α : Type} (rd : List UInt8 → α × Nat) : List (List UInt8) → List α × Nat
  | [] => ([], 0)
  | t :: r => if (rd t).2 ≠ 0 then ([], (rd t).2) else ((rd t).1 :: (pt rd r).1, (pt rd r).2)
theorem pts_tx {α : Type} (n : Nat) (rd : List UInt8 → α × Nat) : ∀ fs : List Fd, pts n rd fs = pt rd (tx n fs)
  | [] => rfl
  | f :: r => by
    rw [pts_cons, tx_cons, pts_tx n rd r]
    by_cases h : f.n = n
    · rw [if_pos h, if_pos h, pt]
    · rw [if_neg h, if_neg h]
/-- What is told one by one of texts. -/
def tel {α : Type} (rd : List UInt8 → α × Nat) : List (List UInt8) → List (α × Nat)
  | [] => []
  | t :: r => if (rd t).2 ≠ 0 then [rd t] else rd t :: tel rd r
/-- What is gathered of what is told. -/
def gat {α : Type} : List (α × Nat) → List α → List α × Nat
  | [], acc => (acc, 0)
  | x :: r, acc => if x.2 ≠ 0 then ([], x.2) else gat r (acc ++ [x.1])
theorem gat_tel {α : Type} (rd : List UInt8 → α × Nat) : ∀ (ts : List (List UInt8)) (acc : List α), gat (tel rd ts) acc = if (pt rd ts).2 ≠ 0 then ([], (pt rd ts).2) else (acc ++ (pt rd ts).1, 0)
  | [], acc => by simp [tel, gat, pt]
  | t :: r, acc => by
    rw [tel, pt]
    by_cases h : (rd t).2 ≠ 0
    · rw [if_pos h, if_pos h, gat, if_pos h, if_pos h]
    · rw [if_neg h, if_neg h, gat, if_neg h, gat_tel rd r]
      dsimp only
      split
      · rfl
      · simp
theorem tel_len {α : Type} (rd : List UInt8 → α × Nat) : ∀ ts : List (List UInt8), (tel rd ts).length ≤ ts.length
  | [] => Nat.le_refl _
  | t :: r => by
    rw [tel]
    split
    · simp
    · have := tel_len rd r
      simp only [List.length_cons]; omega
theorem tx_len (n : Nat) (fs : List Fd) : (tx n fs).length ≤ fs.length := by
  unfold tx
  rw [List.length_map]
  exact List.length_filter_le _ _
theorem bad2_bd (fs : List Fd) (hok : ∀ f ∈ fs, f.ok) : bad2 fs = (bd 1 2 fs || bd 2 2 fs) := by
  induction fs with
  | nil => rfl
  | cons f r ih =>
    have ih := ih (fun g hg => hok g (by simp [hg]))
    have hn := (mayk_w (hok f (by simp)).may).1
    unfold bad2 at ih ⊢
    rw [List.any_cons, ih, bd_cons, bd_cons]
    by_cases h2 : f.w = 2
    · simp [h2]
    · by_cases h3 : f.n = 1
      · simp [h3, h2]
      · by_cases h4 : f.n = 2
        · simp [h4, h2]
        · simp [h3, h4, h2]; omega
theorem bad1_bd (fs : List Fd) : bad1 fs = bd 1 2 fs := rfl
end Go.Proofs.YtioflicmpnkfeaaGreat
