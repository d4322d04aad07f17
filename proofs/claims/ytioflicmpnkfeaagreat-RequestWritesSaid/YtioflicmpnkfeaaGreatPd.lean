/- The contracts of list over the labels, the samples of texts; of readSeries. -/
import Derived.Test.YtioflicmpnkfeaaGreatLi
namespace Go.Proofs.YtioflicmpnkfeaaGreat
open Go Go.RowKit Go.Shelf
set_option maxRecDepth 100000
theorem Gives.weaken {α : Type} {n : Nat} {P : Program} {gf : Nat} {lb : Array Value} {En En' : α → Array Value → World → Prop} {XS : List α} {F0 : Bks} {W : World} (h : Gives n P gf lb En XS F0 W) (hE : ∀ x us A, En x us A → En' x us A) : Gives n P gf lb En' XS F0 W :=
  fun l J Jx hJ hJx hY h0 => h l J Jx hJ hJx (fun x rest us F A hj he hs => hY x rest us F A hj (hE _ _ _ he) hs) h0
def TellsL (w : World) (X : List Lb × Nat) (e : Ending) (w' : World) : Prop := ∃ a, e = .returned (.tuple #[a, .int .i64 (X.2 : Int)]) ∧ Ol w' w.heap.size a X.1 ∧ Below w.heap.size w w'
def TellsM (w : World) (X : List Sm × Nat) (e : Ending) (w' : World) : Prop := ∃ a, e = .returned (.tuple #[a, .int .i64 (X.2 : Int)]) ∧ Om w' w.heap.size a X.1 ∧ Below w.heap.size w w'
/-- What is gathered of texts. -/
def gts {α : Type} (rd : List UInt8 → α × Nat) (ts : List (List UInt8)) : List α × Nat := if (pt rd ts).2 ≠ 0 then ([], (pt rd ts).2) else pt rd ts
theorem gat_gts {α : Type} (rd : List UInt8 → α × Nat) (ts : List (List UInt8)) : gat (tel rd ts) [] = gts rd ts := by
  rw [gat_tel]
  unfold gts
  split
  · rfl
  · rename_i h
    rw [List.nil_append]
    generalize pt rd ts = X at *
    obtain ⟨a, b⟩ := X
    simp at h
    simp [h]
theorem all2_map {α β : Type} (g : α → β) : ∀ {xs : List α} {ps : List β}, All2 (fun x p => p = g x) xs ps → ps = xs.map g
  | [], [], _ => rfl
  | x :: xs, p :: ps, h => by rw [List.map_cons, h.1, all2_map g h.2]
theorem tcs_len (ts : List (List UInt8)) : (tcs ts).length = ts.length := by simp [tcs]
theorem vat_lt {W : World} {v : Value} {cs : List Value} (hv : VAt W v cs) (h0 : cs ≠ []) : ∀ g, v.ownBlock = some g → g < W.heap.size := by
  rcases hv with ⟨h, _⟩ | ⟨g2, o, c, rfl, hc⟩
  · exact absurd h h0
  · intro g e
    simp [Value.ownBlock] at e
    subst e
    have h1 : 0 < cs.length := by cases cs with | nil => exact absurd rfl h0 | cons a r => simp
    exact World.block_lt_of_cell? W ⟨g2, _, none⟩ (hc 0 h1)
theorem listL_any (ts : List (List UInt8)) (hts : ∀ t ∈ ts, t.length ≤ 1000000) (hlen : ts.length ≤ 1000000) (b1 b2 b0 : Nat) (v : Value) (W : World)
    (hx1 : Boxed W b1 90 v) (hx2 : Boxed W b2 118 (.func (.func 77) #[] #[.pointer (some ⟨b0, 0, none⟩)])) (hx0 : Boxed W b0 120 (.func (.func 65) #[] #[])) (hv : VAt W v (tcs ts)) :
    Calls Tryz.prog 62 #[.func (.func 75) #[] #[.pointer (some ⟨b1, 0, none⟩), .pointer (some ⟨b2, 0, none⟩)]] W (TellsL W (gts rLb ts)) := by
  have h := list60_any (fun x p _ => p = lp x) 75 #[.pointer (some ⟨b1, 0, none⟩), .pointer (some ⟨b2, 0, none⟩)] (enters_of Tryz.func75 (by kernel_rfl) rfl) (tel rLb ts) (by have := tel_len rLb ts; omega) W (fun x p W W' row h _ _ => h)
    (fun n W1 hn hs hb => (partsL_gives n hn ts hts hlen b1 b2 b0 v _ W1 ((hb.block _ hx1.lt).trans hx1) ((hb.block _ hx2.lt).trans hx2) ((hb.block _ hx0.lt).trans hx0) (hv.below hb (Nat.le_refl _)) ⟨hx1.lt, hx2.lt, hx0.lt, fun h0 g e => vat_lt hv (by simpa [tcs] using h0) g e⟩).weaken fun x us A h => ⟨lp x.1, h, rfl, rfl, rfl⟩)
  rw [gat_gts] at h
  refine h.mono ?_
  rintro e w' ⟨a, ps, he, ho, hq, hb⟩
  exact ⟨a, he, by unfold Ol; rw [← all2_map lp hq]; exact ho, hb⟩
theorem listM_any (ts : List (List UInt8)) (hts : ∀ t ∈ ts, t.length ≤ 1000000) (hlen : ts.length ≤ 1000000) (b1 b2 b0 : Nat) (v : Value) (W : World)
    (hx1 : Boxed W b1 90 v) (hx2 : Boxed W b2 126 (.func (.func 81) #[] #[.pointer (some ⟨b0, 0, none⟩)])) (hx0 : Boxed W b0 128 (.func (.func 69) #[] #[])) (hv : VAt W v (tcs ts)) :
    Calls Tryz.prog 66 #[.func (.func 79) #[] #[.pointer (some ⟨b1, 0, none⟩), .pointer (some ⟨b2, 0, none⟩)]] W (TellsM W (gts rSm ts)) := by
  have h := list64_any (fun x p _ => p = sp x) 79 #[.pointer (some ⟨b1, 0, none⟩), .pointer (some ⟨b2, 0, none⟩)] (enters_of Tryz.func79 (by kernel_rfl) rfl) (tel rSm ts) (by have := tel_len rSm ts; omega) W (fun x p W W' row h _ _ => h)
    (fun n W1 hn hs hb => (partsM_gives n hn ts hts hlen b1 b2 b0 v _ W1 ((hb.block _ hx1.lt).trans hx1) ((hb.block _ hx2.lt).trans hx2) ((hb.block _ hx0.lt).trans hx0) (hv.below hb (Nat.le_refl _)) ⟨hx1.lt, hx2.lt, hx0.lt, fun h0 g e => vat_lt hv (by simpa [tcs] using h0) g e⟩).weaken fun x us A h => ⟨sp x.1, h, rfl, rfl, rfl⟩)
  rw [gat_gts] at h
  refine h.mono ?_
  rintro e w' ⟨a, ps, he, ho, hq, hb⟩
  exact ⟨a, he, by unfold Om; rw [← all2_map sp hq]; exact ho, hb⟩
theorem pairL_any (w : World) : Calls Tryz.prog 64 #[.func (.func 65) #[] #[]] w fun e w' => e = .returned (.func (.func 77) #[] #[.pointer (some ⟨w.heap.size, 0, none⟩)]) ∧ w' = w.alloc (.cells #[.func (.func 65) #[] #[]] 120) := by
  go_enter Tryz.func64, Tryz.ntmps64
  go_wp2
  go_ret
  exact ⟨rfl, rfl⟩
theorem pairM_any (w : World) : Calls Tryz.prog 68 #[.func (.func 69) #[] #[]] w fun e w' => e = .returned (.func (.func 81) #[] #[.pointer (some ⟨w.heap.size, 0, none⟩)]) ∧ w' = w.alloc (.cells #[.func (.func 69) #[] #[]] 128) := by
  go_enter Tryz.func68, Tryz.ntmps68
  go_wp2
  go_ret
  exact ⟨rfl, rfl⟩
end Go.Proofs.YtioflicmpnkfeaaGreat
