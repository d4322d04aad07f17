/- Tapes. -/
import Derived.Test.YticponohbnkgdaaDi
namespace Go.Proofs.Yticponohbnkgdaa
open Go Go.RowKit
set_option maxRecDepth 100000
def qT (t : Tp) : Tq := ⟨t.s.extract 0 t.f, t.s.extract t.f t.s.size⟩
/-- The first k tapes are told in block G. -/
structure TRow (w wr : World) (G : Nat) (T : Nat → Tp) (k : Nat) : Prop where
  a : ∀ j < k, wr.cell? ⟨G, j * 2, none⟩ = some (.string (qT (T j)).a)
  b : ∀ j < k, wr.cell? ⟨G, j * 2 + 1, none⟩ = some (.string (qT (T j)).b)
  any : ∀ j < 64, ∃ v, wr.cell? ⟨G, j, none⟩ = some v
  fz : ∀ j, wr.frozen? ⟨G, j, none⟩ = false
  below : Below G w wr
theorem TRow.alloc {w wr : World} {G : Nat} {T : Nat → Tp} {k : Nat} (h : TRow w wr G T k) (hG : G < wr.heap.size) (o : Obj) : TRow w (wr.alloc o) G T k := by
  have e : (wr.alloc o).heap[G]? = wr.heap[G]? := Below.heap_alloc wr o G hG
  have c : ∀ j, (wr.alloc o).cell? ⟨G, j, none⟩ = wr.cell? ⟨G, j, none⟩ := fun j => World.cell?_of_block (a := ⟨G, j, none⟩) e
  exact ⟨fun j hj => (c _).trans (h.a j hj), fun j hj => (c _).trans (h.b j hj), fun j hj => by rw [c]; exact h.any j hj, fun j => (World.frozen?_of_block (a := ⟨G, j, none⟩) e).trans (h.fz j), h.below.alloc (Nat.le_of_lt hG) _⟩
theorem TRow.lt {w wr : World} {G : Nat} {T : Nat → Tp} {k : Nat} (h : TRow w wr G T k) : G < wr.heap.size := by
  obtain ⟨v, hv⟩ := h.any 0 (by omega)
  exact World.block_lt_of_cell? wr _ hv
theorem TRow.next {w wr : World} {G : Nat} {T : Nat → Tp} {k : Nat} (h : TRow w wr G T k) (hk : k < 32) :
    TRow w ((wr.setCell ⟨G, k * 2, none⟩ (.string (qT (T k)).a)).setCell ⟨G, k * 2 + 1, none⟩ (.string (qT (T k)).b)) G T (k + 1) := by
  obtain ⟨x, hx⟩ := h.any (k * 2) (by omega)
  obtain ⟨y, hy⟩ := h.any (k * 2 + 1) (by omega)
  have hy1 : (wr.setCell ⟨G, k * 2, none⟩ (.string (qT (T k)).a)).cell? ⟨G, k * 2 + 1, none⟩ = some y := by
    rw [World.cell?_setCell_other _ _ _ _ (by simp)]; exact hy
  have o1 : ∀ j, j ≠ k * 2 → j ≠ k * 2 + 1 → ((wr.setCell ⟨G, k * 2, none⟩ (.string (qT (T k)).a)).setCell ⟨G, k * 2 + 1, none⟩ (.string (qT (T k)).b)).cell? ⟨G, j, none⟩ = wr.cell? ⟨G, j, none⟩ := fun j h1 h2 => by
    rw [World.cell?_setCell_other _ _ _ _ (by intro e; cases e; exact h2 rfl), World.cell?_setCell_other _ _ _ _ (by intro e; cases e; exact h1 rfl)]
  have o2 : ((wr.setCell ⟨G, k * 2, none⟩ (.string (qT (T k)).a)).setCell ⟨G, k * 2 + 1, none⟩ (.string (qT (T k)).b)).cell? ⟨G, k * 2, none⟩ = some (.string (qT (T k)).a) := by
    rw [World.cell?_setCell_other _ _ _ _ (by simp), World.cell?_setCell_same _ _ _ hx]
  have o3 : ((wr.setCell ⟨G, k * 2, none⟩ (.string (qT (T k)).a)).setCell ⟨G, k * 2 + 1, none⟩ (.string (qT (T k)).b)).cell? ⟨G, k * 2 + 1, none⟩ = some (.string (qT (T k)).b) := World.cell?_setCell_same _ _ _ hy1
  refine ⟨fun j hj => ?_, fun j hj => ?_, fun j hj => ?_, fun j => ?_, ?_⟩
  · by_cases e : j = k
    · subst e; exact o2
    · rw [o1 _ (by omega) (by omega)]; exact h.a j (by omega)
  · by_cases e : j = k
    · subst e; exact o3
    · rw [o1 _ (by omega) (by omega)]; exact h.b j (by omega)
  · by_cases e1 : j = k * 2
    · subst e1; exact ⟨_, o2⟩
    · by_cases e2 : j = k * 2 + 1
      · subst e2; exact ⟨_, o3⟩
      · rw [o1 _ e1 e2]; exact h.any j hj
  · rw [World.frozen?_setCell, World.frozen?_setCell]; exact h.fz j
  · exact below_set (below_set h.below (Nat.le_refl _) _ _) (Nat.le_refl _) _ _
theorem make28 : ∃ Z : Array Value, (∀ w, (Instr.makeSlice 28 (.int .i64 32) (.int .i64 32)).run Try.prog w = .ok (.slice (some ⟨w.heap.size, 0, none⟩) 32 32) (w.alloc (.cells Z 30))) ∧ Z.size = 64 :=
  ⟨((List.range 64).map fun _ => Value.string ⟨#[]⟩).toArray, fun w => by kernel_rfl, rfl⟩
theorem TRow.new (w : World) (Z : Array Value) (hZ : Z.size = 64) (T : Nat → Tp) : TRow w (w.alloc (.cells Z 30)) w.heap.size T 0 := by
  have hb := heap_alloc_new w (.cells Z 30)
  refine ⟨fun j hj => by omega, fun j hj => by omega, fun j hj => ⟨Z[j], ?_⟩, fun j => by rw [World.frozen?]; rw [hb]; rfl, (Below.refl _ _).alloc (Nat.le_refl _) _⟩
  rw [cell_of_row _ _ j Z 30 (0, 0) hb, Array.getElem?_eq_getElem (by omega)]
set_option maxHeartbeats 1000000 in
theorem tapes_any (B : Nat) (d : Dk) (w : World) (h : DAt w B d) (hd : ∀ i < 32, (d.T i).ok) : Calls Try.prog 14 #[.pointer (some ⟨B, 0, none⟩)] w fun e w' => e = .returned (.slice (some ⟨w.heap.size, 0, none⟩) 32 32) ∧ TRow w w' w.heap.size d.T 32 := by
  have HIX := Lib.hid (fun k (hk : k < 32) W => index67 d.T k hk W)
  have HL : Hid ((Try.prog.info? 67).map (·.size) = some (tcells d.T 32).length) := Lib.hid (by rw [tcells_len]; exact len67)
  have HOK := Lib.hid hd
  obtain ⟨Z, hmk, hZ⟩ := make28
  have HN := Lib.hid (TRow.new w Z hZ d.T)
  have HR := Lib.hid (h.alloc (.cells Z 30)).range
  have l := h.lt
  clear h hd hZ
  generalize tcells d.T 32 = C at *
  generalize d.T = T at *
  go_enter Try.func14, Try.ntmps14
  go_wp2_with (refine wpList_load_mid rfl 67 _ rfl B 1 rfl _ _ HR.out Try.underlying67 rfl HL.out ?_)
  go_loopw [13] (fun i wl => ∃ k : Nat, i = .int .i64 (k : Int) ∧ k ≤ 32 ∧ Hid (TRow w wl w.heap.size T k)) (fun i _ => 32 - (intOf i).toNat)
  case atStart => exact ⟨0, rfl, by omega, HN⟩
  case round =>
    obtain ⟨k, rfl, hk, HT⟩ := hrel
    obtain ⟨wl, hwl⟩ : ∃ wl, wl = wr := ⟨_, rfl⟩
    subst hwl
    by_cases hlt : k < 32
    · have hi := HIX.out k hlt
      obtain ⟨hf1, hf2⟩ := HOK.out k hlt
      have hlw := HT.out.lt
      have HNX := Lib.hid ((HT.out.alloc hlw (.cells #[.string (T k).s, .int .i64 ((T k).f : Int)] 66)).next hlt)
      have hta := HT.out.alloc hlw (.cells #[.string (T k).s, .int .i64 ((T k).f : Int)] 66)
      obtain ⟨x, hx⟩ := hta.any (k * 2) (by omega)
      obtain ⟨y, hy⟩ := hta.any (k * 2 + 1) (by omega)
      have fx := hta.fz (k * 2)
      have fy := hta.fz (k * 2 + 1)
      clear hta
      unfold qT at HNX
      dsimp only at HNX
      generalize (T k).f = F at *
      generalize (T k).s = S at *
      have kr : (F : Int) ≤ (S.size : Int) := by omega
      have B0 : Hid (Box2 (wl.alloc (.cells #[.string S, .int .i64 (F : Int)] 66)) wl.heap.size 66 (.string S) (.int .i64 (F : Int))) := Lib.hid (Box2.new _ _ _ _)
      have hn9 : wl.heap.size ≠ w.heap.size := by omega
      go_wp2
      generalize wl.alloc (.cells #[.string S, .int .i64 (F : Int)] 66) = W1 at *
      have k0 := And.intro B0.out.c0 B0.out.c1
      go_region_held3 (fun w' => w'.cell? ⟨wl.heap.size, 0, none⟩ = some (.string S) ∧ w'.cell? ⟨wl.heap.size, 1, none⟩ = some (.int .i64 (F : Int))) (first | exact k0 | exact ⟨((B0.out.apart (a := ⟨_, _, none⟩) hn9 _).apart (a := ⟨_, _, none⟩) hn9 _).c0, ((B0.out.apart (a := ⟨_, _, none⟩) hn9 _).apart (a := ⟨_, _, none⟩) hn9 _).c1⟩) (first | fail)
      go_wp2
      go_roundw
      case rel => exact ⟨k + 1, by go_num, by omega, Lib.hid ⟨HNX.out.a, HNX.out.b, HNX.out.any, HNX.out.fz, HNX.out.below.drew⟩⟩
      case measure => simp [intOf]; omega
    · obtain rfl : k = 32 := by omega
      go_wp2
      go_ret
      exact ⟨rfl, HT.out⟩
end Go.Proofs.Yticponohbnkgdaa
