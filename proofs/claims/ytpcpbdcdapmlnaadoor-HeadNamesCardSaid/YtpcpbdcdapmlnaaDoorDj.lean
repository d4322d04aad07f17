/- Tapes. -/
import Derived.Test.YtpcpbdcdapmlnaaDoorDi
namespace Go.Proofs.YtpcpbdcdapmlnaaDoor
open Go Go.RowKit
set_option maxRecDepth 100000
def qT (t : Tp) : Tq := ⟨t.s.extract 0 t.f, t.s.extract t.f t.s.size⟩
/-- The first k tapes are told in block G. -/
structure TRow (w wr : World) (G : Nat) (T : Nat → Tp) (k : Nat) : Prop where
  a : ∀ j < k, wr.cell? ⟨G, j * 2, none⟩ = some (.string (qT (T j)).a)
  b : ∀ j < k, wr.cell? ⟨G, j * 2 + 1, none⟩ = some (.string (qT (T j)).b)
  any : ∀ j < 64, ∃ v, wr.cell? ⟨G, j, none⟩ = some v
  fz : ∀ j, wr.frozen? ⟨G, j, none⟩ = false
  below : Below G w wr
theorem TRow.alloc {w wr : World} {G : Nat} {T : Nat → Tp} {k : Nat} (h : TRow w wr G T k) (hG : G < wr.heap.size) (o : Obj) : TRow w (wr.alloc o) G T k := by
  have e : (wr.alloc o).heap[G]? = wr.heap[G]? := Below.heap_alloc wr o G hG
  have c : ∀ j, (wr.alloc o).cell? ⟨G, j, none⟩ = wr.cell? ⟨G, j, none⟩ := fun j => World.cell?_of_block (a := ⟨G, j, none⟩) e
  exact ⟨fun j hj => (c _).trans (h.a j hj), fun j hj => (c _).trans (h.b j hj), fun j hj => by rw [c]; exact h.any j hj, fun j => (World.frozen?_of_block (a := ⟨G, j, none⟩) e).trans (h.fz j), h.below.alloc (Nat.le_of_lt hG) _⟩
theorem TRow.lt {w wr : World} {G : Nat} {T : Nat → Tp} {k : Nat} (h : TRow w wr G T k) : G < wr.heap.size := by
  obtain ⟨v, hv⟩ := h.any 0 (by omega)
  exact World.block_lt_of_cell? wr _ hv
theorem TRow.next {w wr : World} {G : Nat} {T : Nat → Tp} {k : Nat} (h : TRow w wr G T k) (hk : k < 32) :
    TRow w ((wr.setCell ⟨G, k * 2, none⟩ (.string (qT (T k)).a)).setCell ⟨G, k * 2 + 1, none⟩ (.string (qT (T k)).b)) G T (k + 1) := by
  obtain ⟨x, hx⟩ := h.any (k * 2) (by omega)
  obtain ⟨y, hy⟩ := h.any (k * 2 + 1) (by omega)
  have hy1 : (wr.setCell ⟨G, k * 2, none⟩ (.string (qT (T k)).a)).cell? ⟨G, k * 2 + 1, none⟩ = some y := by
    rw [World.cell?_setCell_other _ _ _ _ (by simp)]; exact hy
  have o1 : ∀ j, j ≠ k * 2 → j ≠ k * 2 + 1 → ((wr.setCell ⟨G, k * 2, none⟩ (.string (qT (T k)).a)).setCell ⟨G, k * 2 + 1, none⟩ (.string (qT (T k)).b)).cell? ⟨G, j, none⟩ = wr.cell? ⟨G, j, none⟩ := fun j h1 h2 => by
    rw [World.cell?_setCell_other _ _ _ _ (by intro e; cases e; exact h2 rfl), World.cell?_setCell_other _ _ _ _ (by intro e; cases e; exact h1 rfl)]
  have o2 : ((wr.setCell ⟨G, k * 2, none⟩ (.string (qT (T k)).a)).setCell ⟨G, k * 2 + 1, none⟩ (.string (qT (T k)).b)).cell? ⟨G, k * 2, none⟩ = some (.string (qT (T k)).a) := by
    rw [World.cell?_setCell_other _ _ _ _ (by simp), World.cell?_setCell_same _ _ _ hx]
  have o3 : ((wr.setCell ⟨G, k * 2, none⟩ (.string (qT (T k)).a)).setCell ⟨G, k * 2 + 1, none⟩ (.string (qT (T k)).b)).cell? ⟨G, k * 2 + 1, none⟩ = some (.string (qT (T k)).b) := World.cell?_setCell_same _ _ _ hy1
  refine ⟨fun j hj => ?_, fun j hj => ?_, fun j hj => ?_, fun j => ?_, ?_⟩
  · by_cases e : j = k
    · subst e; exact o2
    · rw [o1 _ (by omega) (by omega)]; exact h.a j (by omega)
  · by_cases e : j = k
    · subst e; exact o3
    · rw [o1 _ (by omega) (by omega)]; exact h.b j (by omega)
  · by_cases e1 : j = k * 2
    · subst e1; exact ⟨_, o2⟩
    · by_cases e2 : j = k * 2 + 1
      · subst e2; exact ⟨_, o3⟩
      · rw [o1 _ e1 e2]; exact h.any j hj
  · rw [World.frozen?_setCell, World.frozen?_setCell]; exact h.fz j
  · exact below_setD (below_setD h.below (Nat.le_refl _) _ _) (Nat.le_refl _) _ _
theorem make28 : ∃ Z : Array Value, (∀ w, (Instr.makeSlice 50 (.int .i64 32) (.int .i64 32)).run Tryd.prog w = .ok (.slice (some ⟨w.heap.size, 0, none⟩) 32 32) (w.alloc (.cells Z 54))) ∧ Z.size = 64 :=
  ⟨((List.range 64).map fun _ => Value.string ⟨#[]⟩).toArray, fun w => by kernel_rfl, rfl⟩
theorem TRow.new (w : World) (Z : Array Value) (hZ : Z.size = 64) (T : Nat → Tp) : TRow w (w.alloc (.cells Z 54)) w.heap.size T 0 := by
  have hb := heap_alloc_new w (.cells Z 54)
  refine ⟨fun j hj => by omega, fun j hj => by omega, fun j hj => ⟨Z[j], ?_⟩, fun j => by rw [World.frozen?]; rw [hb]; rfl, (Below.refl _ _).alloc (Nat.le_refl _) _⟩
  rw [cell_of_row _ _ j Z 54 (0, 0) hb, Array.getElem?_eq_getElem (by omega)]
set_option maxHeartbeats 1000000 in
theorem tapes_any (B : Nat) (d : Dk) (w : World) (h : DAt w B d) (hd : ∀ i < 32, (d.T i).ok) : Calls Tryd.prog 33 #[.pointer (some ⟨B, 0, none⟩)] w fun e w' => e = .returned (.slice (some ⟨w.heap.size, 0, none⟩) 32 32) ∧ TRow w w' w.heap.size d.T 32 := by
  have HIX := Lib.hid (fun k (hk : k < 32) W => index67 d.T k hk W)
  have HL : Hid ((Tryd.prog.info? 76).map (·.size) = some (tcells d.T 32).length) := Lib.hid (by rw [tcells_len]; exact len67)
  have HOK := Lib.hid hd
  obtain ⟨Z, hmk, hZ⟩ := make28
  have HN := Lib.hid (TRow.new w Z hZ d.T)
  have HR := Lib.hid (h.alloc (.cells Z 54)).range
  have l := h.lt
  clear h hd hZ
  generalize tcells d.T 32 = C at *
  generalize d.T = T at *
  go_enter Tryd.func33, Tryd.ntmps33
  go_wp2_with (refine wpList_load_mid rfl 76 _ rfl B 1 rfl _ _ HR.out Tryd.underlying76 rfl HL.out ?_)
  go_loopw [13] (fun i wl => ∃ k : Nat, i = .int .i64 (k : Int) ∧ k ≤ 32 ∧ Hid (TRow w wl w.heap.size T k)) (fun i _ => 32 - (intOf i).toNat)
  case atStart => exact ⟨0, rfl, by omega, HN⟩
  case round =>
    obtain ⟨k, rfl, hk, HT⟩ := hrel
    obtain ⟨wl, hwl⟩ : ∃ wl, wl = wr := ⟨_, rfl⟩
    subst hwl
    by_cases hlt : k < 32
    · have hi := HIX.out k hlt
      obtain ⟨hf1, hf2⟩ := HOK.out k hlt
      have hlw := HT.out.lt
      have HNX := Lib.hid ((HT.out.alloc hlw (.cells #[.string (T k).s, .int .i64 ((T k).f : Int)] 75)).next hlt)
      have hta := HT.out.alloc hlw (.cells #[.string (T k).s, .int .i64 ((T k).f : Int)] 75)
      obtain ⟨x, hx⟩ := hta.any (k * 2) (by omega)
      obtain ⟨y, hy⟩ := hta.any (k * 2 + 1) (by omega)
      have fx := hta.fz (k * 2)
      have fy := hta.fz (k * 2 + 1)
      clear hta
      unfold qT at HNX
      dsimp only at HNX
      generalize (T k).f = F at *
      generalize (T k).s = S at *
      have kr : (F : Int) ≤ (S.size : Int) := by omega
      have B0 : Hid (Box2 (wl.alloc (.cells #[.string S, .int .i64 (F : Int)] 75)) wl.heap.size 75 (.string S) (.int .i64 (F : Int))) := Lib.hid (Box2.new _ _ _ _)
      have hn9 : wl.heap.size ≠ w.heap.size := by omega
      go_wp2
      generalize wl.alloc (.cells #[.string S, .int .i64 (F : Int)] 75) = W1 at *
      have k0 := And.intro B0.out.c0 B0.out.c1
      go_region_held3 (fun w' => w'.cell? ⟨wl.heap.size, 0, none⟩ = some (.string S) ∧ w'.cell? ⟨wl.heap.size, 1, none⟩ = some (.int .i64 (F : Int))) (first | exact k0 | exact ⟨((B0.out.apart (a := ⟨_, _, none⟩) hn9 _).apart (a := ⟨_, _, none⟩) hn9 _).c0, ((B0.out.apart (a := ⟨_, _, none⟩) hn9 _).apart (a := ⟨_, _, none⟩) hn9 _).c1⟩) (first | fail)
      go_wp2
      go_roundw
      case rel => exact ⟨k + 1, by go_num, by omega, Lib.hid ⟨HNX.out.a, HNX.out.b, HNX.out.any, HNX.out.fz, HNX.out.below.drew⟩⟩
      case measure => simp [intOf]; omega
    · obtain rfl : k = 32 := by omega
      go_wp2
      go_ret
      exact ⟨rfl, HT.out⟩
end Go.Proofs.YtpcpbdcdapmlnaaDoor
namespace Go.Proofs.YtpcpbdcdapmlnaaDoor
open Go Go.RowKit
set_option maxRecDepth 100000
/-- Numbers, read wherever they begin. -/
def KAt (W : World) (v : Value) (l : List Int) : Prop :=
  (l = [] ∧ ∃ a c, v = .slice a 0 c) ∨ ∃ g o c, v = .slice (some ⟨g, o, none⟩) l.length c ∧ l.length ≤ c ∧ ∀ j (h : j < l.length), W.cell? ⟨g, o + j, none⟩ = some (.int .i64 l[j])
theorem KAt.same {w w' : World} {v : Value} {l : List Int} (h : KAt w v l) (hb : ∀ g, g < w.heap.size → v.ownBlock = some g → w'.heap[g]? = w.heap[g]?) : KAt w' v l := by
  rcases h with h | ⟨g, o, c, rfl, hc, h⟩
  · exact .inl h
  · refine .inr ⟨g, o, c, rfl, hc, fun j hj => ?_⟩
    have hlt := World.block_lt_of_cell? w ⟨g, _, none⟩ (h j hj)
    exact (World.cell?_of_block (a := ⟨g, _, none⟩) (hb g hlt rfl)).trans (h j hj)
theorem KAt.slice {w : World} {v : Value} {l : List Int} (h : KAt w v l) : ∃ a c, v = .slice a l.length c := by
  rcases h with ⟨rfl, a, c, rfl⟩ | ⟨g, o, c, rfl, _⟩
  · exact ⟨_, _, rfl⟩
  · exact ⟨_, _, rfl⟩
theorem KAt.nil (W : World) : KAt W (.slice none 0 0) [] := .inl ⟨rfl, _, _, rfl⟩
/-- The tapes and what is left of the numbers, when the first k tapes have had their turn. -/
def bkT (T : Nat → Tp) (ks : List Int) : Nat → (Nat → Tp) × List Int
  | 0 => (T, ks)
  | k + 1 =>
    if (T k).s.size - (T k).f = 0 then bkT T ks k
    else (upd (bkT T ks k).1 k (bk ((bkT T ks k).2.headD 0) (T k)), (bkT T ks k).2.tail)
def backD (d : Dk) (ks : List Int) : Dk := { d with T := (bkT d.T ks 32).1, dn := false, dm := false, left := 0 }
set_option maxHeartbeats 1000000 in
theorem back_disk (B : Nat) (d : Dk) (ks : List Int) (v : Value) (w : World) (h : DAt w B d) (hd : ∀ i < 32, (d.T i).ok) (hv : KAt w v ks) (hne : ks ≠ [] → v.ownBlock ≠ some B) (hks : ks.length ≤ 9223372036854775807) :
    Calls Tryd.prog 36 #[.pointer (some ⟨B, 0, none⟩), v] w (DRet w B (.int .i64 0) (backD d ks)) := by
  have HIX := Lib.hid (fun k (hk : k < 32) W => index67 d.T k hk W)
  have HL : Hid ((Tryd.prog.info? 76).map (·.size) = some (tcells d.T 32).length) := Lib.hid (by rw [tcells_len]; exact len67)
  have HOK := Lib.hid hd
  have HR := Lib.hid h.range
  have HD0 := Lib.hid h
  have HV0 := Lib.hid hv
  have HNE := Lib.hid hne
  have l := h.lt
  clear h hd hv hne
  obtain ⟨cap, T, dn, dm, left⟩ := d
  unfold backD
  dsimp only at *
  generalize tcells T 32 = C at *
  go_enter Tryd.func36, Tryd.ntmps36
  go_wp2_with (refine wpList_load_mid rfl 76 _ rfl B 1 rfl _ _ HR.out Tryd.underlying76 rfl HL.out ?_)
  go_loopw [1, 14] (fun x i wl => ∃ (k : Nat) (ls : List Int), i = .int .i64 (k : Int) ∧ k ≤ 32 ∧ Hid (KAt w x ls ∧ (ls ≠ [] → x.ownBlock ≠ some B)) ∧ ls.length ≤ 9223372036854775807 ∧ Hid (ls = (bkT T ks k).2) ∧ Hid (DAt wl B ⟨cap, (bkT T ks k).1, dn, dm, left⟩) ∧ Hid (w.grownBy wl (some B))) (fun _ i _ => 32 - (intOf i).toNat)
  case atStart => exact ⟨0, ks, rfl, by omega, Lib.hid ⟨HV0.out, HNE.out⟩, hks, Lib.hid rfl, HD0, Lib.hid (World.grownBy.refl _ _)⟩
  case round =>
    obtain ⟨k, ls, rfl, hk, HV, hls, HLS, HD, HG⟩ := hrel
    obtain ⟨wl, hwl⟩ : ∃ wl, wl = wr := ⟨_, rfl⟩
    subst hwl
    by_cases hlt : k < 32
    · have hi := HIX.out k hlt
      have hok := HOK.out k hlt
      have HLO := Lib.hid (fun W => loose_any (T k) W hok)
      have HBK := Lib.hid (fun n W => back_any (T k) n W hok)
      have HBT : Hid (bkT T ks (k + 1) = if (T k).s.size - (T k).f = 0 then bkT T ks k else (upd (bkT T ks k).1 k (bk ((bkT T ks k).2.headD 0) (T k)), (bkT T ks k).2.tail)) := Lib.hid rfl
      have hS : (T k).s.size ≤ 1048576 := hok.2
      clear hok
      have B0 : Hid (Box2 (wl.alloc (.cells #[.string (T k).s, .int .i64 ((T k).f : Int)] 75)) wl.heap.size 75 (.string (T k).s) (.int .i64 ((T k).f : Int))) := Lib.hid (Box2.new _ _ _ _)
      have HA0 : Hid (Below wl.heap.size wl (wl.alloc (.cells #[.string (T k).s, .int .i64 ((T k).f : Int)] 75))) := Lib.hid ((Below.refl _ _).alloc (Nat.le_refl _) _)
      generalize hQ : (T k).s.size - (T k).f = Q at *
      clear hQ
      generalize hbq : (fun n => bk n (T k)) = bq at *
      have hbq2 : ∀ n, bk n (T k) = bq n := fun n => by rw [← hbq]
      simp only [hbq2] at HBK HBT
      clear hbq hbq2
      generalize (T k).f = F at *
      generalize (T k).s = S at *
      by_cases hQ : Q = 0
      · have HQ : Hid (bkT T ks (k + 1) = bkT T ks k) := Lib.hid (by rw [HBT.out, if_pos hQ])
        have hq : ((Q : Int) == 0) = true := by rw [beq_iff_eq]; omega
        go_wp2_with fail
        refine (HLO.out _).mono ?_
        rintro e w2 ⟨rfl, hb⟩
        have HB2 := Lib.hid (HA0.out.trans (hb.mono HA0.out.size))
        clear hb
        go_wp2
        go_roundw
        case rel => exact ⟨k + 1, ls, by go_num, by omega, HV, hls, Lib.hid (by rw [HQ.out]; exact HLS.out), Lib.hid (by rw [HQ.out]; exact HD.out.below HB2.out HD.out.lt), Lib.hid (grown_trans HG.out (grown_below HB2.out _))⟩
        case measure => simp [intOf]; omega
      · have hq : ((Q : Int) == 0) = false := by rw [beq_eq_false_iff_ne]; omega
        have HQ : Hid (bkT T ks (k + 1) = (upd (bkT T ks k).1 k (bq (ls.headD 0)), ls.tail)) := Lib.hid (by rw [HBT.out, if_neg hQ, HLS.out])
        cases ls with
        | nil =>
          obtain ⟨va, vc, hx⟩ := HV.out.1.slice
          subst hx
          have HBK0 := Lib.hid (fun W => HBK.out 0 W)
          clear HBK
          dsimp only [List.headD, List.tail, List.length_nil] at HQ HV hls ⊢
          generalize hR : bq 0 = R at *
          clear hR
          obtain ⟨S2, F2⟩ := R
          go_wp2_with fail
          refine (HLO.out _).mono ?_
          rintro e w2 ⟨rfl, hb⟩
          have HB2 := Lib.hid (HA0.out.trans (hb.mono HA0.out.size))
          have B2 := Lib.hid (B0.out.below hb B0.out.lt)
          have HD2 := Lib.hid (HD.out.below HB2.out HD.out.lt)
          clear hb
          have k0 := And.intro B2.out.c0 B2.out.c1
          have cs := HD2.out.s k hlt
          have cf := HD2.out.f k hlt
          have fs := HD2.out.fz (1 + k * 2)
          have ff := HD2.out.fz (1 + k * 2 + 1)
          have hn9 : wl.heap.size ≠ B := by have := HD.out.lt; omega
          go_wp2_with fail
          go_region_held3 (fun w' => w'.cell? ⟨wl.heap.size, 0, none⟩ = some (.string S) ∧ w'.cell? ⟨wl.heap.size, 1, none⟩ = some (.int .i64 (F : Int))) (first | exact k1 | exact k0 | exact ⟨((B3.out.apart (a := ⟨_, _, none⟩) hn9 _).apart (a := ⟨_, _, none⟩) hn9 _).c0, ((B3.out.apart (a := ⟨_, _, none⟩) hn9 _).apart (a := ⟨_, _, none⟩) hn9 _).c1⟩) (first
            | (go_at_call 64; refine (HBK0.out _).mono ?_; rintro e wB ⟨rfl, hbB⟩; have hq3 : Below w2.heap.size w2 wB := ⟨hbB.os, hbB.tape, hbB.output, hbB.size, hbB.block⟩; have HB3 := Lib.hid (HB2.out.trans (hq3.mono HB2.out.size)); have B3 := Lib.hid (B2.out.below hq3 B2.out.lt); have HD3 := Lib.hid (HD2.out.below hq3 HD2.out.lt); have k1 := And.intro B3.out.c0 B3.out.c1; have cs3 := HD3.out.s k hlt; have cf3 := HD3.out.f k hlt; have fs3 := HD3.out.fz (1 + k * 2); have ff3 := HD3.out.fz (1 + k * 2 + 1); clear hq3 hbB))
          go_wp2
          go_roundw
          case rel => exact ⟨k + 1, [], by go_num, by omega, HV, hls, Lib.hid (by rw [HQ.out]), Lib.hid (by rw [HQ.out]; exact DAt.congr (HD3.out.setT hlt ⟨S2, F2⟩) rfl), Lib.hid (grown_trans HG.out (grown_trans (grown_below HB3.out _) (grown_set2 _ _ _ _ _ _)))⟩
          case measure => simp [intOf]; omega
        | cons q r =>
          rcases HV.out.1 with ⟨h0, _⟩ | ⟨g, o, c, hx, hc, hcs⟩
          · cases h0
          have hgB : g ≠ B := fun e => HV.out.2 (by simp) (by rw [hx, e]; rfl)
          have q0 := hcs 0 (by simp)
          rw [Nat.add_zero] at q0
          have hgl := World.block_lt_of_cell? w _ q0
          have hcell : ∀ W, w.grownBy W (some B) → W.cell? ⟨g, o, none⟩ = some (.int .i64 q) := fun W hW => (World.cell?_of_block (a := ⟨g, o, none⟩) (hW.block g hgl (by simpa using hgB))).trans q0
          obtain ⟨A, hA⟩ : ∃ A, (if c = 1 then (⟨g, o, none⟩ : Addr) else ⟨g, o + 1, none⟩) = A := ⟨_, rfl⟩
          have HV2 : Hid (KAt w (.slice (some A) r.length (c - 1)) r ∧ (r ≠ [] → (Value.slice (some A) r.length (c - 1)).ownBlock ≠ some B)) := Lib.hid (by
            constructor
            · cases r with
              | nil => exact .inl ⟨rfl, _, _, rfl⟩
              | cons q2 r2 =>
                rw [if_neg (by simp at hc; omega)] at hA
                subst hA
                refine .inr ⟨g, o + 1, c - 1, rfl, by simp at hc ⊢; omega, fun j hj => ?_⟩
                have := hcs (j + 1) (by simpa using hj)
                rw [show o + 1 + j = o + (j + 1) by omega]
                exact this
            · intro _
              rw [← hA]
              split <;> simpa [Value.ownBlock] using hgB)
          have HC := Lib.hid hcell
          have hc1 : r.length + 1 ≤ c := by simpa using hc
          subst hx
          have HBK0 := Lib.hid (fun W => HBK.out q W)
          clear HBK hcs q0 hcell hc
          dsimp only [List.headD, List.tail] at HQ
          rw [List.length_cons] at hls ⊢
          generalize hL : r.length = L at *
          have HLR := Lib.hid hL
          clear hL
          generalize hR : bq q = R at *
          clear hR
          obtain ⟨S2, F2⟩ := R
          go_wp2_with fail
          refine (HLO.out _).mono ?_
          rintro e w2 ⟨rfl, hb⟩
          have HB2 := Lib.hid (HA0.out.trans (hb.mono HA0.out.size))
          have B2 := Lib.hid (B0.out.below hb B0.out.lt)
          have HD2 := Lib.hid (HD.out.below HB2.out HD.out.lt)
          clear hb
          have hq1 := HC.out _ (grown_trans HG.out (grown_below HB2.out _))
          have hAs : (if c = 1 then some (⟨g, o, none⟩ : Addr) else some ⟨g, o + 1, none⟩) = some A := by rw [← hA]; split <;> rfl
          clear hA
          go_wp2_with fail
          go_quiet (fail)
          rename_i nq
          have HB2 : Hid (Below wl.heap.size wl (w2.drewN nq)) := Lib.hid ⟨HB2.out.os, HB2.out.tape, HB2.out.output, HB2.out.size, HB2.out.block⟩
          have B2 : Hid (Box2 (w2.drewN nq) wl.heap.size 75 (.string S) (.int .i64 (F : Int))) := B2
          have HD2 := Lib.hid (HD2.out.drewN nq)
          generalize w2.drewN nq = WX at *
          have k0 := And.intro B2.out.c0 B2.out.c1
          have cs := HD2.out.s k hlt
          have cf := HD2.out.f k hlt
          have fs := HD2.out.fz (1 + k * 2)
          have ff := HD2.out.fz (1 + k * 2 + 1)
          have hn9 : wl.heap.size ≠ B := by have := HD.out.lt; omega
          go_wp2_with fail
          go_region_held3 (fun w' => w'.cell? ⟨wl.heap.size, 0, none⟩ = some (.string S) ∧ w'.cell? ⟨wl.heap.size, 1, none⟩ = some (.int .i64 (F : Int))) (first | exact k1 | exact k0 | exact ⟨((B3.out.apart (a := ⟨_, _, none⟩) hn9 _).apart (a := ⟨_, _, none⟩) hn9 _).c0, ((B3.out.apart (a := ⟨_, _, none⟩) hn9 _).apart (a := ⟨_, _, none⟩) hn9 _).c1⟩) (first
            | (go_at_call 64; refine (HBK0.out _).mono ?_; rintro e wB ⟨rfl, hbB⟩; have hq3 : Below WX.heap.size WX wB := ⟨hbB.os, hbB.tape, hbB.output, hbB.size, hbB.block⟩; have HB3 := Lib.hid (HB2.out.trans (hq3.mono HB2.out.size)); have B3 := Lib.hid (B2.out.below hq3 B2.out.lt); have HD3 := Lib.hid (HD2.out.below hq3 HD2.out.lt); have k1 := And.intro B3.out.c0 B3.out.c1; have cs3 := HD3.out.s k hlt; have cf3 := HD3.out.f k hlt; have fs3 := HD3.out.fz (1 + k * 2); have ff3 := HD3.out.fz (1 + k * 2 + 1); clear hq3 hbB))
          go_wp2
          go_roundw
          case rel => exact ⟨k + 1, r, by go_num, by omega, HV2, by have := HLR.out; omega, Lib.hid (by rw [HQ.out]), Lib.hid (by rw [HQ.out]; exact DAt.congr (HD3.out.setT hlt ⟨S2, F2⟩) rfl), Lib.hid (grown_trans HG.out (grown_trans (grown_below HB3.out _) (grown_set2 _ _ _ _ _ _)))⟩
          case measure => simp [intOf]; omega
    · obtain rfl : k = 32 := by omega
      have c65 := HD.out.dn
      have c66 := HD.out.dm
      have c67 := HD.out.left
      have f65 := HD.out.fz 65
      have f66 := HD.out.fz 66
      have f67 := HD.out.fz 67
      go_wp2
      go_ret
      exact ⟨rfl, ((HD.out.setDn false).setDm false).setLeft 0, grown_trans HG.out (grown_trans (grown_set2 _ _ _ _ _ _) (grown_setCell _ _ _ _))⟩
end Go.Proofs.YtpcpbdcdapmlnaaDoor
