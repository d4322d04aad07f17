/- The disk as one row of cells; Copy; a new one. -/
import Derived.Test.YtieemdcoomilaaaGreatDoorDd
import Derived.Deep.RegionHeld3
import Derived.Deep.CutRange
set_option linter.unusedVariables false
set_option linter.unusedSimpArgs false
namespace Go.Proofs.YtieemdcoomilaaaGreatDoor
open Go Go.RowKit
set_option maxRecDepth 100000
def dcells (d : Dk) : List Value := .int .i64 (d.cap : Int) :: (tcells d.T 32 ++ [.bool d.dn, .bool d.dm, .int .i64 (d.left : Int)])
theorem dcells_len (d : Dk) : (dcells d).length = 68 := by simp [dcells, tcells_len]
theorem dcells_tail (d : Dk) (j : Nat) (hj : j < 64) : (dcells d)[1 + j]? = (tcells d.T 32)[j]? := by
  unfold dcells
  rw [show 1 + j = j + 1 by omega, List.getElem?_cons_succ, List.getElem?_append_left (by rw [tcells_len]; omega)]
theorem dcells_last (d : Dk) (j : Nat) : (dcells d)[65 + j]? = [Value.bool d.dn, .bool d.dm, .int .i64 (d.left : Int)][j]? := by
  unfold dcells
  rw [show 65 + j = 64 + j + 1 by omega, List.getElem?_cons_succ, List.getElem?_append_right (by rw [tcells_len]; omega), tcells_len, show 64 + j - 2 * 32 = j by omega]
theorem DAt.of_row {w : World} {B : Nat} {d : Dk} (h : w.heap[B]? = some (.cells (dcells d).toArray 103 (0, 0))) : DAt w B d := by
  have c : ∀ j, w.cell? ⟨B, j, none⟩ = (dcells d)[j]? := fun j => by rw [cell_of_row w B j _ 103 (0, 0) h]; simp
  refine ⟨c 0, fun i hi => ?_, fun i hi => ?_, (c 65).trans (dcells_last d 0), (c 66).trans (dcells_last d 1), (c 67).trans (dcells_last d 2), fun j => by simp [World.frozen?, h]⟩
  · rw [c, dcells_tail d _ (by omega), tcells_even _ hi]
  · rw [c, show 1 + i * 2 + 1 = 1 + (i * 2 + 1) by omega, dcells_tail d _ (by omega), tcells_odd _ hi]
theorem DAt.whole {w : World} {B : Nat} {d : Dk} (h : DAt w B d) : w.rangeAt B 0 (dcells d) := fun j v hv => by
  rw [Nat.zero_add]
  have hj : j < 68 := by
    rcases Nat.lt_or_ge j 68 with e | e
    · exact e
    · rw [List.getElem?_eq_none (by rw [dcells_len]; exact e)] at hv; cases hv
  rcases Nat.eq_zero_or_pos j with rfl | h0
  · rw [h.cap]; exact hv
  rcases Nat.lt_or_ge j 65 with e | e
  · have := h.range (j - 1) v (by rw [← dcells_tail d _ (by omega), show 1 + (j - 1) = j by omega]; exact hv)
    rwa [show 1 + (j - 1) = j by omega] at this
  · obtain ⟨k, rfl⟩ : ∃ k, j = 65 + k := ⟨j - 65, by omega⟩
    rw [dcells_last] at hv
    match k, hv with
    | 0, hv => rw [h.dn]; exact hv
    | 1, hv => rw [h.dm]; exact hv
    | 2, hv => rw [h.left]; exact hv
    | k + 3, hv => simp at hv
theorem len69 : (Tryz.prog.info? 103).map (·.size) = some 68 := by kernel_rfl
def d0 (cap : Nat) : Dk := ⟨cap, fun _ => t0, false, false, 0⟩
theorem zero69 : ∃ Z : Array Value, (∀ w, (zeroValue 103).run Tryz.prog w = .ok (.agg Z) w) ∧ Z.size = 68 := by
  refine ⟨(dcells (d0 0)).toArray, fun w => ?_, by rw [List.size_toArray, dcells_len]⟩
  have := (zero_of_info (P := Tryz.prog) (t := 103) (v := .agg (dcells (d0 0)).toArray) (n := 68) (by kernel_rfl)).1 w
  exact this
theorem build69 (cap : Nat) (w : World) : (Instr.build 103 #[(0, .int .i64 (cap : Int))]).run Tryz.prog w = .ok (.agg (dcells (d0 cap)).toArray) w := by
  kernel_rfl
theorem dcells_one (d : Dk) : (dcells d).toArray.all (·.oneCell') = true := by
  refine all_oneCell_toArray fun v hv => ?_
  unfold dcells tcells at hv
  simp only [List.mem_cons, List.mem_append, List.mem_map, List.not_mem_nil, or_false] at hv
  rcases hv with rfl | ⟨j, _, rfl⟩ | rfl | rfl | rfl
  · rfl
  · split <;> rfl
  · rfl
  · rfl
  · rfl
end Go.Proofs.YtieemdcoomilaaaGreatDoor
namespace Go.Proofs.YtieemdcoomilaaaGreatDoor
open Go Go.RowKit
set_option maxRecDepth 100000
abbrev Pv := Value × Value
/-- Pairs, read wherever they begin. -/
def At2 (W : World) (v : Value) (l : List Pv) : Prop :=
  (l = [] ∧ ∃ a c, v = .slice a 0 c) ∨ ∃ g o c, v = .slice (some ⟨g, o, none⟩) l.length c ∧ ∀ j (h : j < l.length), W.cell? ⟨g, o + j * 2, none⟩ = some l[j].1 ∧ W.cell? ⟨g, o + j * 2 + 1, none⟩ = some l[j].2
section
variable {w w' : World} {m : Nat} {v : Value} {l : List Pv}
theorem At2.same (h : At2 w v l) (hb : ∀ g, g < w.heap.size → v.ownBlock = some g → w'.heap[g]? = w.heap[g]?) : At2 w' v l := by
  rcases h with h | ⟨g, o, c, rfl, h⟩
  · exact .inl h
  · refine .inr ⟨g, o, c, rfl, fun j hj => ?_⟩
    have hlt := World.block_lt_of_cell? w ⟨g, _, none⟩ (h j hj).1
    have e : ∀ o, w'.cell? ⟨g, o, none⟩ = w.cell? ⟨g, o, none⟩ := fun o => World.cell?_of_block (a := ⟨g, o, none⟩) (hb g hlt rfl)
    rw [e, e]
    exact h j hj
theorem At2.below (h : At2 w v l) (hb : Below m w w') (hn : w.heap.size ≤ m) : At2 w' v l := h.same fun g hg _ => hb.block g (by omega)
theorem At2.slice (h : At2 w v l) : ∃ a c, v = .slice a l.length c := by
  rcases h with ⟨rfl, a, c, rfl⟩ | ⟨g, o, c, rfl, _⟩
  · exact ⟨_, _, rfl⟩
  · exact ⟨_, _, rfl⟩
theorem At2.nil (W : World) : At2 W (.slice none 0 0) [] := .inl ⟨rfl, _, _, rfl⟩
end
/-- A tape that is handed in, or told: firm bytes, loose bytes. -/
structure Tq where
  a : ByteArray
  b : ByteArray
def tq (q : Tq) : Pv := (.string q.a, .string q.b)
def TAt (w : World) (v : Value) (l : List Tq) : Prop := At2 w v (l.map tq)
def ofQ (q : Tq) : Tp := ⟨q.a ++ q.b, q.a.size⟩
def ofT (l : List Tq) : Nat → Tp := fun i => match l[i]? with | some q => ofQ q | none => t0
def tooLong (q : Tq) : Bool := decide (1048576 < q.b.size + q.a.size)
def made0 (cap : Nat) (l : List Tq) : Dk := ⟨cap, ofT l, false, false, 0⟩
def loadE (cap : Int) (l : List Tq) : Nat := if cap < 0 ∨ 32 < l.length then 1 else if l.any tooLong = true then 40 else if cap.toNat < (made0 cap.toNat l).used then 44 else 0
theorem ofT_snoc (l : List Tq) (k : Nat) (hk : k < l.length) : ofT (l.take (k + 1)) = upd (ofT (l.take k)) k (ofQ l[k]) := by
  funext j
  show (match (l.take (k + 1))[j]? with | some q => ofQ q | none => t0) = if j = k then ofQ l[k] else (match (l.take k)[j]? with | some q => ofQ q | none => t0)
  by_cases e : j = k
  · subst e
    rw [if_pos rfl, List.getElem?_take_of_lt (by omega), List.getElem?_eq_getElem hk]
  · rw [if_neg e]
    rcases Nat.lt_or_ge j k with h | h
    · rw [List.getElem?_take_of_lt (by omega), List.getElem?_take_of_lt h]
    · rw [List.getElem?_eq_none (by simp; omega), List.getElem?_eq_none (by simp; omega)]
theorem ofT_size {l : List Tq} (h : ∀ q ∈ l, q.a.size + q.b.size ≤ 1048576) (i : Nat) : (ofT l i).ok := by
  unfold ofT
  cases hi : l[i]? with
  | none => exact ⟨Nat.le_refl _, by decide⟩
  | some q =>
    have := h q (List.mem_of_getElem? hi)
    exact ⟨by show q.a.size ≤ (q.a ++ q.b).size; rw [ByteArray.size_append]; omega, by show (q.a ++ q.b).size ≤ _; rw [ByteArray.size_append]; exact this⟩
end Go.Proofs.YtieemdcoomilaaaGreatDoor
namespace Go.Proofs.YtieemdcoomilaaaGreatDoor
open Go Go.RowKit
set_option maxRecDepth 100000
theorem zero69' (cap : Nat) : ∃ Z : Array Value, (∀ w, (zeroValue 103).run Tryz.prog w = .ok (.agg Z) w) ∧ Z ≠ #[] ∧ Z.setIfInBounds 0 (.int .i64 (cap : Int)) = (dcells (d0 cap)).toArray := by
  refine ⟨(dcells (d0 0)).toArray, fun w => ?_, fun h => ?_, ?_⟩
  · exact (zero_of_info (P := Tryz.prog) (t := 103) (v := .agg (dcells (d0 0)).toArray) (n := 68) (by kernel_rfl)).1 w
  · have := congrArg Array.size h
    rw [List.size_toArray, dcells_len] at this
    simp at this
  · rw [List.setIfInBounds_toArray]
    rfl
theorem hb_new {w w' : World} {o : Obj} (h : Below (w.alloc o).heap.size (w.alloc o) w') : Below w.heap.size w w' := ((Below.refl _ _).alloc (Nat.le_refl _) _).trans (h.mono (by simp))
set_option maxHeartbeats 1000000 in
theorem load_in (cap : Nat) (l : List Tq) (v : Value) (w : World) (hv : TAt w v l) (hl : l.length ≤ 32) (hc : cap ≤ 9223372036854775807) (hw : ∀ q ∈ l, q.a.size ≤ 9223372036854775807 ∧ q.b.size ≤ 9223372036854775807) (E : Nat) (hE : loadE cap l = E) :
    Calls Tryz.prog 29 #[.int .i64 (cap : Int), v] w fun e w' => Below w.heap.size w w' ∧ ((E = 0 ∧ e = .returned (.tuple #[.pointer (some ⟨w.heap.size, 0, none⟩), .int .i64 0]) ∧ DAt w' w.heap.size (made0 cap l)) ∨ (E ≠ 0 ∧ e = .returned (.tuple #[.pointer none, .int .i64 (E : Int)]))) := by
  obtain ⟨va, vc, hv2⟩ := At2.slice hv
  rw [List.length_map] at hv2
  have HV := Lib.hid hv
  have HE := Lib.hid hE
  have HW := Lib.hid hw
  clear hv hE hw
  obtain ⟨Z0, hz0, hz1, hz2⟩ := zero69' cap
  have HN : Hid (DAt (w.alloc (.cells (dcells (d0 cap)).toArray 103)) w.heap.size (made0 cap (l.take 0))) := Lib.hid (DAt.of_row (heap_alloc_new _ _))
  generalize (dcells (d0 cap)).toArray = Z at *
  generalize hL : l.length = L at *
  have HL := Lib.hid hL
  clear hL
  subst hv2
  go_enter Tryz.func29, Tryz.ntmps29
  go_wp2
  go_loopw [23] (fun i wl => ∃ k : Nat, i = .int .i64 (k : Int) ∧ k ≤ L ∧ Hid (∀ q ∈ l.take k, tooLong q = false) ∧ Hid (DAt wl w.heap.size (made0 cap (l.take k))) ∧ Hid (Below w.heap.size w wl)) (fun i _ => L - (intOf i).toNat)
  case atStart => exact ⟨0, rfl, by omega, Lib.hid (by simp), HN, Lib.hid ((Below.refl _ _).alloc (Nat.le_refl _) _)⟩
  case round =>
    obtain ⟨k, rfl, hk, HT, HD, HB⟩ := hrel
    obtain ⟨wl, hwl⟩ : ∃ wl, wl = wr := ⟨_, rfl⟩
    subst hwl
    by_cases hlt : k < L
    · have hkl : k < l.length := by have := HL.out; omega
      rcases At2.below HV.out HB.out (Nat.le_refl _) with ⟨h0, _⟩ | ⟨g, o, e, hg, hcs⟩
      · have := congrArg List.length h0; rw [List.length_map, List.length_nil] at this; omega
      obtain ⟨q0, q1⟩ := hcs k (by rw [List.length_map]; exact hkl)
      rw [List.getElem_map] at q0 q1
      rw [List.length_map, HL.out] at hg
      cases hg
      have hqm := List.getElem_mem hkl
      have hwq := HW.out _ hqm
      have htk : l.take (k + 1) = l.take k ++ [l[k]] := List.take_succ_eq_append_getElem hkl
      have HSN := Lib.hid (ofT_snoc l k hkl)
      have HTK := Lib.hid htk
      have HQM := Lib.hid hqm
      clear hcs htk hqm
      generalize l[k] = Q at *
      obtain ⟨a, b⟩ := Q
      unfold tq at q0 q1
      dsimp only at q0 q1 hwq
      obtain ⟨ha, hb⟩ := hwq
      have l1 := World.block_lt_of_cell? wl _ q0
      have HF := Lib.hid (fun W => firm_any a W)
      have HWr := Lib.hid (fun W => written_any ⟨a, a.size⟩ b W ha hb)
      generalize hR : wr ⟨a, a.size⟩ b = R at *
      have HR := Lib.hid hR
      clear hR
      obtain ⟨⟨S, F⟩, E1⟩ := R
      dsimp only at *
      go_wp2
      have b0 : Box2 (wl.alloc (.cells #[.string a, .string b] 97)) wl.heap.size 97 (.string a) (.string b) := Box2.new _ _ _ _
      generalize hW1 : wl.alloc (.cells #[.string a, .string b] 97) = W1 at *
      have HS1 : Hid (W1.heap.size = wl.heap.size + 1) := Lib.hid (by rw [← hW1]; simp)
      have HB1 : Hid (Below wl.heap.size wl W1) := Lib.hid (by rw [← hW1]; exact (Below.refl _ _).alloc (Nat.le_refl _) _)
      have HN1 : Hid (wl.heap.size ≠ W1.heap.size) := Lib.hid (by rw [HS1.out]; omega)
      have HN2 : Hid (∀ wA : World, Below W1.heap.size W1 wA → wl.heap.size ≠ wA.heap.size) := Lib.hid (fun wA h => by have := HS1.out; have := h.size; omega)
      clear hW1
      go_cut [9, 10] from 25 to 46 (fun x y wx => y = .int .i64 (E1 : Int) ∧ ∃ b9, x = .pointer (some ⟨b9, 0, none⟩) ∧ Hid (Box2 wx b9 100 (.string S) (.int .i64 (F : Int)) ∧ wl.heap.size ≤ b9 ∧ Below wl.heap.size wl wx))
      case first =>
        have k0 := And.intro b0.c0 b0.c1
        have B0 := Lib.hid b0
        clear b0
        go_region_held3 (fun w' => w'.cell? ⟨wl.heap.size, 0, none⟩ = some (.string a) ∧ w'.cell? ⟨wl.heap.size, 1, none⟩ = some (.string b)) (first | exact kB | exact kA | exact k0 | exact ⟨(B0.out.alloc _).c0, (B0.out.alloc _).c1⟩ | exact ⟨(BA.out.alloc _).c0, (BA.out.alloc _).c1⟩ | exact ⟨(BB.out.alloc _).c0, (BB.out.alloc _).c1⟩ | exact ⟨((BB.out.apart (a := ⟨_, 0, none⟩) hn9 _).apart (a := ⟨_, 1, none⟩) hn9 _).c0, ((BB.out.apart (a := ⟨_, 0, none⟩) hn9 _).apart (a := ⟨_, 1, none⟩) hn9 _).c1⟩) (first
            | (have hx := HA; clear hx; go_at_call 74; refine (HWr.out _).mono ?_; rintro e wB ⟨rfl, hbB⟩; first
              | (have hq : Below wA.heap.size wA wB := ⟨hbB.os, hbB.tape, hbB.output, hbB.size, hbB.block⟩; have BB := Lib.hid (BA.out.below hq BA.out.lt); have kB := And.intro BB.out.c0 BB.out.c1; have HB := Lib.hid (below_trans' HA.out hq); first
                | (have y9 := X9.out.below hq X9.out.lt; clear X9; have e0 := y9.c0; have e1 := y9.c1; have g0 := y9.free 0; have g1 := y9.free 1; have X9 := Lib.hid y9; clear y9; clear hq hbB)
                | clear hq hbB)
              | (have hq : Below (wA.alloc (.cells #[.string ⟨#[]⟩, .int .i64 0] 100)).heap.size (wA.alloc (.cells #[.string ⟨#[]⟩, .int .i64 0] 100)) wB := ⟨hbB.os, hbB.tape, hbB.output, hbB.size, hbB.block⟩; have x9 := (Box2.new wA 100 (.string ⟨#[]⟩) (.int .i64 0)).below hq (Box2.new wA 100 (.string ⟨#[]⟩) (.int .i64 0)).lt; have e0 := x9.c0; have e1 := x9.c1; have g0 := x9.free 0; have g1 := x9.free 1; have X9 := Lib.hid x9; clear x9; have BB := Lib.hid ((BA.out.alloc (.cells #[.string ⟨#[]⟩, .int .i64 0] 100)).below hq (BA.out.alloc (.cells #[.string ⟨#[]⟩, .int .i64 0] 100)).lt); have kB := And.intro BB.out.c0 BB.out.c1; have HB := Lib.hid (below_trans' HA.out (hb_new hq)); have hn9 : wl.heap.size ≠ wA.heap.size := HN2.out _ HA.out; clear hq hbB))
            | (go_at_call 73; refine (HF.out _).mono ?_; rintro e wA ⟨rfl, hbA⟩; first
              | (have hq : Below (W1.alloc (.cells #[.string ⟨#[]⟩, .int .i64 0] 100)).heap.size (W1.alloc (.cells #[.string ⟨#[]⟩, .int .i64 0] 100)) wA := ⟨hbA.os, hbA.tape, hbA.output, hbA.size, hbA.block⟩; have x9 := (Box2.new W1 100 (.string ⟨#[]⟩) (.int .i64 0)).below hq (Box2.new W1 100 (.string ⟨#[]⟩) (.int .i64 0)).lt; have e0 := x9.c0; have e1 := x9.c1; have g0 := x9.free 0; have g1 := x9.free 1; have X9 := Lib.hid x9; clear x9; have BA := Lib.hid ((B0.out.alloc (.cells #[.string ⟨#[]⟩, .int .i64 0] 100)).below hq (B0.out.alloc (.cells #[.string ⟨#[]⟩, .int .i64 0] 100)).lt); have kA := And.intro BA.out.c0 BA.out.c1; have HA := Lib.hid (hb_new hq); have hn9 : wl.heap.size ≠ W1.heap.size := HN1.out; clear hq hbA)
              | (have hq : Below W1.heap.size W1 wA := ⟨hbA.os, hbA.tape, hbA.output, hbA.size, hbA.block⟩; have BA := Lib.hid (B0.out.below hq B0.out.lt); have kA := And.intro BA.out.c0 BA.out.c1; have HA := Lib.hid hq; clear hq hbA)))
        all_goals (have hle1 : wl.heap.size ≤ W1.heap.size := by have := HS1.out; omega)
        all_goals (have hleA : wl.heap.size ≤ wA.heap.size := by have := HA.out.size; omega)
        all_goals (have hleB : wl.heap.size ≤ wB.heap.size := by have := HB.out.size; omega)
        all_goals (have HBB : Below wl.heap.size wl wB := HB1.out.trans (HB.out.mono hle1))
        all_goals (go_wp2_with fail; go_meet)
        all_goals first
          | exact ⟨rfl, _, rfl, Lib.hid ⟨Box2.new wB 100 _ _, hleB, HBB.alloc hleB _⟩⟩
          | exact ⟨rfl, _, rfl, Lib.hid ⟨X9.out.set _ _, hle1, below_setD (below_setD HBB hle1 _ _) hle1 _ _⟩⟩
          | exact ⟨rfl, _, rfl, Lib.hid ⟨X9.out.set _ _, hleA, below_setD (below_setD HBB hleA _ _) hleA _ _⟩⟩
      case rest =>
        obtain ⟨rfl, b9, rfl, HX⟩ := hcut
        have HWC := Lib.hid (HB.out.trans (HX.out.2.2.mono HB.out.size))
        have HDC := Lib.hid (HD.out.below HX.out.2.2 HD.out.lt)
        by_cases hE1 : E1 = 0
        · have hE2 : ((E1 : Int) != 0) = false := by rw [bne_eq_false_iff_eq]; omega
          have hq : tooLong ⟨a, b⟩ = false ∧ (⟨S, F⟩ : Tp) = ofQ ⟨a, b⟩ := by
            have h := HR.out
            unfold wr at h
            unfold tooLong ofQ
            dsimp only at h ⊢
            split at h
            · have h2 := (Prod.mk.inj h).2; rw [hE1] at h2; cases h2
            · exact ⟨decide_eq_false (by assumption), (Prod.mk.inj h).1.symm⟩
          have HQ := Lib.hid hq
          clear hq
          have x0 := HX.out.1.c0
          have x1 := HX.out.1.c1
          have hn9 : b9 ≠ w.heap.size := by have := HX.out.2.1; have := HD.out.lt; omega
          have k32 : k < 32 := by omega
          have cs := HDC.out.s k k32
          have cf := HDC.out.f k k32
          have fs := HDC.out.fz (1 + k * 2)
          have ff := HDC.out.fz (1 + k * 2 + 1)
          have kS := And.intro x0 x1
          have k32i : (k : Int) < 32 := by omega
          have k0i : (0 : Int) ≤ (k : Int) := by omega
          go_wp2_with fail
          go_region_held3 (fun w' => w'.cell? ⟨b9, 0, none⟩ = some (.string S) ∧ w'.cell? ⟨b9, 1, none⟩ = some (.int .i64 (F : Int))) (first | exact kS | exact ⟨((HX.out.1.apart (a := ⟨_, _, none⟩) hn9 _).apart (a := ⟨_, _, none⟩) hn9 _).c0, ((HX.out.1.apart (a := ⟨_, _, none⟩) hn9 _).apart (a := ⟨_, _, none⟩) hn9 _).c1⟩) (first | fail)
          go_wp2
          go_roundw
          case rel =>
            refine ⟨k + 1, by go_num, by omega, Lib.hid ?_, Lib.hid ?_, Lib.hid (below_setD (below_setD HWC.out (Nat.le_refl _) _ _) (Nat.le_refl _) _ _).drew⟩
            · rw [HTK.out]
              intro q hq
              rcases List.mem_append.1 hq with h | h
              · exact HT.out q h
              · rw [List.mem_singleton.1 h]; exact HQ.out.1
            · have := HDC.out.setT k32 ⟨S, F⟩
              rw [show made0 cap (l.take (k + 1)) = { made0 cap (l.take k) with T := upd (made0 cap (l.take k)).T k ⟨S, F⟩ } by unfold made0; rw [HSN.out, HQ.out.2]]
              exact DAt.congr this rfl
          case measure => simp [intOf]; omega
        · have hE2 : ((E1 : Int) != 0) = true := by rw [bne_iff_ne]; omega
          have hq : E1 = 40 ∧ tooLong ⟨a, b⟩ = true := by
            have h := HR.out
            unfold wr at h
            unfold tooLong
            dsimp only at h ⊢
            split at h
            · exact ⟨(Prod.mk.inj h).2.symm, decide_eq_true (by assumption)⟩
            · exact absurd (Prod.mk.inj h).2.symm hE1
          have he : E = 40 := by
            rw [← HE.out]
            unfold loadE
            rw [if_neg (by have := HL.out; omega), if_pos (List.any_eq_true.2 ⟨_, HQM.out, hq.2⟩)]
          have HE4 := Lib.hid (And.intro hq.1 he)
          clear hq he
          go_wp2
          go_ret2
          exact ⟨HWC.out, .inr ⟨by rw [HE4.out.2]; decide, by rw [HE4.out.1, HE4.out.2]; rfl⟩⟩
    · obtain rfl : k = L := by omega
      have hta : l.take k = l := List.take_of_length_le (by have := HL.out; omega)
      rw [hta] at HT HD
      have hok : ∀ i < 32, ((made0 cap l).T i).ok := fun i _ => ofT_size (fun q hq => by
        have := HT.out q hq
        unfold tooLong at this
        have := of_decide_eq_false this
        omega) i
      have HU := Lib.hid (used_any0 w.heap.size _ wl HD.out hok)
      have hl0 : l.any tooLong = false := by
        rw [List.any_eq_false]
        intro q hq
        rw [HT.out q hq]; decide
      have he : E = if cap < (made0 cap l).used then 44 else 0 := by
        rw [← HE.out]
        unfold loadE
        rw [if_neg (by have := HL.out; omega), hl0, if_neg (by decide), Int.toNat_natCast]
      have HE4 := Lib.hid he
      clear hta he hok hl0
      generalize hU : (made0 cap l).used = U at *
      clear hU
      by_cases hcu : cap < U
      · rw [if_pos hcu] at HE4
        go_wp2_with fail
        refine HU.out.mono ?_
        rintro e w' ⟨rfl, hb⟩
        have HB2 := Lib.hid (HB.out.trans (hb.mono HB.out.size))
        clear hb
        go_wp2
        go_ret2
        exact ⟨HB2.out, .inr ⟨by rw [HE4.out]; decide, by rw [HE4.out]; rfl⟩⟩
      · rw [if_neg hcu] at HE4
        go_wp2_with fail
        refine HU.out.mono ?_
        rintro e w' ⟨rfl, hb⟩
        have HB2 := Lib.hid (HB.out.trans (hb.mono HB.out.size))
        have HD2 := Lib.hid (HD.out.below hb HD.out.lt)
        clear hb
        go_wp2
        go_ret2
        exact ⟨HB2.out, .inl ⟨HE4.out, rfl, HD2.out⟩⟩
end Go.Proofs.YtieemdcoomilaaaGreatDoor
namespace Go.Proofs.YtieemdcoomilaaaGreatDoor
open Go Go.RowKit
set_option maxRecDepth 100000
def qT (t : Tp) : Tq := ⟨t.s.extract 0 t.f, t.s.extract t.f t.s.size⟩
/-- The first k tapes are told in block G. -/
structure TRow (w wr : World) (G : Nat) (T : Nat → Tp) (k : Nat) : Prop where
  a : ∀ j < k, wr.cell? ⟨G, j * 2, none⟩ = some (.string (qT (T j)).a)
  b : ∀ j < k, wr.cell? ⟨G, j * 2 + 1, none⟩ = some (.string (qT (T j)).b)
  any : ∀ j < 64, ∃ v, wr.cell? ⟨G, j, none⟩ = some v
  fz : ∀ j, wr.frozen? ⟨G, j, none⟩ = false
  below : Below G w wr
theorem TRow.alloc {w wr : World} {G : Nat} {T : Nat → Tp} {k : Nat} (h : TRow w wr G T k) (hG : G < wr.heap.size) (o : Obj) : TRow w (wr.alloc o) G T k := by
  have e : (wr.alloc o).heap[G]? = wr.heap[G]? := Below.heap_alloc wr o G hG
  have c : ∀ j, (wr.alloc o).cell? ⟨G, j, none⟩ = wr.cell? ⟨G, j, none⟩ := fun j => World.cell?_of_block (a := ⟨G, j, none⟩) e
  exact ⟨fun j hj => (c _).trans (h.a j hj), fun j hj => (c _).trans (h.b j hj), fun j hj => by rw [c]; exact h.any j hj, fun j => (World.frozen?_of_block (a := ⟨G, j, none⟩) e).trans (h.fz j), h.below.alloc (Nat.le_of_lt hG) _⟩
theorem TRow.lt {w wr : World} {G : Nat} {T : Nat → Tp} {k : Nat} (h : TRow w wr G T k) : G < wr.heap.size := by
  obtain ⟨v, hv⟩ := h.any 0 (by omega)
  exact World.block_lt_of_cell? wr _ hv
theorem TRow.next {w wr : World} {G : Nat} {T : Nat → Tp} {k : Nat} (h : TRow w wr G T k) (hk : k < 32) :
    TRow w ((wr.setCell ⟨G, k * 2, none⟩ (.string (qT (T k)).a)).setCell ⟨G, k * 2 + 1, none⟩ (.string (qT (T k)).b)) G T (k + 1) := by
  obtain ⟨x, hx⟩ := h.any (k * 2) (by omega)
  obtain ⟨y, hy⟩ := h.any (k * 2 + 1) (by omega)
  have hy1 : (wr.setCell ⟨G, k * 2, none⟩ (.string (qT (T k)).a)).cell? ⟨G, k * 2 + 1, none⟩ = some y := by
    rw [World.cell?_setCell_other _ _ _ _ (by simp)]; exact hy
  have o1 : ∀ j, j ≠ k * 2 → j ≠ k * 2 + 1 → ((wr.setCell ⟨G, k * 2, none⟩ (.string (qT (T k)).a)).setCell ⟨G, k * 2 + 1, none⟩ (.string (qT (T k)).b)).cell? ⟨G, j, none⟩ = wr.cell? ⟨G, j, none⟩ := fun j h1 h2 => by
    rw [World.cell?_setCell_other _ _ _ _ (by intro e; cases e; exact h2 rfl), World.cell?_setCell_other _ _ _ _ (by intro e; cases e; exact h1 rfl)]
  have o2 : ((wr.setCell ⟨G, k * 2, none⟩ (.string (qT (T k)).a)).setCell ⟨G, k * 2 + 1, none⟩ (.string (qT (T k)).b)).cell? ⟨G, k * 2, none⟩ = some (.string (qT (T k)).a) := by
    rw [World.cell?_setCell_other _ _ _ _ (by simp), World.cell?_setCell_same _ _ _ hx]
  have o3 : ((wr.setCell ⟨G, k * 2, none⟩ (.string (qT (T k)).a)).setCell ⟨G, k * 2 + 1, none⟩ (.string (qT (T k)).b)).cell? ⟨G, k * 2 + 1, none⟩ = some (.string (qT (T k)).b) := World.cell?_setCell_same _ _ _ hy1
  refine ⟨fun j hj => ?_, fun j hj => ?_, fun j hj => ?_, fun j => ?_, ?_⟩
  · by_cases e : j = k
    · subst e; exact o2
    · rw [o1 _ (by omega) (by omega)]; exact h.a j (by omega)
  · by_cases e : j = k
    · subst e; exact o3
    · rw [o1 _ (by omega) (by omega)]; exact h.b j (by omega)
  · by_cases e1 : j = k * 2
    · subst e1; exact ⟨_, o2⟩
    · by_cases e2 : j = k * 2 + 1
      · subst e2; exact ⟨_, o3⟩
      · rw [o1 _ e1 e2]; exact h.any j hj
  · rw [World.frozen?_setCell, World.frozen?_setCell]; exact h.fz j
  · exact below_setD (below_setD h.below (Nat.le_refl _) _ _) (Nat.le_refl _) _ _
theorem make28 : ∃ Z : Array Value, (∀ w, (Instr.makeSlice 56 (.int .i64 32) (.int .i64 32)).run Tryz.prog w = .ok (.slice (some ⟨w.heap.size, 0, none⟩) 32 32) (w.alloc (.cells Z 97))) ∧ Z.size = 64 :=
  ⟨((List.range 64).map fun _ => Value.string ⟨#[]⟩).toArray, fun w => by kernel_rfl, rfl⟩
theorem TRow.new (w : World) (Z : Array Value) (hZ : Z.size = 64) (T : Nat → Tp) : TRow w (w.alloc (.cells Z 97)) w.heap.size T 0 := by
  have hb := heap_alloc_new w (.cells Z 97)
  refine ⟨fun j hj => by omega, fun j hj => by omega, fun j hj => ⟨Z[j], ?_⟩, fun j => by rw [World.frozen?]; rw [hb]; rfl, (Below.refl _ _).alloc (Nat.le_refl _) _⟩
  rw [cell_of_row _ _ j Z 97 (0, 0) hb, Array.getElem?_eq_getElem (by omega)]
set_option maxHeartbeats 1000000 in
theorem tapes_any (B : Nat) (d : Dk) (w : World) (h : DAt w B d) (hd : ∀ i < 32, (d.T i).ok) : Calls Tryz.prog 40 #[.pointer (some ⟨B, 0, none⟩)] w fun e w' => e = .returned (.slice (some ⟨w.heap.size, 0, none⟩) 32 32) ∧ TRow w w' w.heap.size d.T 32 := by
  have HIX := Lib.hid (fun k (hk : k < 32) W => index67 d.T k hk W)
  have HL : Hid ((Tryz.prog.info? 101).map (·.size) = some (tcells d.T 32).length) := Lib.hid (by rw [tcells_len]; exact len67)
  have HOK := Lib.hid hd
  obtain ⟨Z, hmk, hZ⟩ := make28
  have HN := Lib.hid (TRow.new w Z hZ d.T)
  have HR := Lib.hid (h.alloc (.cells Z 97)).range
  have l := h.lt
  clear h hd hZ
  generalize tcells d.T 32 = C at *
  generalize d.T = T at *
  go_enter Tryz.func40, Tryz.ntmps40
  go_wp2_with (refine wpList_load_mid rfl 101 _ rfl B 1 rfl _ _ HR.out Tryz.underlying101 rfl HL.out ?_)
  go_loopw [13] (fun i wl => ∃ k : Nat, i = .int .i64 (k : Int) ∧ k ≤ 32 ∧ Hid (TRow w wl w.heap.size T k)) (fun i _ => 32 - (intOf i).toNat)
  case atStart => exact ⟨0, rfl, by omega, HN⟩
  case round =>
    obtain ⟨k, rfl, hk, HT⟩ := hrel
    obtain ⟨wl, hwl⟩ : ∃ wl, wl = wr := ⟨_, rfl⟩
    subst hwl
    by_cases hlt : k < 32
    · have hi := HIX.out k hlt
      obtain ⟨hf1, hf2⟩ := HOK.out k hlt
      have hlw := HT.out.lt
      have HNX := Lib.hid ((HT.out.alloc hlw (.cells #[.string (T k).s, .int .i64 ((T k).f : Int)] 100)).next hlt)
      have hta := HT.out.alloc hlw (.cells #[.string (T k).s, .int .i64 ((T k).f : Int)] 100)
      obtain ⟨x, hx⟩ := hta.any (k * 2) (by omega)
      obtain ⟨y, hy⟩ := hta.any (k * 2 + 1) (by omega)
      have fx := hta.fz (k * 2)
      have fy := hta.fz (k * 2 + 1)
      clear hta
      unfold qT at HNX
      dsimp only at HNX
      generalize (T k).f = F at *
      generalize (T k).s = S at *
      have kr : (F : Int) ≤ (S.size : Int) := by omega
      have B0 : Hid (Box2 (wl.alloc (.cells #[.string S, .int .i64 (F : Int)] 100)) wl.heap.size 100 (.string S) (.int .i64 (F : Int))) := Lib.hid (Box2.new _ _ _ _)
      have hn9 : wl.heap.size ≠ w.heap.size := by omega
      go_wp2
      generalize wl.alloc (.cells #[.string S, .int .i64 (F : Int)] 100) = W1 at *
      have k0 := And.intro B0.out.c0 B0.out.c1
      go_region_held3 (fun w' => w'.cell? ⟨wl.heap.size, 0, none⟩ = some (.string S) ∧ w'.cell? ⟨wl.heap.size, 1, none⟩ = some (.int .i64 (F : Int))) (first | exact k0 | exact ⟨((B0.out.apart (a := ⟨_, _, none⟩) hn9 _).apart (a := ⟨_, _, none⟩) hn9 _).c0, ((B0.out.apart (a := ⟨_, _, none⟩) hn9 _).apart (a := ⟨_, _, none⟩) hn9 _).c1⟩) (first | fail)
      go_wp2
      go_roundw
      case rel => exact ⟨k + 1, by go_num, by omega, Lib.hid ⟨HNX.out.a, HNX.out.b, HNX.out.any, HNX.out.fz, HNX.out.below.drew⟩⟩
      case measure => simp [intOf]; omega
    · obtain rfl : k = 32 := by omega
      go_wp2
      go_ret
      exact ⟨rfl, HT.out⟩
end Go.Proofs.YtieemdcoomilaaaGreatDoor
