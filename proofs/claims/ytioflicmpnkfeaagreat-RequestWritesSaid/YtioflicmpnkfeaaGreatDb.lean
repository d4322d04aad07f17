/- The contracts of the document's value, Write and Read. -/
import Derived.Test.YtioflicmpnkfeaaGreatDa
import Derived.Test.YtioflicmpnkfeaaGreatRx
namespace Go.Proofs.YtioflicmpnkfeaaGreat
open Go.RowKit
theorem results_cell_two {fn : Func} {p u v : Tmp} {ty : TypeId} (h : fn.results = #[.cell p ty, .tmp u, .tmp v]) (tmps : Array Value) (P : Program) (w : World) :
    (results fn tmps).run P w =
      ((asAddr (tmps.getD p undef)).run P w).andThen fun a w₁ => ((loadVar ty a).run P w₁).andThen fun x w₂ => .ok (.tuple #[x, tmps.getD u undef, tmps.getD v undef]) w₂ := by
  simp only [results, h]
  simp [Sem.run_bind, Result.andThen]
def TellsF (f : Nat) (args : Array Value) (n x k : Int) : Prop := ∀ w : World, Calls Tryz.prog f args w fun e w' => e = .returned (.tuple #[.int .u64 n, .int .i64 x, .int .i64 k]) ∧ w = w'
theorem below_two (w : World) (o1 o2 : Obj) : Below w.heap.size w ((w.alloc o1).alloc o2) := ((Below.refl _ w).alloc (Nat.le_refl _) _).alloc (by simp) _
theorem two_at (w : World) (o1 o2 : Obj) : ((w.alloc o1).alloc o2).heap[w.heap.size + 1]? = some o2 := by
  have := heap_alloc_new (w.alloc o1) o2
  simpa using this
/-- A value was not read. -/
def RvD (w : World) (K : Int) (e : Ending) (w' : World) : Prop := ∃ (n i v : Int) (t : ByteArray) (x : Int), Ret w (.tuple #[.agg #[.int .i64 n, .int .u8 i, .int .u64 v, .string t], .int .i64 x, .int .i64 K]) e w'
/-- A field that is read, as the document has it. -/
def ffd (f : Fd) : Ff := ⟨(f.n : Int), f.w, f.v, bs f.t⟩
set_option maxRecDepth 100000 in
set_option maxHeartbeats 4000000 in
/-- The document's Write. -/
theorem rwrite_any (l : List Ff) (hl : l.length ≤ 1000000) (hok : ∀ f ∈ l, f.ok) (hby : ∀ f ∈ l, f.t.size ≤ 1000000) (v : Value) (w : World) (hv : FAt w v l) :
    Calls Tryz.prog 32 #[v] w (fun e w' => Ret w (.tuple #[.string (bs (rwk l []).1), .int .i64 ((rwk l []).2 : Int)]) e w') := by
  have HV := Lib.hid hv
  have HOK := Lib.hid hok
  have HBY := Lib.hid hby
  obtain ⟨va, vc, hv2⟩ := hv.slice
  clear hv hok hby
  generalize hL : l.length = L at *
  have HL := Lib.hid hL
  clear hL
  subst hv2
  go_enter Tryz.func32, Tryz.ntmps32
  go_wp2
  go_loopw [4, 5] (fun u i wr => ∃ (k : Nat) (b : ByteArray), i = .int .i64 (k : Int) ∧ u = .string b ∧ k ≤ L ∧ b.size ≤ 1000020 * k ∧ Hid (rwk (l.drop k) b.data.toList = rwk l []) ∧ Hid (Below w.heap.size w wr)) (fun _ i _ => L - (intOf i).toNat)
  case atStart => exact ⟨0, ⟨#[]⟩, rfl, rfl, by omega, by decide, Lib.hid rfl, Lib.hid (Below.refl _ _)⟩
  case round =>
    obtain ⟨k, b, rfl, rfl, hk, hbl, HE, HB⟩ := hrel
    have hbl2 : b.size ≤ 1000020000000 := by omega
    have HBL := Lib.hid hbl
    clear hbl
    by_cases hlt : k < L
    · have hkl : k < l.length := by have := HL.out; omega
      rcases (HV.out.below HB.out (Nat.le_refl _)) with ⟨h0, _⟩ | ⟨g, og, cg, hg, hcs⟩
      · have := HL.out; rw [h0] at this; simp at this; omega
      obtain ⟨q0, q1, q2, q3⟩ := hcs k hkl
      have hdr : l.drop k = l[k] :: l.drop (k + 1) := List.drop_eq_getElem_cons hkl
      have hfo := HOK.out l[k] (List.getElem_mem hkl)
      have hfb := HBY.out l[k] (List.getElem_mem hkl)
      have hrun := HE.out
      rw [hdr, rwk] at hrun
      clear hcs
      generalize l[k] = f at *
      cases hg
      have HM := Lib.hid (fun W => rmay_any f W)
      cases hm : f.may with
      | false =>
        rw [hm, if_neg (by simp)] at hrun
        have HRN := Lib.hid hrun
        unfold fv at HM
        rw [hm] at HM
        clear hrun hdr hfo hfb hm
        obtain ⟨n, i, v, t⟩ := f
        dsimp only at *
        generalize (i : Int) = i at *
        generalize (v : Int) = v at *
        go_wp2_with fail
        refine (HM.out _).mono ?_
        rintro e w1 ⟨rfl, hb1⟩
        have HB1 := Lib.hid (HB.out.trans (hb1.mono HB.out.size))
        clear hb1
        go_wp2
        go_ret2
        refine ⟨?_, HB1.out⟩
        rw [← HRN.out]
        rfl
      | true =>
        rw [hm, if_pos rfl] at hrun
        have hle := Ff.by_le f hfo hm
        have HY := Lib.hid (fun W => Ff.by_ok f hfo hm W)
        unfold fv at HM HY
        rw [hm] at HM
        have HBN : Hid ((b ++ bs f.by).size ≤ 1000020 * (k + 1)) := Lib.hid (by rw [ByteArray.size_append, bs_size]; have := HBL.out; omega)
        have hbz : (bs f.by).size ≤ 1000020 := by rw [bs_size]; omega
        have HRN : Hid (rwk (l.drop (k + 1)) (b ++ bs f.by).data.toList = rwk l []) := Lib.hid (by
          rw [← hrun, show (b ++ bs f.by).data.toList = b.data.toList ++ f.by by simp [bs]])
        clear hrun hdr hfo hfb hm hle
        generalize bs f.by = fb at *
        obtain ⟨n, i, v, t⟩ := f
        dsimp only at *
        generalize (i : Int) = i at *
        generalize (v : Int) = v at *
        go_wp2_with fail
        refine (HM.out _).mono ?_
        rintro e w1 ⟨rfl, hb1⟩
        have HB1 := Lib.hid (HB.out.trans (hb1.mono HB.out.size))
        have r0 := (World.cell?_of_block (a := ⟨g, og + k * 4, none⟩) (hb1.block g (World.block_lt_of_cell? wr ⟨g, _, none⟩ q0))).trans q0
        have r1 := (World.cell?_of_block (a := ⟨g, og + k * 4 + 1, none⟩) (hb1.block g (World.block_lt_of_cell? wr ⟨g, _, none⟩ q0))).trans q1
        have r2 := (World.cell?_of_block (a := ⟨g, og + k * 4 + 2, none⟩) (hb1.block g (World.block_lt_of_cell? wr ⟨g, _, none⟩ q0))).trans q2
        have r3 := (World.cell?_of_block (a := ⟨g, og + k * 4 + 3, none⟩) (hb1.block g (World.block_lt_of_cell? wr ⟨g, _, none⟩ q0))).trans q3
        clear hb1 q0 q1 q2 q3
        go_wp2_with fail
        refine (HY.out _).mono ?_
        rintro e w2 ⟨rfl, hb2⟩
        have HB2 := Lib.hid (HB1.out.trans (hb2.mono HB1.out.size))
        clear hb2
        go_wp2
        go_roundw
        case rel => exact ⟨k + 1, _, by go_num, rfl, by omega, HBN.out, HRN, HB2⟩
        case measure => simp [intOf]; omega
    · obtain rfl : k = L := by omega
      have hr : Hid (rwk l [] = (b.data.toList, 0)) := Lib.hid (by
        have := HE.out
        rw [List.drop_of_length_le (by have := HL.out; omega), rwk] at this
        exact this.symm)
      go_wp2
      go_ret2
      refine ⟨?_, HB.out⟩
      rw [hr.out]
      rfl
end Go.Proofs.YtioflicmpnkfeaaGreat
