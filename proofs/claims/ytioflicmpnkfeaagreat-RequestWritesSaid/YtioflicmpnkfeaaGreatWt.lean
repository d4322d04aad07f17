/- The contract of Write. -/
import Derived.Test.YtioflicmpnkfeaaGreatVa
import Derived.Deep.RegionWith
namespace Go.Proofs.YtioflicmpnkfeaaGreat
open Go.RowKit
/-- A field's bytes. -/
def Gf.by (f : Gf) : List UInt8 := Bt.vint (f.n.toNat * 8 + f.v.w) ++ f.v.by
/-- What Write comes to, behind bytes. -/
def wrk : List Gf → List UInt8 → List UInt8 × Nat
  | [], b => (b, 0)
  | f :: r, b => if f.may then wrk r (b ++ f.by) else ([], 4)
/-- Told: bytes as a string, and an error. -/
def TellsW (w : World) (x : List UInt8 × Nat) (e : Ending) (w' : World) : Prop := Ret w (.tuple #[.string (bs x.1), .int .i64 (x.2 : Int)]) e w'
set_option maxRecDepth 100000 in
set_option maxHeartbeats 4000000 in
theorem write_any (l : List Gf) (hl : l.length ≤ 1000000) (hok : ∀ f ∈ l, f.ok) (hby : ∀ f ∈ l, f.v.by.length ≤ 1000000) (v : Value) (w : World) (hv : GAt w v l) :
    Calls Tryz.prog 25 #[v] w (TellsW w (wrk l [])) := by
  have HV := Lib.hid hv
  have HOK := Lib.hid hok
  have HBY := Lib.hid hby
  obtain ⟨va, vc, hv2⟩ := hv.slice
  clear hv hok hby
  generalize hL : l.length = L at *
  have HL := Lib.hid hL
  clear hL
  subst hv2
  go_enter Tryz.func25, Tryz.ntmps25
  go_wp2
  go_loopw [4, 9] (fun u i wr => ∃ (k : Nat) (b : List UInt8), i = .int .i64 (k : Int) ∧ k ≤ L ∧ Hid (b.length ≤ 1000010 * k) ∧ Hid (wrk (l.drop k) b = wrk l []) ∧ Hid (Own wr w.heap.size u (b.map bv)) ∧ Hid (Below w.heap.size w wr)) (fun _ i _ => L - (intOf i).toNat)
  case atStart => exact ⟨0, [], rfl, by omega, Lib.hid (by simp), Lib.hid rfl, Lib.hid (Own.nil _ _), Lib.hid (Below.refl _ _)⟩
  case round =>
    obtain ⟨k, b, rfl, hk, HBL, HE, HO, HB⟩ := hrel
    by_cases hlt : k < L
    · have hkl : k < l.length := by have := HL.out; omega
      rcases (HV.out.below HB.out (Nat.le_refl _)) with ⟨h0, _⟩ | ⟨g, og, cg, hg, hcs⟩
      · have := HL.out; rw [h0] at this; simp at this; omega
      obtain ⟨q0, q1⟩ := hcs k hkl
      clear hcs
      have hdr : l.drop k = l[k] :: l.drop (k + 1) := List.drop_eq_getElem_cons hkl
      have hfo := HOK.out l[k] (List.getElem_mem hkl)
      have hfb := HBY.out l[k] (List.getElem_mem hkl)
      have hrun := HE.out
      rw [hdr, wrk] at hrun
      generalize l[k] = f at *
      cases hg
      cases hm : f.may with
      | false =>
        rw [hm, if_neg (by simp)] at hrun
        have HRN := Lib.hid hrun
        have HM := Lib.hid (fun W => may_any f W)
        unfold gv at HM
        rw [hm] at HM
        clear hrun hdr hfo hfb hm
        have hS := f.v.st
        generalize f.n = n at *
        generalize f.v.v = V at *
        go_wp2_with fail
        refine (HM.out _).mono ?_
        rintro e w1 ⟨rfl, hb1⟩
        have HB1 := Lib.hid ((HB.out.alloc HB.out.size (.cells #[.int .i64 n, V] 63)).trans (hb1.mono (Nat.le_trans HB.out.size (by simp))))
        clear hb1
        go_wp2
        go_ret2
        refine ⟨?_, HB1.out⟩
        rw [← HRN.out]
        rfl
      | true =>
        rw [hm, if_pos rfl] at hrun
        obtain ⟨⟨g1, g2⟩, g3⟩ := Gf.may_iff.1 hm
        have g4 := f.v.w_lt g3
        have HM := Lib.hid (fun W => may_any f W)
        unfold gv at HM
        rw [hm] at HM
        obtain ⟨n, x⟩ := f
        dsimp only at g1 g2 g3 g4
        obtain ⟨n, rfl⟩ := Int.eq_ofNat_of_zero_le (a := n) (by omega)
        have hvl := Bt.vlen_u64 (n := n * 8 + x.w) (by omega)
        have hbl0 := HBL.out
        have hbl : b.length ≤ 2000000000000 := by omega
        have HK := Lib.hid (fun W => key_any n x g3 (by omega) W)
        have HBN : Hid ((b ++ Gf.by ⟨(n : Int), x⟩).length ≤ 1000010 * (k + 1)) := Lib.hid (by
          unfold Gf.by
          dsimp only at hfb ⊢
          rw [List.length_append, List.length_append, Bt.vint_length, show ((n : Int).toNat) = n from by omega]
          omega)
        have hgb : b ++ Gf.by ⟨(n : Int), x⟩ = b ++ Bt.vint (n * 8 + x.w) ++ x.by := by
          unfold Gf.by
          rw [List.append_assoc]
          rfl
        have HGB := Lib.hid hgb
        have HP := Lib.hid (fun base u W h1 h2 => put_own (n * 8 + x.w) (by omega) base u b W h1 h2 (by omega))
        have HQ := Lib.hid (fun base u W h1 h2 => putValue_any x hfo.v base u (b ++ Bt.vint (n * 8 + x.w)) W h1 h2 (by rw [List.length_append, Bt.vint_length]; omega))
        unfold gv at HK
        have HRN := Lib.hid hrun
        clear hrun hdr hfo hfb hm g1 g2 g3 g4 hvl hbl0 hbl hgb
        generalize b ++ Gf.by ⟨(n : Int), x⟩ = bn at *
        dsimp only at *
        generalize b ++ Bt.vint (n * 8 + x.w) = b1 at *
        generalize n * 8 + x.w = K at *
        generalize x.by = xb at *
        have hS := x.st
        generalize x.v = V at *
        have hc0 : (wr.alloc (.cells #[.int .i64 (n : Int), V] 63)).cell? ⟨wr.heap.size, 0, none⟩ = some (.int .i64 (n : Int)) := by rw [World.cell?_alloc_mark]; rfl
        have hc1 : (wr.alloc (.cells #[.int .i64 (n : Int), V] 63)).cell? ⟨wr.heap.size, 1, none⟩ = some V := by rw [World.cell?_alloc_mark]; rfl
        go_wp2_with fail
        refine (HM.out _).mono ?_
        rintro e w1 ⟨rfl, hb1⟩
        have hne : ∀ gg, u4.ownBlock = some gg → gg ≠ wr.heap.size := fun gg hgg => by have := (HO.out.lt gg hgg).2; omega
        have d0 := (hb1.cell (p := ⟨wr.heap.size, 0, none⟩) (by simp)).trans hc0
        have d1 := (hb1.cell (p := ⟨wr.heap.size, 1, none⟩) (by simp)).trans hc1
        have HB1 := Lib.hid ((HB.out.alloc HB.out.size (.cells #[.int .i64 (n : Int), V] 63)).trans (hb1.mono (Nat.le_trans HB.out.size (by simp))))
        have HO1 := Lib.hid ((HO.out.alloc (.cells #[.int .i64 (n : Int), V] 63)).below hb1 (fun gg hgg => by have := (HO.out.lt gg hgg).2; simp; omega))
        have hlt1 : wr.heap.size < w1.heap.size := Nat.lt_of_lt_of_le (by simp) hb1.size
        have HNE := Lib.hid hne
        clear hb1 hc0 hc1 hne
        go_wp2_with fail
        go_region_with (first
          | (go_at_call 40; refine (HK.out _).mono ?_; rintro e w2 ⟨rfl, hb2⟩; have HB2 : Hid (Below w1.heap.size w1 w2) := Lib.hid ⟨hb2.os, hb2.tape, hb2.output, hb2.size, hb2.block⟩; have e0 := (hb2.cell (p := ⟨wr.heap.size, 0, none⟩) hlt1).trans d0; have e1 := (hb2.cell (p := ⟨wr.heap.size, 1, none⟩) hlt1).trans d1; clear hb2)
          | (go_at_call 39; refine (HP.out w.heap.size u4 _ (HO1.out.below HB2.out (fun gg hgg => (HO1.out.lt gg hgg).2)) (Nat.le_trans HB1.out.size HB2.out.size)).mono ?_; rintro e w3 ⟨v3, rfl, hO3, hS3⟩; have HO3 := Lib.hid hO3; have HS3 := Lib.hid hS3; have f1 := (World.cell?_of_block (a := ⟨wr.heap.size, 1, none⟩) (hS3.grown.block wr.heap.size (Nat.lt_of_lt_of_le hlt1 HB2.out.size) (fun e => HNE.out _ e.symm rfl))).trans e1; clear hO3 hS3)
          | (go_at_call 38; refine (HQ.out w.heap.size v3 _ HO3.out (Nat.le_trans (Nat.le_trans HB1.out.size HB2.out.size) HS3.out.grown.size)).mono ?_; rintro e w4 ⟨v4, rfl, hO4, hS4⟩; have HO4 := Lib.hid hO4; have HS4 := Lib.hid hS4; clear hO4 hS4))
        all_goals
          go_wp2
          go_roundw
          case rel =>
            have hb2 := HB1.out.trans (HB2.out.mono HB1.out.size)
            have hb3 := hb2.trans (HS3.out.below hb2.size (fun gg hgg => (HO1.out.lt gg hgg).1))
            have hb4 := hb3.trans (HS4.out.below hb3.size (fun gg hgg => (HO3.out.lt gg hgg).1))
            exact ⟨k + 1, bn, by go_num, by omega, HBN, HRN, Lib.hid (by rw [HGB.out]; exact HO4.out), Lib.hid hb4⟩
          case measure => simp [intOf]; omega
    · obtain rfl : k = L := by omega
      have hr : Hid (wrk l [] = (b, 0)) := Lib.hid (by
        have := HE.out
        rw [List.drop_of_length_le (by have := HL.out; omega), wrk] at this
        exact this.symm)
      have hcv := run_string_Own wr w.heap.size 77 9 5 u4 b HO.out Tryz.underlying77 Tryz.underlying5 Tryz.underlying9
      go_wp2
      go_ret2
      refine ⟨?_, HB.out⟩
      rw [hr.out]
      rfl
end Go.Proofs.YtioflicmpnkfeaaGreat
