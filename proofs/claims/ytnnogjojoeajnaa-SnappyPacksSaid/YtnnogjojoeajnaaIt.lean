/- The iterator of a block's elements. -/
import Derived.Test.YtnnogjojoeajnaaEn
import Derived.Test.YtnnogjojoeajnaaRg
import Derived.RangeFuncBound
import Derived.RangeFuncLeaves
import Derived.RangeFuncBox
import Derived.Shelf.Abstract
import Derived.Shelf.RegionOpen
import Derived.OwnWalkIn
import Derived.TacticsInMore
import Derived.LoopNIn
import Derived.LoopIn
namespace Go.Proofs.Ytnnogjojoeajnaa
open Go.RowKit Go.Shelf
attribute [local go_sem] Oper.semAt_some
/-- All elements of bytes, up to the first one of which bytes are missing. -/
def its : List UInt8 → List (Pt × Int)
  | [] => []
  | c :: r => if (el c r).2.2 then ((el c r).1, 0) :: its (r.drop (el c r).2.1) else [((el c r).1, 8)]
termination_by l => l.length
decreasing_by simp; omega
def enc2 (x : Pt × Int) : Array Value := #[pv x.1, .int .i64 x.2]
/-- Where a reader in a block stands. -/
def stands (W : World) (b : Nat) : Nat := match W.cell? ⟨b, 1, none⟩ with
  | some (.int _ a) => a.toNat
  | _ => 0
theorem RdAt.stands {W : World} {b : Nat} {s : ByteArray} {a e : Int} (h : RdAt W b s a e) : stands W b = a.toNat := by
  unfold Ytnnogjojoeajnaa.stands; rw [h.c1]
theorem el_le (c : UInt8) (r : List UInt8) : (el c r).2.1 ≤ r.length := by
  unfold el lit cpy
  repeat' split
  all_goals simp only
  all_goals omega
set_option maxRecDepth 100000 in
set_option maxHeartbeats 1000000 in
theorem elements_gives (n : Nat) (hn : 1 ≤ n) (s : ByteArray) (hs : s.size ≤ 140737488351232) (N C : Nat) (hr : Bt.rd s.data.toList 0 0 = (N, C, 0)) (hN : N ≤ 18446744073709551615) (hC : C ≤ s.size) (W : World) (b0 : Nat) (hb0 : W.cell? ⟨b0, 0, none⟩ = some (.string s)) :
    Gives n Try.prog 52 #[.pointer (some ⟨b0, 0, none⟩)] enc2 (its (s.data.toList.drop C)) 1 (fun j => j = W.heap.size) W := by
  intro l J Jx hJ hJx hY h0
  have HJ := Lib.hid hJ
  have HJx := Lib.hid hJx
  have HY := Lib.hid hY
  have H0 := Lib.hid h0
  clear hJ hJx hY h0
  have HV : Hid (∀ w : World, Calls Try.prog 69 #[.string s, .int .i64 ((0 : Nat) : Int), .int .u64 18446744073709551615] w fun e w' => e = .returned (.tuple #[.int .u64 N, .int .i64 C, .int .i64 0]) ∧ w = w') :=
    Lib.hid (uto_ok s _ _ N C (fun w => uvarint_ok s 0 w (by omega) hs N C C (by simpa using hr) (by omega)) (by omega))
  refine callsIn_of_wp Try.func52 rfl trivial ?_ rfl
  simp only [Try.ntmps52, List.size_toArray, List.length_cons, List.length_nil, Nat.reduceAdd, Nat.reduceSub, Array.replicate_succ, Array.replicate_zero, List.push_toArray, List.append_toArray, List.nil_append, List.cons_append]
  gi_wp2_with fail
  refine ⟨trivial, (callsIn_wide.2 (new_any s W)).mono ?_⟩
  rintro e w1 ⟨rfl, hw1⟩
  have HR1 := Lib.hid (RdAt.made s W)
  rw [← hw1] at HR1
  have HG1 : Hid (W.grownBy w1 (some W.heap.size)) := Lib.hid (by rw [hw1]; exact World.grownBy_alloc _ _ _)
  clear hw1
  gi_wp2_with fail
  refine ⟨trivial, (callsIn_wide.2 (mvarint_ok W.heap.size s ((0 : Nat) : Int) _ N C w1 HR1.out HV.out)).mono ?_⟩
  rintro e w2 ⟨rfl, hr2, hg2⟩
  have HR2 := Lib.hid hr2
  have HG2 := Lib.hid (gtrans HG1.out hg2)
  clear hr2 hg2
  gi_wp2_with fail
  gi_loopw [5] (fun _ wr => ∃ (a : Nat), a ≤ s.size ∧ Hid (RdAt wr W.heap.size s a 0) ∧ Hid (W.heap.size + 1 ≤ wr.heap.size) ∧ Hid (J (its (s.data.toList.drop a)) wr)) (fun _ wr => s.size - stands wr W.heap.size)
  case atStart =>
    refine ⟨C, hC, HR2, Lib.hid HR2.out.lt, Lib.hid (HJ.out _ _ _ _ H0.out HG2.out (fun r e => by cases e; omega))⟩
  case round =>
    obtain ⟨a, ha, HR, HZ, HI⟩ := hrel
    have c0 := HR.out.c0
    have c1 := HR.out.c1
    have hleft := left_any W.heap.size s a wr c0 c1 (by omega) (by omega) hs
    clear c0 c1
    have HLf := Lib.hid hleft
    clear hleft
    by_cases hlt : a < s.size
    · obtain ⟨c, r, hc⟩ : ∃ c r, s.data.toList.drop a = c :: r := ⟨_, _, List.drop_eq_getElem_cons (by simpa using hlt)⟩
      have HCc := Lib.hid hc
      clear hc
      gi_wp2_with fail
      refine ⟨trivial, (callsIn_wide.2 HLf.out).mono ?_⟩
      rintro e w3 ⟨rfl, m, hm⟩
      have HR3 : Hid (RdAt w3 W.heap.size s a 0) := Lib.hid (by rw [hm]; exact HR.out.drewN m)
      have HG3 : Hid (wr.grownBy w3 (some W.heap.size)) := Lib.hid (by rw [hm]; exact grown_drewN _ _ _)
      clear hm
      have hsub : (0 : Int) < (s.size : Int) - (a : Int) := by omega
      gi_wp2_with fail
      refine ⟨trivial, (callsIn_wide.2 (element_any W.heap.size s a c r HCc.out w3 HR3.out hs)).mono ?_⟩
      rintro e w4 ⟨rfl, hr4, hg4⟩
      have HR4 := Lib.hid hr4
      have HG4 := Lib.hid (gtrans HG3.out hg4)
      clear hr4 hg4
      generalize hel : el c r = E at *
      obtain ⟨p, k, ok⟩ := E
      have HEL := Lib.hid hel
      clear hel
      obtain ⟨pc, pt, po, pl⟩ := p
      unfold pv
      gi_wp2_with fail
      refine ⟨trivial, (callsIn_wide.2 (err_any W.heap.size (if ok then 0 else 8) _ ((World.cell?_of_block (a := ⟨W.heap.size, 2, none⟩) ((World.grownBy_alloc w4 _ none).block _ HR4.out.lt (by simp))).trans HR4.out.c2))).mono ?_⟩
      rintro e w5 ⟨rfl, hw5⟩
      have HR5 : Hid (RdAt w5 W.heap.size s ((a + 1 + k : Nat) : Int) (if ok then 0 else 8)) := Lib.hid (by rw [← hw5]; exact HR4.out.congr ((World.grownBy_alloc w4 _ none).block _ HR4.out.lt (by simp)))
      have HB5 : Hid (BoxC w5 w4.heap.size ⟨pc, pt, po, pl⟩) := Lib.hid (by rw [← hw5]; exact (Box.new w4 ⟨pc, pt, po, pl⟩).cells)
      have HG5 : Hid (wr.grownBy w5 (some W.heap.size)) := Lib.hid (by rw [← hw5]; exact gtrans HG4.out (World.grownBy_alloc w4 _ _))
      clear hw5
      obtain ⟨b0', b1', b2', b3', -, -, -, -⟩ := HB5.out
      dsimp only at b0' b1' b2' b3'
      have hrow : ∀ q, some W.heap.size = some q → W.heap.size ≤ q ∧ q < W.heap.size + 1 := fun q e => by cases e; omega
      have hkl : k ≤ r.length := by have := el_le c r; rw [HEL.out] at this; exact this
      obtain ⟨hdr, hsz⟩ := drop_succ HCc.out
      have hits : its (s.data.toList.drop a) = if ok then (⟨pc, pt, po, pl⟩, 0) :: its (r.drop k) else [(⟨pc, pt, po, pl⟩, 8)] := by
        rw [HCc.out, its, HEL.out]
      have hdk : r.drop k = s.data.toList.drop (a + 1 + k) := by rw [← hdr, List.drop_drop]
      have HIT := Lib.hid hits
      have HDK := Lib.hid hdk
      clear hits hdk hdr
      cases ok with
      | true =>
        have hj := HJ.out _ _ _ _ HI.out HG5.out hrow
        rw [HIT.out, if_pos rfl] at hj
        obtain ⟨fn, tmps, assign, body, hy, hR⟩ := HY.out _ _ w5 hj (Nat.le_trans HZ.out HG5.out.size)
        have HYR := Lib.hid hR
        clear hR hj
        simp only [enc2, pv] at hy
        gi_wp2
        refine HYR.out.mono ?_
        rintro e W3 (⟨rfl, hJ3, hk3⟩ | ⟨rfl, hJx3⟩)
        · have HJ3 := Lib.hid hJ3
          have HK3 := Lib.hid hk3
          clear hJ3 hk3
          gi_wp2
          go_roundw
          case rel => exact ⟨a + 1 + k, by omega, Lib.hid (HR5.out.congr (HK3.out.same _ rfl HR5.out.lt)), Lib.hid (Nat.le_trans (Nat.le_trans HZ.out HG5.out.size) HK3.out.size), Lib.hid (by rw [← HDK.out]; exact HJ3.out)⟩
          case measure =>
            rw [(HR5.out.congr (HK3.out.same _ rfl HR5.out.lt)).stands, HR.out.stands]
            simp only [Int.toNat_natCast]
            omega
        · have HJ3 := Lib.hid hJx3
          clear hJx3
          gi_wp2
          refine bodyPost_ret (results_none rfl _ _ _) rfl ?_
          exact ⟨⟨_, rfl⟩, .inr HJ3.out⟩
      | false =>
        have hj := HJ.out _ _ _ _ HI.out HG5.out hrow
        rw [HIT.out, if_neg (by simp)] at hj
        obtain ⟨fn, tmps, assign, body, hy, hR⟩ := HY.out _ _ w5 hj (Nat.le_trans HZ.out HG5.out.size)
        have HYR := Lib.hid hR
        clear hR hj
        simp only [enc2, pv] at hy
        gi_wp2
        refine HYR.out.mono ?_
        rintro e W3 (⟨rfl, hJ3, hk3⟩ | ⟨rfl, hJx3⟩)
        · have HJ3 := Lib.hid hJ3
          clear hJ3 hk3
          gi_wp2
          refine bodyPost_ret (results_none rfl _ _ _) rfl ?_
          exact ⟨⟨_, rfl⟩, .inl HJ3.out⟩
        · have HJ3 := Lib.hid hJx3
          clear hJx3
          gi_wp2
          refine bodyPost_ret (results_none rfl _ _ _) rfl ?_
          exact ⟨⟨_, rfl⟩, .inr HJ3.out⟩
    · obtain rfl : a = s.size := by omega
      have hz0 : (s.size : Int) - (s.size : Int) = 0 := by omega
      gi_wp2_with fail
      refine ⟨trivial, (callsIn_wide.2 HLf.out).mono ?_⟩
      rintro e w3 ⟨rfl, m, hm⟩
      have HG3 : Hid (wr.grownBy w3 (some W.heap.size)) := Lib.hid (by rw [hm]; exact grown_drewN _ _ _)
      clear hm
      gi_wp2
      go_end0
      refine ⟨⟨_, rfl⟩, .inl ?_⟩
      have := HJ.out _ _ _ _ HI.out HG3.out (fun q e => by cases e; omega)
      rw [List.drop_eq_nil_of_le (by simp), its] at this
      exact this
end Go.Proofs.Ytnnogjojoeajnaa
