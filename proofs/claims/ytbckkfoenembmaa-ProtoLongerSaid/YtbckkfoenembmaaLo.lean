/- The contract of the law's longer. -/
import Derived.Test.YtbckkfoenembmaaDr
namespace Go.Proofs.Ytbckkfoenembmaa
open Go.RowKit
/-- A varint's bytes, more than must be. -/
def lgr (l : List UInt8) (more : Nat) : List UInt8 := if more = 0 then l else l.dropLast ++ [UInt8.ofNat ((l.getLastD 0).toNat ||| 128)] ++ List.replicate (more - 1) 128 ++ [0]
theorem set_last : ∀ (l : List UInt8) (x : UInt8), l ≠ [] → l.set (l.length - 1) x = l.dropLast ++ [x]
  | [], x, h => absurd rfl h
  | [a], x, _ => rfl
  | a :: b :: r, x, _ => by
    have := set_last (b :: r) x (by simp)
    rw [List.length_cons, List.dropLast_cons_cons, List.cons_append, ← this]
    rfl
theorem bvset (l : List UInt8) (j : Nat) (x : UInt8) : (l.map bv).set j (bv x) = (l.set j x).map bv := by rw [List.map_set]
set_option maxRecDepth 100000 in
set_option maxHeartbeats 1000000 in
theorem longer_none (s : ByteArray) (m : Int) (h : m < 1) (w : World) : Calls Try.prog 51 #[.string s, .int .i64 m] w (Ret w (.string s)) := by
  go_enter Try.func51, Try.ntmps51
  go_wp2
  go_ret
  exact ⟨rfl, Below.refl _ _⟩
set_option maxRecDepth 100000 in
set_option maxHeartbeats 1000000 in
theorem longer_some (s : ByteArray) (hs0 : 0 < s.size) (hs : s.size ≤ 10) (m : Nat) (hm : 1 ≤ m) (hm2 : m ≤ 20) (w : World) : Calls Try.prog 51 #[.string s, .int .i64 (m : Int)] w (Ret w (.string (bs (lgr s.data.toList m)))) := by
  obtain ⟨i0, hi, hz0, hz1, hz2⟩ := info_parts Try.info5
  have hsl : s.data.toList.length = s.size := by simp
  obtain ⟨v1, w1, hcv, hO1, hS1⟩ := run_bytes (P := Try.prog) w w.heap.size 9 115 5 s Try.underlying9 Try.underlying115 Try.underlying5 (Nat.le_refl _) (by omega)
  have hO1' := hO1
  obtain ⟨g, cap, hv, hg1, hg2, hcap, hcs⟩ := hO1.pos (by rw [List.length_map]; omega)
  rw [List.length_map, hsl] at hv hcap hcs
  subst hv
  obtain ⟨x, hx⟩ : ∃ x : UInt8, s.data.toList.getLastD 0 = x := ⟨_, rfl⟩
  obtain ⟨J, hJ⟩ : ∃ J, J + 1 = s.size := ⟨s.size - 1, by omega⟩
  have hxJ : s.data.toList[J]? = some x := by
    rw [← hx, List.getLastD_eq_getLast?, List.getLast?_eq_getElem?, hsl, show s.size - 1 = J by omega, List.getElem?_eq_getElem (by omega)]
    rfl
  obtain ⟨hcJ, hfJ⟩ := hcs J (by omega)
  have hcJ' : w1.cell? ⟨g, J, none⟩ = some (.int .u8 (x.toNat : Int)) := by
    rw [hcJ, List.getElem?_map, hxJ]
    rfl
  have hor : bits .or .u8 (x.toNat : Int) 128 = ((UInt8.ofNat (x.toNat ||| 128)).toNat : Int) := by
    have := x.toNat_lt
    rw [show (128 : Int) = ((128 : Nat) : Int) from rfl, u8_or_nat _ _ (by omega) (by omega), Bt.ofNat_toNat (Nat.or_lt_two_pow (n := 8) this (by omega))]
  have hJi : (s.size : Int) - 1 = (J : Int) := by omega
  have hcap1 : s.size ≤ cap := hcap
  have HO1 := Lib.hid hO1'
  have HS1 := Lib.hid hS1
  have HST := Lib.hid (HO1.out.stored' J (by rw [List.length_map]; omega) (bv (UInt8.ofNat (x.toNat ||| 128))))
  have HSS := Lib.hid (HS1.out.setCell (g := g) (n := s.size) (cap := cap) J (bv (UInt8.ofNat (x.toNat ||| 128))))
  have hset : (s.data.toList.map bv).set J (bv (UInt8.ofNat (x.toNat ||| 128))) = (s.data.toList.dropLast ++ [UInt8.ofNat (x.toNat ||| 128)]).map bv := by
    rw [bvset, show J = s.data.toList.length - 1 by omega, set_last _ _ (by intro e; rw [e] at hsl; simp at hsl; omega)]
  rw [hset] at HST
  have HLG : Hid (lgr s.data.toList m = s.data.toList.dropLast ++ [UInt8.ofNat (x.toNat ||| 128)] ++ List.replicate (m - 1) 128 ++ [0]) := Lib.hid (by unfold lgr; rw [if_neg (by omega), hx])
  have hdl : (s.data.toList.dropLast ++ [UInt8.ofNat (x.toNat ||| 128)]).length ≤ 10 := by rw [List.length_append, List.length_dropLast, List.length_singleton]; omega
  unfold bv at HST HSS
  clear hO1 hO1' hS1 hcs hcJ hset hxJ hx hsl
  generalize s.data.toList.dropLast ++ [UInt8.ofNat (x.toNat ||| 128)] = pre0 at *
  generalize ((UInt8.ofNat (x.toNat ||| 128)).toNat : Int) = Y at *
  generalize (x.toNat : Int) = X at *
  go_enter Try.func51, Try.ntmps51
  go_wp2
  go_loopw [5, 6] (fun u i wr => ∃ q : Nat, i = .int .i64 (q : Int) ∧ 1 ≤ q ∧ q ≤ m ∧ Hid (Own wr w.heap.size u ((pre0 ++ List.replicate (q - 1) 128).map bv)) ∧ Hid (Step w wr (.slice none 0 0) u)) (fun _ i _ => m - (intOf i).toNat)
  case atStart =>
    refine ⟨1, rfl, by omega, by omega, Lib.hid ?_, HSS⟩
    rw [show 1 - 1 = 0 from rfl, List.replicate_zero, List.append_nil]
    exact HST.out
  case round =>
    obtain ⟨q, rfl, hq1, hq, HO, HS⟩ := hrel
    have hql : ((pre0 ++ List.replicate (q - 1) 128).map bv).length ≤ 50 := by rw [List.length_map, List.length_append, List.length_replicate]; omega
    have HBW : Hid (w.heap.size ≤ wr.heap.size) := Lib.hid HS.out.grown.size
    by_cases hlt : q < m
    · have HRQ : Hid (List.replicate (q + 1 - 1) (128 : UInt8) = List.replicate (q - 1) 128 ++ [128]) := Lib.hid (by
        obtain ⟨z, rfl⟩ : ∃ z, q = z + 1 := ⟨q - 1, by omega⟩
        show List.replicate (z + 1) (128 : UInt8) = List.replicate z 128 ++ [128]
        rw [List.replicate_succ'])
      go_wp2_with (at_builtin; refine wpList_append_Own _ rfl (.tmp 29) (.tmp 30) 115 115 rfl w.heap.size 5 i0 (.int .u8 0) 1 Try.underlying115 hi hz0 hz1 hz2 rfl u5 ((pre0 ++ List.replicate (q - 1) 128).map bv) rfl (HO.out.alloc _) _ 1 _ rfl (Src.one wr Try.underlying115 _ _ rfl) ?c1 ?c2 ?c3 ?_; rotate_right; intro v' w2 hown1 hgr hwh; have HO2 := Lib.hid hown1; have HG := Lib.hid hgr; have HH := Lib.hid hwh; clear hown1 hgr hwh)
      case c1 => omega
      case c2 => omega
      case c3 => exact Nat.le_trans HBW.out (by simp)
      go_roundw
      case rel =>
        refine ⟨q + 1, by go_num, by omega, by omega, Lib.hid ?_, Lib.hid ((HS.out.alloc _).trans ⟨HG.out, HH.out⟩)⟩
        rw [HRQ.out, ← List.append_assoc]
        exact own_snoc rfl HO2.out
      case measure => simp [intOf]; omega
    · obtain rfl : q = m := by omega
      have hcv := fun v' w2 (h : Own w2 w.heap.size v' ((pre0 ++ List.replicate (q - 1) 128 ++ [0]).map bv)) => run_string_Own w2 w.heap.size 115 9 5 v' _ h Try.underlying115 Try.underlying5 Try.underlying9
      have HCV := Lib.hid hcv
      clear hcv
      go_wp2_with (at_builtin; refine wpList_append_Own _ rfl (.tmp 32) (.tmp 33) 115 115 rfl w.heap.size 5 i0 (.int .u8 0) 1 Try.underlying115 hi hz0 hz1 hz2 rfl u5 ((pre0 ++ List.replicate (q - 1) 128).map bv) rfl (HO.out.alloc _) _ 1 _ rfl (Src.one wr Try.underlying115 _ _ rfl) ?c1 ?c2 ?c3 ?_; rotate_right; intro v' w2 hown1 hgr hwh; have HO2 := Lib.hid (own_snoc (c := 0) rfl hown1); have HG := Lib.hid hgr; have HH := Lib.hid hwh; have hrn := HCV.out v' w2 HO2.out; clear hown1 hgr hwh)
      case c1 => omega
      case c2 => omega
      case c3 => exact Nat.le_trans HBW.out (by simp)
      go_ret
      refine ⟨?_, ((HS.out.alloc _).trans ⟨HG.out, HH.out⟩).below (Nat.le_refl _) (fun k hk => by cases hk)⟩
      rw [HLG.out, List.append_assoc]
      rfl
end Go.Proofs.Ytbckkfoenembmaa
