/- put: near copies. -/
import Derived.Test.YtnnogjojoeajnaaPr
namespace Go.Proofs.Ytnnogjojoeajnaa
open Go.RowKit
theorem src_two {P : Program} {W : World} {B : Nat} {u u' : Value} {tx e' : TypeId} (hk : P.underlying tx = some (.slice e')) (hc : W.cell? ⟨B, 0, none⟩ = some u) (hc' : W.cell? ⟨B, 1, none⟩ = some u') (h1 : u.oneCell' = true) (h2 : u'.oneCell' = true) : Src P 1 tx (.slice (some ⟨B, 0, none⟩) 2 2) 2 [u, u'] W :=
  Src.ofSlice _ hk ⟨B, 0, none⟩ 2 2 [u, u'] rfl (fun j v hj => by
    have hlt : j < 2 := by have := (List.getElem?_eq_some_iff.1 hj).1; simpa using this
    have hadd : (⟨B, 0, none⟩ : Addr).add j = ⟨B, j, none⟩ := by unfold Addr.add; simp <;> omega
    rw [hadd]
    match j, hlt, hj with
    | 0, _, hj => simp at hj; subst hj; exact hc
    | 1, _, hj => simp at hj; subst hj; exact hc') (fun v hv => by
      simp at hv
      rcases hv with rfl | rfl
      · exact h1
      · exact h2)
theorem cell_pair0 (w : World) (o : Obj) (u u' : Value) (e : TypeId) : ((w.alloc o).alloc (.cells #[u, u'] e)).cell? ⟨w.heap.size + 1, 0, none⟩ = some u := by
  have := World.cell?_alloc_mark (w.alloc o) #[u, u'] e (0, 0) 0
  rw [World.size_alloc] at this
  exact this
theorem cell_pair1 (w : World) (o : Obj) (u u' : Value) (e : TypeId) : ((w.alloc o).alloc (.cells #[u, u'] e)).cell? ⟨w.heap.size + 1, 1, none⟩ = some u' := by
  have := World.cell?_alloc_mark (w.alloc o) #[u, u'] e (0, 0) 1
  rw [World.size_alloc] at this
  exact this
theorem near_codes {o L : Nat} (ho : o < 2048) (hL : L ≤ 7) : [Value.int .u8 (bits .or .i64 (bits .or .i64 ((o : Int) / 256 * 32) ((L : Int) * 4)) 1 % 256), Value.int .u8 ((o : Int) % 256)] = [UInt8.ofNat (o / 256 * 32 + L * 4 + 1), UInt8.ofNat o].map bv := by
  have e1 : bits .or .i64 ((o : Int) / 256 * 32) ((L : Int) * 4) = ((o / 256 * 32 + L * 4 : Nat) : Int) := by
    rw [show ((o : Int) / 256 * 32) = ((o / 256 * 32 : Nat) : Int) from by omega, show ((L : Int) * 4) = ((L * 4 : Nat) : Int) from by omega, i64_or_nat _ _ (by omega) (by omega), nat_join 5 (o / 256 * 32) (L * 4) (by omega) (by omega)]
  have e2 : bits .or .i64 ((o / 256 * 32 + L * 4 : Nat) : Int) 1 = ((o / 256 * 32 + L * 4 + 1 : Nat) : Int) := by
    rw [show (1 : Int) = ((1 : Nat) : Int) from rfl, i64_or_nat _ _ (by omega) (by omega), nat_join 2 (o / 256 * 32 + L * 4) 1 (by omega) (by omega)]
  rw [e1, e2]
  show _ = [bv (UInt8.ofNat (o / 256 * 32 + L * 4 + 1)), bv (UInt8.ofNat o)]
  rw [← bv_ofNat (Bt.wrap8 (o / 256 * 32 + L * 4 + 1)), ← bv_ofNat (Bt.wrap8 o)]
  rfl
set_option maxRecDepth 100000 in
set_option maxHeartbeats 1000000 in
theorem near_in (o l L : Nat) (hlL : l = L + 4) (hL : L ≤ 7) (ho : o < 2048) (R : List UInt8) (hR : R = [UInt8.ofNat (o / 256 * 32 + L * 4 + 1), UInt8.ofNat o]) (base : Nat) (v : Value) (xs : List UInt8) (w : World) (hown : Own w base v (xs.map bv)) (hb : base ≤ w.heap.size) (hl : xs.length ≤ 1000000000000) :
   Calls Try.prog 42 #[v, .agg #[.bool true, .string ⟨#[]⟩, .int .i64 o, .int .i64 l]] w (OwnRet w base v (xs ++ R)) := by
  have HR := Lib.hid hR
  clear hR
  obtain ⟨i0, hi, hz0, hz1, hz2⟩ := info_parts Try.info5
  have HO := Lib.hid hown
  clear hown
  have hlen : (xs.map bv).length = xs.length := by simp
  have hli : (l : Int) - 4 = (L : Int) := by omega
  have h4 : 4 ≤ (l : Int) := by omega
  have h11 : (l : Int) ≤ 11 := by omega
  have HLI := Lib.hid hli
  have HHL := Lib.hid hlL
  clear hlL
  have HX := Lib.hid (Box.new w ⟨true, ⟨#[]⟩, o, l⟩)
  have hoi : (o : Int) < 2048 := by omega
  have ho0 : 0 ≤ (o : Int) := by omega
  have HOO := Lib.hid ho
  clear ho
  obtain ⟨O, hO⟩ : ∃ O : Int, O = (o : Int) := ⟨_, rfl⟩
  rw [← hO] at hoi ho0 HX ⊢
  have HOE := Lib.hid hO
  clear hO
  obtain ⟨p0, p1, p2, p3, -, -, -, -⟩ := HX.out.cells
  dsimp only at p0 p1 p2 p3
  go_enter Try.func42, Try.ntmps42
  go_wp2_with (at_builtin; refine wpList_append_Own _ rfl (.tmp 43) (.tmp 58) 28 28 rfl base 5 i0 (.int .u8 0) 1 Try.underlying28 hi hz0 hz1 hz2 rfl v (xs.map bv) rfl ((HO.out.alloc _).alloc _) _ 2 _ rfl (by exact src_two Try.underlying28 (cell_pair0 _ _ _ _ _) (cell_pair1 _ _ _ _ _) rfl rfl) ?c1 ?c2 ?c3 ?_; rotate_right; intro v' w1 hown1 hgr hwh; have HO1 := Lib.hid hown1; have HG := Lib.hid hgr; have HH := Lib.hid hwh; clear hown1 hgr hwh)
  case c1 => omega
  case c2 => omega
  case c3 => omega
  go_wp2
  go_ret
  refine ⟨v', rfl, ?_, ((Step.refl w v).alloc _).alloc _ |>.trans ⟨HG.out, HH.out⟩⟩
  have h := HO1.out
  rw [HOE.out, near_codes HOO.out hL, ← List.map_append, ← HR.out] at h
  exact h
end Go.Proofs.Ytnnogjojoeajnaa
