/- The law's 'given': parts of the program's. -/
import Derived.Test.YtnnogjojoeajnaaAr
import Derived.Test.YtnnogjojoeajnaaPs
namespace Go.Proofs.Ytnnogjojoeajnaa
open Go.RowKit
theorem given_step {w wr w1 : World} {l : List Pt} {k L : Nat} {P : Pt} {u v' : Value} {o : Obj} (HTK : Hid (l.take (k + 1) = l.take k ++ [P])) (HL : Hid (l.length = L)) (hlt : k < L) (HB : Hid (Below w.heap.size w wr))
    (HOW : Hid (wr.ownsRow w.heap.size 35 4 u k (cells4 (l.take k)))) (HWN : Hid (w1.ownsRow w.heap.size 35 4 v' (k + 1) (cells4 (l.take k) ++ [.bool P.c, .string P.t, .int .i64 P.o, .int .i64 P.l]))) (HGR : Hid ((wr.alloc o).drew.grownBy w1 u.ownBlock)) :
    (∃ k_1 : Nat, Value.int .i64 ((k : Int) + 1) = Value.int .i64 (k_1 : Int) ∧ k_1 ≤ L ∧ Hid (Ol w1 w.heap.size v' (l.take k_1)) ∧ Hid (Below w.heap.size w w1)) ∧
    L - (intOf (Value.int .i64 ((k : Int) + 1))).toNat < L - (intOf (Value.int .i64 (k : Int))).toNat := by
  have hl := HL.out
  have hbs := HB.out.size
  refine ⟨⟨k + 1, by go_num, by omega, Lib.hid ?_, Lib.hid ?_⟩, by simp [intOf]; omega⟩
  · unfold Ol
    have hk : (l.take (k + 1)).length = k + 1 := by rw [List.length_take]; omega
    rw [hk, HTK.out, cells4_append]
    exact HWN.out
  · exact (HB.out.alloc hbs o).drew.grown HGR.out (Nat.le_trans hbs (by simp)) (fun g hg => (own_lt HOW.out g hg).1)
set_option maxRecDepth 100000 in
set_option maxHeartbeats 2000000 in
theorem given_any (l : List Pt) (hl : l.length ≤ 1000000) (v : Value) (w : World) (hv : ArgAt w v l) :
    Calls Try.prog 26 #[v] w fun e w' => ∃ v', e = .returned v' ∧ Ol w' w.heap.size v' l ∧ Below w.heap.size w w' := by
  have HV := Lib.hid hv
  obtain ⟨va, vc, hv2⟩ := hv.slice
  clear hv
  obtain ⟨i0, hi, hz0, hz1, hz2⟩ := info_parts Try.info35
  generalize hL : l.length = L at *
  have HL := Lib.hid hL
  clear hL
  subst hv2
  go_enter Try.func26, Try.ntmps26
  go_wp2
  go_loopw [3, 4] (fun u i wr => ∃ (k : Nat), i = .int .i64 (k : Int) ∧ k ≤ L ∧ Hid (Ol wr w.heap.size u (l.take k)) ∧ Hid (Below w.heap.size w wr)) (fun _ i _ => L - (intOf i).toNat)
  case atStart => exact ⟨0, rfl, by omega, Lib.hid (World.ownsRow_nil _ _ _ _), Lib.hid (Below.refl _ _)⟩
  case round =>
    obtain ⟨k, rfl, hk, HO, HB⟩ := hrel
    by_cases hlt : k < L
    · have hkl : k < l.length := by have := HL.out; omega
      rcases (HV.out.below HB.out rfl) with ⟨h0, _⟩ | ⟨g, o, c, hg, hcs⟩
      · have := HL.out; rw [h0] at this; simp at this; omega
      obtain ⟨q0, q1, q2, q3⟩ := hcs k hkl
      clear hcs
      have HTK : Hid (l.take (k + 1) = l.take k ++ [l[k]]) := Lib.hid (List.take_succ_eq_append_getElem hkl)
      have htl : (l.take k).length = k := by rw [List.length_take]; omega
      obtain ⟨ua, uc, hu⟩ := Ol_shape HO.out
      rw [htl] at hu
      subst hu
      generalize l[k] = P at *
      obtain ⟨pc, pt, po, pl⟩ := P
      dsimp only at q0 q1 q2 q3
      cases hg
      have hbs := HB.out.size
      have hown : wr.ownsRow w.heap.size 35 4 (.slice ua k uc) k (cells4 (l.take k)) := by
        have h := HO.out
        unfold Ol at h
        rw [htl] at h
        exact h
      have HOW := Lib.hid hown
      clear hown htl
      go_wp2
      go_region_law (first
        | (refine step_append_at rfl (.tmp 11) (.tmp 33) 30 rfl w.heap.size 35 i0 _ 4 40 Try.underlying30 hi hz0 hz1 hz2 (by rfl) (by decide) (.slice ua k uc) k (cells4 (l.take k)) rfl (HOW.out.alloc _) ⟨wr.heap.size, 0, none⟩ 1 1 [.bool pc, .string pt, .int .i64 po, .int .i64 pl] rfl rfl (cells_new4 _ _ _ _ _ _) (by simp [Value.oneCell']) (by unfold maxLen; omega) (by omega) (Nat.le_trans hbs (by simp)) ?_; intro v' w1 hown' hgrow hloc; have HWN := Lib.hid hown'; have HGR := Lib.hid hgrow; clear hown' hgrow hloc)
        | fail)
      all_goals
        go_wp2
        exact given_step HTK (Lib.hid rfl) (by omega) HB HOW HWN HGR
    · obtain rfl : k = L := by omega
      have hown := HO.out
      rw [List.take_of_length_le (by have := HL.out; omega)] at hown
      have HON := Lib.hid hown
      clear hown
      go_wp2
      go_ret
      exact ⟨_, rfl, HON.out, HB.out⟩
end Go.Proofs.Ytnnogjojoeajnaa
