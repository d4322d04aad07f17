/- The contract of Write. -/
import Derived.Test.YtnnogjojoeajnaaWm
import Derived.Test.YtnnogjojoeajnaaPv
namespace Go.Proofs.Ytnnogjojoeajnaa
open Go.RowKit
theorem take_flat {l : List Pt} {k : Nat} (h : k < l.length) : (l.take (k + 1)).flatMap wrt = (l.take k).flatMap wrt ++ wrt l[k] := by
  rw [List.take_succ_eq_append_getElem h, List.flatMap_append]
  simp
set_option maxRecDepth 100000 in
set_option maxHeartbeats 2000000 in
theorem write_any (l : List Pt) (hl : l.length ≤ 1000000) (hok : ∀ p ∈ l, p.ok) (v : Value) (w : World) (hv : PartsAt w v l) :
    Calls Try.prog 16 #[v] w (Told w (write l)) := by
  have HE := Lib.hid (expand_any l hl hok 65536 (by omega) (by omega) v w hv)
  have HV := Lib.hid hv
  obtain ⟨va, vc, hv2⟩ := hv.slice
  unfold write
  obtain ⟨out, er, hr⟩ : ∃ out er, expand 65536 l [] = (out, er) := ⟨_, _, rfl⟩
  rw [hr] at HE ⊢
  dsimp only at HE ⊢
  clear hv hok
  generalize hL : l.length = L at *
  have HL := Lib.hid hL
  clear hL
  subst hv2
  by_cases he : er = 0
  · subst he
    rw [if_neg (by simp)]
    have HM := Lib.hid (expand_may hr)
    have hlen : out.length ≤ 65536 := by
      rcases (expand_grows hr).2 with h | h
      · omega
      · subst h
        rw [expand] at hr
        simp only [Prod.mk.injEq, and_true] at hr
        rw [← hr]
        simp
    clear hr
    have hbl : (bs out).size = out.length := rfl
    have HLN := Lib.hid hlen
    have HVL : Hid ((Bt.vint out.length).length ≤ 10) := Lib.hid (by rw [Bt.vint_length]; exact Bt.vlen_u64 (by omega))
    have hi64 : ((out.length : Nat) : Int) ≤ 65536 := by omega
    have hi0 : 0 ≤ ((out.length : Nat) : Int) := by omega
    go_enter Try.func16, Try.ntmps16
    go_wp2_with fail
    refine HE.out.mono ?_
    rintro e w1 ⟨rfl, hb1⟩
    have HB1 := Lib.hid hb1
    clear hb1
    go_wp2_with fail
    refine (put_own out.length (by omega) w.heap.size (.slice none 0 0) [] w1 (Own.nil _ _) HB1.out.size (by simp)).mono ?_
    rintro e w2 ⟨v2, rfl, ho2, hs2⟩
    have HO2 := Lib.hid ho2
    have HB2 : Hid (Below w.heap.size w w2) := Lib.hid (HB1.out.grown hs2.grown HB1.out.size (fun j e => by cases e))
    clear ho2 hs2
    go_wp2
    go_loopw [6, 23] (fun u i wr => ∃ (k : Nat) (b : List UInt8), i = .int .i64 (k : Int) ∧ k ≤ L ∧ Hid (b.length ≤ 10 + 65541 * k) ∧ Hid (Own wr w.heap.size u (b.map bv)) ∧ Hid (b = Bt.vint out.length ++ (l.take k).flatMap wrt) ∧ Hid (Below w.heap.size w wr)) (fun _ i _ => L - (intOf i).toNat)
    case atStart => exact ⟨0, _, rfl, by omega, Lib.hid (by have := HVL.out; rw [List.nil_append]; omega), HO2, Lib.hid (by simp), HB2⟩
    case round =>
      obtain ⟨k, b, rfl, hk, HB, HW, HX, HBL⟩ := hrel
      by_cases hlt : k < L
      · rcases (HV.out.below HBL.out rfl) with ⟨h0, _⟩ | ⟨g, c, hg, hcs⟩
        · have := HL.out; rw [h0] at this; simp at this; omega
        · have hkl : k < l.length := by have := HL.out; omega
          obtain ⟨q0, q1, q2, q3⟩ := hcs k hkl
          clear hcs
          have HTK := Lib.hid (take_flat hkl)
          have hmy := HM.out l[k] (List.getElem_mem hkl)
          have HWL := Lib.hid (wrt_length hmy)
          have HMY := Lib.hid hmy
          clear hmy
          generalize l[k] = P at *
          cases hg
          have hbl : b.length ≤ 70000000000 := by have := HB.out; omega
          have HBB := Lib.hid hbl
          clear hbl
          have HBW := Lib.hid HBL.out.size
          obtain ⟨ua, uc, hu⟩ := HW.out.shape
          have hub : (b.map bv).length = b.length := by simp
          rw [hub] at hu
          subst hu
          obtain ⟨pc, pt, po, pl⟩ := P
          dsimp only at q0 q1 q2 q3
          go_wp2_with (go_at_call 42; refine (putp_own ⟨pc, pt, po, pl⟩ HMY.out w.heap.size _ b _ (HW.out.alloc _) (Nat.le_trans HBW.out (by simp)) (by have := HBB.out; omega)).mono ?_; rintro e w5 ⟨v5, rfl, ho5, hs5⟩; have HO5 := Lib.hid ho5; have HS5 := Lib.hid hs5; clear ho5 hs5)
          go_roundw
          case rel =>
            refine ⟨k + 1, b ++ wrt ⟨pc, pt, po, pl⟩, by go_num, by omega, Lib.hid ?_, HO5, Lib.hid ?_, Lib.hid ((HBL.out.alloc HBL.out.size _).grown HS5.out.grown (Nat.le_trans HBW.out (by simp)) (fun j e => (HW.out.lt j e).1))⟩
            · have h1 := HWL.out
              have h2 := HB.out
              rw [List.length_append]
              omega
            · rw [HTK.out, ← List.append_assoc, ← HX.out]
          case measure => simp [intOf]; omega
      · obtain rfl : k = L := by omega
        have hrun := HX.out
        rw [List.take_of_length_le (by have := HL.out; omega)] at hrun
        have HRN := Lib.hid hrun
        clear hrun
        have hr := run_string_Own wr w.heap.size 28 9 5 _ b HW.out Try.underlying28 Try.underlying5 Try.underlying9
        go_wp2
        go_ret2
        refine ⟨?_, HBL.out⟩
        rw [HRN.out]
        rfl
  · rw [if_pos he]
    have he' : (er != 0) = true := by rw [bne_iff_ne]; exact he
    clear he hr
    go_enter Try.func16, Try.ntmps16
    go_wp2_with fail
    refine HE.out.mono ?_
    rintro e w1 ⟨rfl, hb1⟩
    have HB1 := Lib.hid hb1
    clear hb1
    go_wp2
    go_ret2
    exact ⟨rfl, HB1.out⟩
end Go.Proofs.Ytnnogjojoeajnaa
