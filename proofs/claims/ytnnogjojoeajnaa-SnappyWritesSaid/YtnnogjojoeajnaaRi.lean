/- The contract of the document's Write. -/
import Derived.Test.YtnnogjojoeajnaaRh
import Derived.Test.YtnnogjojoeajnaaWr
namespace Go.Proofs.Ytnnogjojoeajnaa
open Go.RowKit
set_option maxRecDepth 100000 in
set_option maxHeartbeats 2000000 in
theorem rwrite_any (l : List Pt) (hl : l.length ≤ 1000000) (hok : ∀ p ∈ l, p.ok) (v : Value) (w : World) (hv : ArgAt w v l) :
    Calls Try.prog 28 #[v] w (Told w (write l)) := by
  have HE := Lib.hid (rexpand_any l hl hok 65536 (by omega) (by omega) v w hv)
  have HV := Lib.hid hv
  obtain ⟨va, vc, hv2⟩ := hv.slice
  unfold write
  obtain ⟨out, er, hr⟩ : ∃ out er, expand 65536 l [] = (out, er) := ⟨_, _, rfl⟩
  rw [hr] at HE ⊢
  dsimp only at HE ⊢
  clear hv hok
  generalize hL : l.length = L at *
  have HL := Lib.hid hL
  clear hL
  subst hv2
  by_cases he : er = 0
  · subst he
    rw [if_neg (by simp)]
    have HM := Lib.hid (expand_may hr)
    have hlen : out.length ≤ 65536 := by
      rcases (expand_grows hr).2 with h | h
      · omega
      · subst h
        rw [expand] at hr
        simp only [Prod.mk.injEq, and_true] at hr
        rw [← hr]
        simp
    clear hr
    have hbl : (bs out).size = out.length := rfl
    have HLN := Lib.hid hlen
    have HVL : Hid ((Bt.vint out.length).length ≤ 10) := Lib.hid (by rw [Bt.vint_length]; exact Bt.vlen_u64 (by omega))
    have hi64 : ((out.length : Nat) : Int) ≤ 65536 := by omega
    have hi0 : 0 ≤ ((out.length : Nat) : Int) := by omega
    have hwu : IntKind.u64.wrap (out.length : Int) = (out.length : Int) := by rw [IntKind.wrap_u64]; omega
    have HVT := Lib.hid (fun W => rvint out.length W (by omega))
    clear hlen
    go_enter Try.func28, Try.ntmps28
    go_wp2_with fail
    refine HE.out.mono ?_
    rintro e w1 ⟨rfl, hb1⟩
    have HB1 := Lib.hid hb1
    clear hb1
    go_wp2_with fail
    refine (HVT.out _).mono ?_
    rintro e w2 ⟨rfl, hb2⟩
    have HB2 : Hid (Below w.heap.size w w2) := Lib.hid (HB1.out.trans (hb2.mono HB1.out.size))
    clear hb2
    go_wp2
    go_loopw [6, 7] (fun u i wr => ∃ (k : Nat) (b : List UInt8), u = .string (bs b) ∧ i = .int .i64 (k : Int) ∧ k ≤ L ∧ Hid (b.length ≤ 10 + 65541 * k) ∧ Hid (b = Bt.vint out.length ++ (l.take k).flatMap wrt) ∧ Hid (Below w.heap.size w wr)) (fun _ i _ => L - (intOf i).toNat)
    case atStart => exact ⟨0, _, rfl, rfl, by omega, Lib.hid (by have := HVL.out; omega), Lib.hid (by simp), HB2⟩
    case round =>
      obtain ⟨k, b, rfl, rfl, hk, HB, HX, HBL⟩ := hrel
      by_cases hlt : k < L
      · rcases (HV.out.below HBL.out rfl) with ⟨h0, _⟩ | ⟨g, og, c, hg, hcs⟩
        · have := HL.out; rw [h0] at this; simp at this; omega
        · have hkl : k < l.length := by have := HL.out; omega
          obtain ⟨q0, q1, q2, q3⟩ := hcs k hkl
          clear hcs
          have HTK := Lib.hid (take_flat hkl)
          have hmy := HM.out l[k] (List.getElem_mem hkl)
          have HWL := Lib.hid (wrt_length hmy)
          have HON := Lib.hid (fun W => one_any l[k] hmy W)
          clear hmy
          generalize l[k] = P at *
          cases hg
          have hbs : (bs b).size = b.length := rfl
          have hbl2 : b.length ≤ 70000000000 := by have := HB.out; omega
          have hws : (bs (wrt P)).size = (wrt P).length := rfl
          have hwl : (wrt P).length ≤ 65541 := HWL.out
          have HAP : Hid (bs b ++ bs (wrt P) = bs (b ++ wrt P)) := Lib.hid (bs_append _ _)
          have hbi : (b.length : Int) ≤ 70000000000 := by omega
          have hwi : ((wrt P).length : Int) ≤ 65541 := by omega
          obtain ⟨pc, pt, po, pl⟩ := P
          dsimp only at q0 q1 q2 q3
          generalize wrt ⟨pc, pt, po, pl⟩ = X at *
          unfold pv at HON
          dsimp only at HON
          go_wp2_with (go_at_call 51; refine (HON.out _).mono ?_; rintro e w5 ⟨rfl, hb5⟩; have HB5 := Lib.hid (HBL.out.trans (hb5.mono HBL.out.size)); clear hb5)
          go_roundw
          case rel =>
            refine ⟨k + 1, b ++ X, by rw [HAP.out], by go_num, by omega, Lib.hid ?_, Lib.hid ?_, HB5⟩
            · have h1 := HWL.out
              have h2 := HB.out
              rw [List.length_append]
              omega
            · rw [HTK.out, ← List.append_assoc, ← HX.out]
          case measure => simp [intOf]; omega
      · obtain rfl : k = L := by omega
        have hrun := HX.out
        rw [List.take_of_length_le (by have := HL.out; omega)] at hrun
        have HRN := Lib.hid hrun
        clear hrun
        go_wp2
        go_ret2
        refine ⟨?_, HBL.out⟩
        rw [HRN.out]
        rfl
  · rw [if_pos he]
    have he' : (er != 0) = true := by rw [bne_iff_ne]; exact he
    clear he hr
    go_enter Try.func28, Try.ntmps28
    go_wp2_with fail
    refine HE.out.mono ?_
    rintro e w1 ⟨rfl, hb1⟩
    have HB1 := Lib.hid hb1
    clear hb1
    go_wp2
    go_ret2
    exact ⟨rfl, HB1.out⟩
end Go.Proofs.Ytnnogjojoeajnaa
