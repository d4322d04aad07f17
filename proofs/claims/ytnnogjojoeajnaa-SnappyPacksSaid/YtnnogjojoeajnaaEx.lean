/- The contract of Expand. -/
import Derived.Test.YtnnogjojoeajnaaGr
import Derived.Test.YtnnogjojoeajnaaDf
namespace Go.Proofs.Ytnnogjojoeajnaa
open Go.RowKit
/-- A slice of parts, read in memory. -/
def PartsAt (W : World) (v : Value) (l : List Pt) : Prop :=
  (l = [] ∧ ∃ c, v = .slice none 0 c) ∨ ∃ g c, v = .slice (some ⟨g, 0, none⟩) l.length c ∧ ∀ j (h : j < l.length), W.cell? ⟨g, j * 4, none⟩ = some (.bool l[j].c) ∧ W.cell? ⟨g, j * 4 + 1, none⟩ = some (.string l[j].t) ∧ W.cell? ⟨g, j * 4 + 2, none⟩ = some (.int .i64 l[j].o) ∧ W.cell? ⟨g, j * 4 + 3, none⟩ = some (.int .i64 l[j].l)
theorem PartsAt.below {W W' : World} {v : Value} {l : List Pt} (h : PartsAt W v l) {n : Nat} (hb : Below n W W') (hn : n = W.heap.size) : PartsAt W' v l := by
  subst hn
  rcases h with h | ⟨g, c, rfl, h⟩
  · exact .inl h
  · refine .inr ⟨g, c, rfl, fun j hj => ?_⟩
    have hlt := World.block_lt_of_cell? W ⟨g, j * 4, none⟩ (h j hj).1
    have e : ∀ o, W'.cell? ⟨g, o, none⟩ = W.cell? ⟨g, o, none⟩ := fun o => World.cell?_of_block (a := ⟨g, o, none⟩) (hb.block g hlt)
    rw [e, e, e, e]
    exact h j hj
theorem PartsAt.slice {W : World} {v : Value} {l : List Pt} (h : PartsAt W v l) : ∃ a c, v = .slice a l.length c := by
  rcases h with ⟨rfl, c, rfl⟩ | ⟨g, c, rfl, _⟩
  · exact ⟨_, _, rfl⟩
  · exact ⟨_, _, rfl⟩
/-- What parts stand for behind bytes, if that is at most so many bytes. -/
def expand (most : Int) : List Pt → List UInt8 → List UInt8 × Int
  | [], b => (b, 0)
  | p :: r, b => if (!may p || !here p b.length) = true then ([], 4) else if most < b.length + cnt p then ([], 40) else expand most r (gro b p)
theorem may_fits {p : Pt} {n : Nat} (hp : p.ok) (hm : may p = true) (hh : here p n = true) : Fits p n ∧ 0 ≤ p.l ∧ p.t.size ≤ 65536 ∧ 0 ≤ cnt p ∧ cnt p ≤ 65536 := by
  obtain ⟨c, t, o, l⟩ := p
  unfold may at hm
  unfold here at hh
  unfold cnt
  cases c
  · simp only [Bool.false_eq_true, if_false, Bool.and_eq_true, decide_eq_true_eq] at hm
    exact ⟨⟨hp, fun h => by cases h⟩, by dsimp only; omega, by dsimp only; omega, by simp, by simp; omega⟩
  · simp only [if_true, Bool.and_eq_true, decide_eq_true_eq, beq_iff_eq, Bool.not_true, Bool.false_or] at hm hh
    exact ⟨⟨hp, fun _ => ⟨by dsimp only; omega, by dsimp only; omega, by dsimp only; omega, by dsimp only; omega⟩⟩, by dsimp only; omega, by dsimp only; omega, by simp; omega, by simp; omega⟩
set_option maxRecDepth 100000 in
set_option maxHeartbeats 2000000 in
theorem expand_any (l : List Pt) (hl : l.length ≤ 1000000) (hok : ∀ p ∈ l, p.ok) (most : Int) (hm1 : -9223372036854775808 ≤ most) (hm2 : most ≤ 9223372036854775807) (v : Value) (w : World) (hv : PartsAt w v l) :
    Calls Try.prog 17 #[v, .int .i64 most] w (Told w (expand most l [])) := by
  have HV := Lib.hid hv
  have HOK := Lib.hid hok
  obtain ⟨va, vc, hv2⟩ := hv.slice
  clear hv hok
  generalize hL : l.length = L at *
  have HL := Lib.hid hL
  clear hL
  subst hv2
  go_enter Try.func17, Try.ntmps17
  go_wp2
  go_loopw [6, 11] (fun u i wr => ∃ (k : Nat) (b : List UInt8), i = .int .i64 (k : Int) ∧ k ≤ L ∧ Hid (b.length ≤ 65536 * k) ∧ Hid (Own wr w.heap.size u (b.map bv)) ∧ Hid (expand most (l.drop k) b = expand most l []) ∧ Hid (Below w.heap.size w wr)) (fun _ i _ => L - (intOf i).toNat)
  case atStart => exact ⟨0, [], rfl, by omega, Lib.hid (by simp), Lib.hid (Own.nil _ _), Lib.hid rfl, Lib.hid (Below.refl _ _)⟩
  case round =>
    obtain ⟨k, b, rfl, hk, HB, HW, HE, HBL⟩ := hrel
    by_cases hlt : k < L
    · rcases (HV.out.below HBL.out rfl) with ⟨h0, _⟩ | ⟨g, c, hg, hcs⟩
      · have := HL.out; rw [h0] at this; simp at this; omega
      · have hkl : k < l.length := by have := HL.out; omega
        obtain ⟨q0, q1, q2, q3⟩ := hcs k hkl
        clear hcs
        have hdr : l.drop k = l[k] :: l.drop (k + 1) := List.drop_eq_getElem_cons hkl
        have hpok := HOK.out l[k] (List.getElem_mem hkl)
        have hrun := HE.out
        rw [hdr, expand] at hrun
        generalize l[k] = P at *
        have HRN := Lib.hid hrun
        have HPO := Lib.hid hpok
        clear hdr hrun hpok
        cases hg
        obtain ⟨pc, pt, po, pl⟩ := P
        dsimp only at q0 q1 q2 q3
        have hbl : (b.length : Int) ≤ 70000000000 := by have := HB.out; omega
        obtain ⟨ua, uc, hu⟩ := HW.out.shape
        have hub : (b.map bv).length = b.length := by simp
        rw [hub] at hu
        subst hu
        go_wp2_with fail
        refine (mayBe_any ⟨pc, pt, po, pl⟩ HPO.out _).mono ?_
        rintro e w2 ⟨rfl, hb2⟩
        have HX2 : Hid (Box w2 wr.heap.size ⟨pc, pt, po, pl⟩) := Lib.hid ((Box.new wr ⟨pc, pt, po, pl⟩).same (hb2.block _ (by simp)))
        have HB2 : Hid (Below wr.heap.size wr w2) := Lib.hid (((Below.refl _ wr).alloc (Nat.le_refl _) _).trans (hb2.mono (by simp)))
        clear hb2
        have HOW2 := Lib.hid (HW.out.below HB2.out (fun j hj => (HW.out.lt j hj).2))
        obtain ⟨p0, p1, p2, p3, -, -, -, -⟩ := HX2.out.cells
        dsimp only at p0 p1 p2 p3
        have HBT := Lib.hid (HBL.out.trans (HB2.out.mono HBL.out.size))
        cases hmay : may ⟨pc, pt, po, pl⟩ with
        | false =>
          have HR : Hid (([], (4 : Int)) = expand most l []) := Lib.hid (by rw [← HRN.out, hmay]; rfl)
          have HMM := Lib.hid hmay
          clear hmay
          go_wp2
          go_ret2
          rw [← HR.out]
          exact ⟨rfl, HBT.out⟩
        | true =>
          have HMM := Lib.hid hmay
          clear hmay
          go_wp2_with fail
          refine (isHere_any ⟨pc, pt, po, pl⟩ _ _).mono ?_
          rintro e w3 ⟨rfl, hb3⟩
          have HX3 : Hid (Box w3 wr.heap.size ⟨pc, pt, po, pl⟩) := Lib.hid (HX2.out.same (hb3.block _ HX2.out.lt))
          have HB3 : Hid (Below wr.heap.size wr w3) := Lib.hid (HB2.out.trans (hb3.mono HB2.out.size))
          clear hb3 p0 p1 p2 p3
          obtain ⟨p0, p1, p2, p3, -, -, -, -⟩ := HX3.out.cells
          dsimp only at p0 p1 p2 p3
          have HBT3 := Lib.hid (HBL.out.trans (HB3.out.mono HBL.out.size))
          cases hhere : here ⟨pc, pt, po, pl⟩ b.length with
          | false =>
            have HR : Hid (([], (4 : Int)) = expand most l []) := Lib.hid (by rw [← HRN.out, HMM.out, hhere]; rfl)
            clear hhere
            go_wp2
            go_ret2
            rw [← HR.out]
            exact ⟨rfl, HBT3.out⟩
          | true =>
            obtain ⟨hfit, hl0, ht, hc0, hc1⟩ := may_fits HPO.out HMM.out hhere
            have HRN2 : Hid ((if most < (b.length : Int) + cnt ⟨pc, pt, po, pl⟩ then ([], (40 : Int)) else expand most (l.drop (k + 1)) (gro b ⟨pc, pt, po, pl⟩)) = expand most l []) := Lib.hid (by
              have := HRN.out
              rw [HMM.out, hhere, if_neg (by simp)] at this
              exact this)
            have HFIT := Lib.hid hfit
            clear hhere hfit
            dsimp only at ht hl0
            go_wp2_with fail
            refine (count_any ⟨pc, pt, po, pl⟩ _).mono ?_
            rintro e w4 ⟨rfl, hb4⟩
            have HX4 : Hid (Box w4 wr.heap.size ⟨pc, pt, po, pl⟩) := Lib.hid (HX3.out.same (hb4.block _ HX3.out.lt))
            have HB4 : Hid (Below wr.heap.size wr w4) := Lib.hid (HB3.out.trans (hb4.mono HB3.out.size))
            clear hb4 p0 p1 p2 p3
            obtain ⟨p0, p1, p2, p3, -, -, -, -⟩ := HX4.out.cells
            dsimp only at p0 p1 p2 p3
            have HBT4 := Lib.hid (HBL.out.trans (HB4.out.mono HBL.out.size))
            have HOW4 := Lib.hid (HW.out.below HB4.out (fun j hj => (HW.out.lt j hj).2))
            have HGL := Lib.hid (gro_length b ⟨pc, pt, po, pl⟩ hl0)
            have hb4s : w.heap.size ≤ w4.heap.size := HBT4.out.size
            have HG := Lib.hid (grow_any ⟨pc, pt, po, pl⟩ w.heap.size _ b w4 HFIT.out HOW4.out hb4s (by dsimp only; omega))
            generalize cnt ⟨pc, pt, po, pl⟩ = C at *
            by_cases hbig : most < (b.length : Int) + C
            · have HR : Hid (([], (40 : Int)) = expand most l []) := Lib.hid (by rw [← HRN2.out, if_pos hbig])
              go_wp2
              go_ret2
              rw [← HR.out]
              exact ⟨rfl, HBT4.out⟩
            · have hbig2 : (b.length : Int) + C ≤ most := by omega
              have HR : Hid (expand most (l.drop (k + 1)) (gro b ⟨pc, pt, po, pl⟩) = expand most l []) := Lib.hid (by rw [← HRN2.out, if_neg hbig])
              clear hbig
              go_wp2_with (go_at_call 36; refine HG.out.mono ?_; rintro e w5 ⟨v5, rfl, ho5, hs5⟩; have HO5 := Lib.hid ho5; have HS5 := Lib.hid hs5; clear ho5 hs5)
              go_roundw
              case rel =>
                refine ⟨k + 1, gro b ⟨pc, pt, po, pl⟩, by go_num, by omega, Lib.hid ?_, HO5, HR, Lib.hid (HBT4.out.grown HS5.out.grown hb4s (fun j e => (HOW4.out.lt j e).1))⟩
                have h1 := HGL.out
                have h2 := HB.out
                omega
              case measure => simp [intOf]; omega
    · obtain rfl : k = L := by omega
      have hrun := HE.out
      rw [← HL.out, List.drop_length, expand] at hrun
      have HRN := Lib.hid hrun
      clear hrun
      have hr := run_string_Own wr w.heap.size 28 9 5 _ b HW.out Try.underlying28 Try.underlying5 Try.underlying9
      go_wp2
      go_ret2
      rw [← HRN.out]
      exact ⟨rfl, HBL.out⟩
end Go.Proofs.Ytnnogjojoeajnaa
