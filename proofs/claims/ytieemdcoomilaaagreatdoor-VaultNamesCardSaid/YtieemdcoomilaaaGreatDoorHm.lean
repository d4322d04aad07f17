/- inTurn of a Put's three steps; Put. -/
import Derived.Test.YtieemdcoomilaaaGreatDoorHj
set_option linter.unusedVariables false
set_option linter.unusedSimpArgs false
namespace Go.Proofs.YtieemdcoomilaaaGreatDoor
open Go Go.RowKit
set_option maxRecDepth 100000
/-- What the first k steps of a Put leave, each of them done; s1, s2, s3: what comes of each. -/
def st1 (d : Dk) (t : Nat) : Dk × Nat := doD d t false wi
def st2 (d : Dk) (t : Nat) (s : ByteArray) : Dk × Nat := doD (st1 d t).1 t true (wf (st1 d t).1 s)
def st3 (d : Dk) (t : Nat) (s : ByteArray) : Dk × Nat := doD (st2 d t s).1 t false sy
def stP (d : Dk) (t : Nat) (s : ByteArray) : Dk × Nat := if (st1 d t).2 ≠ 0 then st1 d t else if (st2 d t s).2 ≠ 0 then st2 d t s else st3 d t s
theorem st1_ok {d : Dk} (h : d.ok) (t : Nat) : (st1 d t).1.ok := doD_ok h _ _ (fine_wi h)
theorem st2_ok {d : Dk} (h : d.ok) (t : Nat) (s : ByteArray) : (st2 d t s).1.ok := doD_ok (st1_ok h t) _ _ (fine_wf (st1_ok h t) s)
theorem st3_ok {d : Dk} (h : d.ok) (t : Nat) (s : ByteArray) : (st3 d t s).1.ok := doD_ok (st2_ok h t s) _ _ (fine_sy (st2_ok h t s))
theorem stP_ok {d : Dk} (h : d.ok) (t : Nat) (s : ByteArray) : (stP d t s).1.ok := by
  unfold stP
  split
  · exact st1_ok h t
  · split
    · exact st2_ok h t s
    · exact st3_ok h t s
/-- The three steps, in a list. -/
structure Fs (W : World) (g b1 b2 b3 : Nat) : Prop where
  f0 : W.cell? ⟨g, 0, none⟩ = some (.func (.func 123) #[] #[.pointer (some ⟨b1, 0, none⟩), .pointer (some ⟨b2, 0, none⟩)])
  f1 : W.cell? ⟨g, 1, none⟩ = some (.func (.func 124) #[] #[.pointer (some ⟨b1, 0, none⟩), .pointer (some ⟨b2, 0, none⟩), .pointer (some ⟨b3, 0, none⟩)])
  f2 : W.cell? ⟨g, 2, none⟩ = some (.func (.func 125) #[] #[.pointer (some ⟨b1, 0, none⟩), .pointer (some ⟨b2, 0, none⟩)])
theorem Fs.grown {W W' : World} {g b1 b2 b3 : Nat} (h : Fs W g b1 b2 b3) {r : Option Nat} (hg : W.grownBy W' r) (h1 : some g ≠ r) : Fs W' g b1 b2 b3 :=
  have hb := hg.block _ (World.block_lt_of_cell? W _ h.f0) h1
  ⟨(World.cell?_of_block (a := ⟨g, 0, none⟩) hb).trans h.f0, (World.cell?_of_block (a := ⟨g, 1, none⟩) hb).trans h.f1, (World.cell?_of_block (a := ⟨g, 2, none⟩) hb).trans h.f2⟩
set_option maxHeartbeats 2000000 in
theorem inTurn_any (g b1 b2 b3 B : Nat) (d : Dk) (t : Nat) (s : ByteArray) (w : World) (hf : Fs w g b1 b2 b3) (hk : Kp w b1 b2 b3 B t s) (hB : DAt w B d) (hd : d.ok) (hs : s.size ≤ 9223372036854775807) (n0 : g ≠ B) (n1 : b1 ≠ B) (n2 : b2 ≠ B) (n3 : b3 ≠ B) :
    Calls Tryz.prog 122 #[.slice (some ⟨g, 0, none⟩) 3 3] w (DRet w B (.int .i64 ((stP d t s).2 : Int)) (stP d t s).1) := by
  have e1 := enters43'
  have e2 := enters45'
  have e3 := enters47'
  have H1 := Lib.hid (fun W hk' hB' => put1_any b1 b2 b3 B d t s W hk' hB' hd)
  have H2 := Lib.hid (fun W hk' hB' => put2_any b1 b2 b3 B (st1 d t).1 t s W hk' hB' (st1_ok hd t) hs)
  have H3 := Lib.hid (fun W hk' hB' => put3_any b1 b2 b3 B (st2 d t s).1 t s W hk' hB' (st2_ok hd t s))
  have g1 : doD d t false wi = st1 d t := rfl
  have g2 : doD (st1 d t).1 t true (wf (st1 d t).1 s) = st2 d t s := rfl
  have g3 : doD (st2 d t s).1 t false sy = st3 d t s := rfl
  have G : Hid (stP d t s = if (st1 d t).2 ≠ 0 then st1 d t else if (st2 d t s).2 ≠ 0 then st2 d t s else st3 d t s) := Lib.hid rfl
  rw [g1] at H1
  rw [g2] at H2
  rw [g3] at H3
  have HF := Lib.hid hf
  have HK := Lib.hid hk
  have HB := Lib.hid hB
  clear hf hk hB g1 g2 g3
  generalize stP d t s = P at *
  generalize st1 d t = A1 at *
  generalize st2 d t s = A2 at *
  generalize st3 d t s = A3 at *
  go_enter Tryz.func122, Tryz.ntmps122
  go_wp2
  go_loopw [8] (fun i wl => ∃ k : Nat, i = .int .i64 (k : Int) ∧ k ≤ 3 ∧ Hid (w.grownBy wl (some B)) ∧ Hid (DAt wl B (if k = 0 then d else if k = 1 then A1.1 else if k = 2 then A2.1 else A3.1)) ∧ Hid ((0 < k → A1.2 = 0) ∧ (1 < k → A2.2 = 0) ∧ (2 < k → A3.2 = 0))) (fun i _ => 3 - (intOf i).toNat)
  case atStart => exact ⟨0, rfl, by omega, Lib.hid (World.grownBy.refl _ _), HB, Lib.hid ⟨fun h => (by omega), fun h => (by omega), fun h => (by omega)⟩⟩
  case round =>
    obtain ⟨k, rfl, hk, HG, HD, HE⟩ := hrel
    have F := HF.out.grown HG.out (by simpa using n0)
    have K := Lib.hid (HK.out.grown HG.out (by simpa using n1) (by simpa using n2) (by simpa using n3))
    have f0 := F.f0; have f1 := F.f1; have f2 := F.f2
    clear F
    by_cases h0 : k = 0
    · subst h0
      have HD : Hid (DAt wr B d) := HD
      by_cases hE : A1.2 = 0
      · have hE2 : ((A1.2 : Int) != 0) = false := by rw [hE]; rfl
        go_wp2_with fail
        refine (H1.out _ K.out HD.out).mono ?_
        rintro e w2 ⟨rfl, hd2, hg⟩
        have HG2 := Lib.hid (grown_trans HG.out hg)
        have HD2 := Lib.hid hd2
        clear hd2 hg
        go_wp2
        go_roundw
        case rel => exact ⟨1, rfl, by omega, HG2, HD2, Lib.hid ⟨fun _ => hE, fun h => absurd h (by decide), fun h => absurd h (by decide)⟩⟩
        case measure => simp [intOf]
      · have hE2 : ((A1.2 : Int) != 0) = true := ne0 hE
        have HP : Hid (P = A1) := Lib.hid (G.out.trans (if_pos hE))
        go_wp2_with fail
        refine (H1.out _ K.out HD.out).mono ?_
        rintro e w2 ⟨rfl, hd2, hg⟩
        have HG2 := Lib.hid (grown_trans HG.out hg)
        have HD2 := Lib.hid hd2
        clear hd2 hg
        go_wp2
        go_ret
        exact ⟨by rw [HP.out]; rfl, by rw [HP.out]; exact HD2.out, HG2.out⟩
    · by_cases h1 : k = 1
      · subst h1
        have HD : Hid (DAt wr B A1.1) := HD
        by_cases hE : A2.2 = 0
        · have hE2 : ((A2.2 : Int) != 0) = false := by rw [hE]; rfl
          go_wp2_with fail
          refine (H2.out _ K.out HD.out).mono ?_
          rintro e w2 ⟨rfl, hd2, hg⟩
          have HG2 := Lib.hid (grown_trans HG.out hg)
          have HD2 := Lib.hid hd2
          clear hd2 hg
          go_wp2
          go_roundw
          case rel => exact ⟨2, rfl, by omega, HG2, HD2, Lib.hid ⟨fun _ => HE.out.1 (by decide), fun _ => hE, fun h => absurd h (by decide)⟩⟩
          case measure => simp [intOf]
        · have hE2 : ((A2.2 : Int) != 0) = true := ne0 hE
          have HP : Hid (P = A2) := Lib.hid (G.out.trans ((if_neg (by have := HE.out.1 (by decide); omega)).trans (if_pos hE)))
          go_wp2_with fail
          refine (H2.out _ K.out HD.out).mono ?_
          rintro e w2 ⟨rfl, hd2, hg⟩
          have HG2 := Lib.hid (grown_trans HG.out hg)
          have HD2 := Lib.hid hd2
          clear hd2 hg
          go_wp2
          go_ret
          exact ⟨by rw [HP.out]; rfl, by rw [HP.out]; exact HD2.out, HG2.out⟩
      · by_cases h2 : k = 2
        · subst h2
          have HD : Hid (DAt wr B A2.1) := HD
          by_cases hE : A3.2 = 0
          · have hE2 : ((A3.2 : Int) != 0) = false := by rw [hE]; rfl
            go_wp2_with fail
            refine (H3.out _ K.out HD.out).mono ?_
            rintro e w2 ⟨rfl, hd2, hg⟩
            have HG2 := Lib.hid (grown_trans HG.out hg)
            have HD2 := Lib.hid hd2
            clear hd2 hg
            go_wp2
            go_roundw
            case rel => exact ⟨3, rfl, by omega, HG2, HD2, Lib.hid ⟨fun _ => HE.out.1 (by decide), fun _ => HE.out.2.1 (by decide), fun _ => hE⟩⟩
            case measure => simp [intOf]
          · have hE2 : ((A3.2 : Int) != 0) = true := ne0 hE
            have HP : Hid (P = A3) := Lib.hid (G.out.trans ((if_neg (by have := HE.out.1 (by decide); omega)).trans (if_neg (by have := HE.out.2.1 (by decide); omega))))
            go_wp2_with fail
            refine (H3.out _ K.out HD.out).mono ?_
            rintro e w2 ⟨rfl, hd2, hg⟩
            have HG2 := Lib.hid (grown_trans HG.out hg)
            have HD2 := Lib.hid hd2
            clear hd2 hg
            go_wp2
            go_ret
            exact ⟨by rw [HP.out]; rfl, by rw [HP.out]; exact HD2.out, HG2.out⟩
        · obtain rfl : k = 3 := by omega
          have HD : Hid (DAt wr B A3.1) := HD
          have HP : Hid (P = A3) := Lib.hid (G.out.trans ((if_neg (by have := HE.out.1 (by decide); omega)).trans (if_neg (by have := HE.out.2.1 (by decide); omega))))
          have HZ : Hid (A3.2 = 0) := Lib.hid (HE.out.2.2 (by decide))
          go_wp2
          go_ret
          exact ⟨by rw [HP.out, HZ.out]; rfl, by rw [HP.out]; exact HD.out, HG.out⟩
end Go.Proofs.YtieemdcoomilaaaGreatDoor
namespace Go.Proofs.YtieemdcoomilaaaGreatDoor
open Go Go.RowKit
set_option maxRecDepth 100000
/-- What a Put leaves, and what it tells. -/
def putR (d : Dk) (h : He) : Dk × Nat := if mayB h = true then (if (ldR d).2.2.2 ≠ 0 then (d, (ldR d).2.2.2) else stP d (ptT d) (whl h)) else (d, 4)
theorem putR_ok {d : Dk} (hd : d.ok) (h : He) : (putR d h).1.ok := by
  unfold putR
  split
  · split
    · exact hd
    · exact stP_ok hd _ _
  · exact hd
set_option maxHeartbeats 2000000 in
theorem put_any (B : Nat) (d : Dk) (h : He) (v : Value) (w : World) (hB : DAt w B d) (hd : d.ok) (hk : KAt w v h.log) (hl : h.log.length ≤ 9223372036854775807) (hT : Hid (Tab w)) :
    Calls Tryz.prog 102 #[.pointer (some ⟨B, 0, none⟩), hval h v] w (DRet w B (.int .i64 ((putR d h).2 : Int)) (putR d h).1) := by
  have HA : Hid (Below w.heap.size w ((w.alloc (.cells #[.pointer (some ⟨B, 0, none⟩)] 30)).alloc (.cells #[.int .i64 h.gen, .int .i64 h.base, .int .i64 h.snap, v] 40))) := Lib.hid (below_two _ _ _)
  have HW := Lib.hid (whole_any h v _ (hk.below HA.out (Nat.le_refl _)) hl (Lib.hid (hT.out.below HA.out)))
  have hwz : (whR h).1.size ≤ 9223372036854775807 := by
    unfold whR
    cases hm : mayB h
    · rw [if_neg (by simp)]; show (0 : Nat) ≤ _; omega
    · rw [if_pos rfl]; show (whl h).size ≤ _; rw [whl_size]; have := enc_len (mayB_ok hm); omega
  have HN := Lib.hid (fun W (hW : DAt W B d) (hT' : Tab W) => next_any B d W hW hd (Lib.hid hT'))
  have HI := Lib.hid (fun g b1 b2 b3 W h1 h2 h3 => inTurn_any g b1 b2 b3 B d (ptT d) (whR h).1 W h1 h2 h3 hd hwz)
  have G : Hid (putR d h = if mayB h = true then (if (ldR d).2.2.2 ≠ 0 then (d, (ldR d).2.2.2) else stP d (ptT d) (whl h)) else (d, 4)) := Lib.hid rfl
  have G2 : Hid (whR h = if mayB h = true then (whl h, 0) else (⟨#[]⟩, 4)) := Lib.hid rfl
  have HD := Lib.hid hB
  have hlt := hB.lt
  have X0 : Hid (((w.alloc (.cells #[.pointer (some ⟨B, 0, none⟩)] 30)).alloc (.cells #[.int .i64 h.gen, .int .i64 h.base, .int .i64 h.snap, v] 40)).heap[w.heap.size]? = some (.cells #[.pointer (some ⟨B, 0, none⟩)] 30 (0, 0))) := Lib.hid ((Below.heap_alloc _ _ _ (by simp)).trans (heap_alloc_new _ _))
  clear hk hB
  generalize putR d h = P at *
  generalize hWh : whR h = Wh at *
  clear hWh
  obtain ⟨S, E⟩ := Wh
  dsimp only at *
  unfold hval at *
  cases hm : mayB h
  · have hE : E = 4 := by have := congrArg Prod.snd G2.out; rw [hm, if_neg (by simp)] at this; exact this
    have HP : Hid (P = (d, 4)) := Lib.hid (by rw [G.out, hm, if_neg (by simp)])
    subst hE
    clear HN HI G G2 hwz
    go_enter Tryz.func102, Tryz.ntmps102
    go_wp2_with fail
    refine HW.out.mono ?_
    rintro e w1 ⟨rfl, hb⟩
    have HB := Lib.hid (below_trans' HA.out hb)
    clear hb
    go_wp2
    go_ret
    exact ⟨by rw [HP.out]; rfl, by rw [HP.out]; exact (HD.out.below HB.out hlt).alloc _, grown_below (HB.out.alloc HB.out.size _) _⟩
  · have hS : S = whl h ∧ E = 0 := by have := G2.out; rw [hm, if_pos rfl] at this; exact ⟨congrArg Prod.fst this, congrArg Prod.snd this⟩
    obtain ⟨rfl, rfl⟩ := hS
    have HP : Hid (P = if (ldR d).2.2.2 ≠ 0 then (d, (ldR d).2.2.2) else stP d (ptT d) (whl h)) := Lib.hid (by rw [G.out, hm, if_pos rfl])
    clear G G2
    generalize (ldR d).2.2.2 = R at *
    generalize ptT d = T at *
    generalize stP d T (whl h) = SP at *
    generalize whl h = F at *
    by_cases hR : R ≠ 0
    · have hR2 := ne0 hR
      have HP2 : Hid (P = (d, R)) := Lib.hid (by rw [HP.out, if_pos hR])
      clear HI HP
      go_enter Tryz.func102, Tryz.ntmps102
      go_wp2_with fail
      refine HW.out.mono ?_
      rintro e w1 ⟨rfl, hb⟩
      have HB := Lib.hid (below_trans' HA.out hb)
      have X1 := Lib.hid ((hb.block w.heap.size (by simp; omega)).trans X0.out)
      have hz1 : w.heap.size < w1.heap.size := by have := hb.size; simp at this; omega
      have hne1 : w.heap.size ≠ w1.heap.size := by omega
      have b0 := one_cell X1.out
      have HB2 := Lib.hid (HB.out.alloc HB.out.size (.cells #[.string F] 9))
      have X2 := Lib.hid ((Below.heap_alloc w1 (.cells #[.string F] 9) w.heap.size hz1).trans X1.out)
      have F2 : Hid ((w1.alloc (.cells #[.string F] 9)).heap[w1.heap.size]? = some (.cells #[.string F] 9 (0, 0))) := Lib.hid (heap_alloc_new _ _)
      clear hb
      go_wp2_with fail
      refine (HN.out _ (HD.out.below HB2.out hlt) (hT.out.below HB2.out)).mono ?_
      rintro e w2 ⟨rfl, hb⟩
      have HB3 := Lib.hid (below_trans' HB2.out hb)
      clear hb
      go_wp2
      go_ret
      exact ⟨by rw [HP2.out]; rfl, by rw [HP2.out]; exact (HD.out.below HB3.out hlt).alloc _, grown_below (HB3.out.alloc HB3.out.size _) _⟩
    · have HP2 : Hid (P = SP) := Lib.hid (by rw [HP.out, if_neg hR])
      obtain rfl : R = 0 := by omega
      have e1 := enters43'
      have e2 := enters45'
      have e3 := enters47'
      have hmf : ∀ (fn : Fn) (first cap : Array Value) (w : World), (Instr.makeFunc fn first cap).run Tryz.prog w = .ok (.func fn first cap) w := fun _ _ _ _ => rfl
      go_enter Tryz.func102, Tryz.ntmps102
      go_wp2_with fail
      refine HW.out.mono ?_
      rintro e w1 ⟨rfl, hb⟩
      have HB := Lib.hid (below_trans' HA.out hb)
      have X1 := Lib.hid ((hb.block w.heap.size (by simp; omega)).trans X0.out)
      have hz1 : w.heap.size < w1.heap.size := by have := hb.size; simp at this; omega
      have hne1 : w.heap.size ≠ w1.heap.size := by omega
      have b0 := one_cell X1.out
      have HB2 := Lib.hid (HB.out.alloc HB.out.size (.cells #[.string F] 9))
      have X2 := Lib.hid ((Below.heap_alloc w1 (.cells #[.string F] 9) w.heap.size hz1).trans X1.out)
      have F2 : Hid ((w1.alloc (.cells #[.string F] 9)).heap[w1.heap.size]? = some (.cells #[.string F] 9 (0, 0))) := Lib.hid (heap_alloc_new _ _)
      clear hb
      go_wp2_with fail
      refine (HN.out _ (HD.out.below HB2.out hlt) (hT.out.below HB2.out)).mono ?_
      rintro e w2 ⟨rfl, hb⟩
      have HB3 := Lib.hid (below_trans' HB2.out hb)
      have X3 := Lib.hid ((hb.block w.heap.size (by simp; omega)).trans X2.out)
      have F3 := Lib.hid ((hb.block w1.heap.size (by simp)).trans F2.out)
      have hz2 : w1.heap.size < w2.heap.size := by have := hb.size; simp at this; omega
      have hne2 : w1.heap.size ≠ w2.heap.size := by omega
      have hne3 : w.heap.size ≠ w2.heap.size := by omega
      have b2 := one_cell X3.out
      clear hb b0
      go_wp2_with fail
      have HB4 := Lib.hid (HB3.out.alloc HB3.out.size (.cells #[.int .i64 (T : Int)] 3))
      have HB5 := Lib.hid (HB4.out.alloc HB4.out.size (.cells #[.func (.func 123) #[] #[.pointer (some ⟨w.heap.size, 0, none⟩), .pointer (some ⟨w2.heap.size, 0, none⟩)], .func (.func 124) #[] #[.pointer (some ⟨w.heap.size, 0, none⟩), .pointer (some ⟨w2.heap.size, 0, none⟩), .pointer (some ⟨w1.heap.size, 0, none⟩)], .func (.func 125) #[] #[.pointer (some ⟨w.heap.size, 0, none⟩), .pointer (some ⟨w2.heap.size, 0, none⟩)]] 34))
      generalize hV : Obj.cells #[.func (.func 123) #[] #[.pointer (some ⟨w.heap.size, 0, none⟩), .pointer (some ⟨w2.heap.size, 0, none⟩)], .func (.func 124) #[] #[.pointer (some ⟨w.heap.size, 0, none⟩), .pointer (some ⟨w2.heap.size, 0, none⟩), .pointer (some ⟨w1.heap.size, 0, none⟩)], .func (.func 125) #[] #[.pointer (some ⟨w.heap.size, 0, none⟩), .pointer (some ⟨w2.heap.size, 0, none⟩)]] 34 = OV at *
      have hfs : Fs ((w2.alloc (.cells #[.int .i64 (T : Int)] 3)).alloc OV) (w2.heap.size + 1) w.heap.size w2.heap.size w1.heap.size := by
        have hb : ((w2.alloc (.cells #[.int .i64 (T : Int)] 3)).alloc OV).heap[w2.heap.size + 1]? = some OV := by
          have := heap_alloc_new (w2.alloc (.cells #[.int .i64 (T : Int)] 3)) OV
          rw [World.size_alloc] at this; exact this
        rw [← hV] at hb ⊢
        exact ⟨by simp only [World.cell?, hb]; rfl, by simp only [World.cell?, hb]; rfl, by simp only [World.cell?, hb]; rfl⟩
      have hkp : Kp ((w2.alloc (.cells #[.int .i64 (T : Int)] 3)).alloc OV) w.heap.size w2.heap.size w1.heap.size B T F := by
        refine ⟨one_cell (t := 30) ?_, one_cell (t := 3) ?_, one_cell (t := 9) ?_⟩
        · exact (Below.heap_alloc _ _ _ (by simp; omega)).trans ((Below.heap_alloc _ _ _ (by omega)).trans X3.out)
        · exact (Below.heap_alloc _ _ _ (by simp)).trans (heap_alloc_new _ _)
        · exact (Below.heap_alloc _ _ _ (by simp; omega)).trans ((Below.heap_alloc _ _ _ (by omega)).trans F3.out)
      refine (HI.out _ _ _ _ _ hfs hkp (HD.out.below HB5.out hlt) (by omega) (by omega) (by omega) (by omega)).mono ?_
      rintro e w3 ⟨rfl, hd2, hg⟩
      have HD2 := Lib.hid hd2
      have HG := Lib.hid (grown_trans (grown_below HB5.out (some B)) hg)
      clear hd2 hg hfs hkp
      go_wp2
      go_ret
      exact ⟨by rw [HP2.out]; rfl, by rw [HP2.out]; exact HD2.out, HG.out⟩
end Go.Proofs.YtieemdcoomilaaaGreatDoor
namespace Go.Proofs.YtieemdcoomilaaaGreatDoor
open Go Go.RowKit
set_option maxRecDepth 100000
theorem drop_eq_cons (l m : List Int) (k : Nat) (h1 : k < l.length) (h2 : k < m.length) : decide (l.drop k = m.drop k) = (decide (l[k] = m[k]) && decide (l.drop (k + 1) = m.drop (k + 1))) := by
  have h : (l.drop k = m.drop k) ↔ (l[k] = m[k] ∧ l.drop (k + 1) = m.drop (k + 1)) := by rw [List.drop_eq_getElem_cons h1, List.drop_eq_getElem_cons h2, List.cons.injEq]
  rw [decide_eq_decide.2 h, Bool.decide_and]
set_option maxHeartbeats 1000000 in
theorem index_any' (l : List Int) (t : Int) (v : Value) (w : World) (hv : KAt w v l) (hl : l.length ≤ 9223372036854775807) : Calls Tryz.prog 127 #[v, .int .i64 t] w fun e w' => ∃ n : Int, e = .returned (.int .i64 n) ∧ (decide (0 ≤ n) = decide (t ∈ l)) ∧ w = w' := by
  obtain ⟨a, c, rfl⟩ := hv.slice
  have HV := Lib.hid hv
  clear hv
  go_enter Tryz.func127, Tryz.ntmps127
  go_wp2
  go_loopw [8] (fun i wl => ∃ k : Nat, i = .int .i64 (k : Int) ∧ k ≤ l.length ∧ wl = w ∧ Hid (decide (t ∈ l.drop k) = decide (t ∈ l))) (fun i _ => l.length - (intOf i).toNat)
  case atStart => exact ⟨0, rfl, by omega, rfl, Lib.hid rfl⟩
  case round =>
    obtain ⟨k, rfl, hk, rfl, HE⟩ := hrel
    by_cases hlt : k < l.length
    · obtain ⟨g, o, c', e1, hc⟩ := HV.out.pos (fun e => by rw [e] at hlt; simp at hlt)
      cases e1
      have p1 := HV.out.at k hlt
      have hd : decide (t ∈ l.drop k) = (decide (t = l[k]) || decide (t ∈ l.drop (k + 1))) := by
        have h : t ∈ l.drop k ↔ (t = l[k] ∨ t ∈ l.drop (k + 1)) := by rw [List.drop_eq_getElem_cons hlt]; exact List.mem_cons
        rw [decide_eq_decide.2 h, Bool.decide_or]
      rw [HE.out] at hd
      have HD := Lib.hid hd
      clear hd
      generalize l[k] = x at *
      by_cases hxy : t = x
      · have hb : (t == x) = true := by rw [beq_iff_eq]; exact hxy
        have HD2 : Hid (decide (t ∈ l) = true) := Lib.hid (by rw [HD.out, decide_eq_true hxy]; rfl)
        clear hxy
        go_wp2
        go_ret
        exact ⟨k, rfl, by rw [HD2.out]; simp, by first | rfl | trivial⟩
      · have hb : (t == x) = false := by rw [beq_eq_false_iff_ne]; exact hxy
        have HD2 : Hid (decide (t ∈ l.drop (k + 1)) = decide (t ∈ l)) := Lib.hid (by rw [HD.out, decide_eq_false hxy]; rfl)
        clear hxy
        go_wp2
        go_roundw
        case rel => exact ⟨k + 1, by go_num, by omega, by first | rfl | trivial, HD2⟩
        case measure => simp [intOf]; omega
    · have he : decide (t ∈ l) = false := by rw [← HE.out, List.drop_of_length_le (by omega)]; simp
      have HD2 := Lib.hid he
      clear he
      go_wp2
      go_ret
      exact ⟨-1, rfl, by rw [HD2.out]; rfl, by first | rfl | trivial⟩
end Go.Proofs.YtieemdcoomilaaaGreatDoor
namespace Go.Proofs.YtieemdcoomilaaaGreatDoor
open Go Go.RowKit
set_option maxRecDepth 100000
set_option maxHeartbeats 400000 in
theorem contains_any (l : List Int) (t : Int) (v : Value) (w : World) (hv : KAt w v l) (hl : l.length ≤ 9223372036854775807) : Calls Tryz.prog 106 #[v, .int .i64 t] w fun e w' => e = .returned (.bool (decide (t ∈ l))) ∧ w = w' := by
  have H := Lib.hid (index_any' l t v w hv hl)
  clear hv
  go_enter Tryz.func106, Tryz.ntmps106
  go_wp2_with fail
  refine H.out.mono ?_
  rintro e w1 ⟨n, rfl, hn, rfl⟩
  have HN := Lib.hid hn
  clear hn
  go_wp2
  go_ret
  exact ⟨by rw [← HN.out]; rfl, by first | rfl | trivial⟩
def sameB (x y : He) : Bool := decide (x.gen = y.gen) && (decide (x.base = y.base) && (decide (x.snap = y.snap) && decide (x.log = y.log)))
theorem beq_dec (a b : Int) : (a == b) = decide (a = b) := by by_cases h : a = b <;> simp [h]
def usB (h : He) (t : Int) : Bool := (decide (h.snap ≠ 0) && decide (h.snap = t)) || decide (t ∈ h.log)
set_option maxHeartbeats 1000000 in
theorem uses_any (h : He) (t : Int) (v : Value) (w : World) (hv : KAt w v h.log) (hl : h.log.length ≤ 9223372036854775807) : Calls Tryz.prog 75 #[hval h v, .int .i64 t] w (Ret w (.bool (usB h t))) := by
  have HA : Hid (Below w.heap.size w (w.alloc (.cells #[.int .i64 h.gen, .int .i64 h.base, .int .i64 h.snap, v] 40))) := Lib.hid (below_one _ _)
  have HE := Lib.hid (contains_any h.log t v _ (hv.below HA.out (Nat.le_refl _)) hl)
  have HB : Hid (usB h t = ((decide (h.snap ≠ 0) && decide (h.snap = t)) || decide (t ∈ h.log))) := Lib.hid rfl
  clear hv hl
  unfold hval
  generalize usB h t = R at *
  generalize decide (t ∈ h.log) = L at *
  by_cases h0 : h.snap = 0
  · have e1 : (h.snap != 0) = false := by rw [bne_eq_false_iff_eq]; exact h0
    rw [decide_eq_false (show ¬ h.snap ≠ 0 from fun e => e h0)] at HB
    clear h0
    go_enter Tryz.func75, Tryz.ntmps75
    go_wp2_with fail
    refine HE.out.mono ?_
    rintro e w1 ⟨rfl, rfl⟩
    go_wp2
    go_ret
    exact ⟨by rw [HB.out]; rfl, HA.out⟩
  · have e1 : (h.snap != 0) = true := by rw [bne_iff_ne]; exact h0
    rw [decide_eq_true (show h.snap ≠ 0 from h0)] at HB
    by_cases h1 : h.snap = t
    · have e2 : (h.snap == t) = true := by rw [beq_iff_eq]; exact h1
      rw [decide_eq_true h1] at HB
      clear h0 h1 HE
      go_enter Tryz.func75, Tryz.ntmps75
      go_wp2
      go_ret
      exact ⟨by rw [HB.out]; rfl, HA.out⟩
    · have e2 : (h.snap == t) = false := by rw [beq_eq_false_iff_ne]; exact h1
      rw [decide_eq_false h1] at HB
      clear h0 h1
      go_enter Tryz.func75, Tryz.ntmps75
      go_wp2_with fail
      refine HE.out.mono ?_
      rintro e w1 ⟨rfl, rfl⟩
      go_wp2
      go_ret
      exact ⟨by rw [HB.out]; rfl, HA.out⟩
/-- The free tapes below n. -/
def frL (h : He) : Nat → List Int
  | 0 => []
  | n + 1 => if 2 ≤ n ∧ usB h (n : Int) = false then frL h n ++ [(n : Int)] else frL h n
theorem frL_len (h : He) : ∀ n, (frL h n).length ≤ n
  | 0 => Nat.le_refl _
  | n + 1 => by
    have := frL_len h n
    unfold frL
    split
    · rw [List.length_append]; simp only [List.length_cons, List.length_nil]; omega
    · omega
/-- What is told in new memory: a row of numbers. -/
def NRet (w : World) (l : List Int) (e : Ending) (w' : World) : Prop := ∃ v, e = .returned v ∧ Own w' w.heap.size v (l.map iv) ∧ Below w.heap.size w w'
set_option maxHeartbeats 2000000 in
theorem free_any (h : He) (v : Value) (w : World) (hv : KAt w v h.log) (hl : h.log.length ≤ 9223372036854775807) : Calls Tryz.prog 58 #[hval h v] w (NRet w (frL h 32)) := by
  have HU := Lib.hid (fun t W (hW : Below w.heap.size w W) => uses_any h t v W (hv.below hW (Nat.le_refl _)) hl)
  have X0 := Lib.hid (Box4.new w (.int .i64 h.gen) (.int .i64 h.base) (.int .i64 h.snap) v)
  have HFL := Lib.hid (frL_len h)
  clear hv hl
  obtain ⟨i0, hi, hz0, hz1, hz2⟩ := info_parts Tryz.info3
  unfold hval at *
  go_enter Tryz.func58, Tryz.ntmps58
  go_wp2
  go_loopw [3, 4] (fun u i wl => ∃ k : Nat, i = .int .i64 (k : Int) ∧ 2 ≤ k ∧ k ≤ 32 ∧ Hid (Box4 wl w.heap.size (.int .i64 h.gen) (.int .i64 h.base) (.int .i64 h.snap) v) ∧ Hid (Below w.heap.size w wl) ∧ Hid (Own wl (w.heap.size + 1) u ((frL h k).map iv)) ∧ Hid (w.heap.size + 1 ≤ wl.heap.size)) (fun _ i _ => 32 - (intOf i).toNat)
  case atStart => exact ⟨2, rfl, by omega, by omega, X0, Lib.hid (below_one w _), Lib.hid (Own.nil _ _), Lib.hid (by simp)⟩
  case round =>
    obtain ⟨k, rfl, hk2, hk, HX, HB, HO, HZ⟩ := hrel
    by_cases hlt : k < 32
    · have q0 := HX.out.c0; have q1 := HX.out.c1; have q2 := HX.out.c2; have q3 := HX.out.c3
      have HF : Hid (frL h (k + 1) = if 2 ≤ k ∧ usB h (k : Int) = false then frL h k ++ [(k : Int)] else frL h k) := Lib.hid rfl
      have hlen := HFL.out k
      have HC := Lib.hid (HU.out (k : Int) wr HB.out)
      cases hu : usB h (k : Int)
      · rw [hu] at HC
        have HF2 : Hid (frL h (k + 1) = frL h k ++ [(k : Int)]) := Lib.hid (by rw [HF.out, if_pos ⟨hk2, hu⟩])
        clear HF hu
        have hll : ((frL h k).map iv).length ≤ 32 := by rw [List.length_map]; omega
        clear hlen
        go_wp2_with fail
        refine HC.out.mono ?_
        rintro e w1 ⟨rfl, hb⟩
        have HX1 := Lib.hid (HX.out.below hb HX.out.lt)
        have HB1 := Lib.hid (below_trans' HB.out hb)
        have HO1 := Lib.hid (HO.out.belowAll hb)
        have HZ1 := Lib.hid (Nat.le_trans HZ.out hb.size)
        clear hb q0 q1 q2 q3 HX HB HO HZ
        go_wp2_with (at_builtin; refine wpList_append_Own _ rfl (.tmp 13) (.tmp 15) 38 38 rfl (w.heap.size + 1) 3 i0 (.int .i64 0) 8 Tryz.underlying38 hi hz0 hz1 hz2 rfl _ ((frL h k).map iv) rfl (HO1.out.alloc _) _ 1 [iv (k : Int)] rfl (Src.one w1 Tryz.underlying38 _ _ rfl) ?c1 ?c2 ?c3 ?_; rotate_right; intro v' w2 hown1 hgr hwh; have HO2 := Lib.hid hown1; have HG := Lib.hid hgr; have HH := Lib.hid hwh; clear hown1 hgr hwh)
        case c1 => omega
        case c2 => omega
        case c3 => exact Nat.le_trans HZ1.out (by simp)
        have HX2 := Lib.hid ((HX1.out.alloc _).kept HG.out (fun e => by have := (HO1.out.lt _ e.symm).1; omega))
        have HB2 := Lib.hid ((HB1.out.alloc HB1.out.size _).grown HG.out (Nat.le_trans (Nat.le_of_succ_le HZ1.out) (by simp)) (fun q hq => by have := (HO1.out.lt q hq).1; omega))
        have HZ2 := Lib.hid (Nat.le_trans HZ1.out (Nat.le_trans (by simp) HG.out.size))
        go_wp2
        go_roundw
        case rel => exact ⟨k + 1, by go_num, by omega, by omega, HX2, HB2, Lib.hid (by rw [HF2.out, List.map_append]; exact HO2.out), HZ2⟩
        case measure => simp [intOf]; omega
      · rw [hu] at HC
        have HF2 : Hid (frL h (k + 1) = frL h k) := Lib.hid (by rw [HF.out, if_neg (by simp [hu])])
        clear HF hu
        go_wp2_with fail
        refine HC.out.mono ?_
        rintro e w1 ⟨rfl, hb⟩
        have HX1 := Lib.hid (HX.out.below hb HX.out.lt)
        have HB1 := Lib.hid (below_trans' HB.out hb)
        have HO1 := Lib.hid (HO.out.belowAll hb)
        have HZ1 := Lib.hid (Nat.le_trans HZ.out hb.size)
        clear hb q0 q1 q2 q3 HX HB HO HZ
        go_wp2
        go_roundw
        case rel => exact ⟨k + 1, by go_num, by omega, by omega, HX1, HB1, Lib.hid (by rw [HF2.out]; exact HO1.out), HZ1⟩
        case measure => simp [intOf]; omega
    · obtain rfl : k = 32 := by omega
      go_wp2
      go_ret
      exact ⟨_, rfl, HO.out.mono (Nat.le_succ _), HB.out⟩
end Go.Proofs.YtieemdcoomilaaaGreatDoor
