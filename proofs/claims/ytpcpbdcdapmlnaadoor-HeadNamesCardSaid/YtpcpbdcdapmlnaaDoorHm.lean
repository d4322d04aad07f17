/- inTurn of a Put's three steps; Put. -/
import Derived.Test.YtpcpbdcdapmlnaaDoorHk
namespace Go.Proofs.YtpcpbdcdapmlnaaDoor
open Go Go.RowKit
set_option maxRecDepth 100000
/-- What the first k steps of a Put leave, each of them done; s1, s2, s3: what comes of each. -/
def st1 (d : Dk) (t : Nat) : Dk × Nat := doD d t false wi
def st2 (d : Dk) (t : Nat) (s : ByteArray) : Dk × Nat := doD (st1 d t).1 t true (wf (st1 d t).1 s)
def st3 (d : Dk) (t : Nat) (s : ByteArray) : Dk × Nat := doD (st2 d t s).1 t false sy
def stP (d : Dk) (t : Nat) (s : ByteArray) : Dk × Nat := if (st1 d t).2 ≠ 0 then st1 d t else if (st2 d t s).2 ≠ 0 then st2 d t s else st3 d t s
theorem st1_ok {d : Dk} (h : d.ok) (t : Nat) : (st1 d t).1.ok := doD_ok h _ _ (fine_wi h)
theorem st2_ok {d : Dk} (h : d.ok) (t : Nat) (s : ByteArray) : (st2 d t s).1.ok := doD_ok (st1_ok h t) _ _ (fine_wf (st1_ok h t) s)
theorem st3_ok {d : Dk} (h : d.ok) (t : Nat) (s : ByteArray) : (st3 d t s).1.ok := doD_ok (st2_ok h t s) _ _ (fine_sy (st2_ok h t s))
theorem stP_ok {d : Dk} (h : d.ok) (t : Nat) (s : ByteArray) : (stP d t s).1.ok := by
  unfold stP
  split
  · exact st1_ok h t
  · split
    · exact st2_ok h t s
    · exact st3_ok h t s
/-- The three steps, in a list. -/
structure Fs (W : World) (g b1 b2 b3 : Nat) : Prop where
  f0 : W.cell? ⟨g, 0, none⟩ = some (.func (.func 43) #[] #[.pointer (some ⟨b1, 0, none⟩), .pointer (some ⟨b2, 0, none⟩)])
  f1 : W.cell? ⟨g, 1, none⟩ = some (.func (.func 45) #[] #[.pointer (some ⟨b1, 0, none⟩), .pointer (some ⟨b2, 0, none⟩), .pointer (some ⟨b3, 0, none⟩)])
  f2 : W.cell? ⟨g, 2, none⟩ = some (.func (.func 47) #[] #[.pointer (some ⟨b1, 0, none⟩), .pointer (some ⟨b2, 0, none⟩)])
theorem Fs.grown {W W' : World} {g b1 b2 b3 : Nat} (h : Fs W g b1 b2 b3) {r : Option Nat} (hg : W.grownBy W' r) (h1 : some g ≠ r) : Fs W' g b1 b2 b3 :=
  have hb := hg.block _ (World.block_lt_of_cell? W _ h.f0) h1
  ⟨(World.cell?_of_block (a := ⟨g, 0, none⟩) hb).trans h.f0, (World.cell?_of_block (a := ⟨g, 1, none⟩) hb).trans h.f1, (World.cell?_of_block (a := ⟨g, 2, none⟩) hb).trans h.f2⟩
set_option maxHeartbeats 2000000 in
theorem inTurn_any (g b1 b2 b3 B : Nat) (d : Dk) (t : Nat) (s : ByteArray) (w : World) (hf : Fs w g b1 b2 b3) (hk : Kp w b1 b2 b3 B t s) (hB : DAt w B d) (hd : d.ok) (hs : s.size ≤ 9223372036854775807) (n0 : g ≠ B) (n1 : b1 ≠ B) (n2 : b2 ≠ B) (n3 : b3 ≠ B) :
    Calls Tryd.prog 42 #[.slice (some ⟨g, 0, none⟩) 3 3] w (DRet w B (.int .i64 ((stP d t s).2 : Int)) (stP d t s).1) := by
  have e1 := enters43'
  have e2 := enters45'
  have e3 := enters47'
  have H1 := Lib.hid (fun W hk' hB' => put1_any b1 b2 b3 B d t s W hk' hB' hd)
  have H2 := Lib.hid (fun W hk' hB' => put2_any b1 b2 b3 B (st1 d t).1 t s W hk' hB' (st1_ok hd t) hs)
  have H3 := Lib.hid (fun W hk' hB' => put3_any b1 b2 b3 B (st2 d t s).1 t s W hk' hB' (st2_ok hd t s))
  have g1 : doD d t false wi = st1 d t := rfl
  have g2 : doD (st1 d t).1 t true (wf (st1 d t).1 s) = st2 d t s := rfl
  have g3 : doD (st2 d t s).1 t false sy = st3 d t s := rfl
  have G : Hid (stP d t s = if (st1 d t).2 ≠ 0 then st1 d t else if (st2 d t s).2 ≠ 0 then st2 d t s else st3 d t s) := Lib.hid rfl
  rw [g1] at H1
  rw [g2] at H2
  rw [g3] at H3
  have HF := Lib.hid hf
  have HK := Lib.hid hk
  have HB := Lib.hid hB
  clear hf hk hB g1 g2 g3
  generalize stP d t s = P at *
  generalize st1 d t = A1 at *
  generalize st2 d t s = A2 at *
  generalize st3 d t s = A3 at *
  go_enter Tryd.func42, Tryd.ntmps42
  go_wp2
  go_loopw [8] (fun i wl => ∃ k : Nat, i = .int .i64 (k : Int) ∧ k ≤ 3 ∧ Hid (w.grownBy wl (some B)) ∧ Hid (DAt wl B (if k = 0 then d else if k = 1 then A1.1 else if k = 2 then A2.1 else A3.1)) ∧ Hid ((0 < k → A1.2 = 0) ∧ (1 < k → A2.2 = 0) ∧ (2 < k → A3.2 = 0))) (fun i _ => 3 - (intOf i).toNat)
  case atStart => exact ⟨0, rfl, by omega, Lib.hid (World.grownBy.refl _ _), HB, Lib.hid ⟨fun h => (by omega), fun h => (by omega), fun h => (by omega)⟩⟩
  case round =>
    obtain ⟨k, rfl, hk, HG, HD, HE⟩ := hrel
    have F := HF.out.grown HG.out (by simpa using n0)
    have K := Lib.hid (HK.out.grown HG.out (by simpa using n1) (by simpa using n2) (by simpa using n3))
    have f0 := F.f0; have f1 := F.f1; have f2 := F.f2
    clear F
    by_cases h0 : k = 0
    · subst h0
      have HD : Hid (DAt wr B d) := HD
      by_cases hE : A1.2 = 0
      · have hE2 : ((A1.2 : Int) != 0) = false := by rw [hE]; rfl
        go_wp2_with fail
        refine (H1.out _ K.out HD.out).mono ?_
        rintro e w2 ⟨rfl, hd2, hg⟩
        have HG2 := Lib.hid (grown_trans HG.out hg)
        have HD2 := Lib.hid hd2
        clear hd2 hg
        go_wp2
        go_roundw
        case rel => exact ⟨1, rfl, by omega, HG2, HD2, Lib.hid ⟨fun _ => hE, fun h => absurd h (by decide), fun h => absurd h (by decide)⟩⟩
        case measure => simp [intOf]
      · have hE2 : ((A1.2 : Int) != 0) = true := ne0 hE
        have HP : Hid (P = A1) := Lib.hid (G.out.trans (if_pos hE))
        go_wp2_with fail
        refine (H1.out _ K.out HD.out).mono ?_
        rintro e w2 ⟨rfl, hd2, hg⟩
        have HG2 := Lib.hid (grown_trans HG.out hg)
        have HD2 := Lib.hid hd2
        clear hd2 hg
        go_wp2
        go_ret
        exact ⟨by rw [HP.out]; rfl, by rw [HP.out]; exact HD2.out, HG2.out⟩
    · by_cases h1 : k = 1
      · subst h1
        have HD : Hid (DAt wr B A1.1) := HD
        by_cases hE : A2.2 = 0
        · have hE2 : ((A2.2 : Int) != 0) = false := by rw [hE]; rfl
          go_wp2_with fail
          refine (H2.out _ K.out HD.out).mono ?_
          rintro e w2 ⟨rfl, hd2, hg⟩
          have HG2 := Lib.hid (grown_trans HG.out hg)
          have HD2 := Lib.hid hd2
          clear hd2 hg
          go_wp2
          go_roundw
          case rel => exact ⟨2, rfl, by omega, HG2, HD2, Lib.hid ⟨fun _ => HE.out.1 (by decide), fun _ => hE, fun h => absurd h (by decide)⟩⟩
          case measure => simp [intOf]
        · have hE2 : ((A2.2 : Int) != 0) = true := ne0 hE
          have HP : Hid (P = A2) := Lib.hid (G.out.trans ((if_neg (by have := HE.out.1 (by decide); omega)).trans (if_pos hE)))
          go_wp2_with fail
          refine (H2.out _ K.out HD.out).mono ?_
          rintro e w2 ⟨rfl, hd2, hg⟩
          have HG2 := Lib.hid (grown_trans HG.out hg)
          have HD2 := Lib.hid hd2
          clear hd2 hg
          go_wp2
          go_ret
          exact ⟨by rw [HP.out]; rfl, by rw [HP.out]; exact HD2.out, HG2.out⟩
      · by_cases h2 : k = 2
        · subst h2
          have HD : Hid (DAt wr B A2.1) := HD
          by_cases hE : A3.2 = 0
          · have hE2 : ((A3.2 : Int) != 0) = false := by rw [hE]; rfl
            go_wp2_with fail
            refine (H3.out _ K.out HD.out).mono ?_
            rintro e w2 ⟨rfl, hd2, hg⟩
            have HG2 := Lib.hid (grown_trans HG.out hg)
            have HD2 := Lib.hid hd2
            clear hd2 hg
            go_wp2
            go_roundw
            case rel => exact ⟨3, rfl, by omega, HG2, HD2, Lib.hid ⟨fun _ => HE.out.1 (by decide), fun _ => HE.out.2.1 (by decide), fun _ => hE⟩⟩
            case measure => simp [intOf]
          · have hE2 : ((A3.2 : Int) != 0) = true := ne0 hE
            have HP : Hid (P = A3) := Lib.hid (G.out.trans ((if_neg (by have := HE.out.1 (by decide); omega)).trans (if_neg (by have := HE.out.2.1 (by decide); omega))))
            go_wp2_with fail
            refine (H3.out _ K.out HD.out).mono ?_
            rintro e w2 ⟨rfl, hd2, hg⟩
            have HG2 := Lib.hid (grown_trans HG.out hg)
            have HD2 := Lib.hid hd2
            clear hd2 hg
            go_wp2
            go_ret
            exact ⟨by rw [HP.out]; rfl, by rw [HP.out]; exact HD2.out, HG2.out⟩
        · obtain rfl : k = 3 := by omega
          have HD : Hid (DAt wr B A3.1) := HD
          have HP : Hid (P = A3) := Lib.hid (G.out.trans ((if_neg (by have := HE.out.1 (by decide); omega)).trans (if_neg (by have := HE.out.2.1 (by decide); omega))))
          have HZ : Hid (A3.2 = 0) := Lib.hid (HE.out.2.2 (by decide))
          go_wp2
          go_ret
          exact ⟨by rw [HP.out, HZ.out]; rfl, by rw [HP.out]; exact HD.out, HG.out⟩
end Go.Proofs.YtpcpbdcdapmlnaaDoor
