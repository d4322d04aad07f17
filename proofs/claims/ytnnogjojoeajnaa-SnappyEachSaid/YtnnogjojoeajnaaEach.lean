/- SnappyEach: for any text the law answers true. No condition. -/
import Derived.Test.YtnnogjojoeajnaaRows
import Derived.Test.YtnnogjojoeajnaaAw
import Derived.Test.YtnnogjojoeajnaaAr
import Derived.WalkKit
import Derived.ProofKit
import Derived.OpenShut
import Derived.ShutString
import Derived.BigQuiet
namespace Go.Proofs.Ytnnogjojoeajnaa.snappyEach
open Go.ChangeShapes Go.WideShapes Go.ChangeAt Go.RowKit
open Go.ChangeMaps (open_string shut_string)
set_option linter.unusedVariables false
/-- What the law asks of parts, from a place on. -/
def Good (l : List UInt8) : Nat → Bool → List Pt → Prop
  | at', _, [] => at' = l.length
  | at', lit, p :: r => if p.c then mat l at' = (p.o.toNat, p.l.toNat) ∧ p.o = (p.o.toNat : Int) ∧ p.l = (p.l.toNat : Int) ∧ 4 ≤ p.l.toNat ∧ p.l.toNat ≤ 64 ∧ 1 ≤ p.o.toNat ∧ p.o.toNat ≤ at' ∧ at' + p.l.toNat ≤ l.length ∧
      (p.l.toNat < 64 → at' + p.l.toNat < l.length → l[at' + p.l.toNat]? ≠ l[at' + p.l.toNat - p.o.toNat]?) ∧ Good l (at' + p.l.toNat) false r
    else lit = false ∧ 1 ≤ p.t.size ∧ at' + p.t.size ≤ l.length ∧ p.t = bs ((l.drop at').take p.t.size) ∧ Good l (at' + p.t.size) true r
theorem alk_stop : ∀ (m : Nat) (xs ys : List UInt8), alk xs ys m < m → alk xs ys m < xs.length → alk xs ys m < ys.length → xs[alk xs ys m]? ≠ ys[alk xs ys m]?
  | 0, xs, ys, h, _, _ => by omega
  | m + 1, [], ys, _, h, _ => by simp at h
  | m + 1, x :: xs, [], _, _, h => by simp at h
  | m + 1, x :: xs, y :: ys, h1, h2, h3 => by
    rw [alk] at h1 h2 h3 ⊢
    by_cases e : x = y
    · rw [if_pos e] at h1 h2 h3 ⊢
      simp only [List.length_cons] at h2 h3
      simpa using alk_stop m xs ys (by omega) (by omega) (by omega)
    · rw [if_neg e]
      simpa using e
theorem good_copy {l : List UInt8} {a o n : Nat} (h : Says l a o n) (hm : mat l a = (o, n)) (h4 : 4 ≤ n) {lit : Bool} {r : List Pt} (hr : Good l (a + n) false r) : Good l a lit (⟨true, bs [], o, n⟩ :: r) := by
  rw [Good]
  simp only [if_true, Int.toNat_natCast]
  refine ⟨hm, trivial, trivial, h4, h.n64, h.o1, h.oa, h.fits, fun h1 h2 => ?_, hr⟩
  have he := h.eq
  have hoa := h.oa
  have ho1 := h.o1
  unfold al at he
  have hs := alk_stop (min 64 (l.length - a)) (l.drop (a - o)) (l.drop a) (by omega) (by rw [List.length_drop]; omega) (by rw [List.length_drop]; omega)
  rw [← he, List.getElem?_drop, List.getElem?_drop] at hs
  rw [show a + n - o = a - o + n by omega]
  exact fun e => hs e.symm
theorem good_lit {l : List UInt8} {p a : Nat} (hpa : p ≤ a) (ha : a ≤ l.length) {r : List Pt} (hr : ∀ b, Good l a b r) : Good l p false (litp l p a ++ r) := by
  unfold litp
  by_cases h : p < a
  · rw [if_pos h, List.cons_append, List.nil_append, Good]
    have hs : (bs ((l.drop p).take (a - p))).size = a - p := by rw [bs_size, List.length_take, List.length_drop]; omega
    simp only [Bool.false_eq_true, if_false]
    rw [hs]
    refine ⟨trivial, by omega, by omega, rfl, ?_⟩
    rw [show p + (a - p) = a by omega]
    exact hr true
  · rw [if_neg h, List.nil_append]
    have : p = a := by omega
    subst this
    exact hr false
theorem pk_good (l : List UInt8) : ∀ (k a p : Nat) (ps : List Pt), l.length - a = k → p ≤ a → a ≤ l.length → ∃ r, pk l a p ps = ps ++ r ∧ Good l p false r := by
  intro k
  induction k using Nat.strongRecOn with
  | _ k ih =>
    intro a p ps hk hpa ha
    by_cases hlt : a < l.length
    · by_cases h4 : 4 ≤ (mat l a).2
      · rcases mat_says l a hlt with h | h
        · rw [h] at h4; omega
        · have hf := h.fits
          rw [pk_copy l a p ps hlt h4]
          obtain ⟨r, h1, h2⟩ := ih (l.length - (a + (mat l a).2)) (by omega) (a + (mat l a).2) (a + (mat l a).2) (ps ++ litp l p a ++ [⟨true, bs [], (mat l a).1, (mat l a).2⟩]) rfl (Nat.le_refl _) (by omega)
          refine ⟨litp l p a ++ (⟨true, bs [], (mat l a).1, (mat l a).2⟩ :: r), by rw [h1]; simp, good_lit hpa ha (fun b => good_copy h rfl h4 h2)⟩
      · rw [pk_lit l a p ps hlt h4]
        exact ih _ (by omega) _ _ _ rfl (by omega) (by omega)
    · rw [pk_end l a p ps hlt]
      refine ⟨litp l p l.length, rfl, ?_⟩
      have := good_lit (l := l) (p := p) (a := l.length) (by omega) (Nat.le_refl _) (r := []) (fun b => rfl)
      rw [List.append_nil] at this
      exact this
theorem pk_good0 (l : List UInt8) : Good l 0 false (pk l 0 0 []) := by
  obtain ⟨r, h1, h2⟩ := pk_good l _ 0 0 [] rfl (Nat.le_refl _) (Nat.zero_le _)
  rw [h1]
  exact h2
set_option maxRecDepth 100000 in
set_option maxHeartbeats 4000000 in
theorem main (s : ByteArray) (hs : s.size ≤ 1500) (w : World) :
    Calls Try.prog 11 #[.string s] w fun e w' => e = .returned (.bool true) ∧ Below w.heap.size w w' := by
  have hl0 : s.data.toList.length = s.size := by simp
  have HG0 := Lib.hid (pk_good0 s.data.toList)
  have HPA := Lib.hid (fun W => pack_any s (by omega) W)
  have HLN := pk_length s.data.toList
  generalize pk s.data.toList 0 0 [] = ps at *
  generalize hL : ps.length = L at *
  have HL := Lib.hid hL
  have HL0 := Lib.hid hl0
  have hL4 : L ≤ 4000 := by omega
  have hsi : ¬ (1500 : Int) < (s.size : Int) := by omega
  have hs15 : (s.size : Int) ≤ 1500 := by omega
  clear hL hl0 HLN
  go_enter Try.func11, Try.ntmps11
  go_wp2_with fail
  refine (awake_any _).mono ?_
  rintro e w1 ⟨rfl, hb1⟩
  have HB1 := Lib.hid hb1
  clear hb1
  go_wp2_with fail
  refine (HPA.out _).mono ?_
  rintro e w2 ⟨v, rfl, ho2, hb2⟩
  have HB2 := Lib.hid (HB1.out.trans (hb2.mono HB1.out.size))
  have HV := Lib.hid (partsAt_of ho2)
  clear hb2 ho2
  obtain ⟨va, vc, hv⟩ := HV.out.slice
  rw [HL.out] at hv
  subst hv
  go_wp2
  go_loopw [5, 6] (fun x i wr => ∃ (a k : Nat) (lit : Bool), x = .int .i64 (a : Int) ∧ i = .int .i64 (k : Int) ∧ k ≤ L ∧ a ≤ s.size ∧ Hid (Good s.data.toList a lit (ps.drop k)) ∧ Hid (lit = false → k = 0 ∨ ∃ h : k - 1 < ps.length, ps[k - 1].c = true) ∧ Hid (Below w2.heap.size w2 wr)) (fun _ i _ => L - (intOf i).toNat)
  case atStart => exact ⟨0, 0, false, rfl, rfl, by omega, by omega, HG0, Lib.hid (fun _ => .inl rfl), Lib.hid (Below.refl _ _)⟩
  case round =>
    obtain ⟨a, k, lit, rfl, rfl, hk, ha, HG, HLT, HB⟩ := hrel
    by_cases hlt : k < L
    · have hkl : k < ps.length := by have := HL.out; omega
      rcases (HV.out.below HB.out rfl) with ⟨h0, _⟩ | ⟨g, c, hg, hcs⟩
      · have := HL.out; rw [h0] at this; simp at this; omega
      have HCS := Lib.hid hcs
      obtain ⟨q0, q1, q2, q3⟩ := hcs k hkl
      clear hcs
      have hdr : ps.drop k = ps[k] :: ps.drop (k + 1) := List.drop_eq_getElem_cons hkl
      have hgo := HG.out
      rw [hdr, Good] at hgo
      have HPK : Hid (∃ h : k < ps.length, ps[k].c = ps[k].c) := Lib.hid ⟨hkl, rfl⟩
      obtain ⟨P, hP⟩ : ∃ P, ps[k] = P := ⟨_, rfl⟩
      rw [hP] at hgo q0 q1 q2 q3
      have HP := Lib.hid hP
      clear hdr hP
      obtain ⟨pc, pt, po, pl⟩ := P
      dsimp only at hgo q0 q1 q2 q3
      cases hg
      have hwg := HB.out.size
      cases pc with
      | false =>
        simp only [Bool.false_eq_true, if_false] at hgo
        obtain ⟨g1, g2, g3, g4, g5⟩ := hgo
        have HR := Lib.hid g5
        have hex : s.extract a (a + pt.size) = pt := by
          rw [extract_bs, show a + pt.size - a = pt.size by omega]
          exact g4.symm
        have h3 : a + pt.size ≤ s.size := by have := HL0.out; omega
        have hne : pt.toList.isEmpty = false := by
          rw [Bool.eq_false_iff]
          intro h
          rw [List.isEmpty_iff, toList_eq] at h
          have : pt.data.toList.length = pt.size := by simp
          rw [h] at this
          simp at this
          omega
        have HLL := Lib.hid (HLT.out g1)
        clear g1 g3 g4 g5
        have HX := Lib.hid (Box.new wr ⟨false, pt, po, pl⟩)
        have hb0 : Below w2.heap.size w2 (wr.alloc (.cells #[.bool false, .string pt, .int .i64 po, .int .i64 pl] 35)) := HB.out.alloc hwg _
        have HB0 := Lib.hid hb0
        obtain ⟨Y, hY⟩ : ∃ Y, a + pt.size = Y := ⟨_, rfl⟩
        rw [hY] at hex h3 HR
        have wY : (a : Int) + (pt.size : Int) = (Y : Int) := by omega
        have wY2 : IntKind.i64.wrap ((a : Int) + (pt.size : Int)) = (Y : Int) := by rw [Bt.wrap_i64]; omega
        have hsub : (s.size : Int) - (a : Int) = ((s.size - a : Nat) : Int) := by omega
        have hsub2 : IntKind.i64.wrap ((s.size : Int) - (a : Int)) = ((s.size - a : Nat) : Int) := by rw [Bt.wrap_i64]; omega
        have hgt : decide (((s.size - a : Nat) : Int) < (pt.size : Int)) = false := decide_eq_false (by omega)
        have hgt2 : decide (s.size - a < pt.size) = false := decide_eq_false (by omega)
        obtain ⟨p0, p1, p2, p3, -, -, -, -⟩ := HX.out.cells
        dsimp only at p0 p1 p2 p3
        have haY : a ≤ Y := by omega
        have hYs : Y ≤ s.size := by omega
        have hpp : (pt.toList != pt.toList) = false := by simp
        have HYY := Lib.hid hY
        clear hY hb0
        by_cases hk0 : k = 0
        · have hd0 : decide ((0 : Int) < (k : Int)) = false := decide_eq_false (by omega)
          have hd1 : decide (0 < k) = false := decide_eq_false (by omega)
          clear hk0
          go_wp2
          generalize hW1 : wr.alloc (.cells #[.bool false, .string pt, .int .i64 po, .int .i64 pl] 35) = W1 at *
          generalize hB1x : wr.heap.size = Bx at *
          go_big_quiet (fail)
          go_wp2
          go_roundw
          case rel => exact ⟨Y, k + 1, true, by go_num, by go_num, by omega, by omega, HR, Lib.hid (fun h => by cases h), Lib.hid (below_drewN HB0.out _)⟩
          case measure => simp [intOf]; omega
        · have hc : ∃ h : k - 1 < ps.length, ps[k - 1].c = true := by
            rcases HLL.out with h | h
            · exact absurd h hk0
            · exact h
          obtain ⟨hk1, hc1⟩ := hc
          have q4 := (HCS.out (k - 1) hk1).1
          rw [hc1] at q4
          have hd0 : decide ((0 : Int) < (k : Int)) = true := decide_eq_true (by omega)
          have hd1 : decide (0 < k) = true := decide_eq_true (by omega)
          have wk : (k : Int) - 1 = ((k - 1 : Nat) : Int) := by omega
          have wk2 : IntKind.i64.wrap ((k : Int) - 1) = ((k - 1 : Nat) : Int) := by rw [Bt.wrap_i64]; omega
          have hk1i : ((k - 1 : Nat) : Int) < (ps.length : Int) := by omega
          have q5 := (Below.alloc (Below.refl wr.heap.size wr) (Nat.le_refl _) (.cells #[.bool false, .string pt, .int .i64 po, .int .i64 pl] 35)).cell (p := ⟨g, (k - 1) * 4, none⟩) (World.block_lt_of_cell? wr ⟨g, (k - 1) * 4, none⟩ q4) |>.trans q4
          generalize k - 1 = K at *
          clear hk0
          go_wp2
          generalize hW1 : wr.alloc (.cells #[.bool false, .string pt, .int .i64 po, .int .i64 pl] 35) = W1 at *
          generalize hB1x : wr.heap.size = Bx at *
          go_big_quiet (fail)
          go_wp2
          go_roundw
          case rel => exact ⟨Y, k + 1, true, by go_num, by go_num, by omega, by omega, HR, Lib.hid (fun h => by cases h), Lib.hid (below_drewN HB0.out _)⟩
          case measure => simp [intOf]; omega
      | true =>
        simp only [if_true] at hgo
        obtain ⟨g1, g2, g3, g4, g5, g6, g7, g8, g9, g10⟩ := hgo
        obtain ⟨o, rfl⟩ : ∃ o : Nat, po = (o : Int) := ⟨_, g2⟩
        obtain ⟨n, rfl⟩ : ∃ n : Nat, pl = (n : Int) := ⟨_, g3⟩
        simp only [Int.toNat_natCast] at g1 g4 g5 g6 g7 g8 g9 g10
        have HR := Lib.hid g10
        have g8' : a + n ≤ s.size := by have := HL0.out; omega
        have HNE := Lib.hid g9
        have HM := Lib.hid (fun W => match_in s (by omega) a (by omega) W)
        rw [g1] at HM
        clear g1 g2 g3 g8 g9 g10
        have HX := Lib.hid (Box.new wr ⟨true, pt, o, n⟩)
        have hb0 : Below w2.heap.size w2 (wr.alloc (.cells #[.bool true, .string pt, .int .i64 (o : Int), .int .i64 (n : Int)] 35)) := HB.out.alloc hwg _
        have HB0 := Lib.hid hb0
        clear hb0
        have hsub : (s.size : Int) - (a : Int) = ((s.size - a : Nat) : Int) := by omega
        have hle : n ≤ s.size - a := by omega
        have h4i : 4 ≤ (n : Int) := by omega
        have hoi : (o : Int) ≤ (a : Int) := by omega
        obtain ⟨p0, p1, p2, p3, -, -, -, -⟩ := HX.out.cells
        dsimp only at p0 p1 p2 p3
        go_wp2_with fail
        refine (HM.out _).mono ?_
        rintro e w3 ⟨rfl, hb3⟩
        have HB3 : Hid (Below w2.heap.size w2 w3) := Lib.hid (HB0.out.trans (hb3.mono HB0.out.size))
        have HX3 := Lib.hid (HX.out.same (hb3.block _ HX.out.lt))
        clear hb3 p0 p1 p2 p3
        obtain ⟨p0, p1, p2, p3, -, -, -, -⟩ := HX3.out.cells
        dsimp only at p0 p1 p2 p3 ⊢
        generalize hB1x : wr.heap.size = Bx at *
        obtain ⟨Y, hY⟩ : ∃ Y, a + n = Y := ⟨_, rfl⟩
        rw [hY] at g8' HR HNE
        have wY : (a : Int) + (n : Int) = (Y : Int) := by omega
        have wY2 : IntKind.i64.wrap ((a : Int) + (n : Int)) = (Y : Int) := by rw [Bt.wrap_i64]; omega
        have HYY := Lib.hid hY
        by_cases h64 : n < 64
        · by_cases hYs : Y < s.size
          · obtain ⟨X, hX⟩ : ∃ X, Y - o = X := ⟨_, rfl⟩
            have hXs : X < s.size := by omega
            have wX : (Y : Int) - (o : Int) = (X : Int) := by omega
            have wX2 : IntKind.i64.wrap ((Y : Int) - (o : Int)) = (X : Int) := by rw [Bt.wrap_i64]; omega
            have hne := HNE.out h64 (by have := HL0.out; omega)
            rw [hX, List.getElem?_eq_getElem (by have := HL0.out; omega), List.getElem?_eq_getElem (by have := HL0.out; omega)] at hne
            have hne2 : s[Y] ≠ s[X] := fun e => hne (congrArg some e)
            have hYi : (Y : Int) < (s.size : Int) := by omega
            have hXi : (X : Int) < (s.size : Int) := by omega
            have hd1 : decide ((n : Int) < 64) = true := decide_eq_true (by omega)
            have hd2 : decide ((Y : Int) < (s.size : Int)) = true := decide_eq_true (by omega)
            have hd3 : decide (Y < s.size) = true := decide_eq_true (by omega)
            have hd4 : decide (n < 64) = true := decide_eq_true (by omega)
            clear hne hY hX
            generalize hy : s[Y] = y at *
            generalize hx : s[X] = x at *
            have hbv : ((y.toNat : Int) == (x.toNat : Int)) = false := by
              rw [beq_eq_false_iff_ne]
              intro e
              exact hne2 (UInt8.toNat_inj.1 (by omega))
            have hbv2 : (y.toNat == x.toNat) = false := by
              rw [beq_eq_false_iff_ne]
              intro e
              exact hne2 (UInt8.toNat_inj.1 (by omega))
            have HN2 := Lib.hid hne2
            clear hne2
            go_wp2
            go_big_quiet (fail)
            go_wp2
            go_roundw
            case rel => exact ⟨Y, k + 1, false, by go_num, by go_num, by omega, by omega, HR, Lib.hid (fun _ => .inr ⟨by simpa using hkl, by simp only [Nat.add_sub_cancel]; rw [HP.out]⟩), Lib.hid (below_drewN HB3.out _)⟩
            case measure => simp [intOf]; omega
          · have hd1 : decide ((n : Int) < 64) = true := decide_eq_true (by omega)
            have hd2 : decide ((Y : Int) < (s.size : Int)) = false := decide_eq_false (by omega)
            have hd3 : decide (Y < s.size) = false := decide_eq_false (by omega)
            have hd4 : decide (n < 64) = true := decide_eq_true (by omega)
            clear hY
            go_wp2
            go_big_quiet (fail)
            go_wp2
            go_roundw
            case rel => exact ⟨Y, k + 1, false, by go_num, by go_num, by omega, by omega, HR, Lib.hid (fun _ => .inr ⟨by simpa using hkl, by simp only [Nat.add_sub_cancel]; rw [HP.out]⟩), Lib.hid (below_drewN HB3.out _)⟩
            case measure => simp [intOf]; omega
        · have hd1 : decide ((n : Int) < 64) = false := decide_eq_false (by omega)
          have hd4 : decide (n < 64) = false := decide_eq_false (by omega)
          clear hY
          go_wp2
          go_big_quiet (fail)
          go_wp2
          go_roundw
          case rel => exact ⟨Y, k + 1, false, by go_num, by go_num, by omega, by omega, HR, Lib.hid (fun _ => .inr ⟨by simpa using hkl, by simp only [Nat.add_sub_cancel]; rw [HP.out]⟩), Lib.hid (below_drewN HB3.out _)⟩
          case measure => simp [intOf]; omega
    · obtain rfl : k = L := by omega
      have hfin : a = s.size := by
        have h := HG.out
        rw [List.drop_of_length_le (by have := HL.out; omega), Good] at h
        have := HL0.out
        omega
      subst hfin
      go_wp2
      go_ret
      exact ⟨rfl, HB2.out.trans (HB.out.mono HB2.out.size)⟩
set_option maxRecDepth 100000 in
set_option maxHeartbeats 2000000 in
theorem core (s : ByteArray) (hs : s.size ≤ maxLen) (w : World) :
    Calls Try.prog 11 #[.string s] w fun e w' => e = .returned (.bool true) ∧ Below w.heap.size w w' := by
  by_cases hb : 1500 < s.size
  · have hsi : (1500 : Int) < (s.size : Int) := by omega
    go_enter Try.func11, Try.ntmps11
    go_wp2_with fail
    refine (awake_any _).mono ?_
    rintro e w1 ⟨rfl, hb1⟩
    have HB1 := Lib.hid hb1
    clear hb1
    go_wp2
    go_ret
    exact ⟨rfl, HB1.out⟩
  · exact main s (by omega) w
theorem own : ownKnob Try.prog.godebug = none := by kernel_rfl
theorem laidOut : laidOutB Try.prog = true := by kernel_rfl
set_option maxRecDepth 100000 in
theorem lifted (os : Os) (started : os.Started) (H : Type) (enc : TypeId × Value → H) :
    ReturnsInHanded {} Try.checked os 11 .any (Rows.snappyEachSpec.pre6 enc Try.prog Try.f11 Rows.snappyEachRow.domain false) (Rows.snappyEachSpec.post enc Try.prog Try.f11 false true false false) := by
  refine returnsInHanded_of_change (C := Try.checked) own started (by kernel_rfl) Try.func11
    (ChangeSpec.witness6 (enc := enc) (C := Try.checked) false ⟨#[], #[.string ByteArray.empty], []⟩ 8 (by kernel_rfl) (by kernel_rfl) (by kernel_rfl) (by kernel_rfl)) ?_
  intro W base args ds gs before hval0 hW hcnd _
  have hval : ∀ (j : Nat) t v, Try.f11.params[j]? = some t → args[j]? = some v → Value.okWide Try.prog W .any base t v := hval0
  have hW' := hW
  obtain ⟨p, q, hA0, hV, rfl, hfz, hnd⟩ := hW
  have hA : DataW.TrodAll enc Try.prog W 0 (fun _ => true) true Try.f11.params.toList args.toList ds p := hA0
  rw [Try.params11] at hA hval
  obtain ⟨v0, vs0, d0, ds0, p0, q0, hargs, rfl, rfl, h0, r0⟩ := trodAll_cons hA
  obtain ⟨rfl, rfl, rfl⟩ := trodAll_nil r0
  obtain rfl : args = #[v0] := by cases args; simp_all
  obtain ⟨rfl, rfl⟩ := trodVars_none hV
  have k0 := h0
  have lt0 : ∀ x ∈ p0, x.block < W.heap.size := by obtain ⟨m, hm⟩ := k0; exact DataW.trod_lt m _ _ _ hm
  obtain ⟨a0, rfl, rfl, rfl, w0⟩ := open_string Try.underlying9 (hval 0 9 v0 rfl rfl) h0
  clear hA0 hval0
  refine (core a0 w0 W ).mono fun e W' ⟨he, bel⟩ => ?_
  subst he
  exact ⟨_, rfl, _, _, _, [], _, [], hW', trodAll_mk1 (shut_bool Try.underlying4 _), (trodAll_cons_mk (Below.trod laidOut (by kernel_rfl) (of_decide_eq_true (by kernel_rfl)) k0 bel lt0) trodAll_mk0), rfl, bel.frame _, fun h => by cases h⟩
theorem over : Rows.snappyEachRow.holds Try.pinned (OpenSpec.ofChange Rows.snappyEachSpec) :=
  OpenClaim.holds_of_wide 11 Try.f11 rfl rfl rfl rfl rfl rfl rfl ⟨rfl, rfl, rfl, rfl, rfl⟩ rfl rfl rfl rfl rfl (by kernel_rfl) Try.func11 (by kernel_rfl)
    (of_decide_eq_true (by kernel_rfl)) (by unfold Func.isWrapper; first | (rw [if_pos (by decide +kernel)]; kernel_rfl) | (rw [if_neg (by decide +kernel)]; exact ⟨rfl, rfl⟩))
    (fun os started H enc _ => lifted os started H enc)
theorem proved : Rows.SnappyEachSaid := over
end Go.Proofs.Ytnnogjojoeajnaa.snappyEach
