/- HeadSwaps: for any capacity, tapes, head, failure and numbers kept the law answers true. Condition: the table of package sum reads as its initialiser lays it (tied to the program's text by the card). -/
import Derived.Test.YtpcpbdcdapmlnaaDoorCards
import Derived.Test.YtpcpbdcdapmlnaaDoorTie
import Derived.Test.YtpcpbdcdapmlnaaDoorSf
import Derived.Test.YtpcpbdcdapmlnaaDoorSx
import Derived.Deep.CutRange
import Derived.SevenTiedAt
namespace Go.Proofs.YtpcpbdcdapmlnaaDoor.headSwaps
open Go Go.ChangeShapes Go.WideShapes Go.ChangeAt Go.RowKit
open Go.ChangeMaps (open_string shut_string)
set_option linter.unusedVariables false
set_option maxRecDepth 100000
/-- How it lies in the midst of the law. -/
structure Sb (w W : World) (h : He) (u : Value) (B : Nat) (d : Dk) : Prop where
  X : Box4 W w.heap.size (.int .i64 h.gen) (.int .i64 h.base) (.int .i64 h.snap) u
  L : Below w.heap.size w W
  D : DAt W B d
  Z : w.heap.size < B
theorem Sb.belowAll {w W W' : World} {h : He} {u : Value} {B : Nat} {d : Dk} (s : Sb w W h u B d) (hb : Below W.heap.size W W') : Sb w W' h u B d := ⟨s.X.below hb s.X.lt, below_trans' s.L hb, s.D.below hb s.D.lt, s.Z⟩
theorem Sb.disk {w W W' : World} {h : He} {u : Value} {B : Nat} {d d' : Dk} (s : Sb w W h u B d) (hd : DAt W' B d') (hg : W.grownBy W' (some B)) : Sb w W' h u B d' :=
  ⟨s.X.kept hg (by have := s.Z; simp; omega), s.L.grown hg s.L.size (fun k hk => by cases hk; exact Nat.le_of_lt s.Z), hd, s.Z⟩
/-- The old head, in a box of its own. -/
structure So (W : World) (b B : Nat) (k : He) (va : Option Addr) (vc : Nat) : Prop where
  X : Box4 W b (.int .i64 k.gen) (.int .i64 k.base) (.int .i64 k.snap) (.slice va k.log.length vc)
  K : KAt W (.slice va k.log.length vc) k.log
  L : ∀ q, (Value.slice va k.log.length vc).ownBlock = some q → q < W.heap.size
  n : b ≠ B
  m : (Value.slice va k.log.length vc).ownBlock ≠ some B
theorem So.grown {W W' : World} {b B : Nat} {k : He} {va : Option Addr} {vc : Nat} (s : So W b B k va vc) {r : Option Nat} (hg : W.grownBy W' r) (hr : r = none ∨ r = some B) : So W' b B k va vc := by
  refine ⟨s.X.kept hg ?_, s.K.same (fun g hlt hv => hg.block g hlt ?_), fun q hq => Nat.lt_of_lt_of_le (s.L q hq) hg.size, s.n, s.m⟩
  · rcases hr with rfl | rfl
    · simp
    · have := s.n; simpa using this
  · rcases hr with rfl | rfl
    · simp
    · intro e; exact s.m (by rw [hv, e])
theorem So.belowAll {W W' : World} {b B : Nat} {k : He} {va : Option Addr} {vc : Nat} (s : So W b B k va vc) (hb : Below W.heap.size W W') : So W' b B k va vc := s.grown (grown_below hb none) (.inl rfl)
theorem bel2 {w W : World} {o : Obj} (hb : Below (w.alloc o).heap.size (w.alloc o) W) : Below w.heap.size w W := (below_one w o).trans (hb.mono (by simp))
theorem bytes_ne {y : ByteArray} (hy : ¬ y = ⟨#[]⟩) : y.toList.isEmpty = false := by
  cases he : y.toList.isEmpty
  · rfl
  · refine absurd ?_ hy
    rw [toList_eq, List.isEmpty_iff] at he
    obtain ⟨a⟩ := y
    obtain ⟨l⟩ := a
    have : l = [] := he
    rw [this]
theorem firm_made {cp : Nat} {l : List Tq} (h : ∀ q ∈ l, q.b = ⟨#[]⟩) : firmD (made0 cp l) := fun j _ => by
  show (ofT l j).f = (ofT l j).s.size
  unfold ofT
  cases e : l[j]? with
  | none => rfl
  | some q =>
    have hq := h q (List.mem_of_getElem? e)
    show q.a.size = (q.a ++ q.b).size
    rw [hq, ByteArray.size_append]
    rfl
theorem old_len (d : Dk) : (ldH d).log.length ≤ 9223372036854775807 := by
  have key : ∀ s : ByteArray, (ofB s).1.log.length ≤ 9223372036854775807 := fun s => by
    rcases of_facts s with ⟨_, h⟩ | ⟨_, h⟩
    · have := (mayB_ok h).len; omega
    · rw [h]; exact Nat.zero_le _
  unfold ldH cHead
  split
  · exact key _
  · exact key _
theorem ldR_len (d : Dk) : (ldR d).1.log.length ≤ 9223372036854775807 := by
  unfold ldR
  split
  · exact Nat.zero_le _
  · exact old_len d
theorem loose_none {x : Tp} (h : x.f = x.s.size) : (qT x).b = ⟨#[]⟩ := by
  show x.s.extract x.f x.s.size = _
  rw [h]
  exact ByteArray.extract_same
set_option maxHeartbeats 1000000 in
theorem away (cap : Int) (l : List Tq) (tv : Value) (h : He) (u : Value) (fail : Int) (ks : List Int) (kv : Value) (w : World) (hl : Tps w tv l) (hf : HFit w h u) (hk : KAt w kv ks) (hkl : ks.length ≤ 9223372036854775807) (hT : Hid (Tab w)) (hc : 100 < h.log.length ∨ 100 < ks.length) :
    Calls Tryd.prog 5 #[.int .i64 cap, tv, hval h u, .int .i64 fail, kv] w (Ret w (.bool true)) := by
  have HB := Lib.hid (below_one w (.cells #[.int .i64 h.gen, .int .i64 h.base, .int .i64 h.snap, u] 26))
  have HM := Lib.hid (many_any l tv _ (hl.below HB.out (Nat.le_refl _)))
  have HA := Lib.hid (fun W (hW : Below w.heap.size w W) => awake_any W (Lib.hid (hT.out.below hW)))
  have X0 := Lib.hid (Box4.new w (.int .i64 h.gen) (.int .i64 h.base) (.int .i64 h.snap) u)
  obtain ⟨a, c, hu⟩ := hf.k.slice
  obtain ⟨a2, c2, hkv⟩ := hk.slice
  have hl2 := hf.l
  clear hf hl hk
  unfold hval
  subst hu hkv
  by_cases h1 : 100 < h.log.length
  · clear hc
    go_enter Tryd.func5, Tryd.ntmps5
    go_wp2_with fail
    refine HM.out.mono ?_
    rintro e w1 ⟨b, rfl, hb⟩
    have X1 := Lib.hid (X0.out.below hb X0.out.lt)
    have B1 := Lib.hid (below_trans' HB.out hb)
    clear hb
    have q3 := X1.out.c3
    cases b
    · go_wp2_with fail
      refine (HA.out _ B1.out).mono ?_
      rintro e w2 ⟨rfl, hb⟩
      have B2 := Lib.hid (below_trans' B1.out hb)
      clear hb
      go_wp2
      go_ret
      exact ⟨rfl, B2.out⟩
    · go_wp2_with fail
      refine (HA.out _ B1.out).mono ?_
      rintro e w2 ⟨rfl, hb⟩
      have B2 := Lib.hid (below_trans' B1.out hb)
      clear hb
      go_wp2
      go_ret
      exact ⟨rfl, B2.out⟩
  · have h2 : 100 < ks.length := by omega
    clear hc
    go_enter Tryd.func5, Tryd.ntmps5
    go_wp2_with fail
    refine HM.out.mono ?_
    rintro e w1 ⟨b, rfl, hb⟩
    have X1 := Lib.hid (X0.out.below hb X0.out.lt)
    have B1 := Lib.hid (below_trans' HB.out hb)
    clear hb
    have q3 := X1.out.c3
    cases b
    · go_wp2_with fail
      refine (HA.out _ B1.out).mono ?_
      rintro e w2 ⟨rfl, hb⟩
      have B2 := Lib.hid (below_trans' B1.out hb)
      clear hb
      go_wp2
      go_ret
      exact ⟨rfl, B2.out⟩
    · go_wp2_with fail
      refine (HA.out _ B1.out).mono ?_
      rintro e w2 ⟨rfl, hb⟩
      have B2 := Lib.hid (below_trans' B1.out hb)
      clear hb
      go_wp2
      go_ret
      exact ⟨rfl, B2.out⟩
set_option maxHeartbeats 4000000 in
theorem main (cap : Int) (l : List Tq) (tv : Value) (h : He) (u : Value) (fail : Int) (ks : List Int) (kv : Value) (w : World) (hcap : (Lit.int .i64 cap).wf = true) (hl : Tps w tv l) (hf : HFit w h u) (hfail : (Lit.int .i64 fail).wf = true) (hk : KAt w kv ks) (hkl : ks.length ≤ 9223372036854775807) (hT : Hid (Tab w)) (h1 : h.log.length ≤ 100) (h2 : ks.length ≤ 100) :
    Calls Tryd.prog 5 #[.int .i64 cap, tv, hval h u, .int .i64 fail, kv] w (Ret w (.bool true)) := by
  have HB := Lib.hid (below_one w (.cells #[.int .i64 h.gen, .int .i64 h.base, .int .i64 h.snap, u] 26))
  have HMY := Lib.hid (many_any l tv _ (hl.below HB.out (Nat.le_refl _)))
  have HA := Lib.hid (fun W (hW : Below w.heap.size w W) => awake_any W (Lib.hid (hT.out.below hW)))
  have HL := Lib.hid (fun W (hW : Below w.heap.size w W) => load_any cap l tv W (hl.below hW (Nat.le_refl _)).at' hcap hl.len hl.wide)
  have HLT := Lib.hid (fun W (hW : Below w.heap.size w W) => hl.below hW (Nat.le_refl _))
  have HH := Lib.hid (fun W B d (hW : Below w.heap.size w W) (hD : DAt W B d) (hok : d.ok) => load_any' B d W hD hok (Lib.hid (hT.out.below hW)))
  have HP := Lib.hid (fun W B d (hW : Below w.heap.size w W) (hD : DAt W B d) (hok : d.ok) => put_any B d h u W hD hok (hf.k.below hW (Nat.le_refl _)) hf.l (Lib.hid (hT.out.below hW)))
  have HM := Lib.hid (fun W (hW : Below w.heap.size w W) => may_any h u W (hf.k.below hW (Nat.le_refl _)) hf.l)
  have HS := Lib.hid (fun (W : World) (x : He) k (hk : KAt W k x.log) (hxl : x.log.length ≤ 9223372036854775807) (hW : Below w.heap.size w W) => same_any' x h k u W hk (hf.k.below hW (Nat.le_refl _)) hxl hf.l)
  have HK := Lib.hid (fun W (hW : Below w.heap.size w W) => hk.below hW (Nat.le_refl _))
  have HKO : Hid (∀ B, w.heap.size < B → ks ≠ [] → kv.ownBlock ≠ some B) := Lib.hid (fun B hB hne e => by have := hk.lt hne B e; omega)
  have X0 := Lib.hid (Box4.new w (.int .i64 h.gen) (.int .i64 h.base) (.int .i64 h.snap) u)
  obtain ⟨a, c, hu⟩ := hf.k.slice
  obtain ⟨a2, c2, hkv⟩ := hk.slice
  obtain ⟨a3, c3, htv⟩ := At2.slice hl.at'
  rw [List.length_map] at htv
  obtain ⟨L, hL⟩ : ∃ L, L = l.length := ⟨_, rfl⟩
  rw [← hL] at htv
  have HLL := Lib.hid hL
  have hlen : L ≤ 9223372036854775807 := by rw [hL]; exact hl.len
  clear hf hl hk hL
  unfold hval at *
  subst hu hkv htv
  go_enter Tryd.func5, Tryd.ntmps5
  go_wp2_with fail
  refine HMY.out.mono ?_
  rintro e w1 ⟨b, rfl, hb⟩
  have X1 := Lib.hid (X0.out.below hb X0.out.lt)
  have B1 := Lib.hid (below_trans' HB.out hb)
  clear hb
  have q3 := X1.out.c3
  cases b
  · go_wp2_with fail
    refine (HA.out _ B1.out).mono ?_
    rintro e w2 ⟨rfl, hb⟩
    have X2 := Lib.hid (X1.out.below hb X1.out.lt)
    have B2 := Lib.hid (below_trans' B1.out hb)
    have hz2 : Hid (w.heap.size < w2.heap.size) := Lib.hid X2.out.lt
    clear hb q3 X1 B1
    go_wp2_with fail
    refine (HL.out _ B2.out).mono ?_
    rintro e w3 ⟨hb, ⟨hE, rfl⟩ | ⟨h0, cp, hcp, hok, B, hB, rfl, hd⟩⟩
    · have B3 := Lib.hid (below_trans' B2.out hb)
      have hE2 := ne0 hE
      clear hb
      go_wp2
      go_ret
      exact ⟨rfl, B3.out⟩
    · have S3 : Hid (Sb w w3 h (.slice a h.log.length c) B (made0 cp l)) := Lib.hid ⟨X2.out.below hb X2.out.lt, below_trans' B2.out hb, hd, Nat.lt_of_lt_of_le hz2.out hB⟩
      have OK := Lib.hid hok
      clear hb hd hok h0 hB X2 B2
      go_wp2
      go_loopw [13] (fun i wl => ∃ k : Nat, i = .int .i64 (k : Int) ∧ k ≤ L ∧ Hid (∀ q ∈ l.take k, q.b = ⟨#[]⟩) ∧ Hid (Sb w wl h (.slice a h.log.length c) B (made0 cp l))) (fun i _ => L - (intOf i).toNat)
      case atStart => exact ⟨0, rfl, by omega, Lib.hid (fun q hq => by simp at hq), S3⟩
      case round =>
        obtain ⟨k, rfl, hk, HE, S⟩ := hrel
        by_cases hlt : k < L
        · have hkl : k < l.length := by rw [← HLL.out]; exact hlt
          obtain ⟨g, o, c', e⟩ := At2.pos (HLT.out _ S.out.L).at' (fun e => by have := congrArg List.length e; rw [List.length_map, List.length_nil] at this; omega)
          injection e with e1 e2 e3
          subst e1
          obtain ⟨p0, p1⟩ := At2.at2 (HLT.out _ S.out.L).at' k (by rw [List.length_map]; exact hkl)
          rw [List.getElem_map] at p0 p1
          have hq : ∀ q ∈ l.take (k + 1), q ∈ l.take k ∨ q = l[k] := fun q hq => by
            rw [List.take_succ_eq_append_getElem hkl] at hq
            rcases List.mem_append.1 hq with h | h
            · exact .inl h
            · exact .inr (List.mem_singleton.1 h)
          have HQ := Lib.hid hq
          clear hq
          generalize l[k] = q at *
          obtain ⟨x, y⟩ := q
          unfold tq at p0 p1
          dsimp only at p0 p1
          by_cases hy : y = ⟨#[]⟩
          · have HY := Lib.hid hy
            subst hy
            go_wp2
            go_roundw
            case rel => exact ⟨k + 1, by go_num, by omega, Lib.hid (fun q hq => by
              rcases HQ.out q hq with h | h
              · exact HE.out q h
              · rw [h]), S⟩
            case measure => simp [intOf]; omega
          · have hye := bytes_ne hy
            go_wp2
            go_ret
            exact ⟨rfl, S.out.L⟩
        · have F0 := Lib.hid (firm_made (cp := cp) (l := l) (fun q hq => HE.out q (by rw [List.take_of_length_le (by have := HLL.out; omega)]; exact hq)))
          have N0 : Hid ((made0 cp l).dn = false ∧ (made0 cp l).dm = false) := Lib.hid ⟨rfl, rfl⟩
          clear HE
          generalize made0 cp l = d0 at *
          have HLD := Lib.hid (HH.out wr B d0 S.out.L S.out.D OK.out)
          rw [ld_up N0.out.1] at HLD
          have SW : Hid (∀ d1 : Dk, d1.ok → d1.dn = false → d1.T = d0.T → (ldI d0 = true → (ldH d0).gen < h.gen) → Sw d0 h (putR d1 h) (backD (putR d1 h).1 ks)) := Lib.hid (fun d1 ok1 up1 hT1 hg => swaps ok1 N0.out.1 up1 hT1 F0.out h hg ks)
          have PT := Lib.hid (pt_up N0.out.1)
          have T1 := Lib.hid (cTape_le (ofB (d0.T 0).s).1.gen (ofB (d0.T 1).s).1.gen)
          have T1 : Hid (ldT d0 ≤ 1) := T1
          have OLN : Hid ((ldH d0).log.length ≤ 9223372036854775807) := Lib.hid (old_len d0)
          generalize hold : ldH d0 = old at *
          have HOLD := Lib.hid hold
          clear hold
          generalize ldT d0 = T at *
          cases hI : ldI d0
          · rw [hI] at HLD SW PT
            rw [if_neg (by simp)] at PT
            have SW2 : Hid (∀ d1 : Dk, d1.ok → d1.dn = false → d1.T = d0.T → Sw d0 h (putR d1 h) (backD (putR d1 h).1 ks)) := Lib.hid (fun d1 a b c => SW.out d1 a b c (fun e => by cases e))
            go_wp2_with fail
            refine HLD.out.mono ?_
            rintro e w4 ⟨v4, rfl, ho, hb⟩
            obtain ⟨va4, vc4, hv4⟩ := ho.shape
            rw [List.length_map] at hv4
            subst hv4
            have HV : Hid (hval old (.slice va4 old.log.length vc4) = .agg #[.int .i64 old.gen, .int .i64 old.base, .int .i64 old.snap, .slice va4 old.log.length vc4]) := Lib.hid rfl
            rw [HV.out]
            have hBw := S.out.D.lt
            have hsz := hb.size
            have S4 := Lib.hid ((S.out.belowAll hb).belowAll (below_one w4 (.cells #[.int .i64 old.gen, .int .i64 old.base, .int .i64 old.snap, .slice va4 old.log.length vc4] 26)))
            have O4 : Hid (So (w4.alloc (.cells #[.int .i64 old.gen, .int .i64 old.base, .int .i64 old.snap, .slice va4 old.log.length vc4] 26)) w4.heap.size B old va4 vc4) := Lib.hid ⟨Box4.new _ _ _ _ _, ho.kat.below (below_one _ _) (Nat.le_refl _), fun q hq => by have := (ho.lt q hq).2; simp; omega, by omega, fun e => by have := (ho.lt _ e).1; omega⟩
            have TA := Lib.hid (tapes_any B d0 (w4.alloc (.cells #[.int .i64 old.gen, .int .i64 old.base, .int .i64 old.snap, .slice va4 old.log.length vc4] 26)) S4.out.D OK.out.t)
            have q0 := S4.out.X.c0
            have o0 := O4.out.X.c0
            clear ho hb S HLD
            go_wp2_with fail
            refine TA.out.mono ?_
            rintro e w5 ⟨rfl, htr⟩
            have S5 := Lib.hid (S4.out.belowAll htr.below)
            have O5 := Lib.hid (O4.out.belowAll htr.below)
            have D5 : Hid (Told w5 (w4.heap.size + 1) d0.T) := Lib.hid (by have := htr.told; rw [World.size_alloc] at this; exact this)
            have GB : w4.heap.size + 1 ≠ B := by omega
            clear htr S4 O4 TA q0 o0 SW
            go_upto_region 15 with fail
            go_cut [97] from 89 (fun x wx => x = .bool false ∧ ∃ d1 : Dk, Hid (d1.ok ∧ d1.dn = false ∧ d1.T = d0.T) ∧ Hid (Sb w wx h (.slice a h.log.length c) B d1) ∧ Hid (So wx w4.heap.size B old va4 vc4) ∧ Hid (Told wx (w4.heap.size + 1) d0.T))
            case first =>
              by_cases hfl : 0 ≤ fail
              · obtain ⟨fn, rfl⟩ := Int.eq_ofNat_of_zero_le hfl
                have hrem : ((fn : Nat) : Int).tmod 5 = ((fn % 5 : Nat) : Int) := by rw [Int.tmod_eq_emod_of_nonneg (by omega)]; rfl
                have hm5 := Nat.mod_lt fn (show 0 < 5 by omega)
                have FA := fail_any B d0 ((fn % 5 : Nat) : Int) w5 S5.out.D
                have e1 : failD d0 ((fn % 5 : Nat) : Int) = ({ d0 with dm := true, left := fn % 5 }, 0) := by
                  unfold failD
                  rw [N0.out.1, if_neg (by simp), if_neg (by omega), Int.toNat_natCast]
                have ok1 := failD_ok OK.out ((fn % 5 : Nat) : Int) (by omega)
                rw [e1] at FA ok1
                have FA := Lib.hid FA
                have OK1 := Lib.hid ok1
                clear e1 ok1
                generalize fn % 5 = M5 at *
                go_wp2_with fail
                refine FA.out.mono ?_
                rintro e w6 ⟨rfl, hd, hg⟩
                have S6 := Lib.hid (S5.out.disk hd hg)
                have O6 := Lib.hid (O5.out.grown hg (.inr rfl))
                have D6 := Lib.hid (D5.out.grown hg GB)
                clear hd hg
                go_wp2_with fail
                go_meet
                exact ⟨rfl, _, Lib.hid ⟨OK1.out, N0.out.1, rfl⟩, S6, O6, D6⟩
              · go_wp2_with fail
                go_meet
                exact ⟨rfl, d0, Lib.hid ⟨OK.out, N0.out.1, rfl⟩, S5, O5, D5⟩
            case rest =>
              obtain ⟨rfl, d1, HD1, S6, O6, D6⟩ := hcut
              clear S5 O5 D5
              have SWD := Lib.hid (SW2.out d1 HD1.out.1 HD1.out.2.1 HD1.out.2.2)
              have PU := Lib.hid (HP.out wc B d1 S6.out.L S6.out.D HD1.out.1)
              have PK := Lib.hid (putR_ok HD1.out.1 h)
              have B3 := Lib.hid (fun W (hD : DAt W B (putR d1 h).1) (hW : Below w.heap.size w W) => back_disk B (putR d1 h).1 ks (.slice a2 ks.length c2) W hD PK.out.t (HK.out W hW) (HKO.out B S6.out.Z) hkl)
              have K3 := Lib.hid (backD_ok PK.out ks)
              have UPF := SWD.out.up
              generalize backD (putR d1 h).1 ks = d3 at *
              generalize putR d1 h = P at *
              obtain ⟨Pd, Pr⟩ := P
              dsimp only at PU PK B3 UPF
              have x0 := S6.out.X.c0; have x1 := S6.out.X.c1; have x2 := S6.out.X.c2; have x3 := S6.out.X.c3
              go_wp2_with fail
              refine PU.out.mono ?_
              rintro e w7 ⟨rfl, hd, hg⟩
              have S7 := Lib.hid (S6.out.disk hd hg)
              have O7 := Lib.hid (O6.out.grown hg (.inr rfl))
              have D7 := Lib.hid (D6.out.grown hg GB)
              have UA := Lib.hid (up_any B Pd w7 hd)
              have he45 : decide (Pr = 45) = ((Pr : Int) == 45) := by
                by_cases e : Pr = 45
                · rw [e]; rfl
                · rw [decide_eq_false e]; exact (beq_eq_false_iff_ne.2 (by omega)).symm
              rw [UPF, he45] at UA
              clear hd hg S6 O6 D6 x0 x1 x2 x3 UPF he45
              go_wp2_with fail
              refine UA.out.mono ?_
              rintro e w8 ⟨rfl, rfl⟩
              go_wp2_with fail
              refine (B3.out _ S7.out.D S7.out.L).mono ?_
              rintro e w9 ⟨rfl, hd, hg⟩
              have S9 := Lib.hid (S7.out.disk hd hg)
              have O9 := Lib.hid (O7.out.grown hg (.inr rfl))
              have D9 := Lib.hid (D7.out.grown hg GB)
              have HLN := Lib.hid (HH.out w9 B d3 S9.out.L S9.out.D K3.out)
              rw [SWD.out.err] at HLN
              have SL := Lib.hid SWD.out.load
              have XLN : Hid ((ldR d3).1.log.length ≤ 9223372036854775807) := Lib.hid (ldR_len d3)
              generalize hR3 : ldR d3 = R3 at *
              clear hR3
              obtain ⟨X, T3, I3, E3⟩ := R3
              dsimp only at HLN SL XLN
              clear hd hg S7 O7 D7 UA B3
              go_wp2_with fail
              refine HLN.out.mono ?_
              rintro e w10 ⟨v10, rfl, ho, hb⟩
              obtain ⟨va10, vc10, hv10⟩ := ho.shape
              rw [List.length_map] at hv10
              subst hv10
              have HV2 : Hid (hval X (.slice va10 X.log.length vc10) = .agg #[.int .i64 X.gen, .int .i64 X.base, .int .i64 X.snap, .slice va10 X.log.length vc10]) := Lib.hid rfl
              rw [HV2.out]
              have hBw9 := S9.out.D.lt
              have hsz9 := hb.size
              have S10 := Lib.hid ((S9.out.belowAll hb).belowAll (below_one w10 (.cells #[.int .i64 X.gen, .int .i64 X.base, .int .i64 X.snap, .slice va10 X.log.length vc10] 26)))
              have O10 := Lib.hid ((O9.out.belowAll hb).belowAll (below_one w10 (.cells #[.int .i64 X.gen, .int .i64 X.base, .int .i64 X.snap, .slice va10 X.log.length vc10] 26)))
              have Q10 : Hid (So (w10.alloc (.cells #[.int .i64 X.gen, .int .i64 X.base, .int .i64 X.snap, .slice va10 X.log.length vc10] 26)) w10.heap.size B X va10 vc10) := Lib.hid ⟨Box4.new _ _ _ _ _, ho.kat.below (below_one _ _) (Nat.le_refl _), fun q hq => by have := (ho.lt q hq).2; simp; omega, by omega, fun e => by have := (ho.lt _ e).1; omega⟩
              have D10 := Lib.hid (((D9.out.below hb D9.out.lt)).below (below_one w10 (.cells #[.int .i64 X.gen, .int .i64 X.base, .int .i64 X.snap, .slice va10 X.log.length vc10] 26)) (by have := (D9.out.below hb D9.out.lt).lt; exact this))
              have TB := Lib.hid (tapes_any B d3 (w10.alloc (.cells #[.int .i64 X.gen, .int .i64 X.base, .int .i64 X.snap, .slice va10 X.log.length vc10] 26)) S10.out.D K3.out.t)
              clear ho hb S9 O9 D9 HLN
              go_wp2_with fail
              refine TB.out.mono ?_
              rintro e w11 ⟨rfl, htr⟩
              have S11 := Lib.hid (S10.out.belowAll htr.below)
              have O11 := Lib.hid (O10.out.belowAll htr.below)
              have Q11 := Lib.hid (Q10.out.belowAll htr.below)
              have D11 := Lib.hid (D10.out.below htr.below D10.out.lt)
              have F11 : Hid (Told w11 (w10.heap.size + 1) d3.T) := Lib.hid (by have := htr.told; rw [World.size_alloc] at this; exact this)
              clear htr S10 O10 Q10 D10 TB
              go_wp2
              go_loopw [24] (fun i wl => ∃ k : Nat, i = .int .i64 (k : Int) ∧ k ≤ 32 ∧ Hid (Sb w wl h (.slice a h.log.length c) B d3) ∧ Hid (So wl w4.heap.size B old va4 vc4) ∧ Hid (So wl w10.heap.size B X va10 vc10) ∧ Hid (Told wl (w4.heap.size + 1) d0.T) ∧ Hid (Told wl (w10.heap.size + 1) d3.T)) (fun i _ => 32 - (intOf i).toNat)
              case atStart => exact ⟨0, rfl, by omega, S11, O11, Q11, D11, F11⟩
              case round =>
                obtain ⟨k2, rfl, hk2, S12, O12, Q12, D12, F12⟩ := hrel
                by_cases hlt2 : k2 < 32
                · have p0 := D12.out.a k2 hlt2
                  have p1 := D12.out.b k2 hlt2
                  have r0 := F12.out.a k2 hlt2
                  have r1 := F12.out.b k2 hlt2
                  rw [loose_none (F0.out k2 hlt2)] at p1
                  rw [loose_none (SWD.out.loose k2 hlt2)] at r1
                  have hbb := Lib.hid (fun nq => below_drewN (Below.refl wr.heap.size wr) nq)
                  have REL : Hid (∀ nq, Hid (Sb w (wr.drewN nq) h (.slice a h.log.length c) B d3) ∧ Hid (So (wr.drewN nq) w4.heap.size B old va4 vc4) ∧ Hid (So (wr.drewN nq) w10.heap.size B X va10 vc10) ∧ Hid (Told (wr.drewN nq) (w4.heap.size + 1) d0.T) ∧ Hid (Told (wr.drewN nq) (w10.heap.size + 1) d3.T)) :=
                    Lib.hid (fun nq => ⟨Lib.hid (S12.out.belowAll (hbb.out nq)), Lib.hid (O12.out.belowAll (hbb.out nq)), Lib.hid (Q12.out.belowAll (hbb.out nq)), Lib.hid (D12.out.below (hbb.out nq) D12.out.lt), Lib.hid (F12.out.below (hbb.out nq) F12.out.lt)⟩)
                  clear hbb S12 O12 Q12 D12 F12
                  by_cases hpt : k2 = ptT d0
                  · rw [PT.out] at hpt
                    have hj1 : ¬ ((1 : Int) < (k2 : Int)) := by omega
                    have hj2 : ((k2 : Int) == 1) = false := by rw [beq_eq_false_iff_ne]; omega
                    clear hpt
                    generalize (qT (d0.T k2)).a = A at *
                    generalize (qT (d3.T k2)).a = A2 at *
                    cases hA : (A2.toList == A.toList)
                    · go_wp2_with fail
                      go_quiet (fail)
                      rename_i nq
                      go_wp2
                      go_roundw
                      case rel => exact ⟨k2 + 1, by go_num, by omega, (REL.out nq).1, (REL.out nq).2.1, (REL.out nq).2.2.1, (REL.out nq).2.2.2.1, (REL.out nq).2.2.2.2⟩
                      case measure => simp [intOf]; omega
                    · go_wp2_with fail
                      go_quiet (fail)
                      rename_i nq
                      go_wp2
                      go_roundw
                      case rel => exact ⟨k2 + 1, by go_num, by omega, (REL.out nq).1, (REL.out nq).2.1, (REL.out nq).2.2.1, (REL.out nq).2.2.2.1, (REL.out nq).2.2.2.2⟩
                      case measure => simp [intOf]; omega
                  · rw [SWD.out.tapes k2 hlt2 hpt] at r0
                    generalize (qT (d0.T k2)).a = A at *
                    have hA : (A.toList == A.toList) = true := by simp
                    go_wp2_with fail
                    go_quiet (fail)
                    rename_i nq
                    go_wp2
                    go_roundw
                    case rel => exact ⟨k2 + 1, by go_num, by omega, (REL.out nq).1, (REL.out nq).2.1, (REL.out nq).2.2.1, (REL.out nq).2.2.2.1, (REL.out nq).2.2.2.2⟩
                    case measure => simp [intOf]; omega
                · obtain rfl : k2 = 32 := by omega
                  have FRM := Lib.hid SWD.out.form
                  dsimp only at FRM
                  clear D12 F12 SWD
                  rcases SL.out with ⟨e1, e2, e3⟩ | ⟨e1, e2, e3⟩
                  · obtain rfl : h = X := e1.symm
                    obtain rfl : true = I3 := e2.symm
                    have C1 := Lib.hid (HS.out _ h (.slice va10 h.log.length vc10) Q12.out.K XLN.out S12.out.L)
                    rw [show sameB h h = true by unfold sameB; simp] at C1
                    have e4 : ((Pr : Int) != 4) = true := by rw [bne_iff_ne]; omega
                    clear e3
                    have x0 := S12.out.X.c0; have x1 := S12.out.X.c1; have x2 := S12.out.X.c2; have x3 := S12.out.X.c3
                    have y0 := O12.out.X.c0; have y1 := O12.out.X.c1; have y2 := O12.out.X.c2; have y3 := O12.out.X.c3
                    have z0 := Q12.out.X.c0; have z1 := Q12.out.X.c1; have z2 := Q12.out.X.c2; have z3 := Q12.out.X.c3
                    by_cases hp0 : Pr = 0
                    · subst hp0
                      go_wp2_with fail
                      refine C1.out.mono ?_
                      rintro e w13 ⟨rfl, hb⟩
                      have S13 := Lib.hid (S12.out.belowAll hb)
                      have O13 := Lib.hid (O12.out.belowAll hb)
                      have Q13 := Lib.hid (Q12.out.belowAll hb)
                      clear hb x0 x1 x2 x3 y0 y1 y2 y3 z0 z1 z2 z3 S12 O12 Q12
                      have x0 := S13.out.X.c0; have x1 := S13.out.X.c1; have x2 := S13.out.X.c2; have x3 := S13.out.X.c3
                      have y0 := O13.out.X.c0; have y1 := O13.out.X.c1; have y2 := O13.out.X.c2; have y3 := O13.out.X.c3
                      have z0 := Q13.out.X.c0; have z1 := Q13.out.X.c1; have z2 := Q13.out.X.c2; have z3 := Q13.out.X.c3
                      go_wp2
                      go_ret
                      exact ⟨rfl, S13.out.L⟩
                    · have e0 : ((Pr : Int) != 0) = true := ne0 hp0
                      go_wp2_with fail
                      refine C1.out.mono ?_
                      rintro e w13 ⟨rfl, hb⟩
                      have S13 := Lib.hid (S12.out.belowAll hb)
                      have O13 := Lib.hid (O12.out.belowAll hb)
                      have Q13 := Lib.hid (Q12.out.belowAll hb)
                      clear hb x0 x1 x2 x3 y0 y1 y2 y3 z0 z1 z2 z3 S12 O12 Q12
                      have x0 := S13.out.X.c0; have x1 := S13.out.X.c1; have x2 := S13.out.X.c2; have x3 := S13.out.X.c3
                      have y0 := O13.out.X.c0; have y1 := O13.out.X.c1; have y2 := O13.out.X.c2; have y3 := O13.out.X.c3
                      have z0 := Q13.out.X.c0; have z1 := Q13.out.X.c1; have z2 := Q13.out.X.c2; have z3 := Q13.out.X.c3
                      go_wp2
                      go_ret
                      exact ⟨rfl, S13.out.L⟩
                  · obtain rfl : old = X := (e2.trans HOLD.out).symm
                    obtain rfl : false = I3 := (e3.trans hI).symm
                    have e0 : ((Pr : Int) != 0) = true := ne0 e1
                    clear e2 e3
                    have x0 := S12.out.X.c0; have x1 := S12.out.X.c1; have x2 := S12.out.X.c2; have x3 := S12.out.X.c3
                    have y0 := O12.out.X.c0; have y1 := O12.out.X.c1; have y2 := O12.out.X.c2; have y3 := O12.out.X.c3
                    have z0 := Q12.out.X.c0; have z1 := Q12.out.X.c1; have z2 := Q12.out.X.c2; have z3 := Q12.out.X.c3
                    by_cases hp4 : Pr = 4
                    · have FM : Hid (mayB h = false) := Lib.hid (FRM.out hp4)
                      subst hp4
                      go_wp2_with fail
                      have C2 := Lib.hid (same_any' old old (.slice va10 old.log.length vc10) (.slice va4 old.log.length vc4) _ Q12.out.K O12.out.K OLN.out OLN.out)
                      rw [show sameB old old = true by unfold sameB; simp] at C2
                      refine C2.out.mono ?_
                      rintro e w14 ⟨rfl, hb⟩
                      have S14 := Lib.hid (S12.out.belowAll hb)
                      clear hb x0 x1 x2 x3
                      have x0 := S14.out.X.c0; have x1 := S14.out.X.c1; have x2 := S14.out.X.c2; have x3 := S14.out.X.c3
                      have C3 := Lib.hid (HM.out _ S14.out.L)
                      rw [FM.out] at C3
                      go_wp2_with fail
                      refine C3.out.mono ?_
                      rintro e w15 ⟨rfl, hb⟩
                      have S15 := Lib.hid (S14.out.belowAll hb)
                      clear hb
                      go_wp2
                      go_ret
                      exact ⟨rfl, S15.out.L⟩
                    · have e4 : ((Pr : Int) != 4) = true := by rw [bne_iff_ne]; omega
                      go_wp2_with fail
                      have C2 := Lib.hid (same_any' old old (.slice va10 old.log.length vc10) (.slice va4 old.log.length vc4) _ Q12.out.K O12.out.K OLN.out OLN.out)
                      rw [show sameB old old = true by unfold sameB; simp] at C2
                      refine C2.out.mono ?_
                      rintro e w14 ⟨rfl, hb⟩
                      have S14 := Lib.hid (S12.out.belowAll hb)
                      clear hb x0 x1 x2 x3
                      have x0 := S14.out.X.c0; have x1 := S14.out.X.c1; have x2 := S14.out.X.c2; have x3 := S14.out.X.c3
                      go_wp2
                      go_ret
                      exact ⟨rfl, S14.out.L⟩
          · rw [hI] at HLD SW PT
            rw [if_pos rfl] at PT
            go_wp2_with fail
            refine HLD.out.mono ?_
            rintro e w4 ⟨v4, rfl, ho, hb⟩
            obtain ⟨va4, vc4, hv4⟩ := ho.shape
            rw [List.length_map] at hv4
            subst hv4
            have HV : Hid (hval old (.slice va4 old.log.length vc4) = .agg #[.int .i64 old.gen, .int .i64 old.base, .int .i64 old.snap, .slice va4 old.log.length vc4]) := Lib.hid rfl
            rw [HV.out]
            have hBw := S.out.D.lt
            have hsz := hb.size
            have S4 := Lib.hid ((S.out.belowAll hb).belowAll (below_one w4 (.cells #[.int .i64 old.gen, .int .i64 old.base, .int .i64 old.snap, .slice va4 old.log.length vc4] 26)))
            have O4 : Hid (So (w4.alloc (.cells #[.int .i64 old.gen, .int .i64 old.base, .int .i64 old.snap, .slice va4 old.log.length vc4] 26)) w4.heap.size B old va4 vc4) := Lib.hid ⟨Box4.new _ _ _ _ _, ho.kat.below (below_one _ _) (Nat.le_refl _), fun q hq => by have := (ho.lt q hq).2; simp; omega, by omega, fun e => by have := (ho.lt _ e).1; omega⟩
            have TA := Lib.hid (tapes_any B d0 (w4.alloc (.cells #[.int .i64 old.gen, .int .i64 old.base, .int .i64 old.snap, .slice va4 old.log.length vc4] 26)) S4.out.D OK.out.t)
            have q0 := S4.out.X.c0
            have o0 := O4.out.X.c0
            clear ho hb S HLD
            by_cases hle : h.gen ≤ old.gen
            · go_wp2
              go_ret
              exact ⟨rfl, S4.out.L⟩
            have hlt9 : old.gen < h.gen := by omega
            have SW2 : Hid (∀ d1 : Dk, d1.ok → d1.dn = false → d1.T = d0.T → Sw d0 h (putR d1 h) (backD (putR d1 h).1 ks)) := Lib.hid (fun d1 a b c => SW.out d1 a b c (fun _ => hlt9))
            go_wp2_with fail
            refine TA.out.mono ?_
            rintro e w5 ⟨rfl, htr⟩
            have S5 := Lib.hid (S4.out.belowAll htr.below)
            have O5 := Lib.hid (O4.out.belowAll htr.below)
            have D5 : Hid (Told w5 (w4.heap.size + 1) d0.T) := Lib.hid (by have := htr.told; rw [World.size_alloc] at this; exact this)
            have GB : w4.heap.size + 1 ≠ B := by omega
            clear htr S4 O4 TA q0 o0 SW
            go_upto_region 15 with fail
            go_cut [97] from 89 (fun x wx => x = .bool false ∧ ∃ d1 : Dk, Hid (d1.ok ∧ d1.dn = false ∧ d1.T = d0.T) ∧ Hid (Sb w wx h (.slice a h.log.length c) B d1) ∧ Hid (So wx w4.heap.size B old va4 vc4) ∧ Hid (Told wx (w4.heap.size + 1) d0.T))
            case first =>
              by_cases hfl : 0 ≤ fail
              · obtain ⟨fn, rfl⟩ := Int.eq_ofNat_of_zero_le hfl
                have hrem : ((fn : Nat) : Int).tmod 5 = ((fn % 5 : Nat) : Int) := by rw [Int.tmod_eq_emod_of_nonneg (by omega)]; rfl
                have hm5 := Nat.mod_lt fn (show 0 < 5 by omega)
                have FA := fail_any B d0 ((fn % 5 : Nat) : Int) w5 S5.out.D
                have e1 : failD d0 ((fn % 5 : Nat) : Int) = ({ d0 with dm := true, left := fn % 5 }, 0) := by
                  unfold failD
                  rw [N0.out.1, if_neg (by simp), if_neg (by omega), Int.toNat_natCast]
                have ok1 := failD_ok OK.out ((fn % 5 : Nat) : Int) (by omega)
                rw [e1] at FA ok1
                have FA := Lib.hid FA
                have OK1 := Lib.hid ok1
                clear e1 ok1
                generalize fn % 5 = M5 at *
                go_wp2_with fail
                refine FA.out.mono ?_
                rintro e w6 ⟨rfl, hd, hg⟩
                have S6 := Lib.hid (S5.out.disk hd hg)
                have O6 := Lib.hid (O5.out.grown hg (.inr rfl))
                have D6 := Lib.hid (D5.out.grown hg GB)
                clear hd hg
                go_wp2_with fail
                go_meet
                exact ⟨rfl, _, Lib.hid ⟨OK1.out, N0.out.1, rfl⟩, S6, O6, D6⟩
              · go_wp2_with fail
                go_meet
                exact ⟨rfl, d0, Lib.hid ⟨OK.out, N0.out.1, rfl⟩, S5, O5, D5⟩
            case rest =>
              obtain ⟨rfl, d1, HD1, S6, O6, D6⟩ := hcut
              clear S5 O5 D5
              have SWD := Lib.hid (SW2.out d1 HD1.out.1 HD1.out.2.1 HD1.out.2.2)
              have PU := Lib.hid (HP.out wc B d1 S6.out.L S6.out.D HD1.out.1)
              have PK := Lib.hid (putR_ok HD1.out.1 h)
              have B3 := Lib.hid (fun W (hD : DAt W B (putR d1 h).1) (hW : Below w.heap.size w W) => back_disk B (putR d1 h).1 ks (.slice a2 ks.length c2) W hD PK.out.t (HK.out W hW) (HKO.out B S6.out.Z) hkl)
              have K3 := Lib.hid (backD_ok PK.out ks)
              have UPF := SWD.out.up
              generalize backD (putR d1 h).1 ks = d3 at *
              generalize putR d1 h = P at *
              obtain ⟨Pd, Pr⟩ := P
              dsimp only at PU PK B3 UPF
              have x0 := S6.out.X.c0; have x1 := S6.out.X.c1; have x2 := S6.out.X.c2; have x3 := S6.out.X.c3
              go_wp2_with fail
              refine PU.out.mono ?_
              rintro e w7 ⟨rfl, hd, hg⟩
              have S7 := Lib.hid (S6.out.disk hd hg)
              have O7 := Lib.hid (O6.out.grown hg (.inr rfl))
              have D7 := Lib.hid (D6.out.grown hg GB)
              have UA := Lib.hid (up_any B Pd w7 hd)
              have he45 : decide (Pr = 45) = ((Pr : Int) == 45) := by
                by_cases e : Pr = 45
                · rw [e]; rfl
                · rw [decide_eq_false e]; exact (beq_eq_false_iff_ne.2 (by omega)).symm
              rw [UPF, he45] at UA
              clear hd hg S6 O6 D6 x0 x1 x2 x3 UPF he45
              go_wp2_with fail
              refine UA.out.mono ?_
              rintro e w8 ⟨rfl, rfl⟩
              go_wp2_with fail
              refine (B3.out _ S7.out.D S7.out.L).mono ?_
              rintro e w9 ⟨rfl, hd, hg⟩
              have S9 := Lib.hid (S7.out.disk hd hg)
              have O9 := Lib.hid (O7.out.grown hg (.inr rfl))
              have D9 := Lib.hid (D7.out.grown hg GB)
              have HLN := Lib.hid (HH.out w9 B d3 S9.out.L S9.out.D K3.out)
              rw [SWD.out.err] at HLN
              have SL := Lib.hid SWD.out.load
              have XLN : Hid ((ldR d3).1.log.length ≤ 9223372036854775807) := Lib.hid (ldR_len d3)
              generalize hR3 : ldR d3 = R3 at *
              clear hR3
              obtain ⟨X, T3, I3, E3⟩ := R3
              dsimp only at HLN SL XLN
              clear hd hg S7 O7 D7 UA B3
              go_wp2_with fail
              refine HLN.out.mono ?_
              rintro e w10 ⟨v10, rfl, ho, hb⟩
              obtain ⟨va10, vc10, hv10⟩ := ho.shape
              rw [List.length_map] at hv10
              subst hv10
              have HV2 : Hid (hval X (.slice va10 X.log.length vc10) = .agg #[.int .i64 X.gen, .int .i64 X.base, .int .i64 X.snap, .slice va10 X.log.length vc10]) := Lib.hid rfl
              rw [HV2.out]
              have hBw9 := S9.out.D.lt
              have hsz9 := hb.size
              have S10 := Lib.hid ((S9.out.belowAll hb).belowAll (below_one w10 (.cells #[.int .i64 X.gen, .int .i64 X.base, .int .i64 X.snap, .slice va10 X.log.length vc10] 26)))
              have O10 := Lib.hid ((O9.out.belowAll hb).belowAll (below_one w10 (.cells #[.int .i64 X.gen, .int .i64 X.base, .int .i64 X.snap, .slice va10 X.log.length vc10] 26)))
              have Q10 : Hid (So (w10.alloc (.cells #[.int .i64 X.gen, .int .i64 X.base, .int .i64 X.snap, .slice va10 X.log.length vc10] 26)) w10.heap.size B X va10 vc10) := Lib.hid ⟨Box4.new _ _ _ _ _, ho.kat.below (below_one _ _) (Nat.le_refl _), fun q hq => by have := (ho.lt q hq).2; simp; omega, by omega, fun e => by have := (ho.lt _ e).1; omega⟩
              have D10 := Lib.hid (((D9.out.below hb D9.out.lt)).below (below_one w10 (.cells #[.int .i64 X.gen, .int .i64 X.base, .int .i64 X.snap, .slice va10 X.log.length vc10] 26)) (by have := (D9.out.below hb D9.out.lt).lt; exact this))
              have TB := Lib.hid (tapes_any B d3 (w10.alloc (.cells #[.int .i64 X.gen, .int .i64 X.base, .int .i64 X.snap, .slice va10 X.log.length vc10] 26)) S10.out.D K3.out.t)
              clear ho hb S9 O9 D9 HLN
              go_wp2_with fail
              refine TB.out.mono ?_
              rintro e w11 ⟨rfl, htr⟩
              have S11 := Lib.hid (S10.out.belowAll htr.below)
              have O11 := Lib.hid (O10.out.belowAll htr.below)
              have Q11 := Lib.hid (Q10.out.belowAll htr.below)
              have D11 := Lib.hid (D10.out.below htr.below D10.out.lt)
              have F11 : Hid (Told w11 (w10.heap.size + 1) d3.T) := Lib.hid (by have := htr.told; rw [World.size_alloc] at this; exact this)
              clear htr S10 O10 Q10 D10 TB
              go_wp2
              go_loopw [24] (fun i wl => ∃ k : Nat, i = .int .i64 (k : Int) ∧ k ≤ 32 ∧ Hid (Sb w wl h (.slice a h.log.length c) B d3) ∧ Hid (So wl w4.heap.size B old va4 vc4) ∧ Hid (So wl w10.heap.size B X va10 vc10) ∧ Hid (Told wl (w4.heap.size + 1) d0.T) ∧ Hid (Told wl (w10.heap.size + 1) d3.T)) (fun i _ => 32 - (intOf i).toNat)
              case atStart => exact ⟨0, rfl, by omega, S11, O11, Q11, D11, F11⟩
              case round =>
                obtain ⟨k2, rfl, hk2, S12, O12, Q12, D12, F12⟩ := hrel
                by_cases hlt2 : k2 < 32
                · have p0 := D12.out.a k2 hlt2
                  have p1 := D12.out.b k2 hlt2
                  have r0 := F12.out.a k2 hlt2
                  have r1 := F12.out.b k2 hlt2
                  rw [loose_none (F0.out k2 hlt2)] at p1
                  rw [loose_none (SWD.out.loose k2 hlt2)] at r1
                  have hbb := Lib.hid (fun nq => below_drewN (Below.refl wr.heap.size wr) nq)
                  have REL : Hid (∀ nq, Hid (Sb w (wr.drewN nq) h (.slice a h.log.length c) B d3) ∧ Hid (So (wr.drewN nq) w4.heap.size B old va4 vc4) ∧ Hid (So (wr.drewN nq) w10.heap.size B X va10 vc10) ∧ Hid (Told (wr.drewN nq) (w4.heap.size + 1) d0.T) ∧ Hid (Told (wr.drewN nq) (w10.heap.size + 1) d3.T)) :=
                    Lib.hid (fun nq => ⟨Lib.hid (S12.out.belowAll (hbb.out nq)), Lib.hid (O12.out.belowAll (hbb.out nq)), Lib.hid (Q12.out.belowAll (hbb.out nq)), Lib.hid (D12.out.below (hbb.out nq) D12.out.lt), Lib.hid (F12.out.below (hbb.out nq) F12.out.lt)⟩)
                  clear hbb S12 O12 Q12 D12 F12
                  by_cases hpt : k2 = ptT d0
                  · rw [PT.out] at hpt
                    have hj1 : ¬ ((1 : Int) < (k2 : Int)) := by have := T1.out; omega
                    have hj2 : ((k2 : Int) == (T : Int)) = false := by rw [beq_eq_false_iff_ne]; have := T1.out; omega
                    clear hpt
                    generalize (qT (d0.T k2)).a = A at *
                    generalize (qT (d3.T k2)).a = A2 at *
                    cases hA : (A2.toList == A.toList)
                    · go_wp2_with fail
                      go_quiet (fail)
                      rename_i nq
                      go_wp2
                      go_roundw
                      case rel => exact ⟨k2 + 1, by go_num, by omega, (REL.out nq).1, (REL.out nq).2.1, (REL.out nq).2.2.1, (REL.out nq).2.2.2.1, (REL.out nq).2.2.2.2⟩
                      case measure => simp [intOf]; omega
                    · go_wp2_with fail
                      go_quiet (fail)
                      rename_i nq
                      go_wp2
                      go_roundw
                      case rel => exact ⟨k2 + 1, by go_num, by omega, (REL.out nq).1, (REL.out nq).2.1, (REL.out nq).2.2.1, (REL.out nq).2.2.2.1, (REL.out nq).2.2.2.2⟩
                      case measure => simp [intOf]; omega
                  · rw [SWD.out.tapes k2 hlt2 hpt] at r0
                    generalize (qT (d0.T k2)).a = A at *
                    have hA : (A.toList == A.toList) = true := by simp
                    go_wp2_with fail
                    go_quiet (fail)
                    rename_i nq
                    go_wp2
                    go_roundw
                    case rel => exact ⟨k2 + 1, by go_num, by omega, (REL.out nq).1, (REL.out nq).2.1, (REL.out nq).2.2.1, (REL.out nq).2.2.2.1, (REL.out nq).2.2.2.2⟩
                    case measure => simp [intOf]; omega
                · obtain rfl : k2 = 32 := by omega
                  have FRM := Lib.hid SWD.out.form
                  dsimp only at FRM
                  clear D12 F12 SWD
                  rcases SL.out with ⟨e1, e2, e3⟩ | ⟨e1, e2, e3⟩
                  · obtain rfl : h = X := e1.symm
                    obtain rfl : true = I3 := e2.symm
                    have C1 := Lib.hid (HS.out _ h (.slice va10 h.log.length vc10) Q12.out.K XLN.out S12.out.L)
                    rw [show sameB h h = true by unfold sameB; simp] at C1
                    have e4 : ((Pr : Int) != 4) = true := by rw [bne_iff_ne]; omega
                    clear e3
                    have x0 := S12.out.X.c0; have x1 := S12.out.X.c1; have x2 := S12.out.X.c2; have x3 := S12.out.X.c3
                    have y0 := O12.out.X.c0; have y1 := O12.out.X.c1; have y2 := O12.out.X.c2; have y3 := O12.out.X.c3
                    have z0 := Q12.out.X.c0; have z1 := Q12.out.X.c1; have z2 := Q12.out.X.c2; have z3 := Q12.out.X.c3
                    by_cases hp0 : Pr = 0
                    · subst hp0
                      go_wp2_with fail
                      refine C1.out.mono ?_
                      rintro e w13 ⟨rfl, hb⟩
                      have S13 := Lib.hid (S12.out.belowAll hb)
                      have O13 := Lib.hid (O12.out.belowAll hb)
                      have Q13 := Lib.hid (Q12.out.belowAll hb)
                      clear hb x0 x1 x2 x3 y0 y1 y2 y3 z0 z1 z2 z3 S12 O12 Q12
                      have x0 := S13.out.X.c0; have x1 := S13.out.X.c1; have x2 := S13.out.X.c2; have x3 := S13.out.X.c3
                      have y0 := O13.out.X.c0; have y1 := O13.out.X.c1; have y2 := O13.out.X.c2; have y3 := O13.out.X.c3
                      have z0 := Q13.out.X.c0; have z1 := Q13.out.X.c1; have z2 := Q13.out.X.c2; have z3 := Q13.out.X.c3
                      go_wp2
                      go_ret
                      exact ⟨rfl, S13.out.L⟩
                    · have e0 : ((Pr : Int) != 0) = true := ne0 hp0
                      go_wp2_with fail
                      refine C1.out.mono ?_
                      rintro e w13 ⟨rfl, hb⟩
                      have S13 := Lib.hid (S12.out.belowAll hb)
                      have O13 := Lib.hid (O12.out.belowAll hb)
                      have Q13 := Lib.hid (Q12.out.belowAll hb)
                      clear hb x0 x1 x2 x3 y0 y1 y2 y3 z0 z1 z2 z3 S12 O12 Q12
                      have x0 := S13.out.X.c0; have x1 := S13.out.X.c1; have x2 := S13.out.X.c2; have x3 := S13.out.X.c3
                      have y0 := O13.out.X.c0; have y1 := O13.out.X.c1; have y2 := O13.out.X.c2; have y3 := O13.out.X.c3
                      have z0 := Q13.out.X.c0; have z1 := Q13.out.X.c1; have z2 := Q13.out.X.c2; have z3 := Q13.out.X.c3
                      go_wp2
                      go_ret
                      exact ⟨rfl, S13.out.L⟩
                  · obtain rfl : old = X := (e2.trans HOLD.out).symm
                    obtain rfl : true = I3 := (e3.trans hI).symm
                    have e0 : ((Pr : Int) != 0) = true := ne0 e1
                    clear e2 e3
                    have C1 := Lib.hid (HS.out _ old (.slice va10 old.log.length vc10) Q12.out.K XLN.out S12.out.L)
                    rw [show sameB old h = false by unfold sameB; rw [decide_eq_false (show ¬ old.gen = h.gen by omega)]; rfl] at C1
                    have x0 := S12.out.X.c0; have x1 := S12.out.X.c1; have x2 := S12.out.X.c2; have x3 := S12.out.X.c3
                    have y0 := O12.out.X.c0; have y1 := O12.out.X.c1; have y2 := O12.out.X.c2; have y3 := O12.out.X.c3
                    have z0 := Q12.out.X.c0; have z1 := Q12.out.X.c1; have z2 := Q12.out.X.c2; have z3 := Q12.out.X.c3
                    by_cases hp4 : Pr = 4
                    · have FM : Hid (mayB h = false) := Lib.hid (FRM.out hp4)
                      subst hp4
                      go_wp2_with fail
                      refine C1.out.mono ?_
                      rintro e w13 ⟨rfl, hb⟩
                      have S13 := Lib.hid (S12.out.belowAll hb)
                      have O13 := Lib.hid (O12.out.belowAll hb)
                      have Q13 := Lib.hid (Q12.out.belowAll hb)
                      clear hb x0 x1 x2 x3 y0 y1 y2 y3 z0 z1 z2 z3 S12 O12 Q12
                      have x0 := S13.out.X.c0; have x1 := S13.out.X.c1; have x2 := S13.out.X.c2; have x3 := S13.out.X.c3
                      have y0 := O13.out.X.c0; have y1 := O13.out.X.c1; have y2 := O13.out.X.c2; have y3 := O13.out.X.c3
                      have z0 := Q13.out.X.c0; have z1 := Q13.out.X.c1; have z2 := Q13.out.X.c2; have z3 := Q13.out.X.c3
                      go_wp2_with fail
                      have C2 := Lib.hid (same_any' old old (.slice va10 old.log.length vc10) (.slice va4 old.log.length vc4) _ Q13.out.K O13.out.K OLN.out OLN.out)
                      rw [show sameB old old = true by unfold sameB; simp] at C2
                      refine C2.out.mono ?_
                      rintro e w14 ⟨rfl, hb⟩
                      have S14 := Lib.hid (S13.out.belowAll hb)
                      clear hb x0 x1 x2 x3
                      have x0 := S14.out.X.c0; have x1 := S14.out.X.c1; have x2 := S14.out.X.c2; have x3 := S14.out.X.c3
                      have C3 := Lib.hid (HM.out _ S14.out.L)
                      rw [FM.out] at C3
                      go_wp2_with fail
                      refine C3.out.mono ?_
                      rintro e w15 ⟨rfl, hb⟩
                      have S15 := Lib.hid (S14.out.belowAll hb)
                      clear hb
                      go_wp2
                      go_ret
                      exact ⟨rfl, S15.out.L⟩
                    · have e4 : ((Pr : Int) != 4) = true := by rw [bne_iff_ne]; omega
                      go_wp2_with fail
                      refine C1.out.mono ?_
                      rintro e w13 ⟨rfl, hb⟩
                      have S13 := Lib.hid (S12.out.belowAll hb)
                      have O13 := Lib.hid (O12.out.belowAll hb)
                      have Q13 := Lib.hid (Q12.out.belowAll hb)
                      clear hb x0 x1 x2 x3 y0 y1 y2 y3 z0 z1 z2 z3 S12 O12 Q12
                      have x0 := S13.out.X.c0; have x1 := S13.out.X.c1; have x2 := S13.out.X.c2; have x3 := S13.out.X.c3
                      have y0 := O13.out.X.c0; have y1 := O13.out.X.c1; have y2 := O13.out.X.c2; have y3 := O13.out.X.c3
                      have z0 := Q13.out.X.c0; have z1 := Q13.out.X.c1; have z2 := Q13.out.X.c2; have z3 := Q13.out.X.c3
                      go_wp2_with fail
                      have C2 := Lib.hid (same_any' old old (.slice va10 old.log.length vc10) (.slice va4 old.log.length vc4) _ Q13.out.K O13.out.K OLN.out OLN.out)
                      rw [show sameB old old = true by unfold sameB; simp] at C2
                      refine C2.out.mono ?_
                      rintro e w14 ⟨rfl, hb⟩
                      have S14 := Lib.hid (S13.out.belowAll hb)
                      clear hb x0 x1 x2 x3
                      have x0 := S14.out.X.c0; have x1 := S14.out.X.c1; have x2 := S14.out.X.c2; have x3 := S14.out.X.c3
                      go_wp2
                      go_ret
                      exact ⟨rfl, S14.out.L⟩
  · go_wp2_with fail
    refine (HA.out _ B1.out).mono ?_
    rintro e w2 ⟨rfl, hb⟩
    have B2 := Lib.hid (below_trans' B1.out hb)
    clear hb
    go_wp2
    go_ret
    exact ⟨rfl, B2.out⟩
theorem core (cap : Int) (tv : Value) (l : List Tq) (h : He) (u : Value) (fail : Int) (kv : Value) (ks : List Int) (w : World) (hcap : (Lit.int .i64 cap).wf = true) (hl : Tps w tv l) (hf : HFit w h u) (hfail : (Lit.int .i64 fail).wf = true) (hk : KAt w kv ks ∧ ks.length ≤ 9223372036854775807) (hT : Hid (Tab w)) :
    Calls Tryd.prog 5 #[.int .i64 cap, tv, hval h u, .int .i64 fail, kv] w fun e w' => e = .returned (.bool true) ∧ Below w.heap.size w w' := by
  by_cases hc : 100 < h.log.length ∨ 100 < ks.length
  · exact away cap l tv h u fail ks kv w hl hf hk.1 hk.2 hT hc
  · exact main cap l tv h u fail ks kv w hcap hl hf hfail hk.1 hk.2 hT (by omega) (by omega)
set_option maxRecDepth 100000 in
theorem lifted (os : Os) (started : os.Started) (H : Type) (enc : TypeId × Value → H) :
    ReturnsInHanded {} Tryd.checked os 5 .any (fun w args => (Rows.headSwapsSpec.pre enc Tryd.prog Tryd.f5 [] false w args ∧ laidMetH Tryd.prog laid w) ∧ sizedMet enc Tryd.prog Tryd.f5 (OpenSpec.ofChange Rows.headSwapsSpec) false w args)
      (Rows.headSwapsSpec.post enc Tryd.prog Tryd.f5 false true false false) := by
  refine returnsInHanded_of_change_and (C := Tryd.checked) (X := fun w _ => laidMetH Tryd.prog laid w) (fun _ _ _ hh h => h.of_heap hh) own started (by kernel_rfl) Tryd.func5
    (ChangeSpec.witness_shaped (enc := enc) (C := Tryd.checked) (os := os) (X := fun w _ => laidMetH Tryd.prog laid w) false (World.doorLaid Tryd.prog doorSteps os) #[.int .i64 0, .slice none 0 0, .agg #[.int .i64 0, .int .i64 0, .int .i64 0, .slice none 0 0], .int .i64 0, .slice none 0 0] 8 rfl (World.shaped_of_RefB (by kernel_rfl) (by kernel_rfl)) (by kernel_rfl) (by kernel_rfl) (by kernel_rfl) (door_met os _)) ?_
  intro W base args ds gs before hval0 hW hcnd _ hL _
  have hval : ∀ (j : Nat) t v, Tryd.f5.params[j]? = some t → args[j]? = some v → Value.okWide Tryd.prog W .any base t v := hval0
  have hW' := hW
  obtain ⟨p, q, hA0, hV, rfl, hfz, hnd⟩ := hW
  have hA : DataW.TrodAll enc Tryd.prog W 0 (fun _ => true) true Tryd.f5.params.toList args.toList ds p := hA0
  rw [Tryd.params5] at hA hval
  obtain ⟨v0, vs0, d0, ds0, p0, q0, hargs, rfl, rfl, h0, r0⟩ := trodAll_cons hA
  obtain ⟨v1, vs1, d1, ds1, p1, q1, rfl, rfl, rfl, h1, r1⟩ := trodAll_cons r0
  obtain ⟨v2, vs2, d2, ds2, p2, q2, rfl, rfl, rfl, h2, r2⟩ := trodAll_cons r1
  obtain ⟨v3, vs3, d3, ds3, p3, q3, rfl, rfl, rfl, h3, r3⟩ := trodAll_cons r2
  obtain ⟨v4, vs4, d4, ds4, p4, q4, rfl, rfl, rfl, h4, r4⟩ := trodAll_cons r3
  obtain ⟨rfl, rfl, rfl⟩ := trodAll_nil r4
  obtain rfl : args = #[v0, v1, v2, v3, v4] := by cases args; simp_all
  obtain ⟨rfl, rfl⟩ := trodVars_none hV
  have k0 := h0
  have lt0 : ∀ x ∈ p0, x.block < W.heap.size := by obtain ⟨m, hm⟩ := k0; exact DataW.trod_lt m _ _ _ hm
  have k1 := h1
  have lt1 : ∀ x ∈ p1, x.block < W.heap.size := by obtain ⟨m, hm⟩ := k1; exact DataW.trod_lt m _ _ _ hm
  have k2 := h2
  have lt2 : ∀ x ∈ p2, x.block < W.heap.size := by obtain ⟨m, hm⟩ := k2; exact DataW.trod_lt m _ _ _ hm
  have k3 := h3
  have lt3 : ∀ x ∈ p3, x.block < W.heap.size := by obtain ⟨m, hm⟩ := k3; exact DataW.trod_lt m _ _ _ hm
  have k4 := h4
  have lt4 : ∀ x ∈ p4, x.block < W.heap.size := by obtain ⟨m, hm⟩ := k4; exact DataW.trod_lt m _ _ _ hm
  obtain ⟨a0, rfl, rfl, rfl, w0⟩ := open_int Tryd.underlying3 (hval 0 3 v0 rfl rfl) h0
  obtain ⟨a1, w1⟩ := open_tapes (hval 1 50 v1 rfl rfl) h1
  obtain ⟨a2, u2, rfl, w2⟩ := open_head (hval 2 26 v2 rfl rfl) h2
  obtain ⟨a3, rfl, rfl, rfl, w3⟩ := open_int Tryd.underlying3 (hval 3 3 v3 rfl rfl) h3
  obtain ⟨a4, w4⟩ := open_nums (hval 4 24 v4 rfl rfl) h4
  clear hA0 hval0
  refine (core a0 v1 a1 a2 u2 a3 v4 a4 W w0 w1 w2 w3 w4 (Lib.hid (of_laid hL))).mono fun e W' ⟨he, bel⟩ => ?_
  subst he
  exact ⟨_, rfl, _, _, _, [], _, [], hW', trodAll_mk1 (shut_bool Tryd.underlying4 _), (trodAll_cons_mk (Below.trod laidOut (by kernel_rfl) (of_decide_eq_true (by kernel_rfl)) k0 bel lt0) (trodAll_cons_mk (Below.trod laidOut (by kernel_rfl) (of_decide_eq_true (by kernel_rfl)) k1 bel lt1) (trodAll_cons_mk (Below.trod laidOut (by kernel_rfl) (of_decide_eq_true (by kernel_rfl)) k2 bel lt2) (trodAll_cons_mk (Below.trod laidOut (by kernel_rfl) (of_decide_eq_true (by kernel_rfl)) k3 bel lt3) (trodAll_cons_mk (Below.trod laidOut (by kernel_rfl) (of_decide_eq_true (by kernel_rfl)) k4 bel lt4) trodAll_mk0))))), rfl, bel.frame _, fun h => by cases h⟩
theorem over : Rows.headSwapsRow.holds Tryd.pinned (OpenSpec.ofChange Rows.headSwapsSpec) :=
  OpenClaim.holds_of_wide 5 Tryd.f5 rfl rfl rfl rfl rfl rfl rfl ⟨rfl, rfl, rfl, rfl, rfl⟩ rfl rfl rfl rfl rfl (by kernel_rfl) Tryd.func5 (by kernel_rfl)
    (of_decide_eq_true (by kernel_rfl)) (by unfold Func.isWrapper; first | (rw [if_pos (by decide +kernel)]; kernel_rfl) | (rw [if_neg (by decide +kernel)]; exact ⟨rfl, rfl⟩))
    (fun os started H enc _ => lifted os started H enc)
theorem proved : Rows.HeadSwapsCardSaid :=
  Claim7.holds_tied_plain_at .later [] [.data] true (true, "fa333dfdddc382f694442b4cc08e4f2c22340b87e27345508ae927b0c2bc7496") false
    over (fun _ h => by cases h) (by kernel_rfl) (fun _ h => by cases h) headSwaps_row_tie rfl ⟨rfl, rfl⟩ (by kernel_rfl) rfl
    (fun f fn hf hfn => by
      obtain rfl : f = 5 := Option.some.inj ((show Tryd.prog.funcNamed "baton/batonlaw09.HeadSwaps" = some 5 by kernel_rfl).symm.trans hf) |>.symm
      obtain rfl : fn = Tryd.f5 := (Option.some.inj (Tryd.func5.symm.trans hfn)).symm
      exact ⟨by kernel_rfl, fun j t ht => by
        rw [Tryd.params5] at ht
        have hm : t ∈ [3, 50, 26, 3, 24] := by simpa using Array.mem_of_getElem? ht
        have hall : ([3, 50, 26, 3, 24].all fun u => !Tryd.prog.wantsStandIn u) = true := by kernel_rfl
        exact (show Tryd.prog.wantsStandIn t = false by simpa using List.all_eq_true.1 hall t hm)⟩)
    (by kernel_rfl)
end Go.Proofs.YtpcpbdcdapmlnaaDoor.headSwaps
