/- DiskCounted: for any capacity, any tapes, any number, any acts the law answers true. No condition. -/
import Derived.Test.YticponohbnkgdaaRows
import Derived.Test.YticponohbnkgdaaDr
import Derived.WalkKit
import Derived.ProofKit
import Derived.OpenShut
import Derived.ShutString
namespace Go.Proofs.Yticponohbnkgdaa.diskCounted
open Go.ChangeShapes Go.WideShapes Go.ChangeAt Go.RowKit
set_option linter.unusedVariables false
set_option maxRecDepth 100000 in
set_option maxHeartbeats 4000000 in
theorem core (cap : Int) (v : Value) (ts : List Tq) (n : Int) (u : Value) (acs : List Ac) (wc : (Lit.int .i64 cap).wf = true) (wn : (Lit.int .i64 n).wf = true) (w : World) (ht : Tps w v ts) (ha : Acs w u acs) :
    Calls Try.prog 6 #[.int .i64 cap, v, .int .i64 n, u] w fun e w' => e = .returned (.bool true) ∧ Below w.heap.size w w' := by
  have HLG := Lib.hid (ha.long ht)
  have HLD := Lib.hid (fun W (hb : Below w.heap.size w W) => have h := ht.below hb (Nat.le_refl _); load_any cap ts v W h.at' wc h.len h.wide)
  have hnl := wf_le wn
  have HWN := Lib.hid wn
  obtain ⟨va, vc, hv2⟩ := At2.slice ht.at'
  rw [List.length_map] at hv2
  obtain ⟨ua, uc, hu2⟩ := ha.at'.slice
  have hal := ha.len
  have HA := Lib.hid ha
  clear ha ht wn
  generalize hLa : acs.length = La at *
  have HLa := Lib.hid hLa
  clear hLa
  generalize ts.length = Ll at *
  subst hv2 hu2
  go_enter Try.func6, Try.ntmps6
  go_wp2_with fail
  refine HLG.out.mono ?_
  rintro e w1 ⟨b, rfl, hb1⟩
  have HB1 := Lib.hid hb1
  clear hb1 HLG
  cases b
  case true =>
    go_wp2_with fail
    refine (awake_any _).mono ?_
    rintro e w2 ⟨rfl, hb⟩
    have HB2 := Lib.hid (below_trans' HB1.out hb)
    clear hb
    go_wp2
    go_ret
    exact ⟨rfl, HB2.out⟩
  by_cases h200 : 200 < La
  · go_wp2_with fail
    refine (awake_any _).mono ?_
    rintro e w2 ⟨rfl, hb⟩
    have HB2 := Lib.hid (below_trans' HB1.out hb)
    clear hb
    go_wp2
    go_ret
    exact ⟨rfl, HB2.out⟩
  go_wp2_with fail
  refine (awake_any _).mono ?_
  rintro e w2 ⟨rfl, hb⟩
  have HB2 := Lib.hid (below_trans' HB1.out hb)
  clear hb
  go_wp2_with fail
  refine (HLD.out _ HB2.out).mono ?_
  rintro e w3 ⟨hb3, ⟨h0, rfl⟩ | ⟨h0, c, rfl, hok, B, hB, rfl, hd⟩⟩
  · have HB3 := Lib.hid (below_trans' HB2.out hb3)
    have h0d : decide ((loadE cap ts : Int) = 0) = false := decide_eq_false (by omega)
    have h0e : ((loadE cap ts : Int) != 0) = true := by rw [bne_iff_ne]; omega
    clear hb3 h0
    generalize (loadE cap ts : Int) = E at *
    go_wp2
    go_ret
    exact ⟨rfl, HB3.out⟩
  · have HB3 := Lib.hid (below_trans' HB2.out hb3)
    have HBB := Lib.hid (Nat.le_trans HB2.out.size hB)
    have HD3 := Lib.hid (And.intro hd hok)
    have hdn : (made0 c ts).dn = false := rfl
    clear hb3 hB hd hok h0 HLD
    generalize made0 c ts = D at *
    by_cases hn : n < 0
    · have C1 := Lib.hid (fun W h => fail_any B D n W h)
      have hf : failD D n = (D, 1) := by unfold failD; rw [hdn, if_neg (by decide), if_pos hn]
      rw [hf] at C1
      have C2 := Lib.hid (fun W h => up_any B D W h)
      rw [hdn] at C2
      clear hdn hf
      go_wp2_with fail
      refine (C1.out _ HD3.out.1).mono ?_
      rintro e w4 ⟨rfl, hd, hg⟩
      have HB4 := Lib.hid (below_grown HB3.out hg HB3.out.size HBB.out)
      have HD4 := Lib.hid hd
      clear hd hg
      go_wp2_with fail
      refine (C2.out _ HD4.out).mono ?_
      rintro e w5 ⟨rfl, rfl⟩
      go_wp2
      go_ret
      exact ⟨rfl, HB4.out⟩
    · have C1 := Lib.hid (fun W h => fail_any B D n W h)
      have hf : failD D n = ({ D with dm := true, left := n.toNat }, 0) := by unfold failD; rw [hdn, if_neg (by decide), if_neg hn]
      rw [hf] at C1
      have HD4' : Hid (({ D with dm := true, left := n.toNat } : Dk).ok) := Lib.hid (by have := failD_ok HD3.out.2 n hnl; rw [hf] at this; exact this)
      clear hf
      dsimp only at C1
      obtain ⟨N, rfl⟩ := Int.eq_ofNat_of_zero_le (show 0 ≤ n by omega)
      rw [Int.toNat_natCast] at C1 HD4'
      have hN : N ≤ 9223372036854775807 := by omega
      have HM : Hid (({ D with dm := true, left := N } : Dk).dn = false ∧ ({ D with dm := true, left := N } : Dk).dm = true ∧ ({ D with dm := true, left := N } : Dk).left = N) := Lib.hid ⟨hdn, rfl, rfl⟩
      generalize ({ D with dm := true, left := N } : Dk) = D4 at *
      clear hdn hnl
      go_wp2_with fail
      refine (C1.out _ HD3.out.1).mono ?_
      rintro e w4 ⟨rfl, hd, hg⟩
      have HB4 := Lib.hid (below_grown HB3.out hg HB3.out.size HBB.out)
      have HD4 := Lib.hid hd
      clear hd hg
      go_wp2
      go_loopw [11, 12] (fun y i wl => ∃ (k m : Nat) (D5 : Dk), i = .int .i64 (k : Int) ∧ y = .int .i64 (m : Int) ∧ k ≤ La ∧ m ≤ N ∧ Hid (DAt wl B D5 ∧ D5.ok) ∧ Hid ((D5.dn = true ∧ m = N) ∨ (D5.dn = false ∧ D5.dm = true ∧ D5.left + m = N)) ∧ Hid (Below w.heap.size w wl)) (fun _ i _ => La - (intOf i).toNat)
      case atStart => exact ⟨0, 0, D4, rfl, rfl, by omega, by omega, Lib.hid ⟨HD4.out, HD4'.out⟩, Lib.hid (.inr ⟨HM.out.1, HM.out.2.1, by rw [HM.out.2.2]; rfl⟩), HB4⟩
      case round =>
        clear C1 HD3 HB1 HB2 HB3 HB4 HM HD4 HD4'
        obtain ⟨k, m, D5, rfl, rfl, hk, hm, HD, HQ, HB⟩ := hrel
        obtain ⟨wl, hwl⟩ : ∃ wl, wl = wr := ⟨_, rfl⟩
        subst hwl
        by_cases hlt : k < La
        · have hkl : k < acs.length := by have := HLa.out; omega
          have hacs := HA.out.below HB.out (Nat.le_refl _)
          rcases HA.out.at' with ⟨h0, _⟩ | ⟨g, o, e, hg, hcs⟩
          · have := congrArg List.length h0; rw [List.length_nil] at this; omega
          obtain ⟨q0, q1, q2, q3, q4⟩ := hcs k hkl
          have hgl : g < w.heap.size := World.block_lt_of_cell? w ⟨g, _, none⟩ q0
          have HQ0 := Lib.hid (fun W (hW : Below w.heap.size w W) => (hW.cell (p := ⟨g, _, none⟩) hgl).trans q0)
          replace q0 := (HB.out.cell (p := ⟨g, _, none⟩) hgl).trans q0
          replace q1 := (HB.out.cell (p := ⟨g, _, none⟩) hgl).trans q1
          replace q2 := (HB.out.cell (p := ⟨g, _, none⟩) hgl).trans q2
          replace q3 := (HB.out.cell (p := ⟨g, _, none⟩) hgl).trans q3
          replace q4 := (HB.out.cell (p := ⟨g, _, none⟩) hgl).trans q4
          rw [HLa.out] at hg
          cases hg
          have hfit := hacs.fit _ (List.getElem_mem hkl)
          have hnb := (HA.out.fit _ (List.getElem_mem hkl)).at'.lt
          have hacs2 : (acs[k]).ks ≠ [] → (acs[k]).v.ownBlock ≠ some B := fun h0 e => by have := hnb h0 B e; have := HBB.out; omega
          have HC := Lib.hid (act_any B D5 acs[k] wl HD.out.1 HD.out.2 hfit hacs2)
          have HOK := Lib.hid (actD_ok HD.out.2 acs[k] hfit.n)
          have HCN : Hid (acs[k].what ≤ 4 → Cnt D5 (actD D5 acs[k]).1.2 (actD D5 acs[k]).2 (if (actD D5 acs[k]).1.2 = 0 ∧ acs[k].what ≠ 4 then 1 else 0)) := Lib.hid (fun h => act_cnt D5 acs[k] h)
          have HU1 := Lib.hid (up_any B D5 wl HD.out.1)
          clear hcs hfit hnb hacs2 hacs
          have HU2 := Lib.hid (fun W (hW : DAt W B (actD D5 acs[k]).2) => up_any B _ W hW)
          generalize actD D5 acs[k] = X at *
          unfold acV at HC
          generalize acs[k] = a at *
          obtain ⟨what, t, nn, s, ks, kv⟩ := a
          obtain ⟨⟨XS, E⟩, D6⟩ := X
          dsimp only at *
          by_cases hw : 4 < what
          · have hwd : decide ((4 : Int) < (what : Int)) = true := decide_eq_true (by omega)
            go_wp2
            go_roundw
            case rel => exact ⟨k + 1, m, D5, by go_num, rfl, by omega, hm, HD, HQ, HB⟩
            case measure => simp [intOf]; omega
          · have hwd : decide ((4 : Int) < (what : Int)) = false := decide_eq_false (by omega)
            have HCN := Lib.hid (HCN.out (by omega))
            rcases HQ.out with ⟨hdn, hmN⟩ | ⟨hdn, hdm, hlm⟩
            · obtain ⟨rfl, hdd⟩ := HCN.out.down hdn
              rw [hdn] at HU1
              rw [hdd, hdn] at HU2
              have HMN := Lib.hid hmN
              have hmn : ((m : Int) != (N : Int)) = false := by rw [bne_eq_false_iff_eq]; omega
              have HDN := Lib.hid hdn
              clear hdn hmN
              subst hdd
              go_wp2_with fail
              refine HU1.out.mono ?_
              rintro e w5 ⟨rfl, rfl⟩
              go_wp2_with fail
              refine HC.out.mono ?_
              rintro e w6 ⟨rfl, hd, hg⟩
              have HB6 := Lib.hid (below_grown HB.out hg HB.out.size HBB.out)
              have HD6 := Lib.hid hd
              clear hd hg
              go_wp2_with fail
              refine (HU2.out _ HD6.out).mono ?_
              rintro e w7 ⟨rfl, rfl⟩
              go_wp2
              go_roundw
              case rel => exact ⟨k + 1, m, _, by go_num, rfl, by omega, hm, Lib.hid ⟨HD6.out, HOK.out⟩, Lib.hid (.inl ⟨HDN.out, HMN.out⟩), HB6⟩
              case measure => simp [intOf]; omega
            · rw [hdn] at HU1
              rcases HCN.out.up hdn hdm with ⟨h6, rfl, hl0⟩ | ⟨h6, h6m, hE, hl⟩
              · rw [h6] at HU2
                have hmn : ((m : Int) != (N : Int)) = false := by rw [bne_eq_false_iff_eq]; omega
                have HNX : Hid ((D6.dn = true ∧ m = N) ∨ (D6.dn = false ∧ D6.dm = true ∧ D6.left + m = N)) := Lib.hid (.inl ⟨h6, by omega⟩)
                clear hdn hdm hlm h6 hl0
                go_wp2_with fail
                refine HU1.out.mono ?_
                rintro e w5 ⟨rfl, rfl⟩
                go_wp2_with fail
                refine HC.out.mono ?_
                rintro e w6 ⟨rfl, hd, hg⟩
                have HB6 := Lib.hid (below_grown HB.out hg HB.out.size HBB.out)
                have HD6 := Lib.hid hd
                clear hd hg
                go_wp2_with fail
                refine (HU2.out _ HD6.out).mono ?_
                rintro e w7 ⟨rfl, rfl⟩
                go_wp2_with fail
                refine (HU2.out _ HD6.out).mono ?_
                rintro e w7 ⟨rfl, rfl⟩
                go_wp2
                go_roundw
                case rel => exact ⟨k + 1, m, _, by go_num, rfl, by omega, hm, Lib.hid ⟨HD6.out, HOK.out⟩, HNX, HB6⟩
                case measure => simp [intOf]; omega
              · rw [h6] at HU2
                have hE1 : ((E : Int) == 45) = false := by rw [beq_eq_false_iff_ne]; omega
                have hE2 : ((E : Int) != 45) = true := by rw [bne_iff_ne]; omega
                by_cases hcount : E = 0 ∧ what ≠ 4
                · rw [if_pos hcount] at hl
                  obtain ⟨he0, hw4⟩ := hcount
                  have hE3 : ((E : Int) == 0) = true := by rw [beq_iff_eq]; omega
                  have hw5 : ((what : Int) != 4) = true := by rw [bne_iff_ne]; omega
                  have hm1 : m + 1 ≤ N := by omega
                  have HNX : Hid ((D6.dn = true ∧ m + 1 = N) ∨ (D6.dn = false ∧ D6.dm = true ∧ D6.left + (m + 1) = N)) := Lib.hid (.inr ⟨h6, h6m, by omega⟩)
                  clear hdn hdm hlm h6 h6m hl he0 hw4 hE
                  go_wp2_with fail
                  refine HU1.out.mono ?_
                  rintro e w5 ⟨rfl, rfl⟩
                  go_wp2_with fail
                  refine HC.out.mono ?_
                  rintro e w6 ⟨rfl, hd, hg⟩
                  have HB6 := Lib.hid (below_grown HB.out hg HB.out.size HBB.out)
                  have HD6 := Lib.hid hd
                  have q0 := HQ0.out _ HB6.out
                  clear hd hg
                  go_wp2_with fail
                  refine (HU2.out _ HD6.out).mono ?_
                  rintro e w7 ⟨rfl, rfl⟩
                  go_wp2_with fail
                  refine (HU2.out _ HD6.out).mono ?_
                  rintro e w7 ⟨rfl, rfl⟩
                  go_wp2
                  go_roundw
                  case rel => exact ⟨k + 1, m + 1, _, by go_num, by go_num, by omega, by omega, Lib.hid ⟨HD6.out, HOK.out⟩, HNX, HB6⟩
                  case measure => simp [intOf]; omega
                · rw [if_neg hcount] at hl
                  have HNX : Hid ((D6.dn = true ∧ m = N) ∨ (D6.dn = false ∧ D6.dm = true ∧ D6.left + m = N)) := Lib.hid (.inr ⟨h6, h6m, by omega⟩)
                  by_cases he0 : E = 0
                  · have hw5 : ((what : Int) != 4) = false := by rw [bne_eq_false_iff_eq]; have : what = 4 := Classical.byContradiction (fun h => hcount ⟨he0, h⟩); omega
                    have hE3 : ((E : Int) == 0) = true := by rw [beq_iff_eq]; omega
                    clear hdn hdm hlm h6 h6m hl he0 hE hcount
                    go_wp2_with fail
                    refine HU1.out.mono ?_
                    rintro e w5 ⟨rfl, rfl⟩
                    go_wp2_with fail
                    refine HC.out.mono ?_
                    rintro e w6 ⟨rfl, hd, hg⟩
                    have HB6 := Lib.hid (below_grown HB.out hg HB.out.size HBB.out)
                    have HD6 := Lib.hid hd
                    have q0 := HQ0.out _ HB6.out
                    clear hd hg
                    go_wp2_with fail
                    refine (HU2.out _ HD6.out).mono ?_
                    rintro e w7 ⟨rfl, rfl⟩
                    go_wp2_with fail
                    refine (HU2.out _ HD6.out).mono ?_
                    rintro e w7 ⟨rfl, rfl⟩
                    go_wp2
                    go_roundw
                    case rel => exact ⟨k + 1, m, _, by go_num, rfl, by omega, hm, Lib.hid ⟨HD6.out, HOK.out⟩, HNX, HB6⟩
                    case measure => simp [intOf]; omega
                  · have hE3 : ((E : Int) == 0) = false := by rw [beq_eq_false_iff_ne]; omega
                    clear hdn hdm hlm h6 h6m hl he0 hE hcount
                    go_wp2_with fail
                    refine HU1.out.mono ?_
                    rintro e w5 ⟨rfl, rfl⟩
                    go_wp2_with fail
                    refine HC.out.mono ?_
                    rintro e w6 ⟨rfl, hd, hg⟩
                    have HB6 := Lib.hid (below_grown HB.out hg HB.out.size HBB.out)
                    have HD6 := Lib.hid hd
                    have q0 := HQ0.out _ HB6.out
                    clear hd hg
                    go_wp2_with fail
                    refine (HU2.out _ HD6.out).mono ?_
                    rintro e w7 ⟨rfl, rfl⟩
                    go_wp2_with fail
                    refine (HU2.out _ HD6.out).mono ?_
                    rintro e w7 ⟨rfl, rfl⟩
                    go_wp2
                    go_roundw
                    case rel => exact ⟨k + 1, m, _, by go_num, rfl, by omega, hm, Lib.hid ⟨HD6.out, HOK.out⟩, HNX, HB6⟩
                    case measure => simp [intOf]; omega
        · obtain rfl : k = La := by omega
          have HUE := Lib.hid (up_any B D5 wl HD.out.1)
          rcases HQ.out with ⟨hdn, hmN⟩ | ⟨hdn, hdm, hlm⟩
          · rw [hdn] at HUE
            have hmn : ((m : Int) == (N : Int)) = true := by rw [beq_iff_eq]; omega
            have hmle : (m : Int) ≤ (N : Int) := by omega
            clear hmN hdn
            go_wp2_with fail
            refine HUE.out.mono ?_
            rintro e w5 ⟨rfl, rfl⟩
            go_wp2
            go_ret
            exact ⟨rfl, HB.out⟩
          · rw [hdn] at HUE
            have hmle : (m : Int) ≤ (N : Int) := by omega
            clear hdm hlm hdn
            go_wp2_with fail
            refine HUE.out.mono ?_
            rintro e w5 ⟨rfl, rfl⟩
            go_wp2
            go_ret
            exact ⟨rfl, HB.out⟩
theorem own : ownKnob Try.prog.godebug = none := by kernel_rfl
theorem laidOut : laidOutB Try.prog = true := by kernel_rfl
set_option maxRecDepth 100000 in
theorem lifted (os : Os) (started : os.Started) (H : Type) (enc : TypeId × Value → H) :
    ReturnsInHanded {} Try.checked os 6 .any (Rows.diskCountedSpec.pre6 enc Try.prog Try.f6 Rows.diskCountedRow.domain false) (Rows.diskCountedSpec.post enc Try.prog Try.f6 false true false false) := by
  refine returnsInHanded_of_change (C := Try.checked) own started (by kernel_rfl) Try.func6
    (ChangeSpec.witness6 (enc := enc) (C := Try.checked) false ⟨#[], #[.int .i64 0, .slice none 0 0, .int .i64 0, .slice none 0 0], []⟩ 8 (by kernel_rfl) (by kernel_rfl) (by kernel_rfl) (by kernel_rfl)) ?_
  intro W base args ds gs before hval0 hW hcnd _
  have hval : ∀ (j : Nat) t v, Try.f6.params[j]? = some t → args[j]? = some v → Value.okWide Try.prog W .any base t v := hval0
  have hW' := hW
  obtain ⟨p, q, hA0, hV, rfl, hfz, hnd⟩ := hW
  have hA : DataW.TrodAll enc Try.prog W 0 (fun _ => true) true Try.f6.params.toList args.toList ds p := hA0
  rw [Try.params6] at hA hval
  obtain ⟨v0, vs0, d0, ds0, p0, q0, hargs, rfl, rfl, h0, r0⟩ := trodAll_cons hA
  obtain ⟨v1, vs1, d1, ds1, p1, q1, rfl, rfl, rfl, h1, r1⟩ := trodAll_cons r0
  obtain ⟨v2, vs2, d2, ds2, p2, q2, rfl, rfl, rfl, h2, r2⟩ := trodAll_cons r1
  obtain ⟨v3, vs3, d3, ds3, p3, q3, rfl, rfl, rfl, h3, r3⟩ := trodAll_cons r2
  obtain ⟨rfl, rfl, rfl⟩ := trodAll_nil r3
  obtain rfl : args = #[v0, v1, v2, v3] := by cases args; simp_all
  obtain ⟨rfl, rfl⟩ := trodVars_none hV
  have k0 := h0
  have lt0 : ∀ x ∈ p0, x.block < W.heap.size := by obtain ⟨m, hm⟩ := k0; exact DataW.trod_lt m _ _ _ hm
  have k1 := h1
  have lt1 : ∀ x ∈ p1, x.block < W.heap.size := by obtain ⟨m, hm⟩ := k1; exact DataW.trod_lt m _ _ _ hm
  have k2 := h2
  have lt2 : ∀ x ∈ p2, x.block < W.heap.size := by obtain ⟨m, hm⟩ := k2; exact DataW.trod_lt m _ _ _ hm
  have k3 := h3
  have lt3 : ∀ x ∈ p3, x.block < W.heap.size := by obtain ⟨m, hm⟩ := k3; exact DataW.trod_lt m _ _ _ hm
  obtain ⟨a0, rfl, rfl, rfl, w0⟩ := open_int Try.underlying3 (hval 0 3 v0 rfl rfl) h0
  obtain ⟨a1, w1⟩ := open_tapes (hval 1 28 v1 rfl rfl) h1
  obtain ⟨a2, rfl, rfl, rfl, w2⟩ := open_int Try.underlying3 (hval 2 3 v2 rfl rfl) h2
  obtain ⟨a3, w3⟩ := open_acts (hval 3 42 v3 rfl rfl) h3
  clear hA0 hval0
  refine (core a0 v1 a1 a2 v3 a3 w0 w2 W w1 w3).mono fun e W' ⟨he, bel⟩ => ?_
  subst he
  exact ⟨_, rfl, _, _, _, [], _, [], hW', trodAll_mk1 (shut_bool Try.underlying4 _), (trodAll_cons_mk (Below.trod laidOut (by kernel_rfl) (of_decide_eq_true (by kernel_rfl)) k0 bel lt0) (trodAll_cons_mk (Below.trod laidOut (by kernel_rfl) (of_decide_eq_true (by kernel_rfl)) k1 bel lt1) (trodAll_cons_mk (Below.trod laidOut (by kernel_rfl) (of_decide_eq_true (by kernel_rfl)) k2 bel lt2) (trodAll_cons_mk (Below.trod laidOut (by kernel_rfl) (of_decide_eq_true (by kernel_rfl)) k3 bel lt3) trodAll_mk0)))), rfl, bel.frame _, fun h => by cases h⟩
theorem over : Rows.diskCountedRow.holds Try.pinned (OpenSpec.ofChange Rows.diskCountedSpec) :=
  OpenClaim.holds_of_wide 6 Try.f6 rfl rfl rfl rfl rfl rfl rfl ⟨rfl, rfl, rfl, rfl, rfl⟩ rfl rfl rfl rfl rfl (by kernel_rfl) Try.func6 (by kernel_rfl)
    (of_decide_eq_true (by kernel_rfl)) (by unfold Func.isWrapper; first | (rw [if_pos (by decide +kernel)]; kernel_rfl) | (rw [if_neg (by decide +kernel)]; exact ⟨rfl, rfl⟩))
    (fun os started H enc _ => lifted os started H enc)
theorem proved : Rows.DiskCountedSaid := over
end Go.Proofs.Yticponohbnkgdaa.diskCounted
