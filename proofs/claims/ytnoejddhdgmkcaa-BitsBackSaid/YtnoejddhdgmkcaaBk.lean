/- BitsBack: for every list of items and every place the law answers true. No condition. -/
import Derived.Test.YtnoejddhdgmkcaaRows
import Derived.Test.YtnoejddhdgmkcaaAw
import Derived.Test.YtnoejddhdgmkcaaLo
import Derived.WalkKit
import Derived.ProofKit
import Derived.OpenShut
import Derived.ShutString
import Derived.Deep.RegionHeld3
import Derived.Deep.QuietTactic
import Derived.BigQuiet
namespace Go.Proofs.Ytnoejddhdgmkcaa
open Go.RowKit
theorem Try.info3 : (Try.prog.info? 3).map (fun i => (i.zero, i.size, i.bytes)) = some (some (.int .i64 0), 1, 8) := by kernel_rfl
theorem cut_at (cut : Int) (n : Nat) (hn : n ≤ 6000) : ∃ M : Nat, wrap64 ((IntKind.u64.wrap cut).tmod ((n : Int) + 1)) = (M : Int) ∧ M ≤ n := by
  have h0 : 0 ≤ IntKind.u64.wrap cut := by rw [IntKind.wrap_u64]; omega
  have h1 := Int.tmod_nonneg ((n : Int) + 1) h0
  have h2 := Int.tmod_lt_of_pos (IntKind.u64.wrap cut) (b := (n : Int) + 1) (by omega)
  obtain ⟨M, hM⟩ := Int.eq_ofNat_of_zero_le h1
  rw [hM] at h2 ⊢
  exact ⟨M, by unfold wrap64; omega, by omega⟩
theorem cut_list (s : ByteArray) (M a : Nat) {x e r : List UInt8} (hs : s.data.toList = x ++ (e ++ r)) (ha : x.length = a) : (s.extract 0 M).data.toList.drop a = (e ++ r).take (M - a) := by
  rw [extract_list, List.drop_zero, Nat.sub_zero, List.drop_take, hs, List.drop_left' ha]
namespace bitsBack
open Go.ChangeShapes Go.WideShapes Go.ChangeAt Go.RowKit
open Go.ChangeMaps (open_string shut_string)
set_option linter.unusedVariables false
set_option maxRecDepth 100000 in
set_option maxHeartbeats 16000000 in
theorem main (a0 : Option Addr) (len cap : Nat) (q : Nat → Trip) (cut : Int) (hlen : len ≤ maxLen) (w : World) (hA : 0 < len → ∃ b off, a0 = some ⟨b, off, none⟩ ∧ ItemsAt w b off len q) :
    Calls Try.prog 7 #[.slice a0 len cap, .int .i64 cut] w fun e w' => e = .returned (.bool true) ∧ Below w.heap.size w w' := by
  have HA := Lib.hid hA
  have L := Lib.hid (long_any a0 len cap q hlen w hA)
  clear hA
  obtain ⟨i0, hi, hz0, hz1, hz2⟩ := info_parts Try.info3
  go_enter Try.func7, Try.ntmps7
  go_wp2_with fail
  refine L.out.mono ?_
  rintro e w1 ⟨rfl, x, rfl, hx⟩
  have HX := Lib.hid hx
  clear hx L
  cases x
  case true =>
    go_wp2_with fail
    refine (awake_any _).mono ?_
    rintro e1 w3 ⟨rfl, hb1⟩
    have HB3 := Lib.hid hb1; clear hb1
    go_wp2
    go_ret
    exact ⟨rfl, HB3.out⟩
  case false =>
    have ht : tot q len < 6000 := HX.out rfl
    have hlen6 : len ≤ 600 := by have := tot_mono q len 0; rw [Nat.zero_add] at this; omega
    have HF := Lib.hid (fine_of (q := q) (len := len) ht (fun i hi => by obtain ⟨b, off, _, h⟩ := HA.out (by omega); exact (h.c i hi).2.2.2.1))
    have hcat : (cat q len).length ≤ 6000 := by have := cat_le HF.out len (Nat.le_refl _); omega
    clear HX ht
    go_wp2_with fail
    refine (awake_any _).mono ?_
    rintro e1 w3 ⟨rfl, hb1⟩
    have HB3 := Lib.hid hb1; clear hb1
    go_wp2
    go_loopw [5, 6, 7] (fun u ue i wr => ∃ (k : Nat), i = .int .i64 k ∧ k ≤ len ∧ Hid (L1 w wr q k k u ue)) (fun _ _ i _ => len - (intOf i).toNat)
    case atStart => exact ⟨0, rfl, by omega, Lib.hid (L1.start q HB3.out)⟩
    case round =>
      obtain ⟨k, rfl, hk, H1⟩ := hrel
      by_cases hlt : k < len
      · obtain ⟨bl, off, rfl, hIt⟩ := HA.out (by omega)
        have hbl := hIt.lt (by omega)
        obtain ⟨x0, x1, x2, hN, hS0⟩ := hIt.c k hlt
        have hS := (HF.out k hlt).2
        have hm := cat_mono q (k := k) (n := len) (by omega)
        have C := Lib.hid (show cat q (k + 1) = cat q k ++ Bt.enc (q k).W (q k).N (q k).S from rfl)
        have hm1 := cat_mono q (k := k + 1) (n := len) (by omega)
        have ES := Lib.hid (ends_succ q k)
        have EL := ends_length q k
        have hbase : w.heap.size ≤ wr.heap.size := H1.out.bel.size
        rcases hq : q k with ⟨W, N, S⟩
        rw [hq] at x0 x1 x2 hN hS0 hS C
        simp only at x0 x1 x2 hN hS0 hS C
        rw [Nat.add_zero] at x0
        have c0 := (H1.out.bel.cell (p := ⟨bl, off + k * 3, none⟩) hbl).trans x0
        have c1 : wr.cell? ⟨bl, off + k * 3 + 1, none⟩ = some (.int .u64 N) := (H1.out.bel.cell (p := ⟨bl, off + k * 3 + 1, none⟩) hbl).trans x1
        have c2 : wr.cell? ⟨bl, off + k * 3 + 2, none⟩ = some (.string S) := (H1.out.bel.cell (p := ⟨bl, off + k * 3 + 2, none⟩) hbl).trans x2
        clear x0 x1 x2 hIt hq
        go_wp2_with fail
        refine (add_any W N S hN hS w.heap.size u5 (cat q k) wr H1.out.b hbase (by omega)).mono ?_
        rintro e2 w4 ⟨v', rfl, hO, hS1⟩
        rw [← C.out] at hO
        have H2 := Lib.hid (H1.out.stepB hO hS1)
        obtain ⟨a4, cap4, rfl⟩ := H2.out.shape
        clear hO hS1 C H1 c0 c1 c2
        go_wp2_with (at_builtin; refine wpList_append_Own _ rfl (.tmp 34) (.tmp 37) 63 63 rfl w.heap.size 3 i0 (.int .i64 0) 8 Try.underlying63 hi hz0 hz1 hz2 rfl u6 (ends q k) rfl (H2.out.e.alloc _) _ 1 _ rfl (Src.one w4 Try.underlying63 _ _ rfl) ?c1 ?c2 ?c3 ?_; rotate_right; intro v' w1 hown1 hgr hwh; have HO1 := Lib.hid hown1; have HG := Lib.hid hgr; have HH := Lib.hid hwh; clear hown1 hgr hwh)
        case c1 => omega
        case c2 => omega
        case c3 => exact Nat.le_trans H2.out.bel.size (by simp)
        go_roundw
        case rel => exact ⟨k + 1, by go_num, by omega, Lib.hid (H2.out.put rfl HO1.out HG.out HH.out)⟩
        case measure => simp [intOf]; omega
      · obtain rfl : len = k := by omega
        obtain ⟨ge, ce, rfl, hge, hx⟩ := H1.out.held
        have hr := run_string_Own wr w.heap.size 41 9 5 _ _ H1.out.b Try.underlying41 Try.underlying5 Try.underlying9
        have hr' : Sem.run Try.prog (convert 41 9 u5) wr = .ok (.string (bs (cat q len))) wr := hr
        have X := Lib.hid hx
        have HB := Lib.hid H1.out.bel
        have hsz : (bs (cat q len)).size = (cat q len).length := rfl
        clear hx hr H1
        generalize hs : bs (cat q len) = s at *
        have HS := Lib.hid hs
        clear hs
        go_wp2_with fail
        refine (new_any s _).mono ?_
        rintro e2 w2 ⟨rfl, rfl⟩
        have R := Lib.hid (L2.new (s := s) X.out hge HB.out)
        have hrb : w.heap.size ≤ wr.heap.size := HB.out.size
        clear X HB hr'
        go_wp2
        generalize wr.alloc (.cells #[.string s, .int .i64 0, .int .i64 0] 75) = wa at *
        generalize wr.heap.size = rb at *
        clear hk hlt
        go_loopw [10] (fun i wb => ∃ (k : Nat), i = .int .i64 k ∧ k ≤ len ∧ Hid (L2 w wb q len ge rb s ((cat q k).length : Int) 0)) (fun i _ => len - (intOf i).toNat)
        case atStart => exact ⟨0, rfl, by omega, R⟩
        case round =>
          clear R
          obtain ⟨k, rfl, hk, R⟩ := hrel
          by_cases hlt : k < len
          · obtain ⟨bl, off, rfl, hIt⟩ := HA.out (by omega)
            have hbl := hIt.lt (by omega)
            obtain ⟨x0, x1, x2, hN, hS0⟩ := hIt.c k hlt
            have hS := (HF.out k hlt).2
            have hm := cat_mono q (k := k) (n := len) (by omega)
            have hc1 := cat_succ_length q k
            obtain ⟨r, hr⟩ := cat_at q hlt
            have hd : s.data.toList.drop (cat q k).length = Bt.enc (q k).W (q k).N (q k).S ++ r := by rw [← HS.out, bs_data, hr, List.drop_left]
            have I0 := fun w' (h : RdAt w' rb s ((cat q k).length : Int) 0) => item_full (q k).W (q k).N (q k).S hN hS s (cat q k).length (by omega) (by omega) r hd rb w' h
            rw [← hc1] at I0
            have I := Lib.hid I0
            clear hd hr I0
            rcases hq : q k with ⟨W, N, S⟩
            rw [hq] at x0 x1 x2 I
            simp only at x0 x1 x2 I
            rw [Nat.add_zero] at x0
            have X0 := Lib.hid x0
            have X1 : Hid (w.cell? ⟨bl, off + k * 3 + 1, none⟩ = some (.int .u64 N)) := Lib.hid x1
            have X2 : Hid (w.cell? ⟨bl, off + k * 3 + 2, none⟩ = some (.string S)) := Lib.hid x2
            clear x0 x1 x2 hIt hq hm hc1 hN hS0 hS
            replace R := Lib.hid R.out.drew
            generalize hcn : (cat q (k + 1)).length = c at *
            have k0 := R.out.stand (j := k + 1) hbl (by omega) hcn.symm X0.out X1.out X2.out rfl
            have D := Lib.hid k0
            clear k0
            have b0 : (0 : Int) ≤ (k : Int) + 1 := by omega
            have b1 : (k : Int) + 1 < (len : Int) + 1 := by omega
            have b2 : IntKind.i64.wrap ((k : Int) + 1) = (k : Int) + 1 := by rw [Bt.wrap_i64]; omega
            have b3 : ((k : Int) + 1).toNat = k + 1 := by omega
            go_wp2_with fail
            go_region_held3 (fun w' => w'.cell? ⟨bl, off + k * 3, none⟩ = some (.int .u8 W) ∧ w'.cell? ⟨bl, off + k * 3 + 1, none⟩ = some (.int .u64 N) ∧ w'.cell? ⟨bl, off + k * 3 + 2, none⟩ = some (.string S) ∧ w'.cell? ⟨ge, k + 1, none⟩ = some (.int .i64 c)) (first | exact D.out | exact k0) ((first | (go_at_call 44; refine (I.out _ R.out.r).mono ?_; rintro e1 w1 ⟨rfl, hR, hG⟩; have R := Lib.hid (R.out.is hR hG); have k0 := R.out.stand (j := k + 1) hbl (by omega) hcn.symm X0.out X1.out X2.out rfl; clear hR hG) | (go_at_call 19; refine (at_any _ _ _ R.out.r.c1).mono ?_; rintro e1 w3 ⟨rfl, rfl⟩) | (go_at_call 18; refine (err_any _ _ _ R.out.r.c2).mono ?_; rintro e1 w3 ⟨rfl, rfl⟩)))
            go_wp2
            go_roundw
            case rel => exact ⟨k + 1, by go_num, by omega, by rw [hcn]; exact R⟩
            case measure => simp [intOf]; omega
          · obtain rfl : len = k := by omega
            rw [← hsz] at R
            clear hk hlt
            obtain ⟨M, hM, hMl⟩ := cut_at cut (cat q len).length hcat
            have hM2 : (M : Int) ≤ ((cat q len).length : Int) := by omega
            go_wp2_with ((go_at_call 21; refine (end_all _ s _ R.out.r (by omega)).mono ?_; rintro e1 w3 ⟨rfl, m, rfl⟩; have R := Lib.hid (R.out.drewN m)))
            refine (new_any _ _).mono ?_
            rintro e2 w2 ⟨rfl, rfl⟩
            have R2 : Hid (L2 w ((wr.drewN m).alloc (.cells #[.string (s.extract 0 M), .int .i64 0, .int .i64 0] 75)) q len ge wr.heap.size (s.extract 0 M) 0 0) := Lib.hid (L2.new (s := s.extract 0 M) R.out.x R.out.g R.out.bel)
            have hts : (s.extract 0 M).size = M := by simp; omega
            clear R
            go_wp2
            clear hM
            generalize ht : s.extract 0 M = t at *
            have HT := Lib.hid ht
            clear ht
            generalize World.alloc _ _ = wc at *
            generalize wr.heap.size = rc at *
            clear hrb hge
            go_loopw [12] (fun i wb => ∃ (k : Nat), i = .int .i64 k ∧ k ≤ len ∧ (cat q k).length ≤ M ∧ Hid (L2 w wb q len ge rc t ((cat q k).length : Int) 0)) (fun i _ => len - (intOf i).toNat)
            case atStart => exact ⟨0, rfl, by omega, by simp [cat], R2⟩
            case round =>
              clear R2
              obtain ⟨k, rfl, hk, hkM, R⟩ := hrel
              by_cases hlt : k < len
              · obtain ⟨bl, off, rfl, hIt⟩ := HA.out (by omega)
                have hbl := hIt.lt (by omega)
                obtain ⟨x0, x1, x2, hN, hS0⟩ := hIt.c k hlt
                have hS := (HF.out k hlt).2
                have hc1 := cat_succ_length q k
                obtain ⟨r, hr⟩ := cat_at q hlt
                have hd : t.data.toList.drop (cat q k).length = (Bt.enc (q k).W (q k).N (q k).S ++ r).take (M - (cat q k).length) := by
                  rw [← HT.out]
                  exact cut_list s M _ (by rw [← HS.out, bs_data, hr]) rfl
                have b0 : (0 : Int) ≤ (k : Int) + 1 := by omega
                have b1 : (k : Int) + 1 < (len : Int) + 1 := by omega
                have b2 : IntKind.i64.wrap ((k : Int) + 1) = (k : Int) + 1 := by rw [Bt.wrap_i64]; omega
                have b3 : ((k : Int) + 1).toNat = k + 1 := by omega
                by_cases hM1 : (cat q (k + 1)).length ≤ M
                · have I0 := fun w' (h : RdAt w' rc t ((cat q k).length : Int) 0) => item_full (q k).W (q k).N (q k).S hN hS t (cat q k).length (by omega) (by omega) (r.take (M - (cat q k).length - (Bt.enc (q k).W (q k).N (q k).S).length)) (by rw [hd, List.take_append, List.take_of_length_le (by omega)]) rc w' h
                  rw [← hc1] at I0
                  have I := Lib.hid I0
                  clear hd hr I0
                  rcases hq : q k with ⟨W, N, S⟩
                  rw [hq] at x0 x1 x2 I
                  simp only at x0 x1 x2 I
                  rw [Nat.add_zero] at x0
                  have X0 := Lib.hid x0
                  have X1 : Hid (w.cell? ⟨bl, off + k * 3 + 1, none⟩ = some (.int .u64 N)) := Lib.hid x1
                  have X2 : Hid (w.cell? ⟨bl, off + k * 3 + 2, none⟩ = some (.string S)) := Lib.hid x2
                  clear x0 x1 x2 hIt hq hc1 hN hS0 hS
                  generalize hcn : (cat q (k + 1)).length = c at *
                  have hcM : (c : Int) ≤ (M : Int) := by omega
                  obtain ⟨c0, c1, c2, _⟩ := R.out.stand (j := k + 1) hbl (by omega) hcn.symm X0.out X1.out X2.out rfl
                  go_wp2_with fail
                  refine (I.out _ R.out.r).mono ?_
                  rintro e1 w1 ⟨rfl, hR, hG⟩
                  replace R := Lib.hid (R.out.is hR hG)
                  have d3 := R.out.x (k + 1) (by omega)
                  rw [hcn] at d3
                  clear hR hG c0 c1 c2
                  go_wp2_with fail
                  go_quiet ((go_at_call 19; exact Calls.quiet_of_same ((at_any _ _ _ (R.out.r.drewN _).c1).mono fun _ _ h => ⟨h.1, h.2.symm⟩)))
                  rename_i nq
                  go_wp2
                  go_roundw
                  case rel => exact ⟨k + 1, by go_num, by omega, by omega, by rw [hcn]; exact Lib.hid (R.out.drewN _)⟩
                  case measure => simp [intOf]; omega
                · have I0 := fun w' (h : RdAt w' rc t ((cat q k).length : Int) 0) => item_cut (q k).W (q k).N (q k).S hN hS t (cat q k).length (by omega) (by omega) (M - (cat q k).length) (by rw [hd, List.take_append_of_le_length (by omega)]) (by omega) rc w' h
                  have I := Lib.hid I0
                  clear hd hr I0
                  rcases hq : q k with ⟨W, N, S⟩
                  rw [hq] at x0 x1 x2 I
                  simp only at x0 x1 x2 I
                  rw [Nat.add_zero] at x0
                  have X0 := Lib.hid x0
                  have X1 : Hid (w.cell? ⟨bl, off + k * 3 + 1, none⟩ = some (.int .u64 N)) := Lib.hid x1
                  have X2 : Hid (w.cell? ⟨bl, off + k * 3 + 2, none⟩ = some (.string S)) := Lib.hid x2
                  clear x0 x1 x2 hIt hq hc1 hN hS0 hS
                  generalize hcn : (cat q (k + 1)).length = c at *
                  have hcM : (M : Int) < (c : Int) := by omega
                  obtain ⟨c0, c1, c2, _⟩ := R.out.stand (j := k + 1) hbl (by omega) hcn.symm X0.out X1.out X2.out rfl
                  go_wp2_with fail
                  obtain ⟨x, hx⟩ := I.out _ R.out.r
                  refine hx.mono ?_
                  rintro e1 w1 ⟨rfl, hR, hG⟩
                  replace R := Lib.hid (R.out.is hR hG)
                  have d3 := R.out.x (k + 1) (by omega)
                  have d4 := R.out.x k (by omega)
                  rw [hcn] at d3
                  clear hR hG c0 c1 c2 hx
                  go_wp2_with fail
                  go_quiet ((first
                    | (go_at_call 19; exact Calls.quiet_of_same ((at_any _ _ _ (R.out.r.drewN _).c1).mono fun _ _ h => ⟨h.1, h.2.symm⟩))
                    | (go_at_call 18; exact Calls.quiet_of_same ((err_any _ _ _ (R.out.r.drewN _).c2).mono fun _ _ h => ⟨h.1, h.2.symm⟩))))
                  rename_i nq
                  go_wp2
                  go_ret
                  exact ⟨rfl, (R.out.drewN _).bel⟩
              · obtain rfl : len = k := by omega
                have hz : (cat q len).length = t.size := by omega
                rw [hz] at R
                go_wp2_with ((go_at_call 21; refine (end_all _ t _ R.out.r (by omega)).mono ?_; rintro e1 w3 ⟨rfl, m, rfl⟩; have R := Lib.hid (R.out.drewN m)))
                go_ret
                exact ⟨rfl, R.out.bel⟩
theorem core (v : Value) (_u : Unit) (cut : Int) (_hcut : (Lit.int .i64 cut).wf = true) (w : World) (h : Items w v) :
    Calls Try.prog 7 #[v, .int .i64 cut] w fun e w' => e = .returned (.bool true) ∧ Below w.heap.size w w' := by
  rcases h with ⟨a, cap, rfl⟩ | ⟨b, off, len, cap, q, rfl, hp, hl, hI⟩
  · exact main a 0 cap (fun _ => default) cut (Nat.zero_le _) w (fun h => absurd h (Nat.lt_irrefl 0))
  · exact main (some ⟨b, off, none⟩) len cap q cut hl w (fun _ => ⟨b, off, rfl, hI⟩)
theorem own : ownKnob Try.prog.godebug = none := by kernel_rfl
theorem laidOut : laidOutB Try.prog = true := by kernel_rfl
set_option maxRecDepth 100000 in
theorem lifted (os : Os) (started : os.Started) (H : Type) (enc : TypeId × Value → H) :
    ReturnsInHanded {} Try.checked os 7 .any (Rows.bitsBackSpec.pre6 enc Try.prog Try.f7 Rows.bitsBackRow.domain false) (Rows.bitsBackSpec.post enc Try.prog Try.f7 false true false false) := by
  refine returnsInHanded_of_change (C := Try.checked) own started (by kernel_rfl) Try.func7
    (ChangeSpec.witness6 (enc := enc) (C := Try.checked) false ⟨#[], #[.slice none 0 0, .int .i64 0], []⟩ 8 (by kernel_rfl) (by kernel_rfl) (by kernel_rfl) (by kernel_rfl)) ?_
  intro W base args ds gs before hval0 hW hcnd _
  have hval : ∀ (j : Nat) t v, Try.f7.params[j]? = some t → args[j]? = some v → Value.okWide Try.prog W .any base t v := hval0
  have hW' := hW
  obtain ⟨p, q, hA0, hV, rfl, hfz, hnd⟩ := hW
  have hA : DataW.TrodAll enc Try.prog W 0 (fun _ => true) true Try.f7.params.toList args.toList ds p := hA0
  rw [Try.params7] at hA hval
  obtain ⟨v0, vs0, d0, ds0, p0, q0, hargs, rfl, rfl, h0, r0⟩ := trodAll_cons hA
  obtain ⟨v1, vs1, d1, ds1, p1, q1, rfl, rfl, rfl, h1, r1⟩ := trodAll_cons r0
  obtain ⟨rfl, rfl, rfl⟩ := trodAll_nil r1
  obtain rfl : args = #[v0, v1] := by cases args; simp_all
  obtain ⟨rfl, rfl⟩ := trodVars_none hV
  have k0 := h0
  have lt0 : ∀ x ∈ p0, x.block < W.heap.size := by obtain ⟨m, hm⟩ := k0; exact DataW.trod_lt m _ _ _ hm
  have k1 := h1
  have lt1 : ∀ x ∈ p1, x.block < W.heap.size := by obtain ⟨m, hm⟩ := k1; exact DataW.trod_lt m _ _ _ hm
  obtain ⟨a0, w0⟩ := open_items (hval 0 61 v0 rfl rfl) h0
  obtain ⟨a1, rfl, rfl, rfl, w1⟩ := open_int Try.underlying3 (hval 1 3 v1 rfl rfl) h1
  clear hA0 hval0
  refine (core v0 a0 a1 w1 W w0).mono fun e W' ⟨he, bel⟩ => ?_
  subst he
  exact ⟨_, rfl, _, _, _, [], _, [], hW', trodAll_mk1 (shut_bool Try.underlying4 _), (trodAll_cons_mk (Below.trod laidOut (by kernel_rfl) (of_decide_eq_true (by kernel_rfl)) k0 bel lt0) (trodAll_cons_mk (Below.trod laidOut (by kernel_rfl) (of_decide_eq_true (by kernel_rfl)) k1 bel lt1) trodAll_mk0)), rfl, bel.frame _, fun h => by cases h⟩
theorem over : Rows.bitsBackRow.holds Try.pinned (OpenSpec.ofChange Rows.bitsBackSpec) :=
  OpenClaim.holds_of_wide 7 Try.f7 rfl rfl rfl rfl rfl rfl rfl ⟨rfl, rfl, rfl, rfl, rfl⟩ rfl rfl rfl rfl rfl (by kernel_rfl) Try.func7 (by kernel_rfl)
    (of_decide_eq_true (by kernel_rfl)) (by unfold Func.isWrapper; first | (rw [if_pos (by decide +kernel)]; kernel_rfl) | (rw [if_neg (by decide +kernel)]; exact ⟨rfl, rfl⟩))
    (fun os started H enc _ => lifted os started H enc)
theorem proved : Rows.BitsBackSaid := over
end bitsBack
end Go.Proofs.Ytnoejddhdgmkcaa
