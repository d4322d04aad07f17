/- Load. -/
import Derived.Test.YtpcpbdcdapmlnaaDoorDf
import Derived.Deep.RegionHeld3
import Derived.Deep.CutRange
namespace Go.Proofs.YtpcpbdcdapmlnaaDoor
open Go Go.RowKit
set_option maxRecDepth 100000
theorem zero69' (cap : Nat) : ∃ Z : Array Value, (∀ w, (zeroValue 78).run Tryd.prog w = .ok (.agg Z) w) ∧ Z ≠ #[] ∧ Z.setIfInBounds 0 (.int .i64 (cap : Int)) = (dcells (d0 cap)).toArray := by
  refine ⟨(dcells (d0 0)).toArray, fun w => ?_, fun h => ?_, ?_⟩
  · exact (zero_of_info (P := Tryd.prog) (t := 78) (v := .agg (dcells (d0 0)).toArray) (n := 68) (by kernel_rfl)).1 w
  · have := congrArg Array.size h
    rw [List.size_toArray, dcells_len] at this
    simp at this
  · rw [List.setIfInBounds_toArray]
    rfl
theorem hb_new {w w' : World} {o : Obj} (h : Below (w.alloc o).heap.size (w.alloc o) w') : Below w.heap.size w w' := ((Below.refl _ _).alloc (Nat.le_refl _) _).trans (h.mono (by simp))
set_option maxHeartbeats 1000000 in
theorem load_in (cap : Nat) (l : List Tq) (v : Value) (w : World) (hv : TAt w v l) (hl : l.length ≤ 32) (hc : cap ≤ 9223372036854775807) (hw : ∀ q ∈ l, q.a.size ≤ 9223372036854775807 ∧ q.b.size ≤ 9223372036854775807) (E : Nat) (hE : loadE cap l = E) :
    Calls Tryd.prog 32 #[.int .i64 (cap : Int), v] w fun e w' => Below w.heap.size w w' ∧ ((E = 0 ∧ e = .returned (.tuple #[.pointer (some ⟨w.heap.size, 0, none⟩), .int .i64 0]) ∧ DAt w' w.heap.size (made0 cap l)) ∨ (E ≠ 0 ∧ e = .returned (.tuple #[.pointer none, .int .i64 (E : Int)]))) := by
  obtain ⟨va, vc, hv2⟩ := At2.slice hv
  rw [List.length_map] at hv2
  have HV := Lib.hid hv
  have HE := Lib.hid hE
  have HW := Lib.hid hw
  clear hv hE hw
  obtain ⟨Z0, hz0, hz1, hz2⟩ := zero69' cap
  have HN : Hid (DAt (w.alloc (.cells (dcells (d0 cap)).toArray 78)) w.heap.size (made0 cap (l.take 0))) := Lib.hid (DAt.of_row (heap_alloc_new _ _))
  generalize (dcells (d0 cap)).toArray = Z at *
  generalize hL : l.length = L at *
  have HL := Lib.hid hL
  clear hL
  subst hv2
  go_enter Tryd.func32, Tryd.ntmps32
  go_wp2
  go_loopw [23] (fun i wl => ∃ k : Nat, i = .int .i64 (k : Int) ∧ k ≤ L ∧ Hid (∀ q ∈ l.take k, tooLong q = false) ∧ Hid (DAt wl w.heap.size (made0 cap (l.take k))) ∧ Hid (Below w.heap.size w wl)) (fun i _ => L - (intOf i).toNat)
  case atStart => exact ⟨0, rfl, by omega, Lib.hid (by simp), HN, Lib.hid ((Below.refl _ _).alloc (Nat.le_refl _) _)⟩
  case round =>
    obtain ⟨k, rfl, hk, HT, HD, HB⟩ := hrel
    obtain ⟨wl, hwl⟩ : ∃ wl, wl = wr := ⟨_, rfl⟩
    subst hwl
    by_cases hlt : k < L
    · have hkl : k < l.length := by have := HL.out; omega
      rcases At2.below HV.out HB.out (Nat.le_refl _) with ⟨h0, _⟩ | ⟨g, o, e, hg, hcs⟩
      · have := congrArg List.length h0; rw [List.length_map, List.length_nil] at this; omega
      obtain ⟨q0, q1⟩ := hcs k (by rw [List.length_map]; exact hkl)
      rw [List.getElem_map] at q0 q1
      rw [List.length_map, HL.out] at hg
      cases hg
      have hqm := List.getElem_mem hkl
      have hwq := HW.out _ hqm
      have htk : l.take (k + 1) = l.take k ++ [l[k]] := List.take_succ_eq_append_getElem hkl
      have HSN := Lib.hid (ofT_snoc l k hkl)
      have HTK := Lib.hid htk
      have HQM := Lib.hid hqm
      clear hcs htk hqm
      generalize l[k] = Q at *
      obtain ⟨a, b⟩ := Q
      unfold tq at q0 q1
      dsimp only at q0 q1 hwq
      obtain ⟨ha, hb⟩ := hwq
      have l1 := World.block_lt_of_cell? wl _ q0
      have HF := Lib.hid (fun W => firm_any a W)
      have HWr := Lib.hid (fun W => written_any ⟨a, a.size⟩ b W ha hb)
      generalize hR : wr ⟨a, a.size⟩ b = R at *
      have HR := Lib.hid hR
      clear hR
      obtain ⟨⟨S, F⟩, E1⟩ := R
      dsimp only at *
      go_wp2
      have b0 : Box2 (wl.alloc (.cells #[.string a, .string b] 54)) wl.heap.size 54 (.string a) (.string b) := Box2.new _ _ _ _
      generalize hW1 : wl.alloc (.cells #[.string a, .string b] 54) = W1 at *
      have HS1 : Hid (W1.heap.size = wl.heap.size + 1) := Lib.hid (by rw [← hW1]; simp)
      have HB1 : Hid (Below wl.heap.size wl W1) := Lib.hid (by rw [← hW1]; exact (Below.refl _ _).alloc (Nat.le_refl _) _)
      have HN1 : Hid (wl.heap.size ≠ W1.heap.size) := Lib.hid (by rw [HS1.out]; omega)
      have HN2 : Hid (∀ wA : World, Below W1.heap.size W1 wA → wl.heap.size ≠ wA.heap.size) := Lib.hid (fun wA h => by have := HS1.out; have := h.size; omega)
      clear hW1
      go_cut [9, 10] from 25 to 46 (fun x y wx => y = .int .i64 (E1 : Int) ∧ ∃ b9, x = .pointer (some ⟨b9, 0, none⟩) ∧ Hid (Box2 wx b9 75 (.string S) (.int .i64 (F : Int)) ∧ wl.heap.size ≤ b9 ∧ Below wl.heap.size wl wx))
      case first =>
        have k0 := And.intro b0.c0 b0.c1
        have B0 := Lib.hid b0
        clear b0
        go_region_held3 (fun w' => w'.cell? ⟨wl.heap.size, 0, none⟩ = some (.string a) ∧ w'.cell? ⟨wl.heap.size, 1, none⟩ = some (.string b)) (first | exact kB | exact kA | exact k0 | exact ⟨(B0.out.alloc _).c0, (B0.out.alloc _).c1⟩ | exact ⟨(BA.out.alloc _).c0, (BA.out.alloc _).c1⟩ | exact ⟨(BB.out.alloc _).c0, (BB.out.alloc _).c1⟩ | exact ⟨((BB.out.apart (a := ⟨_, 0, none⟩) hn9 _).apart (a := ⟨_, 1, none⟩) hn9 _).c0, ((BB.out.apart (a := ⟨_, 0, none⟩) hn9 _).apart (a := ⟨_, 1, none⟩) hn9 _).c1⟩) (first
            | (have hx := HA; clear hx; go_at_call 61; refine (HWr.out _).mono ?_; rintro e wB ⟨rfl, hbB⟩; first
              | (have hq : Below wA.heap.size wA wB := ⟨hbB.os, hbB.tape, hbB.output, hbB.size, hbB.block⟩; have BB := Lib.hid (BA.out.below hq BA.out.lt); have kB := And.intro BB.out.c0 BB.out.c1; have HB := Lib.hid (below_trans' HA.out hq); first
                | (have y9 := X9.out.below hq X9.out.lt; clear X9; have e0 := y9.c0; have e1 := y9.c1; have g0 := y9.free 0; have g1 := y9.free 1; have X9 := Lib.hid y9; clear y9; clear hq hbB)
                | clear hq hbB)
              | (have hq : Below (wA.alloc (.cells #[.string ⟨#[]⟩, .int .i64 0] 75)).heap.size (wA.alloc (.cells #[.string ⟨#[]⟩, .int .i64 0] 75)) wB := ⟨hbB.os, hbB.tape, hbB.output, hbB.size, hbB.block⟩; have x9 := (Box2.new wA 75 (.string ⟨#[]⟩) (.int .i64 0)).below hq (Box2.new wA 75 (.string ⟨#[]⟩) (.int .i64 0)).lt; have e0 := x9.c0; have e1 := x9.c1; have g0 := x9.free 0; have g1 := x9.free 1; have X9 := Lib.hid x9; clear x9; have BB := Lib.hid ((BA.out.alloc (.cells #[.string ⟨#[]⟩, .int .i64 0] 75)).below hq (BA.out.alloc (.cells #[.string ⟨#[]⟩, .int .i64 0] 75)).lt); have kB := And.intro BB.out.c0 BB.out.c1; have HB := Lib.hid (below_trans' HA.out (hb_new hq)); have hn9 : wl.heap.size ≠ wA.heap.size := HN2.out _ HA.out; clear hq hbB))
            | (go_at_call 60; refine (HF.out _).mono ?_; rintro e wA ⟨rfl, hbA⟩; first
              | (have hq : Below (W1.alloc (.cells #[.string ⟨#[]⟩, .int .i64 0] 75)).heap.size (W1.alloc (.cells #[.string ⟨#[]⟩, .int .i64 0] 75)) wA := ⟨hbA.os, hbA.tape, hbA.output, hbA.size, hbA.block⟩; have x9 := (Box2.new W1 75 (.string ⟨#[]⟩) (.int .i64 0)).below hq (Box2.new W1 75 (.string ⟨#[]⟩) (.int .i64 0)).lt; have e0 := x9.c0; have e1 := x9.c1; have g0 := x9.free 0; have g1 := x9.free 1; have X9 := Lib.hid x9; clear x9; have BA := Lib.hid ((B0.out.alloc (.cells #[.string ⟨#[]⟩, .int .i64 0] 75)).below hq (B0.out.alloc (.cells #[.string ⟨#[]⟩, .int .i64 0] 75)).lt); have kA := And.intro BA.out.c0 BA.out.c1; have HA := Lib.hid (hb_new hq); have hn9 : wl.heap.size ≠ W1.heap.size := HN1.out; clear hq hbA)
              | (have hq : Below W1.heap.size W1 wA := ⟨hbA.os, hbA.tape, hbA.output, hbA.size, hbA.block⟩; have BA := Lib.hid (B0.out.below hq B0.out.lt); have kA := And.intro BA.out.c0 BA.out.c1; have HA := Lib.hid hq; clear hq hbA)))
        all_goals (have hle1 : wl.heap.size ≤ W1.heap.size := by have := HS1.out; omega)
        all_goals (have hleA : wl.heap.size ≤ wA.heap.size := by have := HA.out.size; omega)
        all_goals (have hleB : wl.heap.size ≤ wB.heap.size := by have := HB.out.size; omega)
        all_goals (have HBB : Below wl.heap.size wl wB := HB1.out.trans (HB.out.mono hle1))
        all_goals (go_wp2_with fail; go_meet)
        all_goals first
          | exact ⟨rfl, _, rfl, Lib.hid ⟨Box2.new wB 75 _ _, hleB, HBB.alloc hleB _⟩⟩
          | exact ⟨rfl, _, rfl, Lib.hid ⟨X9.out.set _ _, hle1, below_setD (below_setD HBB hle1 _ _) hle1 _ _⟩⟩
          | exact ⟨rfl, _, rfl, Lib.hid ⟨X9.out.set _ _, hleA, below_setD (below_setD HBB hleA _ _) hleA _ _⟩⟩
      case rest =>
        obtain ⟨rfl, b9, rfl, HX⟩ := hcut
        have HWC := Lib.hid (HB.out.trans (HX.out.2.2.mono HB.out.size))
        have HDC := Lib.hid (HD.out.below HX.out.2.2 HD.out.lt)
        by_cases hE1 : E1 = 0
        · have hE2 : ((E1 : Int) != 0) = false := by rw [bne_eq_false_iff_eq]; omega
          have hq : tooLong ⟨a, b⟩ = false ∧ (⟨S, F⟩ : Tp) = ofQ ⟨a, b⟩ := by
            have h := HR.out
            unfold wr at h
            unfold tooLong ofQ
            dsimp only at h ⊢
            split at h
            · have h2 := (Prod.mk.inj h).2; rw [hE1] at h2; cases h2
            · exact ⟨decide_eq_false (by assumption), (Prod.mk.inj h).1.symm⟩
          have HQ := Lib.hid hq
          clear hq
          have x0 := HX.out.1.c0
          have x1 := HX.out.1.c1
          have hn9 : b9 ≠ w.heap.size := by have := HX.out.2.1; have := HD.out.lt; omega
          have k32 : k < 32 := by omega
          have cs := HDC.out.s k k32
          have cf := HDC.out.f k k32
          have fs := HDC.out.fz (1 + k * 2)
          have ff := HDC.out.fz (1 + k * 2 + 1)
          have kS := And.intro x0 x1
          have k32i : (k : Int) < 32 := by omega
          have k0i : (0 : Int) ≤ (k : Int) := by omega
          go_wp2_with fail
          go_region_held3 (fun w' => w'.cell? ⟨b9, 0, none⟩ = some (.string S) ∧ w'.cell? ⟨b9, 1, none⟩ = some (.int .i64 (F : Int))) (first | exact kS | exact ⟨((HX.out.1.apart (a := ⟨_, _, none⟩) hn9 _).apart (a := ⟨_, _, none⟩) hn9 _).c0, ((HX.out.1.apart (a := ⟨_, _, none⟩) hn9 _).apart (a := ⟨_, _, none⟩) hn9 _).c1⟩) (first | fail)
          go_wp2
          go_roundw
          case rel =>
            refine ⟨k + 1, by go_num, by omega, Lib.hid ?_, Lib.hid ?_, Lib.hid (below_setD (below_setD HWC.out (Nat.le_refl _) _ _) (Nat.le_refl _) _ _).drew⟩
            · rw [HTK.out]
              intro q hq
              rcases List.mem_append.1 hq with h | h
              · exact HT.out q h
              · rw [List.mem_singleton.1 h]; exact HQ.out.1
            · have := HDC.out.setT k32 ⟨S, F⟩
              rw [show made0 cap (l.take (k + 1)) = { made0 cap (l.take k) with T := upd (made0 cap (l.take k)).T k ⟨S, F⟩ } by unfold made0; rw [HSN.out, HQ.out.2]]
              exact DAt.congr this rfl
          case measure => simp [intOf]; omega
        · have hE2 : ((E1 : Int) != 0) = true := by rw [bne_iff_ne]; omega
          have hq : E1 = 40 ∧ tooLong ⟨a, b⟩ = true := by
            have h := HR.out
            unfold wr at h
            unfold tooLong
            dsimp only at h ⊢
            split at h
            · exact ⟨(Prod.mk.inj h).2.symm, decide_eq_true (by assumption)⟩
            · exact absurd (Prod.mk.inj h).2.symm hE1
          have he : E = 40 := by
            rw [← HE.out]
            unfold loadE
            rw [if_neg (by have := HL.out; omega), if_pos (List.any_eq_true.2 ⟨_, HQM.out, hq.2⟩)]
          have HE4 := Lib.hid (And.intro hq.1 he)
          clear hq he
          go_wp2
          go_ret2
          exact ⟨HWC.out, .inr ⟨by rw [HE4.out.2]; decide, by rw [HE4.out.1, HE4.out.2]; rfl⟩⟩
    · obtain rfl : k = L := by omega
      have hta : l.take k = l := List.take_of_length_le (by have := HL.out; omega)
      rw [hta] at HT HD
      have hok : ∀ i < 32, ((made0 cap l).T i).ok := fun i _ => ofT_size (fun q hq => by
        have := HT.out q hq
        unfold tooLong at this
        have := of_decide_eq_false this
        omega) i
      have HU := Lib.hid (used_any0 w.heap.size _ wl HD.out hok)
      have hl0 : l.any tooLong = false := by
        rw [List.any_eq_false]
        intro q hq
        rw [HT.out q hq]; decide
      have he : E = if cap < (made0 cap l).used then 44 else 0 := by
        rw [← HE.out]
        unfold loadE
        rw [if_neg (by have := HL.out; omega), hl0, if_neg (by decide), Int.toNat_natCast]
      have HE4 := Lib.hid he
      clear hta he hok hl0
      generalize hU : (made0 cap l).used = U at *
      clear hU
      by_cases hcu : cap < U
      · rw [if_pos hcu] at HE4
        go_wp2_with fail
        refine HU.out.mono ?_
        rintro e w' ⟨rfl, hb⟩
        have HB2 := Lib.hid (HB.out.trans (hb.mono HB.out.size))
        clear hb
        go_wp2
        go_ret2
        exact ⟨HB2.out, .inr ⟨by rw [HE4.out]; decide, by rw [HE4.out]; rfl⟩⟩
      · rw [if_neg hcu] at HE4
        go_wp2_with fail
        refine HU.out.mono ?_
        rintro e w' ⟨rfl, hb⟩
        have HB2 := Lib.hid (HB.out.trans (hb.mono HB.out.size))
        have HD2 := Lib.hid (HD.out.below hb HD.out.lt)
        clear hb
        go_wp2
        go_ret2
        exact ⟨HB2.out, .inl ⟨HE4.out, rfl, HD2.out⟩⟩
end Go.Proofs.YtpcpbdcdapmlnaaDoor
