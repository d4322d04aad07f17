/- The contract of Pack. -/
import Derived.Test.YtnnogjojoeajnaaPk
namespace Go.Proofs.Ytnnogjojoeajnaa
open Go.RowKit Go.Shelf Go.Sort Go.Maps
/-- The closure, wherever it is called. -/
theorem put_any {w W : World} {s : ByteArray} {a p : Nat} {ps : List Pt} {v : Value} (h : PI w s W a p ps v) (hs : s.size ≤ 1000000000000) (e : Nat) (he : e ≤ s.size) (hl : ps.length ≤ 1000000000) :
    Calls Try.prog 37 #[.int .i64 e, .pointer (some ⟨w.heap.size + 2, 0, none⟩), .pointer (some ⟨w.heap.size + 1, 0, none⟩), .pointer (some ⟨w.heap.size, 0, none⟩)] W fun en W' => en = .returned (.tuple #[]) ∧ ∃ v', PI w s W' a p (ps ++ litp s.data.toList p e) v' := by
  unfold litp
  by_cases hp : p < e
  · rw [if_pos hp]
    refine (put_some s hs e p (w.heap.size + 4) ps v W _ _ _ h.b2 h.b1 h.b0 hp he h.own hl h.sz (by omega)).mono ?_
    rintro en W' ⟨rfl, v', W1, h1, h2, h3, rfl⟩
    rw [extract_bs] at h1
    exact ⟨rfl, v', h.put h1 h2 h3⟩
  · rw [if_neg hp, List.append_nil]
    refine (put_none s e p v W _ _ _ h.b2 h.b1 h.b0 hp).mono ?_
    rintro en W' ⟨rfl, rfl⟩
    exact ⟨rfl, v, h⟩
theorem bel_none {w w' : World} (h : Below w.heap.size w w') : w.grownBy w' none := ⟨h.os, h.tape, h.output, h.size, fun i hi _ => h.block i hi⟩
theorem pi_start (w : World) (s : ByteArray) : PI w s ((((w.alloc (.cells #[.string s] 9)).alloc (.cells #[.slice none 0 0] 30)).alloc (.cells #[.int .i64 0] 3)).alloc (.map #[] 0)) 0 0 [] (.slice none 0 0) := by
  have e3 : (((w.alloc (.cells #[.string s] 9)).alloc (.cells #[.slice none 0 0] 30)).alloc (.cells #[.int .i64 0] 3)).heap.size = w.heap.size + 3 := by simp
  refine ⟨(((Boxed.new w 9 _).alloc _).alloc _).alloc _, ?_, ?_, World.ownsRow_nil _ _ _ _, ⟨.map [], ?_, ⟨_, rfl⟩, fun k => rfl⟩, ?_, ?_, by simp⟩
  · have := Boxed.new (w.alloc (.cells #[.string s] 9)) 30 (.slice none 0 0)
    rw [World.size_alloc] at this
    exact (this.alloc _).alloc _
  · have := Boxed.new ((w.alloc (.cells #[.string s] 9)).alloc (.cells #[.slice none 0 0] 30)) 3 (.int .i64 0)
    rw [World.size_alloc, World.size_alloc] at this
    exact this.alloc _
  · have := World.ownsGroups_made (H := Unit) (((w.alloc (.cells #[.string s] 9)).alloc (.cells #[.slice none 0 0] 30)).alloc (.cells #[.int .i64 0] 3)) Try.prog 9 3 .i64
    rw [e3] at this
    exact this
  · have := World.Shuns_made (((w.alloc (.cells #[.string s] 9)).alloc (.cells #[.slice none 0 0] 30)).alloc (.cells #[.int .i64 0] 3)) (fun j => some j = (Value.slice none 0 0).ownBlock)
    rw [e3] at this
    exact this
  · exact ((((Below.refl _ w).alloc (Nat.le_refl _) _).alloc (by simp) _).alloc (by simp; omega) _).alloc (by simp; omega) _
theorem own_mono {w : World} {base b : Nat} {v : Value} {l : List Pt} (h : Ol w base v l) (hb : b ≤ base) : Ol w b v l := by
  obtain ⟨h1, h2⟩ := h
  refine ⟨h1, h2.imp id ?_⟩
  rintro ⟨g, cap, cur, rfl, hg, rest⟩
  exact ⟨g, cap, cur, rfl, Nat.le_trans hb hg, rest⟩
theorem PI.put' {w W : World} {s : ByteArray} {a p : Nat} {ps : List Pt} {v : Value} (h : PI w s W a p ps v) {x : Pt} {v' : Value} {w4 : World} (ho : w4.ownsRow (w.heap.size + 4) 35 4 v' (ps.length + 1) (cells4 ps ++ [.bool x.c, .string x.t, .int .i64 x.o, .int .i64 x.l]))
    {o : Obj} (hg : (W.alloc o).grownBy w4 v.ownBlock) (hl : v'.ownBlock = v.ownBlock ∨ v'.ownBlock = some (W.alloc o).heap.size) : PI w s (w4.setCell ⟨w.heap.size + 1, 0, none⟩ v') a p (ps ++ [x]) v' := by
  refine h.put ?_ (gtrans (World.grownBy_alloc W o _) hg) ?_
  · unfold Ol
    rw [cells4_append, List.length_append]
    exact ho
  · refine hl.imp id fun e g hg' => ?_
    rw [e] at hg'
    have := Option.some.inj hg'
    rw [World.size_alloc] at this
    omega
theorem PI.boxes {w W : World} {s : ByteArray} {a p : Nat} {ps : List Pt} {v : Value} (h : PI w s W a p ps v) {w4 : World} {o : Obj} (hg : (W.alloc o).grownBy w4 v.ownBlock) : Boxed w4 (w.heap.size + 1) 30 v ∧ Boxed w4 (w.heap.size + 2) 3 (.int .i64 p) := by
  have nv : ∀ j, j < w.heap.size + 4 → some j ≠ v.ownBlock := fun j hj e => by have := (own_lt h.own j e.symm).1; omega
  exact ⟨(h.b1.alloc o).kept hg (nv _ (by omega)), (h.b2.alloc o).kept hg (nv _ (by omega))⟩
theorem pk_end (l : List UInt8) (a p : Nat) (ps : List Pt) (h : ¬ a < l.length) : pk l a p ps = ps ++ litp l p l.length := by rw [pk, dif_neg h]
theorem pk_copy (l : List UInt8) (a p : Nat) (ps : List Pt) (h : a < l.length) (h4 : 4 ≤ (mat l a).2) : pk l a p ps = pk l (a + (mat l a).2) (a + (mat l a).2) (ps ++ litp l p a ++ [⟨true, bs [], (mat l a).1, (mat l a).2⟩]) := by rw [pk, dif_pos h, dif_pos h4]
theorem pk_lit (l : List UInt8) (a p : Nat) (ps : List Pt) (h : a < l.length) (h4 : ¬ 4 ≤ (mat l a).2) : pk l a p ps = pk l (a + 1) p ps := by rw [pk, dif_pos h, dif_neg h4]
theorem litp_length (l : List UInt8) (p e : Nat) : (litp l p e).length ≤ 1 := by unfold litp; split <;> simp
set_option maxRecDepth 100000 in
set_option maxHeartbeats 2000000 in
theorem pack_any (s : ByteArray) (hs : s.size ≤ 65536) (w : World) :
    Calls Try.prog 15 #[.string s] w fun e w' => ∃ v, e = .returned (.tuple #[v, .int .i64 0]) ∧ Ol w' w.heap.size v (pk s.data.toList 0 0 []) ∧ Below w.heap.size w w' := by
  have hmm := @run_makeMap Try.prog
  have hsi : (s.size : Int) ≤ 65536 := by omega
  have hl0 : s.data.toList.length = s.size := by simp
  have HL0 := Lib.hid hl0
  clear hl0
  obtain ⟨i0, hi, hz0, hz1, hz2⟩ := info_parts Try.info35
  go_enter Try.func15, Try.ntmps15
  go_wp2
  go_loopw [8, 9, 10, 11] (fun x _ _ _ wr => ∃ (a p : Nat) (ps : List Pt) (v : Value), x = .int .i64 (a : Int) ∧ a ≤ s.size ∧ p ≤ a ∧ ps.length ≤ 2 * a ∧ Hid (PI w s wr a p ps v) ∧ Hid (pk s.data.toList a p ps = pk s.data.toList 0 0 [])) (fun x _ _ _ _ => s.size - (intOf x).toNat)
  case atStart =>
    refine ⟨0, 0, [], .slice none 0 0, rfl, by omega, by omega, by simp, Lib.hid ?_, Lib.hid rfl⟩
    exact pi_start w s
  case round =>
    obtain ⟨a, p, ps, v, rfl, ha, hpa, hpl, HI, HP⟩ := hrel
    by_cases hlt : a < s.size
    · have c0 := HI.out.b0.cell
      have HM := Lib.hid (pmatch_any s (by omega) a hlt wr (w.heap.size + 3) (w.heap.size + 4) a _ HI.out.gm (by omega) (plc_lt _ _ _))
      have hal := mat_alike s.data.toList a (by rw [HL0.out]; exact hlt)
      rw [← plc_rev, HL0.out] at hal
      have hmo : (lg s.data.toList a (min 64 (s.size - a)) (plc s.data.toList a (nxt s.data.toList a)).reverse 0 0).2 ≤ min 64 (s.size - a) := by
        rw [lg_bst _ _ _ _ _ _ (Nat.zero_le _)]
        exact bst_le _ _ _ _ _ _ (Nat.zero_le _)
      generalize lg s.data.toList a (min 64 (s.size - a)) (plc s.data.toList a (nxt s.data.toList a)).reverse 0 0 = X at *
      obtain ⟨o, m⟩ := X
      dsimp only at hmo
      have hm1 : m ≤ 64 := by omega
      have hm2 : a + m ≤ s.size := by omega
      have HAL := Lib.hid hal
      clear hal hmo
      by_cases h4 : 4 ≤ m
      · have hmat : mat s.data.toList a = (o, m) := by
          rcases HAL.out with h | ⟨h1, h2⟩
          · exact h
          · dsimp only at h2; omega
        have HEQ := Lib.hid (pk_copy s.data.toList a p ps (by rw [HL0.out]; exact hlt) (by rw [hmat]; exact h4))
        rw [hmat] at HEQ
        dsimp only at HEQ
        clear hmat
        have hpsl : (ps ++ litp s.data.toList p a).length ≤ 2 * a + 1 := by
          rw [List.length_append]
          have := litp_length s.data.toList p a
          omega
        have HPSL := Lib.hid hpsl
        clear hpsl
        go_wp2_with (first
          | (go_at_call 39; refine HM.out.mono ?_; rintro en w2 ⟨rfl, hb2⟩; have HI2 := Lib.hid (HI.out.grown (bel_none hb2)); clear hb2)
          | (go_at_call 37; refine (put_any HI2.out (by omega) a ha (by omega)).mono ?_; rintro en w3 ⟨rfl, v3, hi3⟩; have HI3 := Lib.hid hi3; have c1 := hi3.b1.cell; have c2 := hi3.b2.cell; clear hi3)
          | (at_builtin; refine wpList_append_own_at _ rfl (.tmp 33) (.tmp 37) 30 rfl (w.heap.size + 4) 35 i0 _ 4 40 Try.underlying30 hi hz0 hz1 hz2 (by rfl) (by decide) v3 (ps ++ litp s.data.toList p a).length (cells4 (ps ++ litp s.data.toList p a)) rfl (World.ownsRow.alloc HI3.out.own _) ⟨w3.heap.size, 0, none⟩ 1 1 [.bool true, .string ⟨#[]⟩, .int .i64 o, .int .i64 m] rfl rfl (cells_new4 _ _ _ _ _ _) (by simp [Value.oneCell']) (by unfold maxLen; have := HPSL.out; omega) (by have := HPSL.out; omega) (Nat.le_trans HI3.out.sz (by simp)) ?_; intro v' w4 hown' hgrow hnil hloc; have HI4 := Lib.hid (PI.put' (x := ⟨true, ⟨#[]⟩, o, m⟩) HI3.out hown' hgrow hloc); have HB4 := Lib.hid (PI.boxes HI3.out hgrow); obtain ⟨g', cap', hv'⟩ := ownsRow_succ hown'; generalize (ps ++ litp s.data.toList p a).length + 1 = LL at hv'; subst hv'; have d1 := HB4.out.1.cell; have d2 := HB4.out.1.frozen; have d3 := HB4.out.2.cell; have d4 := HB4.out.2.frozen; clear hown' hgrow hloc hnil))
        have hIN := HI4.out.passed (a + m)
        rw [show ((a + m : Nat) : Int) = (a : Int) + (m : Int) from by omega] at hIN
        have HIN := Lib.hid hIN
        clear hIN
        have hm0 : 1 ≤ m := by omega
        go_loopw [8, 9] (fun x y wi => ∃ i : Nat, x = .int .i64 ((a + i : Nat) : Int) ∧ y = .int .i64 ((m : Int) - (i : Int)) ∧ i ≤ m ∧ Hid (PI w s wi (a + i) (a + m) (ps ++ litp s.data.toList p a ++ [⟨true, ⟨#[]⟩, o, m⟩]) (Value.slice (some ⟨g', 0, none⟩) LL cap'))) (fun _ y _ => (intOf y).toNat)
        case atStart => exact ⟨0, by go_num, by go_num, by omega, HIN⟩
        case round =>
          obtain ⟨i, rfl, rfl, hi2, HJ⟩ := hrel
          by_cases hit : i < m
          · have hidx : a + i < s.size := by omega
            have hp0 : (0 : Int) < (m : Int) - (i : Int) := by omega
            have cj := HJ.out.b0.cell
            have HAD := Lib.hid (add_any s (by omega) (a + i) hidx _ (w.heap.size + 3) (w.heap.size + 4) (a + i) _ (fun j => some j = (Value.slice (some ⟨g', 0, none⟩) LL cap').ownBlock) HJ.out.gm (by omega) HJ.out.sz (by omega) HJ.out.sh (fun j e => (own_lt HJ.out.own j e.symm).2) (fun e => by have := (own_lt HJ.out.own _ e.symm).1; omega))
            go_wp2_with (go_at_call 40; refine HAD.out.mono ?_; rintro en wk ⟨rfl, hA⟩; have HK := Lib.hid (HJ.out.added hA); clear hA)
            go_roundw
            case rel => exact ⟨i + 1, by go_num, by go_num, by omega, HK⟩
            case measure => simp [intOf]; omega
          · obtain rfl : m = i := by omega
            have hp0 : (m : Int) - (m : Int) = 0 := by omega
            rw [hp0]
            go_wp2
            go_roundw
            case rel => exact ⟨a + m, (a + m), (ps ++ litp s.data.toList p a ++ [⟨true, ⟨#[]⟩, o, m⟩]), (Value.slice (some ⟨g', 0, none⟩) LL cap'), by go_num, by omega, by omega, (by have := HPSL.out; rw [List.length_append, List.length_singleton]; omega), HJ, Lib.hid (HEQ.out.symm.trans HP.out)⟩
            case measure => simp [intOf]; omega
      · have HEQ := Lib.hid (pk_lit s.data.toList a p ps (by rw [HL0.out]; exact hlt) (by
          rcases HAL.out with h | ⟨h1, h2⟩
          · rw [h]; exact h4
          · omega))
        obtain ⟨T, hT⟩ : ∃ T : Nat, T = 1 := ⟨_, rfl⟩
        have hT0 : 1 ≤ T := by omega
        have hT1 : a + T ≤ s.size := by omega
        have HT := Lib.hid hT
        clear hT
        go_wp2_with (go_at_call 39; refine HM.out.mono ?_; rintro en w2 ⟨rfl, hb2⟩; have HIN := Lib.hid (HI.out.grown (bel_none hb2)); clear hb2)
        go_loopw [8, 9] (fun x y wi => ∃ i : Nat, x = .int .i64 ((a + i : Nat) : Int) ∧ y = .int .i64 ((T : Int) - (i : Int)) ∧ i ≤ T ∧ Hid (PI w s wi (a + i) p ps v)) (fun _ y _ => (intOf y).toNat)
        case atStart => exact ⟨0, by go_num, by rw [HT.out]; rfl, by omega, HIN⟩
        case round =>
          obtain ⟨i, rfl, rfl, hi2, HJ⟩ := hrel
          by_cases hit : i < T
          · have hidx : a + i < s.size := by omega
            have hp0 : (0 : Int) < (T : Int) - (i : Int) := by omega
            have cj := HJ.out.b0.cell
            have HAD := Lib.hid (add_any s (by omega) (a + i) hidx _ (w.heap.size + 3) (w.heap.size + 4) (a + i) _ (fun j => some j = v.ownBlock) HJ.out.gm (by omega) HJ.out.sz (by omega) HJ.out.sh (fun j e => (own_lt HJ.out.own j e.symm).2) (fun e => by have := (own_lt HJ.out.own _ e.symm).1; omega))
            go_wp2_with (go_at_call 40; refine HAD.out.mono ?_; rintro en wk ⟨rfl, hA⟩; have HK := Lib.hid (HJ.out.added hA); clear hA)
            go_roundw
            case rel => exact ⟨i + 1, by go_num, by go_num, by omega, HK⟩
            case measure => simp [intOf]; omega
          · obtain rfl : T = i := by omega
            have hp0 : (T : Int) - (T : Int) = 0 := by omega
            rw [hp0]
            go_wp2
            go_roundw
            case rel => exact ⟨a + T, p, ps, v, by go_num, by omega, by omega, (by have := HT.out; omega), HJ, Lib.hid (by rw [HT.out]; exact HEQ.out.symm.trans HP.out)⟩
            case measure => simp [intOf]; omega
    · obtain rfl : a = s.size := by omega
      have c0 := HI.out.b0.cell
      have HEND := Lib.hid (pk_end s.data.toList s.size p ps (by rw [HL0.out]; omega))
      rw [HL0.out] at HEND
      have hz : ¬ (s.size : Int) < (s.size : Int) := by omega
      go_wp2_with (go_at_call 37; refine (put_any HI.out (by omega) s.size (Nat.le_refl _) (by omega)).mono ?_; rintro en w3 ⟨rfl, v3, hi3⟩; have HI3 := Lib.hid hi3; have c1 := hi3.b1.cell; clear hi3)
      go_ret2
      refine ⟨v3, rfl, ?_, HI3.out.bel⟩
      rw [← HP.out, HEND.out]
      exact own_mono HI3.out.own (by omega)
end Go.Proofs.Ytnnogjojoeajnaa
