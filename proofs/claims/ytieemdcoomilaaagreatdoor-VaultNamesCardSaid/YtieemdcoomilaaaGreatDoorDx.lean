/- Trim, Copy, Same of the disk. -/
import Derived.Test.YtieemdcoomilaaaGreatDoorDt
import Derived.Laws.StructEq
import Derived.ChangeKeysEq
import Derived.Lib.QuietBelow
import Derived.Deep.SlicePairs
import Derived.Test.YtieemdcoomilaaaGreatDoorVc
set_option linter.unusedVariables false
set_option linter.unusedSimpArgs false
namespace Go.Proofs.YtieemdcoomilaaaGreatDoor
open Go Go.RowKit Go.Deep Go.ChangeShapes Go.WideShapes
set_option maxRecDepth 100000
set_option maxHeartbeats 400000 in
theorem trimmed_any (t : Tp) (n : Int) (w : World) (ht : t.ok) : Calls Tryz.prog 135 #[.agg #[.string t.s, .int .i64 (t.f : Int)], .int .i64 n] w (Ret w (.tuple #[.agg #[.string (tr n t).1.s, .int .i64 ((tr n t).1.f : Int)], .int .i64 ((tr n t).2 : Int)])) := by
  obtain ⟨h1, h2⟩ := ht
  unfold tr
  obtain ⟨s, f⟩ := t
  dsimp only at *
  by_cases hc : 0 ≤ n ∧ n ≤ s.size
  · rw [if_pos hc]
    obtain ⟨hc1, hc2⟩ := hc
    obtain ⟨k, rfl⟩ := Int.eq_ofNat_of_zero_le hc1
    dsimp only
    have hk : k ≤ s.size := by omega
    rw [Int.toNat_natCast]
    go_enter Tryz.func135, Tryz.ntmps135
    go_wp2_with fail
    refine (firm_any _ _).mono ?_
    rintro e w' ⟨rfl, hb⟩
    obtain ⟨x1, c0, c1, f0, f1, hB⟩ := two_after hb
    have hz : (s.extract 0 k).size = k := by simp; omega
    rw [hz]
    go_wp2
    exact retc2 Tryz.results135 (w.heap.size + 1) rfl rfl rfl (x1.set _ _) ⟨rfl, below_setD (below_setD hB (by omega) _ _) (by omega) _ _⟩
  · rw [if_neg hc]
    dsimp only [t0]
    by_cases h0 : n < 0
    · go_enter Tryz.func135, Tryz.ntmps135
      go_wp2
      exact retc2 Tryz.results135 (w.heap.size + 1) rfl rfl rfl (heap_two _ _ _) ⟨rfl, below_two _ _ _⟩
    · have h3 : (s.size : Int) < n := by omega
      have h4 : 0 ≤ n := by omega
      go_enter Tryz.func135, Tryz.ntmps135
      go_wp2
      exact retc2 Tryz.results135 (w.heap.size + 1) rfl rfl rfl (heap_two _ _ _) ⟨rfl, below_two _ _ _⟩
set_option maxHeartbeats 400000 in
theorem trimf_any (b : Nat) (t : Tp) (n : Int) (w : World) (ht : t.ok) (hn : w.cell? ⟨b, 0, none⟩ = some (.int .i64 n)) : Calls Tryz.prog 134 #[.agg #[.string t.s, .int .i64 (t.f : Int)], .pointer (some ⟨b, 0, none⟩)] w (Ret w (.tuple #[.agg #[.string (tr n t).1.s, .int .i64 ((tr n t).1.f : Int)], .int .i64 ((tr n t).2 : Int)])) := by
  have HT := Lib.hid (fun W => trimmed_any t n W ht)
  clear ht
  have hb := World.block_lt_of_cell? w _ hn
  generalize (tr n t).1.s = S at *
  generalize (tr n t).1.f = F at *
  generalize (tr n t).2 = E at *
  obtain ⟨s, f⟩ := t
  dsimp only at *
  go_enter Tryz.func134, Tryz.ntmps134
  go_wp2_with fail
  refine (HT.out _).mono ?_
  rintro e w' ⟨rfl, hb⟩
  obtain ⟨x1, c0, c1, f0, f1, hB⟩ := two_after hb
  go_wp2
  exact retc2 Tryz.results134 (w.heap.size + 1) rfl rfl rfl (x1.set _ _) ⟨rfl, below_setD (below_setD hB (by omega) _ _) (by omega) _ _⟩
theorem enters43 (args : Array Value) (W : World) : (callFunc 134 args).run Tryz.prog W = .ok (.enter 134 args) W := by kernel_rfl
set_option maxHeartbeats 400000 in
theorem trim_any (B : Nat) (d : Dk) (t n : Int) (w : World) (h : DAt w B d) (hd : d.ok) : Calls Tryz.prog 113 #[.pointer (some ⟨B, 0, none⟩), .int .i64 t, .int .i64 n] w (DRet w B (.int .i64 ((doD d t false (tr n)).2 : Int)) (doD d t false (tr n)).1) := by
  have hmf : ∀ (fn : Fn) (first cap : Array Value) (w : World), (Instr.makeFunc fn first cap).run Tryz.prog w = .ok (.func fn first cap) w := fun _ _ _ _ => rfl
  have hb : Below w.heap.size w (w.alloc (.cells #[.int .i64 n] 3)) := (Below.refl _ _).alloc (Nat.le_refl _) _
  have hc : (w.alloc (.cells #[.int .i64 n] 3)).cell? ⟨w.heap.size, 0, none⟩ = some (.int .i64 n) := cell_of_one (heap_alloc_new _ _)
  have H := Lib.hid (do_any B d t false 134 #[.pointer (some ⟨w.heap.size, 0, none⟩)] (tr n) _ (h.alloc (.cells #[.int .i64 n] 3)) hd enters43 (fun u hu W hW => by have := trimf_any w.heap.size u n W hu ((hW.cell (by simp)).trans hc); simpa using this))
  have HB := Lib.hid hb
  clear hb hc
  generalize doD d t false (tr n) = X at *
  go_enter Tryz.func113, Tryz.ntmps113
  go_wp2_with fail
  refine H.out.mono ?_
  rintro e w' hr
  have HR := Lib.hid (hr.from HB.out)
  obtain ⟨rfl, hd2, hg⟩ := hr
  clear hd2 hg
  go_wp2
  go_ret
  exact HR.out
set_option maxHeartbeats 400000 in
theorem copy_any (B : Nat) (d : Dk) (w : World) (h : DAt w B d) : Calls Tryz.prog 30 #[.pointer (some ⟨B, 0, none⟩)] w fun e w' => e = .returned (.pointer (some ⟨w.heap.size, 0, none⟩)) ∧ DAt w' w.heap.size d ∧ Below w.heap.size w w' := by
  have HR := Lib.hid h.whole
  have HL : Hid ((Tryz.prog.info? 103).map (·.size) = some (dcells d).length) := Lib.hid (by rw [dcells_len]; exact len69)
  have HO := Lib.hid (dcells_one d)
  have HZ := Lib.hid (dcells_len d)
  have HF : Hid (DAt (w.alloc (.cells (dcells d).toArray 103)) w.heap.size d) := Lib.hid (DAt.of_row (heap_alloc_new _ _))
  obtain ⟨Z, hz, hzs⟩ := zero69
  generalize dcells d = C at *
  have hst : (storeCells ⟨w.heap.size, 0, none⟩ C 0).run Tryz.prog (w.alloc (.cells Z 103)) = .ok () (w.alloc (.cells C.toArray 103)) := by
    have := run_storeCells_new (P := Tryz.prog) w 103 Z C.toArray (by rw [HL.out]; simp) (by rw [hzs]; simp [HZ.out]) HO.out
    simpa using this
  have hcl : C.length = 68 := HZ.out
  clear h
  go_enter Tryz.func30, Tryz.ntmps30
  go_wp2_with (refine wpList_load_mid rfl 103 _ rfl B 0 rfl _ _ HR.out Tryz.underlying103 rfl HL.out ?_)
  go_ret
  exact ⟨rfl, HF.out, (Below.refl _ _).alloc (Nat.le_refl _) _⟩
theorem agg3 (W : World) : (isAgg 3).run Tryz.prog W = .ok false W := by kernel_rfl
theorem agg4 (W : World) : (isAgg 4).run Tryz.prog W = .ok false W := by kernel_rfl
theorem agg9 (W : World) : (isAgg 9).run Tryz.prog W = .ok false W := by kernel_rfl
theorem cells66 : Tryz.prog.cellsOf 100 = 2 := by kernel_rfl
theorem cells67 : Tryz.prog.cellsOf 101 = 64 := by kernel_rfl
theorem info66 : ∃ i, Tryz.prog.info? 100 = some i := ⟨_, rfl⟩
theorem info67 : ∃ i, Tryz.prog.info? 101 = some i := ⟨_, rfl⟩
theorem extract67 (T : Nat → Tp) {k : Nat} (hk : k < 32) : (tcells T 32).toArray.extract (k * 2) (k * 2 + 2) = #[.string (T k).s, .int .i64 ((T k).f : Int)] := by
  apply Array.ext'
  rw [Array.toList_extract]
  simp only [List.extract]
  have h0 := tcells_even T hk
  have h1 := tcells_odd T hk
  generalize tcells T 32 = C at *
  apply List.ext_getElem?
  intro i
  match i with
  | 0 => simpa [List.getElem?_take, List.getElem?_drop] using h0
  | 1 => simpa [List.getElem?_take, List.getElem?_drop] using h1
  | i + 2 => simp [List.getElem?_take]; omega
theorem eq66 (d : Nat) (s : ByteArray) (f : Int) (W : World) : (Op.equalIn (d + 2) 100 (.agg #[.string s, .int .i64 f]) (.agg #[.string s, .int .i64 f])).run Tryz.prog W = .ok true W := by
  rw [run_equalIn_struct W (d + 1) 100 _ _ Tryz.underlying100 (by kernel_rfl)]
  have h0 : ∀ W, (part 9 #[.string s, .int .i64 f] 0).run Tryz.prog W = .ok (.string s) W := fun W => part_cell agg9 rfl W
  have h1 : ∀ W, (part 3 #[.string s, .int .i64 f] 1).run Tryz.prog W = .ok (.int .i64 f) W := fun W => part_cell agg3 rfl W
  have e0 : ∀ W, (Op.equalIn (d + 1) 9 (.string s) (.string s)).run Tryz.prog W = .ok true W := fun W => by rw [run_equalIn_string W d 9 s s Tryz.underlying9]; simp
  have e1 : ∀ W, (Op.equalIn (d + 1) 3 (.int .i64 f) (.int .i64 f)).run Tryz.prog W = .ok true W := fun W => by rw [run_equalIn_int W d 3 .i64 .i64 f f Tryz.underlying3]; simp
  have hfs : (Tryz.prog.fieldsOf 100).toList.map (fun x => (x.name != "_", x.type, x.offset)) = [(true, 9, 0), (true, 3, 1)] := by kernel_rfl
  generalize (Tryz.prog.fieldsOf 100).toList = fs at *
  have hl : fs.length = 2 := by have := congrArg List.length hfs; simpa using this
  match fs, hl with
  | [a, b], _ =>
    simp only [List.map_cons, List.map_nil, List.cons.injEq, Prod.mk.injEq, bne_iff_ne, ne_eq, and_true] at hfs
    obtain ⟨⟨a0, a1, a2⟩, b0, b1, b2⟩ := hfs
    simp only [Op.eqFields, ne_eq, a0, a1, a2, b0, b1, b2, not_false_eq_true, if_true, Sem.run_bind, h0, h1, e0, e1, Result.andThen_ok, Bool.not_true, Bool.false_eq_true, if_false, Sem.run_pure]
theorem eq67 (d : Nat) (T : Nat → Tp) (W : World) : (Op.equalIn (d + 3) 101 (.agg (tcells T 32).toArray) (.agg (tcells T 32).toArray)).run Tryz.prog W = .ok true W := by
  obtain ⟨i, hi⟩ := info66
  rw [run_equalIn_array W (d + 2) _ _ Tryz.underlying101 hi, cells66]
  have key : ∀ is : List Nat, (∀ j ∈ is, j < 32) → (Op.eqItems (d + 2) 100 2 (tcells T 32).toArray (tcells T 32).toArray is).run Tryz.prog W = .ok true W := fun is => by
    induction is with
    | nil => intro _; simp [Op.eqItems]
    | cons j is ih =>
      intro h
      have hj := h j (by simp)
      have hp : (part 100 (tcells T 32).toArray (j * 2)).run Tryz.prog W = .ok (.agg #[.string (T j).s, .int .i64 ((T j).f : Int)]) W := by
        rw [part_agg (agg_of Tryz.underlying100) hi W, cells66, extract67 T hj]
      simp only [Op.eqItems, Sem.run_bind, hp, eq66, Result.andThen_ok, Bool.not_true, Bool.false_eq_true, if_false]
      exact ih (fun k hk => h k (by simp [hk]))
  exact key _ (fun j hj => List.mem_range.1 hj)
theorem eq69 (d : Dk) (W : World) : (Op.equalIn 10000 103 (.agg (dcells d).toArray) (.agg (dcells d).toArray)).run Tryz.prog W = .ok true W := by
  rw [run_equalIn_struct W 9999 103 _ _ Tryz.underlying103 (by kernel_rfl)]
  obtain ⟨i, hi⟩ := info67
  have c : ∀ j, (dcells d).toArray[j]? = (dcells d)[j]? := fun j => List.getElem?_toArray ..
  have h0 : ∀ W, (part 3 (dcells d).toArray 0).run Tryz.prog W = .ok (.int .i64 (d.cap : Int)) W := fun W => part_cell agg3 (by rw [c]; rfl) W
  have h1 : ∀ W, (part 101 (dcells d).toArray 1).run Tryz.prog W = .ok (.agg (tcells d.T 32).toArray) W := fun W => by
    rw [part_agg (agg_arr Tryz.underlying101) hi W, cells67]
    have : (dcells d).toArray.extract 1 (1 + 64) = (tcells d.T 32).toArray := by
      apply Array.ext'
      rw [Array.toList_extract]
      simp only [List.extract, dcells]
      rw [show (1 + 64 - 1 : Nat) = 64 from rfl, List.drop_succ_cons, List.drop_zero, List.take_append_of_le_length (by rw [tcells_len]; decide), List.take_of_length_le (by rw [tcells_len]; decide)]
    rw [this]
  have h2 : ∀ W, (part 4 (dcells d).toArray 65).run Tryz.prog W = .ok (.bool d.dn) W := fun W => part_cell agg4 (by rw [c]; exact dcells_last d 0) W
  have h3 : ∀ W, (part 4 (dcells d).toArray 66).run Tryz.prog W = .ok (.bool d.dm) W := fun W => part_cell agg4 (by rw [c]; exact dcells_last d 1) W
  have h4 : ∀ W, (part 3 (dcells d).toArray 67).run Tryz.prog W = .ok (.int .i64 (d.left : Int)) W := fun W => part_cell agg3 (by rw [c]; exact dcells_last d 2) W
  have e0 : ∀ (x : Int) W, (Op.equalIn 9999 3 (.int .i64 x) (.int .i64 x)).run Tryz.prog W = .ok true W := fun x W => by rw [run_equalIn_int W 9998 3 .i64 .i64 x x Tryz.underlying3]; simp
  have e1 : ∀ (x : Bool) W, (Op.equalIn 9999 4 (.bool x) (.bool x)).run Tryz.prog W = .ok true W := fun x W => by rw [run_equalIn_bool' W 9998 4 x x Tryz.underlying4]; simp
  have e2 : ∀ W, (Op.equalIn 9999 101 (.agg (tcells d.T 32).toArray) (.agg (tcells d.T 32).toArray)).run Tryz.prog W = .ok true W := fun W => eq67 9996 d.T W
  have hfs : (Tryz.prog.fieldsOf 103).toList.map (fun x => (x.name != "_", x.type, x.offset)) = [(true, 3, 0), (true, 101, 1), (true, 4, 65), (true, 4, 66), (true, 3, 67)] := by kernel_rfl
  generalize (Tryz.prog.fieldsOf 103).toList = fs at *
  generalize (dcells d).toArray = C at *
  have hl : fs.length = 5 := by have := congrArg List.length hfs; simpa using this
  match fs, hl with
  | [f0, f1, f2, f3, f4], _ =>
    simp only [List.map_cons, List.map_nil, List.cons.injEq, Prod.mk.injEq, bne_iff_ne, ne_eq, and_true] at hfs
    obtain ⟨⟨a0, a1, a2⟩, ⟨b0, b1, b2⟩, ⟨c0, c1, c2⟩, ⟨d0, d1, d2⟩, g0, g1, g2⟩ := hfs
    simp only [Op.eqFields, ne_eq, a0, a1, a2, b0, b1, b2, c0, c1, c2, d0, d1, d2, g0, g1, g2, not_false_eq_true, if_true, Sem.run_bind, h0, h1, h2, h3, h4, e0, e1, e2, Result.andThen_ok, Bool.not_true, Bool.false_eq_true, if_false, Sem.run_pure]
set_option maxHeartbeats 1000000 in
theorem same_yes (A B : Nat) (d : Dk) (w : World) (hA : DAt w A d) (hB : DAt w B d) : Calls Tryz.prog 32 #[.pointer (some ⟨A, 0, none⟩), .pointer (some ⟨B, 0, none⟩)] w (Ret w (.bool true)) := by
  have HE := Lib.hid (eq69 d)
  have HL : Hid ((Tryz.prog.info? 103).map (·.size) = some (dcells d).length) := Lib.hid (by rw [dcells_len]; exact len69)
  have HRA := Lib.hid hA.whole
  have HRB := Lib.hid hB.whole
  clear hA hB
  generalize dcells d = C at *
  have heq := HE.out
  go_enter Tryz.func32, Tryz.ntmps32
  go_wp2_with fail
  refine wp_region_quiet_below (by kernel_rfl) (by kernel_rfl) ?_
  iterate 2 (go_big_quiet_step (fail))
  go_big_quiet_want
  refine quiet_load_mid 103 _ rfl A 0 rfl C _ (fun w' hw' => range_regrown HRA.out hw') Tryz.underlying103 rfl HL.out ?_
  go_big_quiet_on
  simp only [Act.put, List.setIfInBounds_toArray, List.set_cons_succ, List.set_cons_zero]
  iterate 2 (go_big_quiet_step (fail))
  go_big_quiet_want
  refine quiet_load_mid 103 _ rfl B 0 rfl C _ (fun w' hw' => range_regrown HRB.out hw') Tryz.underlying103 rfl HL.out ?_
  go_big_quiet_on
  simp only [Act.put, List.setIfInBounds_toArray, List.set_cons_succ, List.set_cons_zero]
  iterate 2 (go_big_quiet_step (fail))
  refine wpQuiet_nil ?_
  intro W2 hw2
  have hb2 : Below w.heap.size w W2 := by obtain ⟨q, rfl⟩ := hw2; exact below_regrown _ _ _
  clear hw2
  go_wp2
  go_ret
  exact ⟨rfl, hb2⟩
end Go.Proofs.YtieemdcoomilaaaGreatDoor
namespace Go.Proofs.YtieemdcoomilaaaGreatDoor
open Go Go.RowKit Go.Sort
set_option maxRecDepth 100000
theorem info84 : (Tryz.prog.info? 84).map (fun i => (i.zero, i.size, i.bytes)) = some (some .nilFunc, 1, 8) := by kernel_rfl
def lsB (d : Dk) (t : Int) : Bool := decide ((d.T t.toNat).f < (d.T t.toNat).s.size)
def hdL (d : Dk) (l : List Int) : List SF := (l.filter (lsB d)).map sySt
theorem hdL_snoc (d : Dk) (l : List Int) (t : Int) : hdL d (l ++ [t]) = if lsB d t = true then hdL d l ++ [sySt t] else hdL d l := by
  unfold hdL
  rw [List.filter_append, List.map_append]
  cases h : lsB d t
  · rw [if_neg (by simp), List.filter_cons_of_neg (by rw [h]; simp)]; simp
  · rw [if_pos rfl, List.filter_cons_of_pos h]; rfl
theorem hdL_len (d : Dk) (l : List Int) : (hdL d l).length ≤ l.length := by unfold hdL; rw [List.length_map]; exact List.length_filter_le _ _
theorem qb_empty {t : Tp} (ht : t.ok) : (qT t).b.toList.isEmpty = !(decide (t.f < t.s.size)) := by
  have h1 : (qT t).b.size = t.s.size - t.f := by show (t.s.extract t.f t.s.size).size = _; simp
  have h2 : (qT t).b.toList.length = t.s.size - t.f := by rw [toList_eq, ← h1]; simp
  by_cases h : t.f < t.s.size
  · rw [decide_eq_true h]
    cases e : (qT t).b.toList with
    | nil => rw [e] at h2; simp at h2; omega
    | cons a b => rfl
  · rw [decide_eq_false h]
    have := List.length_eq_zero_iff.1 (show (qT t).b.toList.length = 0 by omega)
    rw [this]; rfl
set_option maxHeartbeats 1000000 in
theorem harden_any (V B mo : Nat) (x : VS) (l : List Int) (u : Value) (w : World) (hx : VSt w V B mo x) (hk : KAt w u l) (hl : l.length ≤ 100) (hr : ∀ t ∈ l, 0 ≤ t ∧ t < 32) : Calls Tryz.prog 43 #[.pointer (some ⟨V, 0, none⟩), u] w (StD w V B mo (runS (hdL x.1 l) x)) := by
  obtain ⟨v, hv⟩ := hx.v
  have con := hv.on
  have HT := Lib.hid (tapes_any B x.1 w hx.d hx.ok.t)
  obtain ⟨ua, uc, hu⟩ := hk.slice
  obtain ⟨L, hL⟩ : ∃ L, l.length = L := ⟨_, rfl⟩
  rw [hL] at hu hl
  subst hu
  have HX := Lib.hid hx
  have HK := Lib.hid hk
  have HL := Lib.hid hL
  have HR := Lib.hid hr
  have hVl := hx.lt
  have hBl := hx.d.lt
  have HS := Lib.hid (fun t W (hW : Below w.heap.size w W) => toSync_any V B mo t W (Nat.lt_of_lt_of_le hBl hW.size) (Nat.lt_of_lt_of_le hVl hW.size))
  obtain ⟨i0, hi, hz0, hz1, hz2⟩ := info_parts info84
  clear hx hk hL hr hv
  go_enter Tryz.func43, Tryz.ntmps43
  go_wp2_with fail
  refine HT.out.mono ?_
  rintro e w1 ⟨rfl, ht⟩
  have HB1 := Lib.hid ht.below
  have HW := Lib.hid ht.told
  have hlt1 := ht.lt
  have hsz1 := ht.below.size
  clear ht
  go_wp2
  go_loopw [5, 16] (fun s i wl => ∃ (k : Nat), i = .int .i64 (k : Int) ∧ k ≤ L ∧ Hid (Below w.heap.size w wl) ∧ Hid (Below w1.heap.size w1 wl) ∧ Hid (Sts wl V B mo w1.heap.size s (hdL x.1 (l.take k)))) (fun _ i _ => L - (intOf i).toNat)
  case atStart => exact ⟨0, rfl, by omega, HB1, Lib.hid (Below.refl _ _), Lib.hid (Sts.nil _ _ _ _ _)⟩
  case round =>
    obtain ⟨k, rfl, hk, HB, HC, HQ⟩ := hrel
    by_cases hlt : k < L
    · have hkl : k < l.length := by rw [HL.out]; exact hlt
      have hc := HK.out.below HB.out (Nat.le_refl _)
      obtain ⟨g, o, c, hg, -⟩ := hc.pos (fun e => by rw [e] at hkl; simp at hkl)
      cases hg
      have hc := hc.at k hkl
      have hrt := HR.out _ (List.getElem_mem hkl)
      have E1 : Hid (l.take (k + 1) = l.take k ++ [l[k]]) := Lib.hid (List.take_succ_eq_append_getElem hkl)
      generalize l[k] = t at *
      obtain ⟨T, rfl⟩ : ∃ T : Nat, t = (T : Int) := ⟨t.toNat, by omega⟩
      have hT : T < 32 := by omega
      have E2 : Hid (hdL x.1 (l.take (k + 1)) = if lsB x.1 (T : Int) = true then hdL x.1 (l.take k) ++ [sySt (T : Int)] else hdL x.1 (l.take k)) := Lib.hid (by rw [E1.out, hdL_snoc])
      have ct := ((HW.out.below HC.out hlt1).b T hT)
      have hb := qb_empty (HX.out.ok.t T hT)
      have hbs : lsB x.1 (T : Int) = decide ((x.1.T T).f < (x.1.T T).s.size) := by unfold lsB; rw [Int.toNat_natCast]
      rw [← hbs] at hb
      generalize (qT (x.1.T T)).b = S at *
      clear hbs
      cases hlb : lsB x.1 (T : Int)
      · rw [hlb] at hb E2
        have E3 : Hid (hdL x.1 (l.take (k + 1)) = hdL x.1 (l.take k)) := Lib.hid (E2.out.trans (if_neg (by simp)))
        clear hlb E2 E1
        go_wp2
        go_roundw
        case rel => exact ⟨k + 1, by go_num, by omega, HB, HC, Lib.hid (by rw [E3.out]; exact HQ.out)⟩
        case measure => simp [intOf]; omega
      · rw [hlb] at hb E2
        have E3 : Hid (hdL x.1 (l.take (k + 1)) = hdL x.1 (l.take k) ++ [sySt (T : Int)]) := Lib.hid (E2.out.trans (if_pos rfl))
        clear hlb E2 E1
        go_wp2_with fail
        refine (HS.out (T : Int) wr HB.out).mono ?_
        rintro e w2 ⟨cl, bs, rfl, hst, hbs, hb2⟩
        have hn : ∀ b ∈ bs, ∀ s0 fs0, Sts wr V B mo w1.heap.size s0 fs0 → s0.ownBlock ≠ some b := fun b hb s0 fs0 ⟨_, _, y2, _⟩ e => by have := (y2.lt b e).2; have := hbs b hb; omega
        have HN := Lib.hid (fun b hb => hn b hb _ _ HQ.out)
        obtain ⟨Ls, q1, q2, q3⟩ := HQ.out.below hb2
        have HO1 := Lib.hid q2
        have HQ3 := Lib.hid (fun (o : Obj) => fun q hq => (⟨(q3 q hq).1.below (below_one w2 o), (q3 q hq).2⟩ : Stp (w2.alloc o) V B mo q.2.1 q.1 q.2.2 ∧ ∀ b ∈ q.2.1, _))
        have HST := Lib.hid (fun (o : Obj) => hst.below (below_one w2 o))
        have HZ := Lib.hid (show (Ls.map fun q => q.1.v).length ≤ 100 by rw [List.length_map]; have := congrArg List.length q1; rw [List.length_map] at this; rw [← this]; exact Nat.le_trans (hdL_len _ _) (Nat.le_trans (List.length_take_le _ _) (by omega)))
        have HB2 := Lib.hid (below_trans' HB.out hb2)
        have HC2 := Lib.hid (below_trans' HC.out hb2)
        have HE4 : Hid (hdL x.1 (l.take (k + 1)) = Ls.map (fun q => q.2.2) ++ [sySt (T : Int)]) := Lib.hid (by rw [E3.out, q1])
        clear hn q1 q2 q3 hst hbs hb2 HQ
        obtain ⟨F, fi, ca⟩ := cl
        unfold Clo.v
        generalize hLv : (Ls.map fun q => q.1.v) = LV at *
        have HLV := Lib.hid hLv
        clear hLv
        go_wp2_with (at_builtin; refine wpList_append_Own _ rfl (.tmp 26) (.tmp 30) 90 90 rfl w1.heap.size 84 i0 .nilFunc 8 Tryz.underlying90 hi hz0 hz1 hz2 rfl _ LV rfl (HO1.out.alloc _) _ 1 [.func (.func F) fi ca] rfl (Src.one w2 Tryz.underlying90 _ _ rfl) ?c1 ?c2 ?c3 ?_; rotate_right; intro v' w3 hown1 hgr hwh; have HO2 := Lib.hid hown1; have HG := Lib.hid hgr; have HH := Lib.hid hwh; clear hown1 hgr hwh)
        case c1 => have := HZ.out; omega
        case c2 => have := HZ.out; omega
        case c3 => exact Nat.le_trans HC2.out.size (by rw [World.size_alloc]; omega)
        have HQN : Hid (Sts w3 V B mo w1.heap.size v' (hdL x.1 (l.take (k + 1)))) := Lib.hid (by
          rw [HE4.out]
          exact Sts.snoc (HQ3.out _) (HST.out _) HN.out (by rw [HLV.out]; exact HO2.out) HG.out HH.out)
        have HB3 := Lib.hid ((HB2.out.alloc HB2.out.size (.cells #[.func (.func F) fi ca] 84)).grown HG.out (Nat.le_trans HB2.out.size (by rw [World.size_alloc]; omega)) (fun q hq => by have := (HO1.out.lt q hq).1; omega))
        have HC3 := Lib.hid ((HC2.out.alloc HC2.out.size (.cells #[.func (.func F) fi ca] 84)).grown HG.out (Nat.le_trans HC2.out.size (by rw [World.size_alloc]; omega)) (fun q hq => (HO1.out.lt q hq).1))
        go_wp2
        go_roundw
        case rel => exact ⟨k + 1, by go_num, by omega, HB3, HC3, HQN⟩
        case measure => simp [intOf]; omega
    · obtain rfl : k = L := by omega
      have e2 : l.take k = l := by rw [← HL.out, List.take_length]
      rw [e2] at HQ
      have HF := Lib.hid (turn_sts (HX.out.below HB.out (Nat.le_refl _)) HQ.out (by omega) (by omega))
      clear e2
      go_wp2_with fail
      refine HF.out.mono ?_
      rintro e w4 ⟨rfl, hx4, hg4⟩
      have HX4 := Lib.hid hx4
      have HG4 := Lib.hid ((Gv.of_below HB.out B V).trans hg4)
      clear hx4 hg4
      go_wp2
      go_ret
      exact ⟨rfl, HX4.out, HG4.out⟩
end Go.Proofs.YtieemdcoomilaaaGreatDoor
namespace Go.Proofs.YtieemdcoomilaaaGreatDoor
open Go Go.RowKit Go.Sort
set_option maxRecDepth 100000
theorem ptT_eq (d : Dk) : ptT d = if (ldR d).2.2.1 = true then 1 - (ldR d).2.1 else 0 := by
  unfold ptT nxT
  by_cases h : d.dn = true
  · have : ldR d = (he0, 0, false, 45) := by unfold ldR; rw [if_pos h]
    rw [this]; rfl
  · have : (ldR d).2.2.2 = 0 := by unfold ldR; rw [if_neg h]
    rw [this, if_neg (by simp)]
set_option maxHeartbeats 400000 in
theorem spare_any (V B mo : Nat) (h : He) (n : Nat) (v : Value) (d : Dk) (w : World) (a : VAt w V B mo h n v) (hd : DAt w B d) (ho : d.ok) (hT : Hid (Tab w)) : Calls Tryz.prog 61 #[.pointer (some ⟨V, 0, none⟩)] w (Ret w (.int .i64 (ptT d : Int))) := by
  have c := a.on
  have H := Lib.hid (load_any' B d w hd ho hT)
  have hle := ldT_le d
  rw [ptT_eq]
  clear a hd
  generalize ldR d = X at *
  obtain ⟨y, t, b, r⟩ := X
  dsimp only at *
  cases b
  · rw [if_neg (by simp)]
    go_enter Tryz.func61, Tryz.ntmps61
    go_wp2_with fail
    refine H.out.mono ?_
    rintro e w1 ⟨u, rfl, hw, hb⟩
    obtain ⟨va, vc, hv⟩ := hw.shape
    rw [List.length_map] at hv
    subst hv
    have HB := Lib.hid hb
    have HV : Hid (hval y (.slice va y.log.length vc) = .agg #[.int .i64 y.gen, .int .i64 y.base, .int .i64 y.snap, .slice va y.log.length vc]) := Lib.hid rfl
    rw [HV.out]
    clear hw hb
    go_wp2
    go_ret
    exact ⟨rfl, HB.out.alloc HB.out.size _⟩
  · rw [if_pos rfl]
    have e1 : ((1 - t : Nat) : Int) = 1 - (t : Int) := by omega
    rw [e1]
    go_enter Tryz.func61, Tryz.ntmps61
    go_wp2_with fail
    refine H.out.mono ?_
    rintro e w1 ⟨u, rfl, hw, hb⟩
    obtain ⟨va, vc, hv⟩ := hw.shape
    rw [List.length_map] at hv
    subst hv
    have HB := Lib.hid hb
    have HV : Hid (hval y (.slice va y.log.length vc) = .agg #[.int .i64 y.gen, .int .i64 y.base, .int .i64 y.snap, .slice va y.log.length vc]) := Lib.hid rfl
    rw [HV.out]
    clear hw hb
    go_wp2
    go_ret
    exact ⟨rfl, HB.out.alloc HB.out.size _⟩
/-- How many bytes tapes have. -/
def szs (d : Dk) : List Int → Nat
  | [] => 0
  | t :: r => (readD d t).1.size + szs d r
theorem szs_snoc (d : Dk) : ∀ (l : List Int) (t : Int), szs d (l ++ [t]) = szs d l + (readD d t).1.size
  | [], t => by show _ + 0 = 0 + _; omega
  | u :: r, t => by
    show _ + szs d (r ++ [t]) = _ + szs d r + _
    rw [szs_snoc d r t]; omega
theorem readD_le {d : Dk} (h : d.ok) (t : Int) : (readD d t).1.size ≤ 1048576 := by
  unfold readD
  split
  · show (0 : Nat) ≤ _; omega
  · split
    · exact (h.t _ (by omega)).2
    · show (0 : Nat) ≤ _; omega
theorem szs_le {d : Dk} (h : d.ok) : ∀ l : List Int, szs d l ≤ l.length * 1048576
  | [] => by simp [szs]
  | t :: r => by
    have := szs_le h r
    have := readD_le h t
    show _ + szs d r ≤ (r.length + 1) * 1048576
    omega
def roomB (d : Dk) (n : Int) (l : List Int) : Bool := decide (n - (szs d l : Int) ≤ (d.cap : Int) - (d.used : Int))
set_option maxHeartbeats 1000000 in
theorem room_any (V B mo : Nat) (h : He) (k : Nat) (v : Value) (d : Dk) (n : Nat) (l : List Int) (u : Value) (w : World) (a : VAt w V B mo h k v) (hd : DAt w B d) (ho : d.ok) (hn : n ≤ 1000000000) (hk : KAt w u l) (hl : l.length ≤ 100) : Calls Tryz.prog 59 #[.pointer (some ⟨V, 0, none⟩), .int .i64 (n : Int), u] w (Ret w (.bool (roomB d (n : Int) l))) := by
  obtain ⟨ua, uc, hu⟩ := hk.slice
  obtain ⟨L, hL⟩ : ∃ L, l.length = L := ⟨_, rfl⟩
  rw [hL] at hu hl
  have HA := Lib.hid a
  have HD := Lib.hid hd
  have HK := Lib.hid hk
  have HO := Lib.hid ho
  have HL := Lib.hid hL
  have hcap := ho.cap
  have hus := ho.size
  subst hu
  clear a hd hk hL ho
  go_enter Tryz.func59, Tryz.ntmps59
  go_wp2
  go_loopw [1, 11] (fun m i wl => ∃ j : Nat, i = .int .i64 (j : Int) ∧ m = .int .i64 ((n : Int) - (szs d (l.take j) : Int)) ∧ j ≤ L ∧ wl = w) (fun _ i _ => L - (intOf i).toNat)
  case atStart => exact ⟨0, rfl, by simp [szs], by omega, rfl⟩
  case round =>
    obtain ⟨j, rfl, rfl, hj, rfl⟩ := hrel
    have hb1 : szs d (l.take j) ≤ 104857600 := by have := szs_le HO.out (l.take j); rw [List.length_take] at this; omega
    by_cases hlt : j < L
    · have hjl : j < l.length := by rw [HL.out]; exact hlt
      obtain ⟨g, o, c, hg, -⟩ := HK.out.pos (fun e => by rw [e] at hjl; simp at hjl)
      have hc := HK.out
      cases hg
      have hc := hc.at j hjl
      have HS := Lib.hid (vsize_any V B mo h k v d l[j] wr HA.out HD.out)
      have e1 : Hid (szs d (l.take (j + 1)) = szs d (l.take j) + (readD d l[j]).1.size) := Lib.hid (by rw [List.take_succ_eq_append_getElem hjl, szs_snoc])
      have hb2 := readD_le HO.out l[j]
      generalize (readD d l[j]).1.size = Z at *
      generalize szs d (l.take j) = Y at *
      generalize l[j] = t at *
      go_wp2_with fail
      refine HS.out.mono ?_
      rintro e w1 ⟨rfl, rfl⟩
      go_wp2
      go_roundw
      case rel => exact ⟨j + 1, by go_num, by rw [e1.out]; go_num, by omega, by first | rfl | trivial⟩
      case measure => simp [intOf]; omega
    · obtain rfl : j = L := by omega
      have e2 : l.take j = l := by rw [← HL.out, List.take_length]
      rw [e2] at hb1 ⊢
      have hr : roomB d (n : Int) l = decide ((n : Int) - (szs d l : Int) ≤ (d.cap : Int) - (d.used : Int)) := rfl
      have HR := Lib.hid hr
      clear hr
      generalize szs d l = Y at *
      have k0 := cell_regrown HA.out.on
      have HC := Lib.hid (fun d' os => Calls.regrown_of ((capacity_any B d _ (HD.out.below (below_regrown wr d' os) HD.out.lt)).mono fun e w' (hx : _ ∧ _) => ⟨hx.1, by rw [← hx.2]; exact Below.refl _ _⟩))
      have HU := Lib.hid (fun d' os => Calls.regrown_of (used_any B d _ (HD.out.below (below_regrown wr d' os) HD.out.lt) HO.out))
      generalize d.used = U at *
      generalize d.cap = C at *
      go_wp2_with fail
      refine wp_region_quiet_below (by kernel_rfl) (by kernel_rfl) ?_
      iterate 5 (go_big_quiet_step (fail))
      go_big_quiet_step (first | (go_at_call 35; exact HC.out _ _))
      iterate 4 (go_big_quiet_step (fail))
      go_big_quiet_step (first | (go_at_call 34; exact HU.out _ _))
      iterate 3 (go_big_quiet_step (fail))
      refine wpQuiet_nil ?_
      intro W2 hw2
      have hb2 : Below wr.heap.size wr W2 := by obtain ⟨q, rfl⟩ := hw2; exact below_regrown _ _ _
      go_wp2
      go_ret
      exact ⟨by rw [HR.out]; rfl, hb2⟩
end Go.Proofs.YtieemdcoomilaaaGreatDoor
