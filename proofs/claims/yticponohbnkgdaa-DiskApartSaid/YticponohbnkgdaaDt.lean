/- Two disks held against each other. -/
import Derived.Test.YticponohbnkgdaaDs
import Derived.Laws.StructEq
import Derived.ChangeKeysEq
namespace Go.Proofs.Yticponohbnkgdaa
open Go Go.RowKit Go.ChangeShapes Go.WideShapes
set_option maxRecDepth 100000
theorem agg_of {t : TypeId} {fs : Array Field} (h : Try.prog.underlying t = some (.struct fs)) (W : World) : (isAgg t).run Try.prog W = .ok true W := by
  unfold isAgg
  rw [Sem.run_bind, run_underlying h W]
  rfl
theorem agg_arr {t e : TypeId} {n : Nat} (h : Try.prog.underlying t = some (.array n e)) (W : World) : (isAgg t).run Try.prog W = .ok true W := by
  unfold isAgg
  rw [Sem.run_bind, run_underlying h W]
  rfl
theorem part_cell {t : TypeId} (h : ∀ W, (isAgg t).run Try.prog W = .ok false W) {cs : Array Value} {off : Nat} {v : Value} (hv : cs[off]? = some v) (W : World) : (part t cs off).run Try.prog W = .ok v W := by
  simp only [part, Sem.run_bind, h, Result.andThen_ok, Bool.false_eq_true, if_false, hv, Sem.run_pure]
theorem part_agg {t : TypeId} (h : ∀ W, (isAgg t).run Try.prog W = .ok true W) {i : TypeInfo} (hi : Try.prog.info? t = some i) {cs : Array Value} {off : Nat} (W : World) : (part t cs off).run Try.prog W = .ok (.agg (cs.extract off (off + Try.prog.cellsOf t))) W := by
  simp only [part, Sem.run_bind, h, Result.andThen_ok, if_true, run_sizeOf W hi, Sem.run_pure]
theorem agg3 (W : World) : (isAgg 3).run Try.prog W = .ok false W := by kernel_rfl
theorem agg4 (W : World) : (isAgg 4).run Try.prog W = .ok false W := by kernel_rfl
theorem agg9 (W : World) : (isAgg 9).run Try.prog W = .ok false W := by kernel_rfl
theorem cells66 : Try.prog.cellsOf 66 = 2 := by kernel_rfl
theorem cells67 : Try.prog.cellsOf 67 = 64 := by kernel_rfl
theorem info66 : ∃ i, Try.prog.info? 66 = some i := ⟨_, rfl⟩
theorem info67 : ∃ i, Try.prog.info? 67 = some i := ⟨_, rfl⟩
theorem extract67 (T : Nat → Tp) {k : Nat} (hk : k < 32) : (tcells T 32).toArray.extract (k * 2) (k * 2 + 2) = #[.string (T k).s, .int .i64 ((T k).f : Int)] := by
  apply Array.ext'
  rw [Array.toList_extract]
  simp only [List.extract]
  have h0 := tcells_even T hk
  have h1 := tcells_odd T hk
  generalize tcells T 32 = C at *
  apply List.ext_getElem?
  intro i
  match i with
  | 0 => simpa [List.getElem?_take, List.getElem?_drop] using h0
  | 1 => simpa [List.getElem?_take, List.getElem?_drop] using h1
  | i + 2 => simp [List.getElem?_take]; omega
theorem eq66 (d : Nat) (s : ByteArray) (f : Int) (W : World) : (Op.equalIn (d + 2) 66 (.agg #[.string s, .int .i64 f]) (.agg #[.string s, .int .i64 f])).run Try.prog W = .ok true W := by
  rw [run_equalIn_struct W (d + 1) 66 _ _ Try.underlying66 (by kernel_rfl)]
  have h0 : ∀ W, (part 9 #[.string s, .int .i64 f] 0).run Try.prog W = .ok (.string s) W := fun W => part_cell agg9 rfl W
  have h1 : ∀ W, (part 3 #[.string s, .int .i64 f] 1).run Try.prog W = .ok (.int .i64 f) W := fun W => part_cell agg3 rfl W
  have e0 : ∀ W, (Op.equalIn (d + 1) 9 (.string s) (.string s)).run Try.prog W = .ok true W := fun W => by rw [run_equalIn_string W d 9 s s Try.underlying9]; simp
  have e1 : ∀ W, (Op.equalIn (d + 1) 3 (.int .i64 f) (.int .i64 f)).run Try.prog W = .ok true W := fun W => by rw [run_equalIn_int W d 3 .i64 .i64 f f Try.underlying3]; simp
  have hfs : (Try.prog.fieldsOf 66).toList.map (fun x => (x.name != "_", x.type, x.offset)) = [(true, 9, 0), (true, 3, 1)] := by kernel_rfl
  generalize (Try.prog.fieldsOf 66).toList = fs at *
  have hl : fs.length = 2 := by have := congrArg List.length hfs; simpa using this
  match fs, hl with
  | [a, b], _ =>
    simp only [List.map_cons, List.map_nil, List.cons.injEq, Prod.mk.injEq, bne_iff_ne, ne_eq, and_true] at hfs
    obtain ⟨⟨a0, a1, a2⟩, b0, b1, b2⟩ := hfs
    simp only [Op.eqFields, ne_eq, a0, a1, a2, b0, b1, b2, not_false_eq_true, if_true, Sem.run_bind, h0, h1, e0, e1, Result.andThen_ok, Bool.not_true, Bool.false_eq_true, if_false, Sem.run_pure]
theorem eq67 (d : Nat) (T : Nat → Tp) (W : World) : (Op.equalIn (d + 3) 67 (.agg (tcells T 32).toArray) (.agg (tcells T 32).toArray)).run Try.prog W = .ok true W := by
  obtain ⟨i, hi⟩ := info66
  rw [run_equalIn_array W (d + 2) _ _ Try.underlying67 hi, cells66]
  have key : ∀ is : List Nat, (∀ j ∈ is, j < 32) → (Op.eqItems (d + 2) 66 2 (tcells T 32).toArray (tcells T 32).toArray is).run Try.prog W = .ok true W := fun is => by
    induction is with
    | nil => intro _; simp [Op.eqItems]
    | cons j is ih =>
      intro h
      have hj := h j (by simp)
      have hp : (part 66 (tcells T 32).toArray (j * 2)).run Try.prog W = .ok (.agg #[.string (T j).s, .int .i64 ((T j).f : Int)]) W := by
        rw [part_agg (agg_of Try.underlying66) hi W, cells66, extract67 T hj]
      simp only [Op.eqItems, Sem.run_bind, hp, eq66, Result.andThen_ok, Bool.not_true, Bool.false_eq_true, if_false]
      exact ih (fun k hk => h k (by simp [hk]))
  exact key _ (fun j hj => List.mem_range.1 hj)
theorem eq69 (d : Dk) (W : World) : (Op.equalIn 10000 69 (.agg (dcells d).toArray) (.agg (dcells d).toArray)).run Try.prog W = .ok true W := by
  rw [run_equalIn_struct W 9999 69 _ _ Try.underlying69 (by kernel_rfl)]
  obtain ⟨i, hi⟩ := info67
  have c : ∀ j, (dcells d).toArray[j]? = (dcells d)[j]? := fun j => List.getElem?_toArray ..
  have h0 : ∀ W, (part 3 (dcells d).toArray 0).run Try.prog W = .ok (.int .i64 (d.cap : Int)) W := fun W => part_cell agg3 (by rw [c]; rfl) W
  have h1 : ∀ W, (part 67 (dcells d).toArray 1).run Try.prog W = .ok (.agg (tcells d.T 32).toArray) W := fun W => by
    rw [part_agg (agg_arr Try.underlying67) hi W, cells67]
    have : (dcells d).toArray.extract 1 (1 + 64) = (tcells d.T 32).toArray := by
      apply Array.ext'
      rw [Array.toList_extract]
      simp only [List.extract, dcells]
      rw [show (1 + 64 - 1 : Nat) = 64 from rfl, List.drop_succ_cons, List.drop_zero, List.take_append_of_le_length (by rw [tcells_len]; decide), List.take_of_length_le (by rw [tcells_len]; decide)]
    rw [this]
  have h2 : ∀ W, (part 4 (dcells d).toArray 65).run Try.prog W = .ok (.bool d.dn) W := fun W => part_cell agg4 (by rw [c]; exact dcells_last d 0) W
  have h3 : ∀ W, (part 4 (dcells d).toArray 66).run Try.prog W = .ok (.bool d.dm) W := fun W => part_cell agg4 (by rw [c]; exact dcells_last d 1) W
  have h4 : ∀ W, (part 3 (dcells d).toArray 67).run Try.prog W = .ok (.int .i64 (d.left : Int)) W := fun W => part_cell agg3 (by rw [c]; exact dcells_last d 2) W
  have e0 : ∀ (x : Int) W, (Op.equalIn 9999 3 (.int .i64 x) (.int .i64 x)).run Try.prog W = .ok true W := fun x W => by rw [run_equalIn_int W 9998 3 .i64 .i64 x x Try.underlying3]; simp
  have e1 : ∀ (x : Bool) W, (Op.equalIn 9999 4 (.bool x) (.bool x)).run Try.prog W = .ok true W := fun x W => by rw [run_equalIn_bool' W 9998 4 x x Try.underlying4]; simp
  have e2 : ∀ W, (Op.equalIn 9999 67 (.agg (tcells d.T 32).toArray) (.agg (tcells d.T 32).toArray)).run Try.prog W = .ok true W := fun W => eq67 9996 d.T W
  have hfs : (Try.prog.fieldsOf 69).toList.map (fun x => (x.name != "_", x.type, x.offset)) = [(true, 3, 0), (true, 67, 1), (true, 4, 65), (true, 4, 66), (true, 3, 67)] := by kernel_rfl
  generalize (Try.prog.fieldsOf 69).toList = fs at *
  generalize (dcells d).toArray = C at *
  have hl : fs.length = 5 := by have := congrArg List.length hfs; simpa using this
  match fs, hl with
  | [f0, f1, f2, f3, f4], _ =>
    simp only [List.map_cons, List.map_nil, List.cons.injEq, Prod.mk.injEq, bne_iff_ne, ne_eq, and_true] at hfs
    obtain ⟨⟨a0, a1, a2⟩, ⟨b0, b1, b2⟩, ⟨c0, c1, c2⟩, ⟨d0, d1, d2⟩, g0, g1, g2⟩ := hfs
    simp only [Op.eqFields, ne_eq, a0, a1, a2, b0, b1, b2, c0, c1, c2, d0, d1, d2, g0, g1, g2, not_false_eq_true, if_true, Sem.run_bind, h0, h1, h2, h3, h4, e0, e1, e2, Result.andThen_ok, Bool.not_true, Bool.false_eq_true, if_false, Sem.run_pure]
theorem quiet_load_mid {o : Oper} {a : Act} {C : World → Prop} {K : Act → Prop} (ty : TypeId) (x : Operand) (ho : o.op = .load ty x) (b off : Nat) (hx : a.eval x = .pointer (some ⟨b, off, none⟩)) (cs : List Value) (d : TypeDesc) (hS : ∀ w, C w → w.rangeAt b off cs)
    (hu : Try.prog.underlying ty = some d) (hd : d.isRow = true) (hi : (Try.prog.info? ty).map (·.size) = some cs.length) (hk : K (a.put o.dst (.agg cs.toArray))) : o.quiet Try.prog a C K :=
  ⟨_, fun w hw => by
    unfold Oper.quietAt execOp
    simp only [ho, hx, Instr.loadAt, Instr.sureAddr, Sem.run_bind, Sem.run_pure, Result.andThen_ok, run_loadVar_mid w b off ty cs d (hS w hw) hu hd hi]
    exact ⟨rfl, rfl⟩, hk⟩
theorem range_regrown {w : World} {b o : Nat} {cs : List Value} (h : w.rangeAt b o cs) {w' : World} (hw : ∃ p : Regrown, w' = «Sort».grow (redrawn w p.d) p.os) : w'.rangeAt b o cs := fun j v hv => by
  obtain ⟨p, rfl⟩ := hw
  exact cell_regrown (h j v hv) _ _
set_option maxHeartbeats 1000000 in
theorem same_yes (A B : Nat) (d : Dk) (w : World) (hA : DAt w A d) (hB : DAt w B d) : Calls Try.prog 25 #[.pointer (some ⟨A, 0, none⟩), .pointer (some ⟨B, 0, none⟩)] w (Ret w (.bool true)) := by
  have HE := Lib.hid (eq69 d)
  have HL : Hid ((Try.prog.info? 69).map (·.size) = some (dcells d).length) := Lib.hid (by rw [dcells_len]; exact len69)
  have HRA := Lib.hid hA.whole
  have HRB := Lib.hid hB.whole
  clear hA hB
  generalize dcells d = C at *
  have heq := HE.out
  go_enter Try.func25, Try.ntmps25
  go_wp2_with fail
  refine wp_region_quiet_below (by kernel_rfl) (by kernel_rfl) ?_
  iterate 2 (go_big_quiet_step (fail))
  go_big_quiet_want
  refine quiet_load_mid 69 _ rfl A 0 rfl C _ (fun w' hw' => range_regrown HRA.out hw') Try.underlying69 rfl HL.out ?_
  go_big_quiet_on
  simp only [Act.put, List.setIfInBounds_toArray, List.set_cons_succ, List.set_cons_zero]
  iterate 2 (go_big_quiet_step (fail))
  go_big_quiet_want
  refine quiet_load_mid 69 _ rfl B 0 rfl C _ (fun w' hw' => range_regrown HRB.out hw') Try.underlying69 rfl HL.out ?_
  go_big_quiet_on
  simp only [Act.put, List.setIfInBounds_toArray, List.set_cons_succ, List.set_cons_zero]
  iterate 2 (go_big_quiet_step (fail))
  refine wpQuiet_nil ?_
  intro W2 hw2
  have hb2 : Below w.heap.size w W2 := by obtain ⟨q, rfl⟩ := hw2; exact below_regrown _ _ _
  clear hw2
  go_wp2
  go_ret
  exact ⟨rfl, hb2⟩
theorem open_nums {H : Type} {enc : TypeId × Value → H} {w : World} {base b0 : Nat} {spare : Nat → Bool} {held : Bool} {r : Reach} {v : Value} {d : DataW H} {p : List MemPlace} (hv : Value.okWide Try.prog w r b0 49 v) (h : DataW.Trod enc Try.prog w base spare held 49 v d p) : ∃ l : List Int, KAt w v l ∧ l.length ≤ 9223372036854775807 := by
  obtain ⟨a0, l0, c0, rfl⟩ := okWide_slice Try.underlying49 hv
  obtain ⟨fuel, hf⟩ := h
  exact open_nums' (v := .slice a0 l0 c0) hf
/-- Tapes that are told in block G. -/
structure Told (w : World) (G : Nat) (T : Nat → Tp) : Prop where
  a : ∀ j < 32, w.cell? ⟨G, j * 2, none⟩ = some (.string (qT (T j)).a)
  b : ∀ j < 32, w.cell? ⟨G, j * 2 + 1, none⟩ = some (.string (qT (T j)).b)
theorem Told.lt {w : World} {G : Nat} {T : Nat → Tp} (h : Told w G T) : G < w.heap.size := World.block_lt_of_cell? w _ (h.a 0 (by decide))
theorem Told.congr {w w' : World} {G : Nat} {T : Nat → Tp} (h : Told w G T) (hb : w'.heap[G]? = w.heap[G]?) : Told w' G T :=
  ⟨fun j hj => (World.cell?_of_block (a := ⟨G, _, none⟩) hb).trans (h.a j hj), fun j hj => (World.cell?_of_block (a := ⟨G, _, none⟩) hb).trans (h.b j hj)⟩
theorem Told.below {w w' : World} {G : Nat} {T : Nat → Tp} (h : Told w G T) {m : Nat} (hb : Below m w w') (hm : G < m) : Told w' G T := h.congr (hb.block G hm)
theorem Told.grown {w w' : World} {G : Nat} {T : Nat → Tp} (h : Told w G T) {B : Nat} (hg : w.grownBy w' (some B)) (hn : G ≠ B) : Told w' G T := h.congr (hg.block G h.lt (by simpa using hn))
theorem TRow.told {w w' : World} {G : Nat} {T : Nat → Tp} (h : TRow w w' G T 32) : Told w' G T := ⟨h.a, h.b⟩
theorem all_of {x : Tp} (h : x.ok) : (qT x).a ++ (qT x).b = x.s := by
  show x.s.extract 0 x.f ++ x.s.extract x.f x.s.size = x.s
  rw [ByteArray.extract_append_extract, Nat.min_eq_left (Nat.zero_le _), Nat.max_eq_right h.1]
  exact ByteArray.extract_zero_size
/-- What a Back leaves, as it is told. -/
theorem kept_told {d : Dk} (h : d.ok) (ks : List Int) {k : Nat} (hk : k < 32) : (qT ((backD d ks).T k)).b = ⟨#[]⟩ ∧ (qT (d.T k)).a.size ≤ (qT ((backD d ks).T k)).a.size ∧ (qT ((backD d ks).T k)).a.size ≤ ((qT (d.T k)).a ++ (qT (d.T k)).b).size ∧ ((qT (d.T k)).a ++ (qT (d.T k)).b).extract 0 (qT ((backD d ks).T k)).a.size = (qT ((backD d ks).T k)).a ∧ ((qT (d.T k)).a ++ (qT (d.T k)).b).size ≤ 1048576 ∧ (qT (d.T k)).a.size ≤ 1048576 ∧ (qT (d.T k)).b.size ≤ 1048576 := by
  obtain ⟨b1, b2, b3, b4, n, b5, b6⟩ := back_at h ks k hk
  have hok := h.t k hk
  rw [all_of hok]
  generalize (backD d ks).T k = y at *
  generalize d.T k = x at *
  have hz : (x.s.extract 0 n).size = n := by simp; omega
  have hn : y.s.size = n := by rw [b6]; exact hz
  have hya : (qT y).a = y.s := by show y.s.extract 0 y.f = y.s; rw [b3]; exact ByteArray.extract_zero_size
  have hxa : (qT x).a.size = x.f := by show (x.s.extract 0 x.f).size = x.f; have := hok.1; simp; omega
  have hxb : (qT x).b.size ≤ x.s.size := by show (x.s.extract x.f x.s.size).size ≤ _; simp
  have h1 := hok.1
  have h2 := hok.2
  refine ⟨?_, by rw [hya, hxa]; omega, by rw [hya]; omega, by rw [hya, hn, ← b6], h2, by omega, by omega⟩
  show y.s.extract y.f y.s.size = _
  rw [b3]
  exact ByteArray.extract_same
end Go.Proofs.Yticponohbnkgdaa
