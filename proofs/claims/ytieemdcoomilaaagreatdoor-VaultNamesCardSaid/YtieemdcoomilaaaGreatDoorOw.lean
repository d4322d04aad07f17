/- What a call owns: a slice of one-cell elements in a block of the call's own, whatever the block's mark; what append makes of it. Over any program. -/
import Derived.Deep.AppendSrc
import Derived.Laws.AppendOwn
import Derived.Laws.IdiomStrings
import Derived.Lib.ConvBytes
import Derived.OwnWalk
import Derived.Below
import Derived.WalkSmall
import Derived.Test.YtieemdcoomilaaaGreatDoorProg
import Derived.Test.YtieemdcoomilaaaGreatDoorMa
import Derived.WalkKit
import Derived.WalkLawsBesides
import Derived.WalkSpells
import Derived.Deep.LoopGhost
import Derived.Lib.Hide
set_option linter.unusedVariables false
set_option linter.unusedSimpArgs false
namespace Go.Proofs.YtieemdcoomilaaaGreatDoor
open Go Go.RowKit
/-- The call owns the slice v, which holds xs: nil, or at the head of a block from 'base' on, each cell up to the capacity there and not frozen. -/
def Own (w : World) (base : Nat) (v : Value) (xs : List Value) : Prop :=
  (v = .slice none 0 0 ∧ xs = []) ∨
  ∃ g cap, v = .slice (some ⟨g, 0, none⟩) xs.length cap ∧ base ≤ g ∧ g < w.heap.size ∧ xs.length ≤ cap ∧ cap ≤ maxLen ∧
    (∀ j, j < cap → (w.cell? ⟨g, j, none⟩).isSome = true ∧ w.frozen? ⟨g, j, none⟩ = false) ∧ ∀ j, j < xs.length → w.cell? ⟨g, j, none⟩ = xs[j]?
namespace Own
variable {w w' : World} {base : Nat} {v : Value} {xs : List Value}
theorem nil (w : World) (base : Nat) : Own w base (.slice none 0 0) [] := .inl ⟨rfl, rfl⟩
theorem mono {b : Nat} (h : Own w base v xs) (hb : b ≤ base) : Own w b v xs := by
  rcases h with h | ⟨g, cap, h1, h2, h3⟩
  · exact .inl h
  · exact .inr ⟨g, cap, h1, by omega, h3⟩
theorem shape (h : Own w base v xs) : ∃ a cap, v = .slice a xs.length cap := by
  rcases h with ⟨h1, h2⟩ | ⟨g, cap, h1, _⟩
  · exact ⟨none, 0, by rw [h1, h2]; rfl⟩
  · exact ⟨_, _, h1⟩
theorem lt (h : Own w base v xs) : ∀ k, v.ownBlock = some k → base ≤ k ∧ k < w.heap.size := by
  intro k hk
  rcases h with ⟨rfl, _⟩ | ⟨g, cap, rfl, hb, hg, _⟩
  · simp [Value.ownBlock] at hk
  · simp [Value.ownBlock] at hk
    subst hk
    exact ⟨hb, hg⟩
theorem kept {row : Option Nat} (h : Own w base v xs) (hg : w.grownBy w' row) (hne : v.ownBlock = none ∨ v.ownBlock ≠ row) : Own w' base v xs := by
  rcases h with hn | ⟨g, cap, rfl, hb, hlt, hc, hm, hin, hcs⟩
  · exact .inl hn
  · have hbk := hg.block g hlt (by simpa [Value.ownBlock] using hne)
    exact .inr ⟨g, cap, rfl, hb, Nat.lt_of_lt_of_le hlt hg.size, hc, hm, fun j hj => by
      rw [World.cell?_of_block (a := ⟨g, j, none⟩) hbk, World.frozen?_of_block (a := ⟨g, j, none⟩) hbk]; exact hin j hj, fun j hj => by
      rw [World.cell?_of_block (a := ⟨g, j, none⟩) hbk]; exact hcs j hj⟩
theorem alloc (h : Own w base v xs) (o : Obj) : Own (w.alloc o) base v xs :=
  h.kept (World.grownBy_alloc w o none) (by cases hv : v.ownBlock <;> simp)
theorem drew (h : Own w base v xs) : Own w.drew base v xs := h
theorem below {B : Nat} (h : Own w base v xs) (hb : Below B w w') (hB : ∀ k, v.ownBlock = some k → k < B) : Own w' base v xs := by
  rcases h with hn | ⟨g, cap, rfl, hbb, hlt, hc, hm, hin, hcs⟩
  · exact .inl hn
  · have hbk := hb.block g (hB g rfl)
    exact .inr ⟨g, cap, rfl, hbb, Nat.lt_of_lt_of_le hlt hb.size, hc, hm, fun j hj => by
      rw [World.cell?_of_block (a := ⟨g, j, none⟩) hbk, World.frozen?_of_block (a := ⟨g, j, none⟩) hbk]; exact hin j hj, fun j hj => by
      rw [World.cell?_of_block (a := ⟨g, j, none⟩) hbk]; exact hcs j hj⟩
theorem cells (h : Own w base v xs) {g : Nat} (hg : v.ownBlock = some g) : ∀ j u, xs[j]? = some u → w.cell? ((⟨g, 0, none⟩ : Addr).add j) = some u := by
  intro j u hu
  rcases h with ⟨rfl, _⟩ | ⟨g', cap, rfl, _, _, _, _, _, hcs⟩
  · simp [Value.ownBlock] at hg
  · simp [Value.ownBlock] at hg
    subst hg
    have hadd : (⟨g', 0, none⟩ : Addr).add j = ⟨g', j, none⟩ := by unfold Addr.add; split <;> simp_all
    rw [hadd, hcs j (List.getElem?_eq_some_iff.1 hu).1, hu]
end Own

theorem tape_setCells (b : Nat) : ∀ (vs : List Value) (o : Nat) (w : World), (w.setCells b o vs).tape = w.tape
  | [], _, _ => rfl
  | _ :: vs, o, w => by simp only [World.setCells]; rw [tape_setCells b vs]; rfl
theorem size_setCells (b : Nat) : ∀ (vs : List Value) (o : Nat) (w : World), (w.setCells b o vs).heap.size = w.heap.size
  | [], _, _ => rfl
  | _ :: vs, o, w => by simp only [World.setCells]; rw [size_setCells b vs]; simp [World.setCell]
theorem heap_setCells (b : Nat) {k : Nat} (hk : k ≠ b) : ∀ (vs : List Value) (o : Nat) (w : World), (w.setCells b o vs).heap[k]? = w.heap[k]?
  | [], _, _ => rfl
  | _ :: vs, o, w => by simp only [World.setCells]; rw [heap_setCells b hk vs]; exact Below.heap_setCell w _ _ k hk
theorem grownBy_setCells (b o : Nat) (vs : List Value) (w : World) : w.grownBy (w.setCells b o vs) (some b) :=
  ⟨(World.keptBut_setCells b (may := fun _ => True) vs o w (fun _ _ => trivial)).1, tape_setCells b vs o w, (World.keptBut_setCells b (may := fun _ => True) vs o w (fun _ _ => trivial)).2.1,
    Nat.le_of_eq (size_setCells b vs o w).symm, fun k _ hk => heap_setCells b (fun e => hk (by rw [e])) vs o w⟩

theorem size_zeroCells1 (z : Value) (n : Nat) : (Builtin.zeroCells #[z] n).size = n := by rw [size_zeroCells]; simp
section
variable {P : Program} (w : World)
/-- A new row of the call's own. -/
theorem Own.made (w : World) (base : Nat) (e : TypeId) (xs : List Value) (ys : Array Value) (hb : base ≤ w.heap.size) (hm : xs.length + ys.size ≤ maxLen) :
    Own (w.alloc (.cells (xs.toArray ++ ys) e)) base (.slice (some ⟨w.heap.size, 0, none⟩) xs.length (xs.length + ys.size)) xs := by
  have hat : (w.alloc (.cells (xs.toArray ++ ys) e)).heap[w.heap.size]? = some (.cells (xs.toArray ++ ys) e (0, 0)) := heap_alloc_new w _
  refine .inr ⟨w.heap.size, _, rfl, hb, by simp, by omega, hm, fun j hj => ⟨?_, ?_⟩, fun j hj => ?_⟩
  · simp only [World.cell?, hat]
    have : j < (xs.toArray ++ ys).size := by simp; omega
    rw [Option.isSome_iff_exists]
    exact ⟨(xs.toArray ++ ys)[j], by simp⟩
  · simp only [World.frozen?, hat]
    simp
  · simp only [World.cell?, hat]
    simp [Array.getElem?_append, hj]

/-- append to what the call owns, of whatever source. -/
theorem run_append_Own (base : Nat) (t tx ty e : TypeId) (i : TypeInfo) (z : Value) (bytes : Nat) (ht : P.underlying t = some (.slice e)) (hi : P.info? e = some i) (hz : i.zero = some z)
    (hsize : i.size = 1) (hby : i.bytes = bytes) (hzs : z.cells = #[z])
    (v : Value) (xs : List Value) (hown : Own w base v xs) (x : Value) (n : Nat) (news : List Value) (hs : Src P 1 tx x n news w)
    (hbytes : (xs.length + n) * bytes ≤ 140737488355328) (hml : xs.length + n ≤ 140737488355328) (hbase : base ≤ w.heap.size) :
    ∃ v' w', (Builtin.append_ #[t, tx] ty #[v, x]).run P w = .ok v' w' ∧ Own w' base v' (xs ++ news) ∧ w.grownBy w' v.ownBlock ∧ (v'.ownBlock = v.ownBlock ∨ ∀ k, v'.ownBlock = some k → w.heap.size ≤ k) := by
  have hnl : news.length = n := by have := hs.newsLen; omega
  have grow : ∀ (b : Option Addr) (sCap : Nat), v = .slice b xs.length sCap → (Builtin.firstCells i.size xs.length (.slice b xs.length sCap)).run P w.drew = .ok xs.toArray w.drew → sCap < xs.length + n →
      ∃ v' w', (Builtin.append_ #[t, tx] ty #[v, x]).run P w = .ok v' w' ∧ Own w' base v' (xs ++ news) ∧ w.grownBy w' v.ownBlock ∧ (v'.ownBlock = v.ownBlock ∨ ∀ k, v'.ownBlock = some k → w.heap.size ≤ k) := by
    intro b sCap hv hold hlt
    have hr := run_append_grow_src (P := P) w t tx ty e i z ht hi hz b xs.length sCap xs hold x n news (by rw [hsize]; exact hs) hlt (by omega) (growslice_fits (by omega) (by rw [hby]; exact hbytes))
    have hge := grownCap_ge w (xs.length + n) sCap e
    have hcm := grownCap_le_maxLen w (xs.length + n) sCap e (by unfold maxLen; omega)
    have hm := Own.made w.drew base e (xs ++ news) (Builtin.zeroCells z.cells (grownCap w (xs.length + n) sCap e - (xs.length + n))) hbase (by rw [hzs, size_zeroCells1, List.length_append]; omega)
    rw [hzs, size_zeroCells1, List.length_append, hnl] at hm
    rw [show xs.length + n + (grownCap w (xs.length + n) sCap e - (xs.length + n)) = grownCap w (xs.length + n) sCap e from by omega] at hm
    rw [← hv] at hr
    refine ⟨_, _, hr, ?_, ⟨rfl, rfl, rfl, by simp, fun k hk _ => heap_alloc_old w.drew _ hk⟩, .inr fun k hk => ?_⟩
    · rw [hzs]; exact hm
    · simp [Value.ownBlock] at hk; omega
  rcases hown with ⟨rfl, rfl⟩ | ⟨g, cap, rfl, hb, hlt, hc, hmx, hin, hcs⟩
  · by_cases hn : n = 0
    · subst hn
      have : news = [] := List.eq_nil_of_length_eq_zero hnl
      subst this
      refine ⟨.slice none 0 0, w, ?_, .inl ⟨rfl, rfl⟩, World.grownBy.refl w _, .inl rfl⟩
      rcases hs.kind with ⟨e', hk⟩ | hk <;> simp [Builtin.append_, run_underlying ht, run_underlying hk, sizeOf, typeInfo, hi, hs.len, hsize, hs.cells]
    · exact grow none 0 rfl (run_firstCells_none w.drew i.size 0 0 0) (by simp; omega)
  · by_cases hroom : xs.length + n ≤ cap
    · have hr := run_append_room_src (P := P) w t tx ty e i ht hi g 0 xs.length cap x n news (by rw [hsize]; exact hs) hroom (fun j hj => (hin _ (by rw [hsize]; omega)).1) (fun j hj => (hin _ (by rw [hsize]; omega)).2)
      rw [hsize, show 0 + xs.length * 1 = xs.length from by omega] at hr
      refine ⟨_, _, hr, .inr ⟨g, cap, by rw [List.length_append, hnl], hb, by rw [size_setCells]; exact hlt, by rw [List.length_append]; omega, hmx, fun j hj => ⟨?_, ?_⟩, fun j hj => ?_⟩, by simpa [Value.ownBlock] using grownBy_setCells g xs.length news w, .inl rfl⟩
      · by_cases h1 : xs.length ≤ j ∧ j < xs.length + news.length
        · obtain ⟨m, rfl⟩ := Nat.exists_eq_add_of_le h1.1
          rw [World.cell?_setCells_in g news xs.length w (fun q hq => (hin _ (by omega)).1) m (by omega)]
          rfl
        · rw [World.cell?_setCells_out g news xs.length w ⟨g, j, none⟩ (fun _ _ => by simp only; omega)]
          exact (hin j hj).1
      · rw [World.frozen?_setCells]; exact (hin j hj).2
      · rw [List.length_append] at hj
        by_cases h1 : xs.length ≤ j
        · obtain ⟨m, rfl⟩ := Nat.exists_eq_add_of_le h1
          rw [World.cell?_setCells_in g news xs.length w (fun q hq => (hin _ (by omega)).1) m (by omega), List.getElem?_append_right (by omega)]
          simp
        · rw [World.cell?_setCells_out g news xs.length w ⟨g, j, none⟩ (fun _ _ => by simp only; omega), hcs j (by omega), List.getElem?_append_left (by omega)]
    · refine grow (some ⟨g, 0, none⟩) cap rfl ?_ (by omega)
      have hh : Own w base (.slice (some ⟨g, 0, none⟩) xs.length cap) xs := .inr ⟨g, cap, rfl, hb, hlt, hc, hmx, hin, hcs⟩
      exact run_firstCells_some w.drew i.size xs.length ⟨g, 0, none⟩ xs.length cap xs (by rw [hsize]; omega) (fun j u hu => by simpa using hh.cells rfl j u hu)

theorem wp_append_Own {o : Oper} {a : Act} {K : Act → World → Prop} {Q : Exit → Act → World → Prop} (s x : Operand) (t tx : TypeId)
    (ho : o.op = .call { callee := .builtin .append, args := #[s, x], argTypes := #[t, tx] })
    (base : Nat) (e : TypeId) (i : TypeInfo) (z : Value) (bytes : Nat) (ht : P.underlying t = some (.slice e)) (hi : P.info? e = some i) (hz : i.zero = some z)
    (hsize : i.size = 1) (hby : i.bytes = bytes) (hzs : z.cells = #[z])
    (v : Value) (xs : List Value) (hs : a.eval s = v) (hown : Own w base v xs) (vx : Value) (n : Nat) (news : List Value) (hx : a.eval x = vx) (hsrc : Src P 1 tx vx n news w)
    (hbytes : (xs.length + n) * bytes ≤ 140737488355328) (hml : xs.length + n ≤ 140737488355328) (hbase : base ≤ w.heap.size)
    (h : ∀ v' w', Own w' base v' (xs ++ news) → w.grownBy w' v.ownBlock → (v'.ownBlock = v.ownBlock ∨ ∀ k, v'.ownBlock = some k → w.heap.size ≤ k) → K (a.put o.dst v') w') : o.wp P a w K Q := by
  obtain ⟨v', w', hr, h2, h3, h4⟩ := run_append_Own (P := P) w base t tx o.type e i z bytes ht hi hz hsize hby hzs v xs hown vx n news hsrc hbytes hml hbase
  unfold Oper.wp execOp
  simp only [ho, resolve, invoke, builtin, Sem.run_bind, Sem.run_pure, Result.andThen_ok, List.map_toArray, List.map_cons, List.map_nil, hs, hx, hr]
  exact h v' w' h2 h3 h4

theorem wpList_append_Own {ops : Array Oper} {rest : List Oper} {o : Oper} {a : Act} {Q : Exit → Act → World → Prop} (hgd : o.guard = none) (s x : Operand) (t tx : TypeId)
    (ho : o.op = .call { callee := .builtin .append, args := #[s, x], argTypes := #[t, tx] })
    (base : Nat) (e : TypeId) (i : TypeInfo) (z : Value) (bytes : Nat) (ht : P.underlying t = some (.slice e)) (hi : P.info? e = some i) (hz : i.zero = some z)
    (hsize : i.size = 1) (hby : i.bytes = bytes) (hzs : z.cells = #[z])
    (v : Value) (xs : List Value) (hs : a.eval s = v) (hown : Own w base v xs) (vx : Value) (n : Nat) (news : List Value) (hx : a.eval x = vx) (hsrc : Src P 1 tx vx n news w)
    (hbytes : (xs.length + n) * bytes ≤ 140737488355328) (hml : xs.length + n ≤ 140737488355328) (hbase : base ≤ w.heap.size)
    (h : ∀ v' w', Own w' base v' (xs ++ news) → w.grownBy w' v.ownBlock → (v'.ownBlock = v.ownBlock ∨ ∀ k, v'.ownBlock = some k → w.heap.size ≤ k) → wpList P ops Q rest (a.put o.dst v') w') : wpList P ops Q (o :: rest) a w :=
  wpList_plain hgd fun _ hK => wp_append_Own w s x t tx ho base e i z bytes ht hi hz hsize hby hzs v xs hs hown vx n news hx hsrc hbytes hml hbase fun v' w' h2 h3 h4 => hK _ _ (h v' w' h2 h3 h4)

/-- One element, in a block that was just laid for it. -/
theorem Src.one {tx e' : TypeId} (hk : P.underlying tx = some (.slice e')) (u : Value) (e : TypeId) (h1 : u.oneCell' = true) :
    Src P 1 tx (.slice (some ⟨w.heap.size, 0, none⟩) 1 1) 1 [u] (w.alloc (.cells #[u] e)) :=
  Src.ofSlice _ hk ⟨w.heap.size, 0, none⟩ 1 1 [u] rfl (fun j v hj => by
    have : j = 0 := by have := (List.getElem?_eq_some_iff.1 hj).1; simpa using this
    subst this
    simp at hj
    subst hj
    have hadd : (⟨w.heap.size, 0, none⟩ : Addr).add 0 = ⟨w.heap.size, 0, none⟩ := by unfold Addr.add; simp
    rw [hadd, World.cell?_alloc_mark]
    rfl) (fun v hv => by simp at hv; subst hv; exact h1)

/-- A byte as a value; bytes as values. -/
def bv (b : UInt8) : Value := .int .u8 (b.toNat : Int)
/-- string(b), b the call's own. -/
theorem run_string_Own (base : Nat) (src dst e : TypeId) (v : Value) (l : List UInt8) (hown : Own w base v (l.map bv)) (hs : P.underlying src = some (.slice e)) (he : P.underlying e = some (.int .u8)) (hd : P.underlying dst = some .string) :
    (convert src dst v).run P w = .ok (.string ⟨l.toArray⟩) w := by
  rcases hown with ⟨rfl, hx⟩ | ⟨g, cap, rfl, _, _, _, _, _, hcs⟩
  · have : l = [] := by simpa using hx
    subst this
    rw [run_convert_bytes_string w src dst e none 0 0 hs he hd]
    rfl
  · rw [List.length_map]
    refine run_convert_bytes_back w src dst e ⟨g, 0, none⟩ cap l hs he hd (fun j hj => ?_)
    have hadd : (⟨g, 0, none⟩ : Addr).add j = ⟨g, j, none⟩ := by unfold Addr.add; split <;> simp_all
    rw [hadd, hcs j (by simpa using hj)]
    simp [bv, hj]
/-- []byte(s): the world behind it, and what is owned then. -/
theorem Own.ofString (base : Nat) (e : TypeId) (s : ByteArray) (hb : base ≤ w.heap.size) (hs : s.size ≤ 140737488351232) :
    Own (Lib.bytesWorld w e s) base (.slice (some ⟨w.heap.size, 0, none⟩) s.size (grownCap w s.size 0 e)) (s.data.toList.map bv) ∧ w.grownBy (Lib.bytesWorld w e s) none := by
  have hn := Lib.bytesWorld_at_new w e s
  have hge := grownCap_ge w s.size 0 e
  have hcm := grownCap_le_maxLen w s.size 0 e (by unfold maxLen; omega)
  have hsz : (Lib.bytesCells w e s).size = grownCap w s.size 0 e := by
    simp only [Lib.bytesCells, Array.size_append, Array.size_map, Array.size_replicate]
    have : s.data.size = s.size := rfl
    omega
  have hlen : (s.data.toList.map bv).length = s.size := by simp
  refine ⟨.inr ⟨w.heap.size, _, by rw [hlen], hb, by rw [Lib.bytesWorld_size]; omega, by omega, hcm, fun j hj => ⟨?_, ?_⟩, fun j hj => ?_⟩, rfl, rfl, rfl, by rw [Lib.bytesWorld_size]; omega, fun k hk _ => Lib.bytesWorld_at_old w e s k hk⟩
  · simp only [World.cell?, hn]
    simp [hsz, hj]
  · simp only [World.frozen?, hn, hsz]
    have : ¬ grownCap w s.size 0 e ≤ j := by omega
    simp [this]
  · rw [hlen] at hj
    rw [Lib.bytesWorld_cell w e s j hj]
    have hj' : j < s.data.toList.length := by simpa using hj
    rw [List.getElem?_map, List.getElem?_eq_getElem hj', List.getD_eq_getElem?_getD, List.getElem?_eq_getElem hj']
    rfl
end
end Go.Proofs.YtieemdcoomilaaaGreatDoor
namespace Go.Proofs.YtieemdcoomilaaaGreatDoor
open Go Go.RowKit
/-- From w to w' only what v owns, and what is new, has turned; v' owns that, or what is new. -/
structure Step (w w' : World) (v v' : Value) : Prop where
  grown : w.grownBy w' v.ownBlock
  own : v'.ownBlock = v.ownBlock ∨ ∀ k, v'.ownBlock = some k → w.heap.size ≤ k
namespace Step
variable {w w' w'' : World} {v v' v'' : Value}
theorem refl (w : World) (v : Value) : Step w w v v := ⟨World.grownBy.refl w _, .inl rfl⟩
theorem trans (h : Step w w' v v') (k : Step w' w'' v' v'') : Step w w'' v v'' := by
  have hs := h.grown.size
  refine ⟨⟨k.grown.os.trans h.grown.os, k.grown.tape.trans h.grown.tape, k.grown.output.trans h.grown.output, Nat.le_trans hs k.grown.size, fun i hi hne => ?_⟩, ?_⟩
  · rw [k.grown.block i (by omega) ?_, h.grown.block i hi hne]
    rcases h.own with e | e
    · rw [e]; exact hne
    · intro e'; have := e i e'.symm; omega
  · rcases k.own with e | e
    · rw [e]; exact h.own
    · exact .inr fun i hi => Nat.le_trans hs (e i hi)
theorem alloc (h : Step w w' v v') (o : Obj) : Step w (w'.alloc o) v v' := h.trans ⟨World.grownBy_alloc w' o _, .inl rfl⟩
theorem drew (h : Step w w' v v') : Step w w'.drew v v' := ⟨⟨h.grown.os, h.grown.tape, h.grown.output, h.grown.size, h.grown.block⟩, h.own⟩
theorem below {B : Nat} (h : Step w w' v v') (hB : B ≤ w.heap.size) (hv : ∀ k, v.ownBlock = some k → B ≤ k) : Below B w w' :=
  (Below.refl B w).grown h.grown hB hv
/-- What else is owned stays owned. -/
theorem other {base : Nat} {u : Value} {xs : List Value} (h : Step w w' v v') (hu : Own w base u xs) (hne : u.ownBlock = none ∨ u.ownBlock ≠ v.ownBlock) : Own w' base u xs := hu.kept h.grown hne
end Step
/-- The ending of a call that hands back what it owns: the bytes l. -/
def OwnRet (w : World) (base : Nat) (v : Value) (l : List UInt8) (e : Ending) (w' : World) : Prop :=
  ∃ v', e = .returned v' ∧ Own w' base v' (l.map bv) ∧ Step w w' v v'

/-- The string of bytes. -/
def bs (l : List UInt8) : ByteArray := ⟨l.toArray⟩
theorem toList_eq (s : ByteArray) : s.toList = s.data.toList := by
  have h : ∀ (k i : Nat) (r : List UInt8), s.size - i = k → i ≤ s.size → ByteArray.toList.loop s i r = r.reverse ++ s.data.toList.drop i := by
    intro k
    induction k with
    | zero =>
      intro i r h1 h2
      have : i = s.size := by omega
      subst this
      rw [ByteArray.toList.loop, if_neg (by omega), List.drop_eq_nil_of_le (by simp), List.append_nil]
    | succ k ih =>
      intro i r h1 h2
      have hi : i < s.size := by omega
      rw [ByteArray.toList.loop, if_pos hi, ih (i + 1) _ (by omega) (by omega)]
      have hl : i < s.data.toList.length := by simpa using hi
      rw [List.drop_eq_getElem_cons hl, List.reverse_cons, List.append_assoc]
      congr 1
      simp only [List.cons_append, List.nil_append]
      congr 1
      rw [ByteArray.get!]
      simp
      rw [getElem!_pos s.data i hi]
  rw [ByteArray.toList, h s.size 0 [] (by omega) (by omega)]
  rfl
theorem bs_toList (l : List UInt8) : (bs l).toList = l := by rw [toList_eq]; rfl
theorem bs_data (l : List UInt8) : (bs l).data.toList = l := rfl
theorem bs_size (l : List UInt8) : (bs l).size = l.length := rfl
theorem bs_of (s : ByteArray) : bs s.data.toList = s := rfl

/-- Where something is owned there is a block. -/
theorem Own.pos {w : World} {base : Nat} {v : Value} {xs : List Value} (h : Own w base v xs) (hp : 0 < xs.length) :
    ∃ g cap, v = .slice (some ⟨g, 0, none⟩) xs.length cap ∧ base ≤ g ∧ g < w.heap.size ∧ xs.length ≤ cap ∧ (∀ j, j < xs.length → w.cell? ⟨g, j, none⟩ = xs[j]? ∧ w.frozen? ⟨g, j, none⟩ = false) := by
  rcases h with ⟨_, rfl⟩ | ⟨g, cap, h1, h2, h3, h4, h5, h6, h7⟩
  · simp at hp
  · exact ⟨g, cap, h1, h2, h3, h4, fun j hj => ⟨h7 j hj, (h6 j (by omega)).2⟩⟩
/-- One element stored anew. -/
theorem Own.stored {w : World} {base g cap : Nat} {xs : List Value} (h : Own w base (.slice (some ⟨g, 0, none⟩) xs.length cap) xs) (j : Nat) (hj : j < xs.length) (u : Value) :
    Own (w.setCell ⟨g, j, none⟩ u) base (.slice (some ⟨g, 0, none⟩) xs.length cap) (xs.set j u) := by
  rcases h with ⟨h, _⟩ | ⟨g', cap', he, h2, h3, h4, h5, h6, h7⟩
  · cases h
  · cases he
    refine .inr ⟨g, cap, by rw [List.length_set], h2, by simpa [World.setCell] using h3, by rw [List.length_set]; exact h4, h5, fun k hk => ⟨?_, by rw [World.frozen?_setCell]; exact (h6 k hk).2⟩, fun k hk => ?_⟩
    · by_cases hkj : k = j
      · subst hkj
        obtain ⟨x, hx⟩ := Option.isSome_iff_exists.1 (h6 k hk).1
        rw [World.cell?_setCell_same _ _ _ hx]; rfl
      · rw [World.cell?_setCell_other _ _ _ _ (fun e => hkj (by cases e; rfl))]; exact (h6 k hk).1
    · rw [List.length_set] at hk
      by_cases hkj : k = j
      · subst hkj
        obtain ⟨x, hx⟩ := Option.isSome_iff_exists.1 (h6 k (by omega)).1
        rw [World.cell?_setCell_same _ _ _ hx, List.getElem?_set_self hk]
      · rw [World.cell?_setCell_other _ _ _ _ (fun e => hkj (by cases e; rfl)), h7 k hk, List.getElem?_set_ne (by omega)]
theorem Own.stored' {w : World} {base g cap n : Nat} {xs : List Value} (h : Own w base (.slice (some ⟨g, 0, none⟩) n cap) xs) (j : Nat) (hj : j < xs.length) (u : Value) :
    Own (w.setCell ⟨g, j, none⟩ u) base (.slice (some ⟨g, 0, none⟩) n cap) (xs.set j u) := by
  obtain ⟨a, c, e⟩ := h.shape
  cases e
  exact h.stored j hj u
theorem Step.setCell {w w' : World} {v : Value} {g n cap : Nat} (h : Step w w' v (.slice (some ⟨g, 0, none⟩) n cap)) (j : Nat) (u : Value) : Step w (w'.setCell ⟨g, j, none⟩ u) v (.slice (some ⟨g, 0, none⟩) n cap) :=
  h.trans ⟨grownBy_setCells g j [u] w', .inl rfl⟩
/-- []byte(s) of a string that a call made. -/
theorem run_bytes {P : Program} (w : World) (base : Nat) (src dst e : TypeId) (s : ByteArray) {u : TypeDesc} (hs : P.underlying src = some u) (hd : P.underlying dst = some (.slice e)) (he : P.underlying e = some (.int .u8)) (hb : base ≤ w.heap.size) (hz : s.size ≤ 140737488351232) :
    ∃ v' w', (convert src dst (.string s)).run P w = .ok v' w' ∧ Own w' base v' (s.data.toList.map bv) ∧ Step w w' (.slice none 0 0) v' := by
  have h := Own.ofString w base e s hb hz
  exact ⟨_, _, Lib.run_convert_string_bytes w src dst e s hs hd he, h.1, h.2, .inr fun k hk => by simp [Value.ownBlock] at hk; omega⟩
end Go.Proofs.YtieemdcoomilaaaGreatDoor
namespace Go.Proofs.YtieemdcoomilaaaGreatDoor
open Go.RowKit
set_option maxHeartbeats 400000 in
theorem isPlace_any (s : ByteArray) (at' : Int) (w : World) :
   Calls Tryz.prog 151 #[.string s, .int .i64 at'] w fun e w' => e = .returned (.bool (decide (0 ≤ at' ∧ at' ≤ (s.size : Int)))) ∧ w = w' := by
  by_cases h : 0 ≤ at'
  · go_enter Tryz.func151, Tryz.ntmps151
    go_wp2
    go_ret
    refine ⟨by simp [h], rfl⟩
  · go_enter Tryz.func151, Tryz.ntmps151
    go_wp2
    go_ret
    refine ⟨by rw [decide_eq_false (by omega)]; rfl, rfl⟩
theorem getElem_toList (s : ByteArray) (j : Nat) (h : j < s.size) : s.data.toList[j]'(by simpa using h) = s[j] := rfl
theorem ret_uv {n n' x x' k k' : Int} (h1 : n = n') (h2 : x = x') (h3 : k = k') : Ending.returned (.tuple #[.int .u64 n, .int .i64 x, .int .i64 k]) = Ending.returned (.tuple #[.int .u64 n', .int .i64 x', .int .i64 k']) := by rw [h1, h2, h3]
set_option maxRecDepth 100000 in
set_option maxHeartbeats 1000000 in
theorem uvarint_in (s : ByteArray) (at' : Nat) (w : World) (h1 : at' ≤ s.size) (hs : s.size ≤ 140737488351232) (N C K : Nat) (hr : Bt.rd (s.data.toList.drop at') 0 0 = (N, C, K)) :
   Calls Tryz.prog 169 #[.string s, .int .i64 at'] w fun e w' => e = .returned (.tuple #[.int .u64 N, .int .i64 (if K = 0 then ((at' + C : Nat) : Int) else 0), .int .i64 K]) ∧ w = w' := by
  have hd : decide (0 ≤ (at' : Int) ∧ (at' : Int) ≤ (s.size : Int)) = true := decide_eq_true (by omega)
  have HR := Lib.hid hr
  clear hr
  go_enter Tryz.func169, Tryz.ntmps169
  go_wp2
  go_step3
  go_wp2_with (go_at_call 151; refine (isPlace_any _ _ _).mono ?_; rintro e w' ⟨rfl, rfl⟩; simp only [hd])
  go_step3
  go_wp2
  go_loop [4, 5, 7] (fun n x h => ∃ (k acc : Nat), k ≤ 9 ∧ at' + k ≤ s.size ∧ Hid (acc < 128 ^ k) ∧ Hid (Bt.rd (s.data.toList.drop (at' + k)) k acc = (N, C, K)) ∧ n = .int .u64 acc ∧ x = .int .i64 ((at' + k : Nat) : Int) ∧ h = .int .i64 ((7 * k : Nat) : Int)) (fun _ x _ => s.size - (intOf x).toNat)
  case atStart => exact ⟨0, 0, by omega, by omega, Lib.hid (by simp), HR, rfl, rfl, rfl⟩
  case round =>
    obtain ⟨k, acc, hk, hs', HA, HK, rfl, rfl, rfl⟩ := hrel
    by_cases hlt : at' + k < s.size
    · have hb := (s[at' + k]).toNat_lt
      have HL : Hid (s.data.toList.drop (at' + k) = s[at' + k] :: s.data.toList.drop (at' + (k + 1))) := Bt.drop_cons (by simpa using hlt)
      by_cases h9 : k = 9
      · subst h9
        by_cases hb1 : 1 < s[at' + 9].toNat
        · go_wp2
          rw [Exit.noGoto_ret]
          go_ret3
          have e := HK.out
          rw [HL.out, Bt.rd_form _ _ hb1] at e
          cases e
          exact ⟨ret_uv rfl rfl rfl, rfl⟩
        · have hb2 : s[at' + 9].toNat ≤ 1 := by omega
          go_wp2
          rw [Exit.noGoto_ret]
          go_ret3
          have e := HK.out
          rw [HL.out, Bt.rd_end _ _ _ (by omega) (by omega)] at e
          cases e
          exact ⟨ret_uv (Bt.or_last _ _ HA.out hb2) (by simp; omega) rfl, rfl⟩
      · have h8 : k ≤ 8 := by omega
        have h63 : ((7 * (k : Int)) == 63) = false := by rw [beq_eq_false_iff_ne]; omega
        by_cases hb3 : s[at' + k].toNat < 128
        · go_wp2
          rw [Exit.noGoto_ret]
          go_ret3
          have e := HK.out
          rw [HL.out, Bt.rd_end _ _ _ (by omega) (by omega)] at e
          cases e
          exact ⟨ret_uv (Bt.or_step _ _ _ h8 HA.out hb3) (by simp; omega) rfl, rfl⟩
        · have hb4 : 128 ≤ s[at' + k].toNat := by omega
          have HF := Lib.hid (Bt.fits acc (s[at' + k].toNat - 128) k h8 HA.out (by omega))
          have HE : Hid (Bt.rd (s.data.toList.drop (at' + (k + 1))) (k + 1) (acc + (s[at' + k].toNat - 128) * 128 ^ k) = (N, C, K)) := by
            have e := HK.out
            rw [HL.out, Bt.rd_more _ _ _ (by omega) hb4] at e
            exact e
          go_wp2
          go_round
          case rel =>
            refine ⟨k + 1, acc + (s[at' + k].toNat - 128) * 128 ^ k, ?_, ?_, HF.out.1, HE, ?_, ?_, ?_⟩
            · omega
            · omega
            · rw [Bt.or_step' acc k (s[at' + k]) h8 HA.out hb4]
            · go_num
            · go_num
          case measure => simp [intOf]; omega
    · obtain rfl : k = s.size - at' := by omega
      have hq : (((at' + (s.size - at') : Nat) : Int) == (s.size : Int)) = true := by rw [beq_iff_eq]; omega
      have e := HK.out
      rw [List.drop_eq_nil_of_le (by simp; omega), Bt.rd_nil] at e
      cases e
      go_wp2
      all_goals
        (try rw [Exit.noGoto_ret])
        go_ret3
        exact ⟨ret_uv rfl rfl rfl, rfl⟩
set_option maxHeartbeats 400000 in
theorem uvarint_out (s : ByteArray) (at' : Int) (w : World) (h : at' < 0 ∨ (s.size : Int) < at') :
   Calls Tryz.prog 169 #[.string s, .int .i64 at'] w fun e w' => e = .returned (.tuple #[.int .u64 0, .int .i64 0, .int .i64 1]) ∧ w = w' := by
  have hd : decide (0 ≤ at' ∧ at' ≤ (s.size : Int)) = false := decide_eq_false (by omega)
  go_enter Tryz.func169, Tryz.ntmps169
  go_wp2
  go_step3
  go_wp2_with (go_at_call 151; refine (isPlace_any _ _ _).mono ?_; rintro e w' ⟨rfl, rfl⟩; simp only [hd])
  rw [Exit.noGoto_ret]
  go_ret3
  exact ⟨rfl, rfl⟩
theorem ret_u64 {a b : Int} (h : a = b) : Ending.returned (.int .u64 a) = .returned (.int .u64 b) := by rw [h]
theorem ret_i64 {a b : Int} (h : a = b) : Ending.returned (.int .i64 a) = .returned (.int .i64 b) := by rw [h]
theorem uvarint_ok (s : ByteArray) (at' : Nat) (w : World) (h1 : at' ≤ s.size) (hs : s.size ≤ 140737488351232) (N C X : Nat) (hr : Bt.rd (s.data.toList.drop at') 0 0 = (N, C, 0)) (hX : at' + C = X) :
   Calls Tryz.prog 169 #[.string s, .int .i64 at'] w fun e w' => e = .returned (.tuple #[.int .u64 N, .int .i64 X, .int .i64 0]) ∧ w = w' := by
  have h := uvarint_in s at' w h1 hs N C 0 hr
  rw [if_pos rfl, hX] at h
  exact h
theorem uvarint_no (s : ByteArray) (at' : Nat) (w : World) (h1 : at' ≤ s.size) (hs : s.size ≤ 140737488351232) (K : Nat) (hK : K ≠ 0) (hr : Bt.rd (s.data.toList.drop at') 0 0 = (0, 0, K)) :
   Calls Tryz.prog 169 #[.string s, .int .i64 at'] w fun e w' => e = .returned (.tuple #[.int .u64 0, .int .i64 0, .int .i64 K]) ∧ w = w' := by
  have h := uvarint_in s at' w h1 hs 0 0 K hr
  rw [if_neg hK] at h
  exact h
end Go.Proofs.YtieemdcoomilaaaGreatDoor
