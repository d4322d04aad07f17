/- The disk's calls: Write, Sync, Trim, Wipe, Read, Fail, Up. -/
import Derived.Test.YtpcpbdcdapmlnaaDoorDd
namespace Go.Proofs.YtpcpbdcdapmlnaaDoor
open Go Go.RowKit
set_option maxRecDepth 100000
theorem enters41 (args : Array Value) (W : World) : (callFunc 69 args).run Tryd.prog W = .ok (.enter 69 args) W := by kernel_rfl
theorem enters42 (args : Array Value) (W : World) : (callFunc 67 args).run Tryd.prog W = .ok (.enter 67 args) W := by kernel_rfl
/-- do, of whatever tape. -/
theorem do_any (B : Nat) (d : Dk) (t : Int) (torn : Bool) (F : FuncId) (cap : Array Value) (g : Tp → Tp × Nat) (w : World) (h : DAt w B d) (hd : d.ok) (hcf : ∀ args W, (callFunc F args).run Tryd.prog W = .ok (.enter F args) W)
    (HF : ∀ u : Tp, u.ok → ∀ W, Below w.heap.size w W → Calls Tryd.prog F (#[.agg #[.string u.s, .int .i64 (u.f : Int)]] ++ cap) W (Ret W (.tuple #[.agg #[.string (g u).1.s, .int .i64 ((g u).1.f : Int)], .int .i64 ((g u).2 : Int)]))) :
    Calls Tryd.prog 66 #[.pointer (some ⟨B, 0, none⟩), .int .i64 t, .bool torn, .func (.func F) #[] cap] w (DRet w B (.int .i64 ((doD d t torn g).2 : Int)) (doD d t torn g).1) := by
  cases hdn : d.dn
  · by_cases ht : 0 ≤ t ∧ t < 32
    · obtain ⟨k, rfl⟩ := Int.eq_ofNat_of_zero_le ht.1
      have hk : k < 32 := by omega
      exact do_in B d k torn F cap g w h hd.left hdn hk hcf (Lib.hid (HF _ (hd.t k hk)))
    · exact do_out B d t torn _ g w h hdn ht
  · unfold doD
    rw [hdn, if_pos rfl]
    exact do_dn B d t torn _ w h hdn
theorem enters40 (args : Array Value) (W : World) : (callFunc 68 args).run Tryd.prog W = .ok (.enter 68 args) W := by kernel_rfl
theorem DRet.from {w w1 w' : World} {B : Nat} {v : Value} {d : Dk} {e : Ending} (h : DRet w1 B v d e w') (hb : Below w.heap.size w w1) : DRet w B v d e w' := ⟨h.1, h.2.1, grown_trans (grown_below hb _) h.2.2⟩
set_option maxHeartbeats 400000 in
theorem sync_any (B : Nat) (d : Dk) (t : Int) (w : World) (h : DAt w B d) (hd : d.ok) : Calls Tryd.prog 48 #[.pointer (some ⟨B, 0, none⟩), .int .i64 t] w (DRet w B (.int .i64 ((doD d t false sy).2 : Int)) (doD d t false sy).1) := by
  have H := Lib.hid (do_any B d t false 69 #[] sy w h hd enters41 (fun u hu W _ => by have := synced_any u W; simpa using this))
  generalize doD d t false sy = X at *
  go_enter Tryd.func48, Tryd.ntmps48
  go_wp2_with fail
  refine H.out.mono ?_
  rintro e w' ⟨rfl, hd2, hg⟩
  go_wp2
  go_ret
  exact ⟨rfl, hd2, hg⟩
set_option maxHeartbeats 400000 in
theorem wipe_any (B : Nat) (d : Dk) (t : Int) (w : World) (h : DAt w B d) (hd : d.ok) : Calls Tryd.prog 44 #[.pointer (some ⟨B, 0, none⟩), .int .i64 t] w (DRet w B (.int .i64 ((doD d t false wi).2 : Int)) (doD d t false wi).1) := by
  have H := Lib.hid (do_any B d t false 67 #[] wi w h hd enters42 (fun u hu W _ => by have := wiped_any u W; simpa using this))
  generalize doD d t false wi = X at *
  go_enter Tryd.func44, Tryd.ntmps44
  go_wp2_with fail
  refine H.out.mono ?_
  rintro e w' ⟨rfl, hd2, hg⟩
  go_wp2
  go_ret
  exact ⟨rfl, hd2, hg⟩
set_option maxHeartbeats 400000 in
theorem write_any (B : Nat) (d : Dk) (t : Int) (x : ByteArray) (w : World) (h : DAt w B d) (hd : d.ok) (hx : x.size ≤ 9223372036854775807) : Calls Tryd.prog 46 #[.pointer (some ⟨B, 0, none⟩), .int .i64 t, .string x] w (DRet w B (.int .i64 ((doD d t true (wf d x)).2 : Int)) (doD d t true (wf d x)).1) := by
  have hmf : ∀ (fn : Fn) (first cap : Array Value) (w : World), (Instr.makeFunc fn first cap).run Tryd.prog w = .ok (.func fn first cap) w := fun _ _ _ _ => rfl
  have hb : Below w.heap.size w ((w.alloc (.cells #[.pointer (some ⟨B, 0, none⟩)] 31)).alloc (.cells #[.string x] 9)) := below_two _ _ _
  have hc1 : ((w.alloc (.cells #[.pointer (some ⟨B, 0, none⟩)] 31)).alloc (.cells #[.string x] 9)).cell? ⟨w.heap.size, 0, none⟩ = some (.pointer (some ⟨B, 0, none⟩)) := cell_of_one ((Below.heap_alloc _ _ _ (by simp)).trans (heap_alloc_new _ _))
  have hc2 : ((w.alloc (.cells #[.pointer (some ⟨B, 0, none⟩)] 31)).alloc (.cells #[.string x] 9)).cell? ⟨w.heap.size + 1, 0, none⟩ = some (.string x) := cell_of_one (heap_two _ _ _)
  have hda := (h.alloc (.cells #[.pointer (some ⟨B, 0, none⟩)] 31)).alloc (.cells #[.string x] 9)
  have hlt : B < ((w.alloc (.cells #[.pointer (some ⟨B, 0, none⟩)] 31)).alloc (.cells #[.string x] 9)).heap.size := hda.lt
  have H := Lib.hid (do_any B d t true 68 #[.pointer (some ⟨w.heap.size + 1, 0, none⟩), .pointer (some ⟨w.heap.size, 0, none⟩)] (wf d x) _ hda hd enters40 (fun u hu W hW => by have := writef_any (w.heap.size + 1) w.heap.size B d u x W hu hx hd ((hW.cell (by simp)).trans hc2) ((hW.cell (by simp; omega)).trans hc1) (hda.below hW hlt); simpa using this))
  have HB := Lib.hid hb
  clear hb hc1 hc2 hda hlt
  generalize doD d t true (wf d x) = X at *
  go_enter Tryd.func46, Tryd.ntmps46
  go_wp2_with fail
  refine H.out.mono ?_
  rintro e w' hr
  have HR := Lib.hid (hr.from HB.out)
  obtain ⟨rfl, hd2, hg⟩ := hr
  clear hd2 hg
  go_wp2
  go_ret
  exact HR.out
def failD (d : Dk) (n : Int) : Dk × Nat := if d.dn = true then (d, 45) else if n < 0 then (d, 1) else ({ d with dm := true, left := n.toNat }, 0)
set_option maxHeartbeats 400000 in
theorem fail_any (B : Nat) (d : Dk) (n : Int) (w : World) (h : DAt w B d) : Calls Tryd.prog 34 #[.pointer (some ⟨B, 0, none⟩), .int .i64 n] w (DRet w B (.int .i64 ((failD d n).2 : Int)) (failD d n).1) := by
  have HR := Lib.hid (ready_any B d w h.dn)
  unfold failD
  have c66 := h.dm
  have c67 := h.left
  have f66 := h.fz 66
  have f67 := h.fz 67
  have l := h.lt
  cases hdn : d.dn
  · rw [if_neg (by simp)]
    rw [hdn, if_neg (by simp)] at HR
    by_cases hn : n < 0
    · rw [if_pos hn]
      go_enter Tryd.func34, Tryd.ntmps34
      go_wp2_with fail
      refine HR.out.mono ?_
      rintro e w' ⟨rfl, rfl⟩
      go_wp2
      go_ret
      exact ⟨rfl, h, World.grownBy.refl _ _⟩
    · rw [if_neg hn]
      obtain ⟨m, rfl⟩ := Int.eq_ofNat_of_zero_le (show 0 ≤ n by omega)
      rw [Int.toNat_natCast]
      go_enter Tryd.func34, Tryd.ntmps34
      go_wp2_with fail
      refine HR.out.mono ?_
      rintro e w' ⟨rfl, rfl⟩
      go_wp2
      go_ret
      exact ⟨rfl, by rw [← hdn]; exact (h.setDm true).setLeft m, grown_set2 _ _ _ _ _ _⟩
  · rw [if_pos rfl]
    rw [hdn, if_pos rfl] at HR
    go_enter Tryd.func34, Tryd.ntmps34
    go_wp2_with fail
    refine HR.out.mono ?_
    rintro e w' ⟨rfl, rfl⟩
    go_wp2
    go_ret
    exact ⟨rfl, h, World.grownBy.refl _ _⟩
set_option maxHeartbeats 400000 in
theorem up_any (B : Nat) (d : Dk) (w : World) (h : DAt w B d) : Calls Tryd.prog 35 #[.pointer (some ⟨B, 0, none⟩)] w fun e w' => e = .returned (.bool (!d.dn)) ∧ w = w' := by
  have HR := Lib.hid (ready_any B d w h.dn)
  cases hdn : d.dn
  · rw [hdn, if_neg (by simp)] at HR
    go_enter Tryd.func35, Tryd.ntmps35
    go_wp2_with fail
    refine HR.out.mono ?_
    rintro e w' ⟨rfl, rfl⟩
    go_wp2
    go_ret
    exact ⟨rfl, rfl⟩
  · rw [hdn, if_pos rfl] at HR
    go_enter Tryd.func35, Tryd.ntmps35
    go_wp2_with fail
    refine HR.out.mono ?_
    rintro e w' ⟨rfl, rfl⟩
    go_wp2
    go_ret
    exact ⟨rfl, rfl⟩
def readD (d : Dk) (t : Int) : ByteArray × Nat := if d.dn = true then (⟨#[]⟩, 45) else if 0 ≤ t ∧ t < 32 then ((d.T t.toNat).s, 0) else (⟨#[]⟩, 1)
set_option maxHeartbeats 400000 in
theorem dread_any (B : Nat) (d : Dk) (t : Int) (w : World) (h : DAt w B d) : Calls Tryd.prog 74 #[.pointer (some ⟨B, 0, none⟩), .int .i64 t] w fun e w' => e = .returned (.tuple #[.string (readD d t).1, .int .i64 ((readD d t).2 : Int)]) ∧ w = w' := by
  unfold readD
  cases hdn : d.dn
  · rw [if_neg (by simp)]
    by_cases ht : 0 ≤ t ∧ t < 32
    · rw [if_pos ht]
      obtain ⟨k, rfl⟩ := Int.eq_ofNat_of_zero_le ht.1
      have hk : k < 32 := by omega
      rw [Int.toNat_natCast]
      have HA := Lib.hid (at_in B d k w h hdn hk)
      have hs := h.s k hk
      clear ht
      go_enter Tryd.func74, Tryd.ntmps74
      go_wp2_with fail
      refine HA.out.mono ?_
      rintro e w' ⟨rfl, rfl⟩
      go_wp2
      go_ret2
      exact ⟨rfl, rfl⟩
    · rw [if_neg ht]
      have HA := Lib.hid (at_out B d t w h hdn ht)
      clear ht
      go_enter Tryd.func74, Tryd.ntmps74
      go_wp2_with fail
      refine HA.out.mono ?_
      rintro e w' ⟨rfl, rfl⟩
      go_wp2
      go_ret2
      exact ⟨rfl, rfl⟩
  · rw [if_pos rfl]
    have HA := Lib.hid (at_dn B d t w h hdn)
    go_enter Tryd.func74, Tryd.ntmps74
    go_wp2_with fail
    refine HA.out.mono ?_
    rintro e w' ⟨rfl, rfl⟩
    go_wp2
    go_ret2
    exact ⟨rfl, rfl⟩
end Go.Proofs.YtpcpbdcdapmlnaaDoor
namespace Go.Proofs.YtpcpbdcdapmlnaaDoor
open Go Go.RowKit
set_option maxRecDepth 100000
def dcells (d : Dk) : List Value := .int .i64 (d.cap : Int) :: (tcells d.T 32 ++ [.bool d.dn, .bool d.dm, .int .i64 (d.left : Int)])
theorem dcells_len (d : Dk) : (dcells d).length = 68 := by simp [dcells, tcells_len]
theorem dcells_tail (d : Dk) (j : Nat) (hj : j < 64) : (dcells d)[1 + j]? = (tcells d.T 32)[j]? := by
  unfold dcells
  rw [show 1 + j = j + 1 by omega, List.getElem?_cons_succ, List.getElem?_append_left (by rw [tcells_len]; omega)]
theorem dcells_last (d : Dk) (j : Nat) : (dcells d)[65 + j]? = [Value.bool d.dn, .bool d.dm, .int .i64 (d.left : Int)][j]? := by
  unfold dcells
  rw [show 65 + j = 64 + j + 1 by omega, List.getElem?_cons_succ, List.getElem?_append_right (by rw [tcells_len]; omega), tcells_len, show 64 + j - 2 * 32 = j by omega]
theorem DAt.of_row {w : World} {B : Nat} {d : Dk} (h : w.heap[B]? = some (.cells (dcells d).toArray 78 (0, 0))) : DAt w B d := by
  have c : ∀ j, w.cell? ⟨B, j, none⟩ = (dcells d)[j]? := fun j => by rw [cell_of_row w B j _ 78 (0, 0) h]; simp
  refine ⟨c 0, fun i hi => ?_, fun i hi => ?_, (c 65).trans (dcells_last d 0), (c 66).trans (dcells_last d 1), (c 67).trans (dcells_last d 2), fun j => by simp [World.frozen?, h]⟩
  · rw [c, dcells_tail d _ (by omega), tcells_even _ hi]
  · rw [c, show 1 + i * 2 + 1 = 1 + (i * 2 + 1) by omega, dcells_tail d _ (by omega), tcells_odd _ hi]
theorem DAt.whole {w : World} {B : Nat} {d : Dk} (h : DAt w B d) : w.rangeAt B 0 (dcells d) := fun j v hv => by
  rw [Nat.zero_add]
  have hj : j < 68 := by
    rcases Nat.lt_or_ge j 68 with e | e
    · exact e
    · rw [List.getElem?_eq_none (by rw [dcells_len]; exact e)] at hv; cases hv
  rcases Nat.eq_zero_or_pos j with rfl | h0
  · rw [h.cap]; exact hv
  rcases Nat.lt_or_ge j 65 with e | e
  · have := h.range (j - 1) v (by rw [← dcells_tail d _ (by omega), show 1 + (j - 1) = j by omega]; exact hv)
    rwa [show 1 + (j - 1) = j by omega] at this
  · obtain ⟨k, rfl⟩ : ∃ k, j = 65 + k := ⟨j - 65, by omega⟩
    rw [dcells_last] at hv
    match k, hv with
    | 0, hv => rw [h.dn]; exact hv
    | 1, hv => rw [h.dm]; exact hv
    | 2, hv => rw [h.left]; exact hv
    | k + 3, hv => simp at hv
theorem len69 : (Tryd.prog.info? 78).map (·.size) = some 68 := by kernel_rfl
def d0 (cap : Nat) : Dk := ⟨cap, fun _ => t0, false, false, 0⟩
theorem zero69 : ∃ Z : Array Value, (∀ w, (zeroValue 78).run Tryd.prog w = .ok (.agg Z) w) ∧ Z.size = 68 := by
  refine ⟨(dcells (d0 0)).toArray, fun w => ?_, by rw [List.size_toArray, dcells_len]⟩
  have := (zero_of_info (P := Tryd.prog) (t := 78) (v := .agg (dcells (d0 0)).toArray) (n := 68) (by kernel_rfl)).1 w
  exact this
theorem build69 (cap : Nat) (w : World) : (Instr.build 78 #[(0, .int .i64 (cap : Int))]).run Tryd.prog w = .ok (.agg (dcells (d0 cap)).toArray) w := by
  kernel_rfl
theorem dcells_one (d : Dk) : (dcells d).toArray.all (·.oneCell') = true := by
  refine all_oneCell_toArray fun v hv => ?_
  unfold dcells tcells at hv
  simp only [List.mem_cons, List.mem_append, List.mem_map, List.not_mem_nil, or_false] at hv
  rcases hv with rfl | ⟨j, _, rfl⟩ | rfl | rfl | rfl
  · rfl
  · split <;> rfl
  · rfl
  · rfl
  · rfl
end Go.Proofs.YtpcpbdcdapmlnaaDoor
namespace Go.Proofs.YtpcpbdcdapmlnaaDoor
open Go Go.RowKit
set_option maxRecDepth 100000
abbrev Pv := Value × Value
/-- Pairs, read wherever they begin. -/
def At2 (W : World) (v : Value) (l : List Pv) : Prop :=
  (l = [] ∧ ∃ a c, v = .slice a 0 c) ∨ ∃ g o c, v = .slice (some ⟨g, o, none⟩) l.length c ∧ ∀ j (h : j < l.length), W.cell? ⟨g, o + j * 2, none⟩ = some l[j].1 ∧ W.cell? ⟨g, o + j * 2 + 1, none⟩ = some l[j].2
section
variable {w w' : World} {m : Nat} {v : Value} {l : List Pv}
theorem At2.same (h : At2 w v l) (hb : ∀ g, g < w.heap.size → v.ownBlock = some g → w'.heap[g]? = w.heap[g]?) : At2 w' v l := by
  rcases h with h | ⟨g, o, c, rfl, h⟩
  · exact .inl h
  · refine .inr ⟨g, o, c, rfl, fun j hj => ?_⟩
    have hlt := World.block_lt_of_cell? w ⟨g, _, none⟩ (h j hj).1
    have e : ∀ o, w'.cell? ⟨g, o, none⟩ = w.cell? ⟨g, o, none⟩ := fun o => World.cell?_of_block (a := ⟨g, o, none⟩) (hb g hlt rfl)
    rw [e, e]
    exact h j hj
theorem At2.below (h : At2 w v l) (hb : Below m w w') (hn : w.heap.size ≤ m) : At2 w' v l := h.same fun g hg _ => hb.block g (by omega)
theorem At2.slice (h : At2 w v l) : ∃ a c, v = .slice a l.length c := by
  rcases h with ⟨rfl, a, c, rfl⟩ | ⟨g, o, c, rfl, _⟩
  · exact ⟨_, _, rfl⟩
  · exact ⟨_, _, rfl⟩
theorem At2.nil (W : World) : At2 W (.slice none 0 0) [] := .inl ⟨rfl, _, _, rfl⟩
end
/-- A tape that is handed in, or told: firm bytes, loose bytes. -/
structure Tq where
  a : ByteArray
  b : ByteArray
def tq (q : Tq) : Pv := (.string q.a, .string q.b)
def TAt (w : World) (v : Value) (l : List Tq) : Prop := At2 w v (l.map tq)
def ofQ (q : Tq) : Tp := ⟨q.a ++ q.b, q.a.size⟩
def ofT (l : List Tq) : Nat → Tp := fun i => match l[i]? with | some q => ofQ q | none => t0
def tooLong (q : Tq) : Bool := decide (1048576 < q.b.size + q.a.size)
def made0 (cap : Nat) (l : List Tq) : Dk := ⟨cap, ofT l, false, false, 0⟩
def loadE (cap : Int) (l : List Tq) : Nat := if cap < 0 ∨ 32 < l.length then 1 else if l.any tooLong = true then 40 else if cap.toNat < (made0 cap.toNat l).used then 44 else 0
theorem ofT_snoc (l : List Tq) (k : Nat) (hk : k < l.length) : ofT (l.take (k + 1)) = upd (ofT (l.take k)) k (ofQ l[k]) := by
  funext j
  show (match (l.take (k + 1))[j]? with | some q => ofQ q | none => t0) = if j = k then ofQ l[k] else (match (l.take k)[j]? with | some q => ofQ q | none => t0)
  by_cases e : j = k
  · subst e
    rw [if_pos rfl, List.getElem?_take_of_lt (by omega), List.getElem?_eq_getElem hk]
  · rw [if_neg e]
    rcases Nat.lt_or_ge j k with h | h
    · rw [List.getElem?_take_of_lt (by omega), List.getElem?_take_of_lt h]
    · rw [List.getElem?_eq_none (by simp; omega), List.getElem?_eq_none (by simp; omega)]
theorem ofT_size {l : List Tq} (h : ∀ q ∈ l, q.a.size + q.b.size ≤ 1048576) (i : Nat) : (ofT l i).ok := by
  unfold ofT
  cases hi : l[i]? with
  | none => exact ⟨Nat.le_refl _, by decide⟩
  | some q =>
    have := h q (List.mem_of_getElem? hi)
    exact ⟨by show q.a.size ≤ (q.a ++ q.b).size; rw [ByteArray.size_append]; omega, by show (q.a ++ q.b).size ≤ _; rw [ByteArray.size_append]; exact this⟩
end Go.Proofs.YtpcpbdcdapmlnaaDoor
