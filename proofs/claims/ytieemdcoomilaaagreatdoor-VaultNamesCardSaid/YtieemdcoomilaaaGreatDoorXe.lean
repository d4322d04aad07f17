/- The law's helpers: Large, long; an Open that is refused for its number. -/
import Derived.Test.YtieemdcoomilaaaGreatDoorWv
import Derived.Test.YtieemdcoomilaaaGreatDoorDk
import Derived.Test.YtieemdcoomilaaaGreatDoorVm
import Derived.Test.YtieemdcoomilaaaGreatDoorDt
import Derived.BigQuiet
import Derived.Deep.QuietTactic
import Derived.Test.YtieemdcoomilaaaGreatDoorWl
import Derived.SliceStrings
import Derived.Test.YtieemdcoomilaaaGreatDoorOn
import Derived.Test.YtieemdcoomilaaaGreatDoorDx
set_option linter.unusedVariables false
set_option linter.unusedSimpArgs false
namespace Go.Proofs.YtieemdcoomilaaaGreatDoor
open Go Go.RowKit Go.Sort
set_option maxRecDepth 100000
set_option maxHeartbeats 1000000 in
theorem open_bad (B : Nat) (m : Int) (w : World) (hm : m < 1 ∨ 1048576 < m) : Calls Tryz.prog 9 #[.pointer (some ⟨B, 0, none⟩), .int .i64 m] w (Ret w (.tuple #[.pointer none, foundV false ⟨#[]⟩ (.slice none 0 0), .int .i64 1])) := by
  by_cases h1 : m < 1
  · have hd : decide (m < 1) = true := decide_eq_true h1
    clear hm h1
    go_enter Tryz.func9, Tryz.ntmps9
    go_wp2
    refine retm Tryz.results9 w.heap.size rfl rfl rfl rfl (heap_alloc_new w _) ⟨rfl, below_one _ _⟩
  · have hd : decide (m < 1) = false := decide_eq_false h1
    have hd2 : decide (1048576 < m) = true := decide_eq_true (by omega)
    clear hm h1
    go_enter Tryz.func9, Tryz.ntmps9
    go_wp2
    refine retm Tryz.results9 w.heap.size rfl rfl rfl rfl (heap_alloc_new w _) ⟨rfl, below_one _ _⟩
theorem minle (n : Nat) : ∃ m : Nat, (min (20000 : Int) (n : Int)) = (m : Int) ∧ m ≤ 20000 := ⟨min 20000 n, by omega, by omega⟩
set_option maxHeartbeats 1000000 in
theorem large_any (l : List Tq) (v : Value) (w : World) (hv : TAt w v l) (hl : l.length ≤ 9223372036854775807) : Calls Tryz.prog 28 #[v] w fun e w' => ∃ b, e = .returned (.bool b) ∧ Below w.heap.size w w' := by
  have HV := Lib.hid hv
  have hsh : ∃ a c, v = .slice a l.length c := by
    rcases hv with ⟨e, a, c, rfl⟩ | ⟨g, o, c, rfl, -⟩
    · exact ⟨a, c, by have : l = [] := by simpa using e
                      rw [this]; rfl⟩
    · exact ⟨_, _, by rw [List.length_map]⟩
  obtain ⟨a1, c1, e1⟩ := hsh
  obtain ⟨L, hL⟩ : ∃ L, l.length = L := ⟨_, rfl⟩
  rw [hL] at e1 hl
  have HL := Lib.hid hL
  have HB0 : Hid (Below w.heap.size w w) := Lib.hid (Below.refl _ _)
  clear hv hL
  subst e1
  go_enter Tryz.func28, Tryz.ntmps28
  go_wp2
  go_loopw [4, 3] (fun i x wr => ∃ k X : Nat, i = .int .i64 k ∧ x = .int .i64 X ∧ k ≤ L ∧ X ≤ 60000 ∧ Hid (Below w.heap.size w wr)) (fun i _ _ => L - (intOf i).toNat)
  case atStart => exact ⟨0, 0, rfl, rfl, by omega, by omega, HB0⟩
  case round =>
    obtain ⟨k, X, rfl, rfl, hk, hX, HB⟩ := hrel
    by_cases hlt : k < L
    · by_cases hx : X < 20000
      · obtain ⟨g1, o1, c3, h1, h3⟩ : ∃ g o c, (Value.slice a1 L c1) = .slice (some ⟨g, o, none⟩) L c ∧ ∀ j (h : j < (l.map tq).length), wr.cell? ⟨g, o + j * 2, none⟩ = some (l.map tq)[j].1 ∧ wr.cell? ⟨g, o + j * 2 + 1, none⟩ = some (l.map tq)[j].2 := by
          rcases At2.below HV.out HB.out (Nat.le_refl _) with ⟨e, -⟩ | ⟨g, o, c, e, h⟩
          · have : l = [] := by simpa using e
            have h0 := HL.out
            rw [this] at h0
            simp at h0; omega
          · exact ⟨g, o, c, by rw [e, List.length_map, HL.out], h⟩
        have q := h3 k (by rw [List.length_map, HL.out]; exact hlt)
        rw [List.getElem_map] at q
        obtain ⟨q1, q2⟩ := q
        injection h1 with h1 h1b h1c
        subst h1
        generalize l[k]'(by rw [HL.out]; exact hlt) = y at q1 q2
        obtain ⟨ya, yb⟩ := y
        unfold tq at q1 q2
        dsimp only at q1 q2
        obtain ⟨m1, e1, l1⟩ := minle ya.size
        obtain ⟨m2, e2, l2⟩ := minle yb.size
        clear h3 h1c h1b
        go_wp2
        go_region
        go_wp2
        go_roundw
        case rel => exact ⟨k + 1, X + m1 + m2, by simp, by simp, by omega, by omega, Lib.hid (Below.drew HB.out)⟩
        case measure => (try simp [intOf]); (try omega)
      · have hd : decide ((20000 : Int) ≤ (X : Int)) = true := decide_eq_true (by omega)
        have hd2 : decide ((X : Int) < 20000) = false := decide_eq_false (by omega)
        go_wp2
        go_ret
        exact ⟨_, rfl, HB.out⟩
    · by_cases hx : 20000 ≤ X
      · have hd : decide ((20000 : Int) ≤ (X : Int)) = true := decide_eq_true (by omega)
        go_wp2
        go_ret
        exact ⟨_, rfl, HB.out⟩
      · have hd : decide ((20000 : Int) ≤ (X : Int)) = false := decide_eq_false (by omega)
        go_wp2
        go_ret
        exact ⟨_, rfl, HB.out⟩
end Go.Proofs.YtieemdcoomilaaaGreatDoor
namespace Go.Proofs.YtieemdcoomilaaaGreatDoor
open Go Go.RowKit Go.Sort BigFrame
set_option maxRecDepth 100000
theorem below_dn {B : Nat} {a w : World} (h : Below B a w) (n : Nat) : Below B a (w.drewN n) := ⟨h.os, h.tape, h.output, h.size, h.block⟩
theorem InvT.mf {d d' : Dk} {h : He} {L : List ByteArray} (i : Vt.InvT d h L) (hc : Vt.InvC d' h L.length 200) (hm : Vt.Mf d.T d'.T) (hcap : d'.cap = d.cap) (hs : ∃ E B, Vt.StdT d'.T h none E B ∧ E ++ B = L) : Vt.InvT d' h L := by
  have hus := Vt.used_same (d := d) (d' := d') fun j hj => by rw [hm.s hj]
  obtain ⟨E, B, hs', he⟩ := hs
  have hmay := hs'.hd.may
  exact ⟨hc, ⟨E, B, hs', he⟩, i.b0, i.gen, hcap.trans i.cap, by rw [hus, hm.s (by decide), hm.s (by decide)]; exact i.used, by rw [hm.s (by decide)]; exact i.h0, by rw [hm.s (by decide)]; exact i.h1, by rw [hm.s (Vt.lz_lt hmay)]; exact i.tp, i.cnt⟩
theorem InvT.may {d : Dk} {h : He} {L : List ByteArray} (i : Vt.InvT d h L) : mayB h = true := by
  obtain ⟨E, B, hs, -⟩ := i.st
  exact hs.hd.may
/-- Synced: all is firm. -/
theorem torn_sync {d : Dk} {h : He} {L : List ByteArray} (i : Vt.InvT d h L) : (Vt.syD d h).2 = 0 ∧ Vt.InvT (Vt.syD d h).1 h L ∧ ∀ j < 32, Vt.fm ((Vt.syD d h).1.T j) := by
  obtain ⟨E, B, hs, hEB⟩ := i.st
  obtain ⟨f1, f2⟩ := Vt.sync_calm i.c
  rcases Vt.sync_std i.c.dn i.c.ok hs i.c.emp with ⟨q, g1, g2, g3⟩ | q
  · refine ⟨f1, InvT.mf i f2 g3 q.cap ⟨E ++ B, [], g1, by rw [List.append_nil, hEB]⟩, fun j hj => ?_⟩
    have hsn := Vt.snap_none g1.snap
    by_cases h2 : j < 2
    · match j, h2 with
      | 0, _ => exact g1.hd.f0
      | 1, _ => exact g1.hd.f1
    · by_cases hu : usB h (j : Int) = true
      · rcases Vt.us_iff.1 hu with ⟨k, _⟩ | k
        · exact absurd hsn k
        · by_cases hl : (j : Int) = Vt.lz h.log
          · have e : (Vt.lz h.log).toNat = j := by rw [← hl]; simp
            rw [show (Vt.syD d h).1.T = _ from q.T, e, upd_same]; rfl
          · have := g1.lg.fm _ k hl
            simpa using this
      · exact Vt.fm_of_ok q.ok hj (g2 j (by omega) hj (by simpa using hu))
  · have := q.dm; rw [i.c.dm] at this; cases this
/-- Opened. -/
theorem torn_calm {d : Dk} {h : He} {L : List ByteArray} (i : Vt.InvT d h L) : ∃ d', Vt.opD d = ((d', 0), h, none, L) ∧ Vt.InvT d' h L := by
  obtain ⟨E, B, hs, hEB⟩ := i.st
  have hm := hs.hd.may
  rcases Vt.open_std i.c.dn i.c.ok hs i.c.emp with ⟨d', e, ho, hmf⟩ | ⟨_, _, _, _, _, f⟩
  · rw [hEB] at e ho
    refine ⟨d', e, InvT.mf i ⟨ho.u.dn, ho.u.dm i.c.dm, ho.u.ok, ho.emp, ⟨none, L, [], ho.std, by simp⟩, fun t ht => ?_⟩ hmf ho.u.cap ⟨L, [], ho.std, List.append_nil _⟩⟩
    obtain ⟨X, x1, x2, x3, x4⟩ := i.c.hld t ht
    have h32 := Vt.log_lt hm t ht
    exact ⟨X, x1, by rw [(hmf _ h32).1]; exact x2, by rw [hmf.s h32]; exact x3, x4⟩
  · rw [i.c.dm] at f; cases f
/-- The tail is written, and synced. -/
theorem torn_tail {d : Dk} {h : He} {L : List ByteArray} (i : Vt.InvT d h L) (hf : ∀ j < 32, Vt.fm (d.T j)) (hw : Vt.wt L + 21 * L.length ≤ 3000) {tail : ByteArray} (hz : tail.size ≤ 3000) (ht : Fr.er tail.data.toList ≠ 0) :
    (doD d (Vt.lz h.log) true (wf d tail)).2 = 0 ∧ (doD d (Vt.lz h.log) true (wf d tail)).1.ok ∧ (doD (doD d (Vt.lz h.log) true (wf d tail)).1 (Vt.lz h.log) false sy).2 = 0 ∧ (doD (doD d (Vt.lz h.log) true (wf d tail)).1 (Vt.lz h.log) false sy).1.ok ∧
      ∃ d2, Vt.opD (doD (doD d (Vt.lz h.log) true (wf d tail)).1 (Vt.lz h.log) false sy).1 = ((d2, 0), h, none, L) ∧ Vt.InvT d2 h L ∧ ∀ j < 32, d2.T j = d.T j := by
  have hm := InvT.may i
  have hl := Vt.lz_lt hm
  have hl0 : 0 ≤ Vt.lz h.log := by have := (mayB_ok hm).mem _ (Vt.lz_mem (mayB_ok hm).ne); omega
  have hu := i.used
  have h0 := i.h0
  have h1 := i.h1
  have hc := i.cap
  have htp := i.tp
  obtain ⟨t, ht0⟩ : ∃ t : Nat, Vt.lz h.log = (t : Int) := ⟨(Vt.lz h.log).toNat, by omega⟩
  have et : (Vt.lz h.log).toNat = t := by rw [ht0]; simp
  rw [et] at hl htp
  have hup := fun (dd : Dk) (x : Vt.Upd d dd) (z : dd.T = upd d.T (Vt.lz h.log).toNat (Vt.fmT ⟨(d.T (Vt.lz h.log).toNat).s ++ tail, (d.T (Vt.lz h.log).toNat).f⟩)) => Vt.torn_open i hf x ht z
  rw [et] at hup
  rw [ht0]
  rcases Vt.wr_step i.c.dn i.c.ok hl tail (by omega) (by omega) with k | k
  · rcases Vt.sy_step k.dn k.ok hl with m | m
    · refine ⟨k.e, k.ok, m.e, m.ok, hup _ ⟨m.dn, m.ok, m.cap.trans k.cap, fun e => m.dm (k.dm e)⟩ ?_⟩
      rw [m.T, k.T, upd_same]
      exact upd_upd _ _ _ _
    · have := m.dm; rw [k.dm i.c.dm] at this; cases this
  · have := k.dm; rw [i.c.dm] at this; cases this
set_option maxHeartbeats 1000000 in
theorem rtapes_any (G1 G2 : Nat) (T : Nat → Tp) (w : World) (h1 : Told w G1 T) (h2 : Told w G2 T) : Calls Tryz.prog 39 #[.slice (some ⟨G1, 0, none⟩) 32 32, .slice (some ⟨G2, 0, none⟩) 32 32] w (Ret w (.bool true)) := by
  have H1 := Lib.hid h1
  have H2 := Lib.hid h2
  have HB0 : Hid (Below w.heap.size w w) := Lib.hid (Below.refl _ _)
  clear h1 h2
  go_enter Tryz.func39, Tryz.ntmps39
  go_wp2
  go_loopw [5] (fun i wr => ∃ k : Nat, i = .int .i64 k ∧ k ≤ 32 ∧ Hid (Below w.heap.size w wr)) (fun i _ => 32 - (intOf i).toNat)
  case atStart => exact ⟨0, rfl, by omega, HB0⟩
  case round =>
    obtain ⟨k, rfl, hk, HB⟩ := hrel
    by_cases hlt : k < 32
    · have q1 := (H1.out.below HB.out H1.out.lt).a k hlt
      have q2 := (H1.out.below HB.out H1.out.lt).b k hlt
      have q3 := (H2.out.below HB.out H2.out.lt).a k hlt
      have q4 := (H2.out.below HB.out H2.out.lt).b k hlt
      generalize (qT (T k)).a = x at *
      generalize (qT (T k)).b = y at *
      have e1 : (x.toList == x.toList) = true := by simp
      have e2 : (y.toList == y.toList) = true := by simp
      go_wp2
      go_quiet (fail)
      go_wp2
      go_roundw
      case rel => exact ⟨k + 1, by simp, by omega, Lib.hid (below_dn HB.out _)⟩
      case measure => (try simp [intOf]); (try omega)
    · obtain rfl : k = 32 := by omega
      go_wp2
      go_ret
      exact ⟨rfl, HB.out⟩
end Go.Proofs.YtieemdcoomilaaaGreatDoor
namespace Go.Proofs.YtieemdcoomilaaaGreatDoor
set_option maxRecDepth 100000
section
open Go Go.RowKit Go.Sort Go.Deep Go.ChangeShapes Go.WideShapes
/-- Texts, as they are handed in. -/
structure Txs (w : World) (v : Value) (l : List ByteArray) : Prop where
  at' : SAt w v l
  len : l.length ≤ 9223372036854775807
variable {H : Type} {enc : TypeId × Value → H} {w : World} {base b0 : Nat} {spare : Nat → Bool} {held : Bool}
theorem open_texts {r : Reach} {v : Value} {d : DataW H} {p : List MemPlace} (hv : Value.okWide Tryz.prog w r b0 24 v) (h : DataW.Trod enc Tryz.prog w base spare held 24 v d p) : ∃ l : List ByteArray, Txs w v l := by
  obtain ⟨a0, l0, c0, rfl⟩ := okWide_slice Tryz.underlying24 hv
  obtain ⟨fuel, hf⟩ := h
  rcases open_strings Tryz.underlying24 Tryz.underlying9 (by kernel_rfl) hf with ⟨h0, _⟩ | ⟨a, len, cap, zs, h0, _, hl, hm, hz, _, hc, hw⟩
  · cases h0
    exact ⟨[], .inl ⟨rfl, _, _, rfl⟩, Nat.zero_le _⟩
  · cases h0
    have hlz : l0 ≤ zs.length := by rw [hz]; split <;> omega
    rcases Nat.eq_zero_or_pos l0 with h0 | h0
    · subst h0; exact ⟨[], .inl ⟨rfl, _, _, rfl⟩, Nat.zero_le _⟩
    · obtain ⟨b, off, spot⟩ := a
      have hs : spot = none := by simpa [Addr.add] using World.cell?_spot (hc 0 (by omega))
      subst hs
      have hlen : (zs.take l0).length = l0 := by rw [List.length_take]; omega
      refine ⟨zs.take l0, .inr ⟨b, off, c0, by rw [hlen], by rw [hlen]; exact hl, fun j hj => ?_⟩, by rw [hlen]; unfold maxLen at hm; omega⟩
      have hj2 : j < zs.length := by rw [hlen] at hj; omega
      have := hc j hj2
      rw [Go.WideShapes.add_plain] at this
      rw [this, List.getElem_take, List.getD_eq_getElem?_getD, List.getElem?_eq_getElem hj2]
      rfl
end
open Go Go.RowKit
theorem SAt.src {W : World} {v : Value} {l : List ByteArray} (h : SAt W v l) : Src Tryz.prog 1 24 v l.length (strs l) W := by
  rcases h with ⟨rfl, a, c, rfl⟩ | ⟨g, o, c, rfl, hc, h⟩
  · cases a with
    | none => exact Src.ofNil W Tryz.underlying24 c
    | some a => exact Src.ofSlice W Tryz.underlying24 a 0 c [] (by simp) (fun j u h => by simp at h) (fun u h => by cases h)
  · refine Src.ofSlice W Tryz.underlying24 ⟨g, o, none⟩ _ c _ (by simp [strs]) (fun j u hj => ?_) (fun u hu => ?_)
    · unfold strs at hj
      have hj2 : j < l.length := by have := (List.getElem?_eq_some_iff.1 hj).1; simpa using this
      rw [List.getElem?_map, List.getElem?_eq_getElem hj2] at hj
      injection hj with hj
      subst hj
      have hadd : (⟨g, o, none⟩ : Addr).add j = ⟨g, o + j, none⟩ := by unfold Addr.add; simp
      rw [hadd]; exact h j hj2
    · unfold strs at hu
      obtain ⟨t, _, rfl⟩ := List.mem_map.1 hu; rfl
theorem strs_app (a b : List ByteArray) : strs (a ++ b) = strs a ++ strs b := by unfold strs; rw [List.map_append]
theorem strs_len (a : List ByteArray) : (strs a).length = a.length := by unfold strs; rw [List.length_map]
/-- append of texts. -/
theorem wpList_app24 {w : World} {ops : Array Oper} {rest : List Oper} {o : Oper} {a : Act} {Q : Exit → Act → World → Prop} (hw : Region.wanted o (yielded ops a.tmps) = true) (s x : Operand)
    (ho : o.op = .call { callee := .builtin .append, args := #[s, x], argTypes := #[24, 24] })
    (base : Nat) (v : Value) (L1 : List ByteArray) (hs : a.eval s = v) (hown : Own w base v (strs L1)) (vx : Value) (L2 : List ByteArray) (hx : a.eval x = vx) (hG : SAt w vx L2) (hlen : L1.length + L2.length ≤ 1000000) (hbase : base ≤ w.heap.size)
    (h : ∀ v' w', Own w' base v' (strs (L1 ++ L2)) → w.grownBy w' v.ownBlock → (v'.ownBlock = v.ownBlock ∨ ∀ k, v'.ownBlock = some k → w.heap.size ≤ k) → wpList Tryz.prog ops Q rest (a.put o.dst v') w') : wpList Tryz.prog ops Q (o :: rest) a w := by
  obtain ⟨i0, hi, hz0, hz1, hz2⟩ := info_parts info9s
  refine BigFrame.wpList_want hw fun _ hK => wp_append_Own w s x 24 24 ho base 9 i0 (.string ⟨#[]⟩) 16 Tryz.underlying24 hi hz0 hz1 hz2 rfl v (strs L1) hs hown vx L2.length (strs L2) hx hG.src ?_ ?_ hbase fun v' w' h1 h2 h3 => hK _ _ (h v' w' (by rw [strs_app]; exact h1) h2 h3)
  · rw [strs_len]; omega
  · rw [strs_len]; omega
theorem own_empty (w : World) (base : Nat) (hb : base ≤ w.heap.size) (t : TypeId) : Own (w.alloc (.cells #[] t)) base (.slice (some ⟨w.heap.size, 0, none⟩) 0 0) (strs []) :=
  .inr ⟨w.heap.size, 0, rfl, hb, by rw [World.size_alloc]; omega, Nat.le_refl _, by simp [maxLen], fun j hj => by omega, fun j hj => by simp [strs] at hj⟩
/- Sums. -/
def sm : List ByteArray → Nat
  | [] => 0
  | r :: R => 30 + min 3000 r.size + sm R
theorem sm_snoc : ∀ (R : List ByteArray) (r : ByteArray), sm (R ++ [r]) = sm R + (30 + min 3000 r.size)
  | [], r => by simp [sm]
  | q :: R, r => by rw [List.cons_append, sm, sm, sm_snoc R r]; omega
theorem sm_take {l : List ByteArray} {k : Nat} (h : k < l.length) : sm (l.take (k + 1)) = sm (l.take k) + (30 + min 3000 (l[k]).size) := by
  rw [List.take_succ_eq_append_getElem h, sm_snoc]
theorem sm_app (A B : List ByteArray) : sm (A ++ B) = sm A + sm B := by
  induction A with
  | nil => simp [sm]
  | cons a A ih => rw [List.cons_append, sm, sm, ih]; omega
theorem sm_le {l : List ByteArray} (h : sm l < 3000) : Vt.wt l + 21 * l.length ≤ sm l ∧ ∀ r ∈ l, r.size ≤ 3000 := by
  induction l with
  | nil => exact ⟨by simp [Vt.wt, sm], fun r hr => by cases hr⟩
  | cons a l ih =>
    unfold sm at h
    obtain ⟨h1, h2⟩ := ih (by omega)
    refine ⟨by unfold Vt.wt sm; rw [List.length_cons]; omega, fun r hr => ?_⟩
    rcases List.mem_cons.1 hr with rfl | hr
    · omega
    · exact h2 r hr
theorem sm_pre (l : List ByteArray) (k : Nat) : sm (l.take k) ≤ sm l := by
  have h := sm_app (l.take k) (l.drop k)
  rw [List.take_append_drop] at h
  omega
theorem lz_last : ∀ (l : List Int) (h : l ≠ []), Vt.lz l = l.getLast h
  | [t], _ => rfl
  | a :: b :: r, _ => by
    show Vt.lz (b :: r) = _
    rw [List.getLast_cons (by simp)]
    exact lz_last _ _
theorem lz_at (l : List Int) (h : 0 < l.length) : l[l.length - 1]'(by omega) = Vt.lz l := by
  rw [lz_last l (by intro e; rw [e] at h; simp at h), List.getLast_eq_getElem]
end Go.Proofs.YtieemdcoomilaaaGreatDoor
namespace Go.Proofs.YtieemdcoomilaaaGreatDoor
open Go Go.RowKit
set_option maxRecDepth 100000
theorem read_torn (s : ByteArray) (hs : s.size ≤ 140737488351232) (w : World) : Calls Tryz.prog 36 #[.string s, .int .i64 0] w fun e w' => ∃ (a c n : Int) (b : ByteArray) (E : Nat), e = .returned (.tuple #[.agg #[.int .u8 a, .string b, .int .i64 c], .int .i64 n, .int .i64 (E : Int)]) ∧ (E ≠ 0 → Fr.er s.data.toList ≠ 0) ∧ Below w.heap.size w w' := by
  by_cases h : Fr.er s.data.toList = 0
  · have hg : Fr.Good (bh s 0) := by
      have e : Fr.er (bh s 0) = 0 := h
      exact Fr.er_good.1 e
    refine (rread_ok s 0 hg w hs).mono ?_
    rintro e w' ⟨rfl, hb⟩
    exact ⟨_, _, _, _, 0, rfl, fun h => absurd rfl h, hb⟩
  · refine (rread_bad s 0 _ (er1_zero s) h w hs).mono ?_
    rintro e w' ⟨rfl, hb⟩
    exact ⟨_, _, _, _, _, rfl, fun _ => h, hb⟩
def VT (W : World) (V B : Nat) (L : List ByteArray) : Prop := ∃ d h, VSt W V B 200 (d, h, L.length) ∧ Vt.InvT d h L
theorem VT.below {W W' : World} {V B : Nat} {L : List ByteArray} (h : VT W V B L) (hb : Below W.heap.size W W') : VT W' V B L := by
  obtain ⟨d, h, hx, i⟩ := h
  exact ⟨d, h, hx.below hb (Nat.le_refl _), i⟩
theorem VT.lt {W : World} {V B : Nat} {L : List ByteArray} (h : VT W V B L) : B < W.heap.size ∧ V < W.heap.size := by
  obtain ⟨d, h, hx, i⟩ := h
  exact ⟨hx.d.lt, hx.lt⟩
theorem vt_on (w : World) (hT : Tab w) : Calls Tryz.prog 10 #[.int .i64 100000, .int .i64 200] w fun e w' => ∃ B V, e = .returned (.tuple #[.pointer (some ⟨B, 0, none⟩), .pointer (some ⟨V, 0, none⟩)]) ∧ w.heap.size ≤ B ∧ w.heap.size ≤ V ∧ VT w' V B [] ∧ Below w.heap.size w w' := by
  have k := on_any 100000 200 (by decide) (by decide) (by decide) (by decide) w hT
  refine k.mono ?_
  rintro e w' ⟨B, V, rfl, hB, hV, hok, hx, hb⟩
  obtain ⟨d', ho, i⟩ := Vt.new_torn hok
  rw [ho] at hx
  exact ⟨B, V, rfl, hB, hV, ⟨d', _, hx, i⟩, hb⟩
theorem vt_add {W : World} {V B : Nat} {L : List ByteArray} (r : ByteArray) (hr : r.size ≤ 3000) (hw : Vt.wt L + 21 * L.length ≤ 3000) (h : VT W V B L) :
    Calls Tryz.prog 11 #[.pointer (some ⟨V, 0, none⟩), .string r] W fun e w' => e = .returned (.int .i64 0) ∧ VT w' V B (L ++ [r]) ∧ Gv W w' B V := by
  obtain ⟨d, h, hx, i⟩ := h
  refine (vadd_eq r (by omega) (by omega) hx (InvT.may i)).mono ?_
  rintro e w' ⟨rfl, h1, h2⟩
  obtain ⟨a1, a2, a3⟩ := Vt.add_torn i hw hr
  rw [a1]
  refine ⟨rfl, ⟨_, _, ?_, a3⟩, h2⟩
  have e : (Vt.addD d h L.length 200 r).2 = ((Vt.addD d h L.length 200 r).2.1, (L ++ [r]).length) := by
    rw [List.length_append]; show _ = (_, L.length + 1); rw [← a2]
  rw [e] at h1
  exact h1
/-- Synced: it is firm. -/
def VF (W : World) (V B : Nat) (L : List ByteArray) (d : Dk) (h : He) : Prop := VSt W V B 200 (d, h, L.length) ∧ Vt.InvT d h L ∧ ∀ j < 32, Vt.fm (d.T j)
theorem vt_sync {W : World} {V B : Nat} {L : List ByteArray} (h : VT W V B L) :
    Calls Tryz.prog 12 #[.pointer (some ⟨V, 0, none⟩)] W fun e w' => e = .returned (.int .i64 0) ∧ (∃ d h, VF w' V B L d h) ∧ Gv W w' B V := by
  obtain ⟨d, h, hx, i⟩ := h
  refine (vsync_eq hx (InvT.may i)).mono ?_
  rintro e w' ⟨rfl, h1, h2⟩
  obtain ⟨a1, a2, a3⟩ := torn_sync i
  rw [a1]
  exact ⟨rfl, ⟨_, _, h1, a2, a3⟩, h2⟩
theorem VF.below {W W' : World} {V B : Nat} {L : List ByteArray} {d : Dk} {h : He} (k : VF W V B L d h) (hb : Below W.heap.size W W') : VF W' V B L d h := ⟨k.1.below hb (Nat.le_refl _), k.2⟩
theorem vt_finds {W : World} {V B : Nat} {L : List ByteArray} {v : Value} (h : VT W V B L) (hv : SAt W v L) (hvB : L ≠ [] → ∀ q, v.ownBlock = some q → q ≠ B) (hR : L.length ≤ 1000000) :
    Calls Tryz.prog 20 #[.pointer (some ⟨B, 0, none⟩), .int .i64 200, .bool false, .string ⟨#[]⟩, v] W fun e w' => e = .returned (.bool true) ∧ VT w' V B L ∧ W.grownBy w' (some B) := by
  obtain ⟨d, h, hx, i⟩ := h
  obtain ⟨d', ho, i'⟩ := torn_calm i
  have k := finds_any B 200 d d' h none L v (by decide) (by decide) W ho hx.d hx.ok hx.t hx.b0 hv hvB hR
  refine k.mono ?_
  rintro e w' ⟨rfl, h1, h2, h3⟩
  exact ⟨rfl, ⟨d', h, hx.regrow h3 h1 h2, i'⟩, h3⟩
theorem Told.same {w : World} {G : Nat} {T T' : Nat → Tp} (h : Told w G T) (e : ∀ j < 32, T' j = T j) : Told w G T' :=
  ⟨fun j hj => by rw [e j hj]; exact h.a j hj, fun j hj => by rw [e j hj]; exact h.b j hj⟩
end Go.Proofs.YtieemdcoomilaaaGreatDoor
