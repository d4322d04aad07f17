/- A slice of parts that came in, read as a list; the law's 'long' over it. -/
import Derived.Test.YtnnogjojoeajnaaWq
import Derived.Deep.Slices
import Derived.Deep.Fields
import Derived.ProofKit
import Derived.OpenShut
namespace Go.Proofs.Ytnnogjojoeajnaa
open Go.ChangeShapes Go.WideShapes Go.Deep Go.RowKit
section
variable {H : Type} {enc : TypeId × Value → H} {P : Program} {w : World} {base : Nat} {spare : Nat → Bool} {held : Bool}
/-- Each field of each element stands in its own cell, and reads as its type says. -/
theorem open_rows {t e : TypeId} {fs : Array Field} {fuel : Nat} {v : Value} {x : DataW H × List MemPlace} (ht : P.underlying t = some (.slice e)) (he : P.underlying e = some (.struct fs)) (hone : oneCellFields P fs = true)
    (hC : P.cellsOf e = fs.size) (hp : 0 < fs.size) (h : DataW.trod enc P w base spare held fuel t [v] = some x) :
    v = .slice none 0 0 ∨ ∃ (a : Addr) (len cap : Nat), v = .slice (some a) len cap ∧ len ≤ cap ∧ cap ≤ maxLen ∧ (len = 0 ∨ a.spot = none) ∧
      ∀ i, i < len → ∀ (j : Nat) (f : Field), fs[j]? = some f → ∃ (u : Value) (n : Nat) (y : DataW H × List MemPlace), w.cell? (a.add (i * fs.size + j)) = some u ∧ DataW.trod enc P w base spare held n f.type [u] = some y := by
  rcases open_slice ht h with ⟨h0, _⟩ | ⟨a, len, cap, m, n, D, Pl, hcs, _, hl, hm, hmm, _, hi⟩
  · exact .inl (by simpa using h0)
  · have hlm : len ≤ m := by rw [hmm]; split <;> omega
    have key : ∀ i, i < len → ∀ (j : Nat) (f : Field), fs[j]? = some f → ∃ (u : Value) (n : Nat) (y : DataW H × List MemPlace), w.cell? (a.add (i * fs.size + j)) = some u ∧ DataW.trod enc P w base spare held n f.type [u] = some y := by
      intro i hil j f hj
      obtain ⟨cs', hc, ht'⟩ := hi i (by omega)
      rw [hC] at hc
      obtain ⟨ys, n', _, _, _, hyl, hf⟩ := DataW.trod_struct he ht'
      obtain ⟨_, hcl, hat⟩ := World.cells?_some hc
      obtain ⟨ho, hk⟩ := hone_of hone j f hj
      have hjl : j < fs.size := (Array.getElem?_eq_some_iff.1 hj).1
      have h1 := hf j f hj
      have hlt : j < cs'.length := by omega
      rw [ho, hk, List.drop_eq_getElem_cons hlt, List.take_succ_cons, List.take_zero, List.getElem?_eq_getElem (by omega)] at h1
      refine ⟨_, n', _, ?_, h1⟩
      rw [← Go.Deep.add_add, hat j hjl, List.getElem?_eq_getElem hlt]
    refine .inr ⟨a, len, cap, by simpa using hcs, hl, hm, ?_, key⟩
    rcases Nat.eq_zero_or_pos len with h0 | h0
    · exact .inl h0
    · right
      obtain ⟨u, _, _, hu, _⟩ := key 0 h0 0 fs[0] (by simp [hp])
      simpa [Addr.add] using World.cell?_spot hu
end
/-- A slice of parts, wherever it begins. -/
def ArgAt (W : World) (v : Value) (l : List Pt) : Prop :=
  (l = [] ∧ ∃ a c, v = .slice a 0 c) ∨ ∃ g o c, v = .slice (some ⟨g, o, none⟩) l.length c ∧ ∀ j (h : j < l.length), W.cell? ⟨g, o + j * 4, none⟩ = some (.bool l[j].c) ∧ W.cell? ⟨g, o + j * 4 + 1, none⟩ = some (.string l[j].t) ∧ W.cell? ⟨g, o + j * 4 + 2, none⟩ = some (.int .i64 l[j].o) ∧ W.cell? ⟨g, o + j * 4 + 3, none⟩ = some (.int .i64 l[j].l)
theorem ArgAt.below {W W' : World} {v : Value} {l : List Pt} (h : ArgAt W v l) {n : Nat} (hb : Below n W W') (hn : n = W.heap.size) : ArgAt W' v l := by
  subst hn
  rcases h with h | ⟨g, o, c, rfl, h⟩
  · exact .inl h
  · refine .inr ⟨g, o, c, rfl, fun j hj => ?_⟩
    have hlt := World.block_lt_of_cell? W ⟨g, _, none⟩ (h j hj).1
    have e : ∀ o, W'.cell? ⟨g, o, none⟩ = W.cell? ⟨g, o, none⟩ := fun o => World.cell?_of_block (a := ⟨g, o, none⟩) (hb.block g hlt)
    rw [e, e, e, e]
    exact h j hj
theorem ArgAt.slice {W : World} {v : Value} {l : List Pt} (h : ArgAt W v l) : ∃ a c, v = .slice a l.length c := by
  rcases h with ⟨rfl, a, c, rfl⟩ | ⟨g, o, c, rfl, _⟩
  · exact ⟨_, _, rfl⟩
  · exact ⟨_, _, rfl⟩
theorem PartsAt.arg {W : World} {v : Value} {l : List Pt} (h : PartsAt W v l) : ArgAt W v l := by
  rcases h with ⟨rfl, c, rfl⟩ | ⟨g, c, rfl, h⟩
  · exact .inl ⟨rfl, _, _, rfl⟩
  · refine .inr ⟨g, 0, c, rfl, fun j hj => ?_⟩
    simpa using h j hj
theorem one76 : oneCellFields Try.prog #[{ name := "Copy", type := 4, offset := 0, embedded := false, tag := "", pkgPath := "", byteOffset := 0 }, { name := "Text", type := 9, offset := 1, embedded := false, tag := "", pkgPath := "", byteOffset := 8 }, { name := "Off", type := 3, offset := 2, embedded := false, tag := "", pkgPath := "", byteOffset := 24 }, { name := "Len", type := 3, offset := 3, embedded := false, tag := "", pkgPath := "", byteOffset := 32 }] = true := by kernel_rfl
/-- Parts within their kinds. -/
structure Pt.wide (p : Pt) : Prop where
  t : p.t.size ≤ maxLen
  o0 : -9223372036854775808 ≤ p.o
  o1 : p.o ≤ 9223372036854775807
  l0 : -9223372036854775808 ≤ p.l
  l1 : p.l ≤ 9223372036854775807
set_option maxRecDepth 100000 in
def Arg (w : World) (v : Value) (l : List Pt) : Prop := ArgAt w v l ∧ l.length ≤ maxLen ∧ ∀ p ∈ l, p.wide
set_option maxRecDepth 100000 in
theorem open_parts {H : Type} {enc : TypeId × Value → H} {w : World} {base b0 : Nat} {spare : Nat → Bool} {held : Bool} {r : Reach} {v : Value} {d : DataW H} {p : List MemPlace} (hv : Value.okWide Try.prog w r b0 42 v) (h : DataW.Trod enc Try.prog w base spare held 42 v d p) : ∃ l : List Pt, Arg w v l := by
  obtain ⟨a0, l0, c0, rfl⟩ := okWide_slice Try.underlying42 hv
  obtain ⟨fuel, hf⟩ := h
  rcases open_rows Try.underlying42 Try.underlying76 one76 (by kernel_rfl) (by decide) hf with h0 | ⟨a, len, cap, h0, hlc, hcm, hsp, hk⟩
  · cases h0; exact ⟨[], .inl ⟨rfl, _, _, rfl⟩, Nat.zero_le _, fun p hp => by cases hp⟩
  · cases h0
    rcases Nat.eq_zero_or_pos l0 with h0 | h0
    · subst h0; exact ⟨[], .inl ⟨rfl, _, _, rfl⟩, Nat.zero_le _, fun p hp => by cases hp⟩
    · obtain ⟨b, off, spot⟩ := a
      have hs : spot = none := by rcases hsp with h | h; · omega
                                  · exact h
      subst hs
      have hq : ∀ i, i < l0 → ∃ q : Pt, w.cell? ⟨b, off + (i * 4 + 0), none⟩ = some (.bool q.c) ∧ w.cell? ⟨b, off + (i * 4 + 1), none⟩ = some (.string q.t) ∧ w.cell? ⟨b, off + (i * 4 + 2), none⟩ = some (.int .i64 q.o) ∧ w.cell? ⟨b, off + (i * 4 + 3), none⟩ = some (.int .i64 q.l) ∧ q.wide := by
        intro i hi
        obtain ⟨u0, n0, y0, e0, g0⟩ := hk i hi 0 _ rfl
        obtain ⟨u1, n1, y1, e1, g1⟩ := hk i hi 1 _ rfl
        obtain ⟨u2, n2, y2, e2, g2⟩ := hk i hi 2 _ rfl
        obtain ⟨u3, n3, y3, e3, g3⟩ := hk i hi 3 _ rfl
        obtain ⟨z0, k0, _⟩ := DataW.trod_bool Try.underlying4 g0
        obtain ⟨z1, k1, _, f1⟩ := DataW.trod_string Try.underlying9 g1
        obtain ⟨z2, k2, _, f2⟩ := DataW.trod_int Try.underlying3 g2
        obtain ⟨z3, k3, _, f3⟩ := DataW.trod_int Try.underlying3 g3
        simp only [List.cons.injEq, and_true] at k0 k1 k2 k3
        subst k0 k1 k2 k3
        rw [Go.WideShapes.add_plain] at e0 e1 e2 e3
        have hb2 := Go.bounds_i64 f2
        have hb3 := Go.bounds_i64 f3
        exact ⟨⟨z0, z1, z2, z3⟩, e0, e1, e2, e3, ⟨f1, hb2.1, by have := hb2.2; show z2 ≤ _; omega, hb3.1, by have := hb3.2; show z3 ≤ _; omega⟩⟩
      have : ∀ i : Fin l0, ∃ q : Pt, w.cell? ⟨b, off + (i.1 * 4 + 0), none⟩ = some (.bool q.c) ∧ w.cell? ⟨b, off + (i.1 * 4 + 1), none⟩ = some (.string q.t) ∧ w.cell? ⟨b, off + (i.1 * 4 + 2), none⟩ = some (.int .i64 q.o) ∧ w.cell? ⟨b, off + (i.1 * 4 + 3), none⟩ = some (.int .i64 q.l) ∧ q.wide := fun i => hq i.1 i.2
      obtain ⟨q, hq'⟩ := Classical.axiomOfChoice this
      refine ⟨List.ofFn q, .inr ⟨b, off, c0, by rw [List.length_ofFn], fun j hj => ?_⟩, by rw [List.length_ofFn]; omega, fun p hp => ?_⟩
      · rw [List.length_ofFn] at hj
        have e := hq' ⟨j, hj⟩
        rw [List.getElem_ofFn]
        exact ⟨by simpa using e.1, by rw [Nat.add_assoc]; exact e.2.1, by rw [Nat.add_assoc]; exact e.2.2.1, by rw [Nat.add_assoc]; exact e.2.2.2.1⟩
      · obtain ⟨i, rfl⟩ := (List.mem_ofFn ..).1 hp
        exact (hq' i).2.2.2.2
/-- What 'long' counts. -/
def lng : List Pt → Nat → Nat
  | [], n => n
  | p :: r, n => if n < 5000 then lng r (n + 70 + min p.t.size 5000) else n
theorem lng_le : ∀ (l : List Pt) (n : Nat), n ≤ lng l n
  | [], n => Nat.le_refl _
  | p :: r, n => by
    rw [lng]
    split
    · have := lng_le r (n + 70 + min p.t.size 5000); omega
    · exact Nat.le_refl _
theorem lng_short : ∀ (l : List Pt) (n : Nat), lng l n < 5000 → 70 * l.length + n < 5000 ∧ ∀ p ∈ l, p.t.size < 5000
  | [], n, h => ⟨by simpa [lng] using h, fun p hp => by cases hp⟩
  | p :: r, n, h => by
    rw [lng] at h
    split at h
    · obtain ⟨h1, h2⟩ := lng_short r _ h
      have := lng_le r (n + 70 + min p.t.size 5000)
      refine ⟨by rw [List.length_cons]; omega, fun q hq => ?_⟩
      rcases List.mem_cons.1 hq with rfl | hq
      · omega
      · exact h2 q hq
    · omega
set_option maxRecDepth 100000 in
set_option maxHeartbeats 1000000 in
theorem long_any (l : List Pt) (hl : l.length ≤ maxLen) (hw : ∀ p ∈ l, p.wide) (v : Value) (w : World) (hv : ArgAt w v l) :
    Calls Try.prog 25 #[v] w fun e w' => e = .returned (.bool (decide (5000 ≤ lng l 0))) ∧ w = w' := by
  have HV := Lib.hid hv
  have HW := Lib.hid hw
  obtain ⟨va, vc, hv2⟩ := hv.slice
  clear hv hw
  have hl2 : (l.length : Int) ≤ 9223372036854775807 := by have := hl; unfold maxLen at this; omega
  generalize hL : l.length = L at *
  have HL := Lib.hid hL
  have HLM := Lib.hid hl
  clear hL hl
  subst hv2
  go_enter Try.func25, Try.ntmps25
  go_wp2
  go_loop [3, 4] (fun n i => ∃ (k N : Nat), n = .int .i64 (N : Int) ∧ i = .int .i64 (k : Int) ∧ k ≤ L ∧ N ≤ 10070 ∧ Hid (lng (l.drop k) N = lng l 0)) (fun _ i => L - (intOf i).toNat)
  case atStart => exact ⟨0, 0, rfl, rfl, by omega, by omega, Lib.hid rfl⟩
  case round =>
    obtain ⟨k, N, rfl, rfl, hk, hN, HE⟩ := hrel
    by_cases hlt : k < L
    · have hkl : k < l.length := by have := HL.out; omega
      by_cases hN5 : N < 5000
      · rcases HV.out with ⟨h0, _⟩ | ⟨g, o, c, hg, hcs⟩
        · have := HL.out; rw [h0] at this; simp at this; omega
        · obtain ⟨-, q1, -, -⟩ := hcs k hkl
          clear hcs
          have hdr : l.drop k = l[k] :: l.drop (k + 1) := List.drop_eq_getElem_cons hkl
          have hrun := HE.out
          rw [hdr, lng, if_pos hN5] at hrun
          have hpw := (HW.out l[k] (List.getElem_mem hkl)).t
          generalize l[k] = P at *
          have HRN := Lib.hid hrun
          clear hdr hrun
          cases hg
          have hps : (P.t.size : Int) ≤ 9223372036854775807 := by unfold maxLen at hpw; omega
          obtain ⟨m, hm⟩ : ∃ m, min P.t.size 5000 = m := ⟨_, rfl⟩
          have hmi : min (P.t.size : Int) 5000 = (m : Int) := by omega
          have hm5 : m ≤ 5000 := by omega
          rw [hm] at HRN
          have HM := Lib.hid hm
          clear hm hpw
          go_wp2
          go_round
          case rel => exact ⟨k + 1, N + 70 + m, by go_num, by go_num, by omega, by omega, HRN⟩
          case measure => simp [intOf]; omega
      · have HR : Hid (lng (l.drop k) N = N) := by
          have hdr : l.drop k = l[k] :: l.drop (k + 1) := List.drop_eq_getElem_cons hkl
          exact Lib.hid (by rw [hdr, lng, if_neg hN5])
        go_wp2
        go_ret
        refine ⟨?_, rfl⟩
        have e := HE.out
        rw [HR.out] at e
        rw [← e]
        simp
        omega
    · obtain rfl : k = L := by omega
      have HR : Hid (N = lng l 0) := Lib.hid (by
        have := HE.out
        rw [List.drop_of_length_le (by have := HL.out; omega), lng] at this
        exact this)
      go_wp2
      go_ret
      refine ⟨?_, rfl⟩
      rw [← HR.out]
      simp
      omega
set_option maxRecDepth 100000 in
set_option maxHeartbeats 2000000 in
/-- The same parts, of one package and of the other. -/
theorem same_any (l : List Pt) (hl : l.length ≤ 1000000000) (v u : Value) (w : World) (hv : PartsAt w v l) (hu : ArgAt w u l) :
    Calls Try.prog 24 #[v, u] w fun e w' => e = .returned (.bool true) ∧ Below w.heap.size w w' := by
  have HV := Lib.hid hv
  have HU := Lib.hid hu
  obtain ⟨va, vc, hv2⟩ := hv.slice
  obtain ⟨ua, uc, hu2⟩ := hu.slice
  clear hv hu
  generalize hL : l.length = L at *
  have HL := Lib.hid hL
  clear hL
  subst hv2
  subst hu2
  have hLL : (L != L) = false := by simp
  go_enter Try.func24, Try.ntmps24
  go_wp2
  go_loopw [5] (fun i wr => ∃ k : Nat, i = .int .i64 (k : Int) ∧ k ≤ L ∧ Hid (Below w.heap.size w wr)) (fun i _ => L - (intOf i).toNat)
  case atStart => exact ⟨0, rfl, by omega, Lib.hid (Below.refl _ _)⟩
  case round =>
    obtain ⟨k, rfl, hk, HB⟩ := hrel
    by_cases hlt : k < L
    · have hkl : k < l.length := by have := HL.out; omega
      rcases (HV.out.below HB.out rfl) with ⟨h0, _⟩ | ⟨g, c, hg, hcs⟩
      · have := HL.out; rw [h0] at this; simp at this; omega
      rcases (HU.out.below HB.out rfl) with ⟨h0, _⟩ | ⟨g2, o2, c2, hg2, hcs2⟩
      · have := HL.out; rw [h0] at this; simp at this; omega
      obtain ⟨q0, q1, q2, q3⟩ := hcs k hkl
      obtain ⟨r0, r1, r2, r3⟩ := hcs2 k hkl
      clear hcs hcs2
      generalize l[k] = P at *
      obtain ⟨pc, pt, po, pl⟩ := P
      dsimp only at q0 q1 q2 q3 r0 r1 r2 r3
      cases hg
      cases hg2
      have e0 : (pc != pc) = false := by simp
      have e1 : (pt.toList != pt.toList) = false := by simp
      have e2 : (po != po) = false := by simp
      have e3 : (pl != pl) = false := by simp
      go_wp2
      go_big_quiet (fail)
      go_wp2
      go_roundw
      case rel => exact ⟨k + 1, by go_num, by omega, Lib.hid (below_drewN HB.out _)⟩
      case measure => simp [intOf]; omega
    · obtain rfl : k = L := by omega
      go_wp2
      go_ret
      exact ⟨rfl, HB.out⟩
end Go.Proofs.Ytnnogjojoeajnaa
