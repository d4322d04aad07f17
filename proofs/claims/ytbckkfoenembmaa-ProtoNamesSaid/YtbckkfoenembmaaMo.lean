/- The laws' own mathematics: fields opened, made, plain, written and read. -/
import Derived.Test.YtbckkfoenembmaaPn
import Derived.Test.YtbckkfoenembmaaLg
import Derived.Test.YtbckkfoenembmaaWt
import Derived.Test.YtbckkfoenembmaaSs
namespace Go.Proofs.Ytbckkfoenembmaa
open Go.ChangeShapes Go.WideShapes Go.Deep Go.RowKit
section
variable {H : Type} {enc : TypeId × Value → H} {P : Program} {w : World} {base : Nat} {spare : Nat → Bool} {held : Bool}
/-- Each field of each element stands in its own cell, and reads as its type says. -/
theorem open_rows {t e : TypeId} {fs : Array Field} {fuel : Nat} {v : Value} {x : DataW H × List MemPlace} (ht : P.underlying t = some (.slice e)) (he : P.underlying e = some (.struct fs)) (hone : oneCellFields P fs = true)
    (hC : P.cellsOf e = fs.size) (hp : 0 < fs.size) (h : DataW.trod enc P w base spare held fuel t [v] = some x) :
    v = .slice none 0 0 ∨ ∃ (a : Addr) (len cap : Nat), v = .slice (some a) len cap ∧ len ≤ cap ∧ cap ≤ maxLen ∧ (len = 0 ∨ a.spot = none) ∧
      ∀ i, i < len → ∀ (j : Nat) (f : Field), fs[j]? = some f → ∃ (u : Value) (n : Nat) (y : DataW H × List MemPlace), w.cell? (a.add (i * fs.size + j)) = some u ∧ DataW.trod enc P w base spare held n f.type [u] = some y := by
  rcases open_slice ht h with ⟨h0, _⟩ | ⟨a, len, cap, m, n, D, Pl, hcs, _, hl, hm, hmm, _, hi⟩
  · exact .inl (by simpa using h0)
  · have hlm : len ≤ m := by rw [hmm]; split <;> omega
    have key : ∀ i, i < len → ∀ (j : Nat) (f : Field), fs[j]? = some f → ∃ (u : Value) (n : Nat) (y : DataW H × List MemPlace), w.cell? (a.add (i * fs.size + j)) = some u ∧ DataW.trod enc P w base spare held n f.type [u] = some y := by
      intro i hil j f hj
      obtain ⟨cs', hc, ht'⟩ := hi i (by omega)
      rw [hC] at hc
      obtain ⟨ys, n', _, _, _, hyl, hf⟩ := DataW.trod_struct he ht'
      obtain ⟨_, hcl, hat⟩ := World.cells?_some hc
      obtain ⟨ho, hk⟩ := hone_of hone j f hj
      have hjl : j < fs.size := (Array.getElem?_eq_some_iff.1 hj).1
      have h1 := hf j f hj
      have hlt : j < cs'.length := by omega
      rw [ho, hk, List.drop_eq_getElem_cons hlt, List.take_succ_cons, List.take_zero, List.getElem?_eq_getElem (by omega)] at h1
      refine ⟨_, n', _, ?_, h1⟩
      rw [← Go.Deep.add_add, hat j hjl, List.getElem?_eq_getElem hlt]
    refine .inr ⟨a, len, cap, by simpa using hcs, hl, hm, ?_, key⟩
    rcases Nat.eq_zero_or_pos len with h0 | h0
    · exact .inl h0
    · right
      obtain ⟨u, _, _, hu, _⟩ := key 0 h0 0 fs[0] (by simp [hp])
      simpa [Addr.add] using World.cell?_spot hu
end
theorem rd_ok {s : ByteArray} (hs : s.size ≤ 1000000) : ∀ f ∈ (msg s.data.toList []).1.map gfd, f.v.ok := by
  have hl : s.data.toList.length = s.size := by simp
  obtain ⟨M, E, hME⟩ : ∃ M E, msg s.data.toList [] = (M, E) := ⟨_, _, rfl⟩
  rw [hME]
  intro f hf
  obtain ⟨d, hd, rfl⟩ := List.mem_map.1 hf
  have hE := msg_err s.data.toList.length s.data.toList [] (Nat.le_refl _) (by omega)
  rw [hME] at hE
  rcases hE with h | h | h
  · dsimp only at h
    subst h
    obtain ⟨gs, h1, h2, h3⟩ := msg_facts _ _ _ _ (Nat.le_refl _) (by omega) hME
    rw [List.nil_append] at h1
    subst h1
    have hdo := h2 d hd
    obtain ⟨h4, h5, h6, h7, h8⟩ := hdo
    have hby : (fby d).length ≤ s.size := by
      have : (fby d).length ≤ (M.flatMap fby).length := by
        obtain ⟨a, b, rfl⟩ := List.append_of_mem hd
        rw [List.flatMap_append, List.flatMap_cons, List.length_append, List.length_append]
        omega
      omega
    unfold gfd vlOf
    dsimp only
    by_cases h0 : d.w = 0
    · rw [if_pos h0]; exact h5 (.inl h0)
    · rw [if_neg h0]
      by_cases h1 : d.w = 1
      · rw [if_pos h1]; exact h5 (.inr h1)
      · rw [if_neg h1]
        by_cases h2 : d.w = 2
        · rw [if_pos h2]
          show d.t.length ≤ _
          unfold fby vby at hby
          rw [if_neg h0, if_neg h1, if_pos h2, List.length_append, List.length_append] at hby
          omega
        · rw [if_neg h2]
          obtain ⟨-, -, hw⟩ := mayk_w h4
          exact h6 (by omega)
  · cases h; cases hd
  · cases h; cases hd
theorem rd_plain : ∀ (l : List Fd), (∀ f ∈ l, f.ok) → (l.map gfd).map plain1 = l.map ffd
  | [], _ => rfl
  | f :: r, h => by
    rw [List.map_cons, List.map_cons, List.map_cons, rd_plain r (fun g hg => h g (by simp [hg]))]
    congr 1
    obtain ⟨h4, h5, h6, h7, h8⟩ := h f (by simp)
    obtain ⟨-, -, hw⟩ := mayk_w h4
    obtain ⟨n, w, v, t⟩ := f
    dsimp only at *
    rcases hw with rfl | rfl | rfl | rfl
    · rw [h8 (by decide)]; rfl
    · rw [h8 (by decide)]; rfl
    · rw [(h7 rfl).1]; rfl
    · rw [h8 (by decide)]; rfl
theorem rd_all {s : ByteArray} (hs : s.size ≤ 1000000) : ∀ f ∈ (msg s.data.toList []).1, f.ok := by
  have hl : s.data.toList.length = s.size := by simp
  obtain ⟨M, E, hME⟩ : ∃ M E, msg s.data.toList [] = (M, E) := ⟨_, _, rfl⟩
  rw [hME]
  intro f hf
  have hE := msg_err s.data.toList.length s.data.toList [] (Nat.le_refl _) (by omega)
  rw [hME] at hE
  rcases hE with h | h | h
  · dsimp only at h
    subst h
    obtain ⟨gs, h1, h2, h3⟩ := msg_facts _ _ _ _ (Nat.le_refl _) (by omega) hME
    rw [List.nil_append] at h1
    subst h1
    exact h2 f hf
  · cases h; cases hf
  · cases h; cases hf
theorem rd_len {s : ByteArray} (hs : s.size ≤ 1000000) : (msg s.data.toList []).1.length ≤ s.size := by
  have hl : s.data.toList.length = s.size := by simp
  obtain ⟨M, E, hME⟩ : ∃ M E, msg s.data.toList [] = (M, E) := ⟨_, _, rfl⟩
  rw [hME]
  have hE := msg_err s.data.toList.length s.data.toList [] (Nat.le_refl _) (by omega)
  rw [hME] at hE
  rcases hE with h | h | h
  · dsimp only at h
    subst h
    obtain ⟨gs, h1, h2, h3⟩ := msg_facts _ _ _ _ (Nat.le_refl _) (by omega) hME
    rw [List.nil_append] at h1
    subst h1
    have : ∀ l : List Fd, l.length ≤ (l.flatMap fby).length := fun l => by
      induction l with
      | nil => simp
      | cons f r ih => rw [List.flatMap_cons, List.length_append, List.length_cons]; have := fby_pos f; omega
    have := this M
    show M.length ≤ s.size
    omega
  · cases h; simp
  · cases h; simp
theorem one47 : oneCellFields Try.prog #[{ name := "Num", type := 3, offset := 0, embedded := false, tag := "", pkgPath := "", byteOffset := 0 }, { name := "Wire", type := 5, offset := 1, embedded := false, tag := "", pkgPath := "", byteOffset := 8 }, { name := "N", type := 45, offset := 2, embedded := false, tag := "", pkgPath := "", byteOffset := 16 }, { name := "Text", type := 9, offset := 3, embedded := false, tag := "", pkgPath := "", byteOffset := 24 }] = true := by kernel_rfl
def Arg (w : World) (v : Value) (l : List Ff) : Prop := FAt w v l ∧ l.length ≤ maxLen ∧ ∀ p ∈ l, p.wide
set_option maxRecDepth 100000 in
theorem open_fields {H : Type} {enc : TypeId × Value → H} {w : World} {base b0 : Nat} {spare : Nat → Bool} {held : Bool} {r : Reach} {v : Value} {d : DataW H} {p : List MemPlace} (hv : Value.okWide Try.prog w r b0 23 v) (h : DataW.Trod enc Try.prog w base spare held 23 v d p) : ∃ l : List Ff, Arg w v l := by
  obtain ⟨a0, l0, c0, rfl⟩ := okWide_slice Try.underlying23 hv
  obtain ⟨fuel, hf⟩ := h
  rcases open_rows Try.underlying23 Try.underlying47 one47 (by kernel_rfl) (by decide) hf with h0 | ⟨a, len, cap, h0, hlc, hcm, hsp, hk⟩
  · cases h0; exact ⟨[], .inl ⟨rfl, _, _, rfl⟩, Nat.zero_le _, fun p hp => by cases hp⟩
  · cases h0
    rcases Nat.eq_zero_or_pos l0 with h0 | h0
    · subst h0; exact ⟨[], .inl ⟨rfl, _, _, rfl⟩, Nat.zero_le _, fun p hp => by cases hp⟩
    · obtain ⟨b, off, spot⟩ := a
      have hs : spot = none := by rcases hsp with h | h; · omega
                                  · exact h
      subst hs
      have hq : ∀ i, i < l0 → ∃ q : Ff, w.cell? ⟨b, off + (i * 4 + 0), none⟩ = some (.int .i64 q.n) ∧ w.cell? ⟨b, off + (i * 4 + 1), none⟩ = some (.int .u8 q.w) ∧ w.cell? ⟨b, off + (i * 4 + 2), none⟩ = some (.int .u64 q.v) ∧ w.cell? ⟨b, off + (i * 4 + 3), none⟩ = some (.string q.t) ∧ q.wide := by
        intro i hi
        obtain ⟨u0, n0, y0, e0, g0⟩ := hk i hi 0 _ rfl
        obtain ⟨u1, n1, y1, e1, g1⟩ := hk i hi 1 _ rfl
        obtain ⟨u2, n2, y2, e2, g2⟩ := hk i hi 2 _ rfl
        obtain ⟨u3, n3, y3, e3, g3⟩ := hk i hi 3 _ rfl
        obtain ⟨z0, k0, _, f0⟩ := DataW.trod_int Try.underlying3 g0
        obtain ⟨z1, k1, _, f1⟩ := DataW.trod_int Try.underlying5 g1
        obtain ⟨z2, k2, _, f2⟩ := DataW.trod_int Try.underlying45 g2
        obtain ⟨z3, k3, _, f3⟩ := DataW.trod_string Try.underlying9 g3
        simp only [List.cons.injEq, and_true] at k0 k1 k2 k3
        subst k0 k1 k2 k3
        rw [Go.WideShapes.add_plain] at e0 e1 e2 e3
        have hb0 := Go.bounds_i64 f0
        have hb1 := Go.bounds_u8 f1
        have hb2 := Go.bounds_u64 f2
        obtain ⟨z1, rfl⟩ := Int.eq_ofNat_of_zero_le (a := z1) (by omega)
        obtain ⟨z2, rfl⟩ := Int.eq_ofNat_of_zero_le (a := z2) (by omega)
        exact ⟨⟨z0, z1, z2, z3⟩, e0, e1, e2, e3, ⟨hb0.1, by have := hb0.2; show z0 ≤ _; omega, by show z1 < 256; omega, by show z2 < _; omega, f3⟩⟩
      have : ∀ i : Fin l0, ∃ q : Ff, w.cell? ⟨b, off + (i.1 * 4 + 0), none⟩ = some (.int .i64 q.n) ∧ w.cell? ⟨b, off + (i.1 * 4 + 1), none⟩ = some (.int .u8 q.w) ∧ w.cell? ⟨b, off + (i.1 * 4 + 2), none⟩ = some (.int .u64 q.v) ∧ w.cell? ⟨b, off + (i.1 * 4 + 3), none⟩ = some (.string q.t) ∧ q.wide := fun i => hq i.1 i.2
      obtain ⟨q, hq'⟩ := Classical.axiomOfChoice this
      refine ⟨List.ofFn q, .inr ⟨b, off, c0, by rw [List.length_ofFn], fun j hj => ?_⟩, by rw [List.length_ofFn]; omega, fun p hp => ?_⟩
      · rw [List.length_ofFn] at hj
        have e := hq' ⟨j, hj⟩
        rw [List.getElem_ofFn]
        exact ⟨by simpa using e.1, by rw [Nat.add_assoc]; exact e.2.1, by rw [Nat.add_assoc]; exact e.2.2.1, by rw [Nat.add_assoc]; exact e.2.2.2.1⟩
      · obtain ⟨i, rfl⟩ := (List.mem_ofFn ..).1 hp
        exact (hq' i).2.2.2.2
/-- How much all fields have. -/
def tot : List Ff → Nat
  | [] => 0
  | f :: r => f.t.size + 20 + tot r
theorem lng_tot : ∀ (l : List Ff) (n : Nat), lng l n < 10000 → tot l + n < 10000
  | [], n, h => by simpa [lng, tot] using h
  | p :: r, n, h => by
    have h2 := (lng_short (p :: r) n h).2 p (by simp)
    rw [lng] at h
    split at h
    · have := lng_tot r _ h
      rw [tot]
      omega
    · omega
theorem rwk_len : ∀ (l : List Ff) (b : List UInt8), (∀ f ∈ l, f.ok) → (rwk l b).1.length ≤ b.length + tot l
  | [], b, _ => by simp [rwk, tot]
  | f :: r, b, h => by
    rw [rwk, tot]
    split
    · rename_i hm
      have h1 := rwk_len r (b ++ f.by) (fun x hx => h x (by simp [hx]))
      have h2 := Ff.by_le f (h f (by simp)) hm
      rw [List.length_append] at h1
      omega
    · simp
/-- Fields that are not too large. -/
structure Fit (l : List Ff) : Prop where
  len : l.length ≤ 500
  ok : ∀ f ∈ l, f.ok
  t : ∀ f ∈ l, f.t.size < 10000
  tot : tot l < 10000
theorem fit_of {l : List Ff} (hw : ∀ p ∈ l, p.wide) (h : lng l 0 < 10000) : Fit l := by
  obtain ⟨h1, h2⟩ := lng_short l 0 h
  refine ⟨by omega, fun f hf => ?_, h2, by have := lng_tot l 0 h; omega⟩
  have h3 := hw f hf
  have h4 := h2 f hf
  exact ⟨h3.n0, h3.n1, h3.w, h3.v, by omega⟩
theorem made_may (f : Ff) : (made1 f).may = f.may := by
  rw [Bool.eq_iff_iff, Gf.may_iff, Ff.may_iff]
  unfold made1
  dsimp only
  by_cases h0 : f.w = 0
  · rw [if_pos h0]; simp [Vl.is, h0]
  · rw [if_neg h0]
    by_cases h1 : f.w = 1
    · rw [if_pos h1]; simp [Vl.is, h1]
    · rw [if_neg h1]
      by_cases h2 : f.w = 2
      · rw [if_pos h2]; simp [Vl.is, h2]
      · rw [if_neg h2]
        by_cases h3 : f.w = 3
        · rw [if_pos h3]; simp [Vl.is, h3]
        · rw [if_neg h3]
          by_cases h5 : f.w = 5
          · rw [if_pos h5]; simp [Vl.is, h5]
          · rw [if_neg h5]; simp [Vl.is, h0, h1, h2, h5]
theorem made_by (f : Ff) (hm : f.may = true) : (made1 f).by = f.by ∧ (made1 f).v.w = f.w ∧ (made1 f).v.by = f.vb ∧ (made1 f).v.z = f.vb.length := by
  obtain ⟨-, hw⟩ := Ff.may_iff.1 hm
  have h2 : (made1 f).v.w = f.w ∧ (made1 f).v.by = f.vb ∧ (made1 f).v.z = f.vb.length := by
    unfold made1 Ff.vb
    dsimp only
    rcases hw with h | h | h | h
    · rw [if_pos h, if_pos h, h]; exact ⟨rfl, rfl, by simp [Vl.z, Bt.vint_length]⟩
    · rw [if_neg (by omega), if_pos h, if_neg (by omega), if_pos h, h]; exact ⟨rfl, rfl, by simp [Vl.z, Bt.fx_length]⟩
    · rw [if_neg (by omega), if_neg (by omega), if_pos h, if_neg (by omega), if_neg (by omega), if_pos h, h]; exact ⟨rfl, rfl, by simp [Vl.z, Bt.vint_length]⟩
    · rw [if_neg (by omega), if_neg (by omega), if_neg (by omega), if_neg (by omega), if_pos h, if_neg (by omega), if_neg (by omega), if_neg (by omega), h]
      exact ⟨rfl, Bt.fx4_mod f.v, by simp [Vl.z, Bt.fx_length]⟩
  refine ⟨?_, h2⟩
  unfold Gf.by Ff.by
  rw [h2.1, h2.2.1]
  rfl
theorem made_size (f : Ff) : (made1 f).size = f.size := by
  unfold Gf.size Ff.size
  rw [made_may]
  split
  · rename_i hm
    obtain ⟨h1, h2, h3, h4⟩ := made_by f hm
    unfold Ff.by
    rw [h2, h4, List.length_append, Bt.vint_length]
    rfl
  · rfl
theorem made_ok {f : Ff} (h : f.ok) : (made1 f).ok := by
  refine ⟨h.n0, h.n1, ?_⟩
  have hv := h.v
  have ht := h.t
  unfold made1
  dsimp only
  repeat' split
  · exact hv
  · exact hv
  · exact ht
  · trivial
  · show _ % 4294967296 < 4294967296
    omega
  · trivial
theorem made_by_le {f : Ff} (h : f.ok) (ht : f.t.size < 10000) : (made1 f).v.by.length ≤ 10010 := by
  have hv := h.v
  have h2 := Bt.vlen_u64 (n := f.v) hv
  have h3 := Bt.vlen_u64 (n := f.t.size) (by omega)
  unfold made1
  dsimp only
  repeat' split
  · show (Bt.vint f.v).length ≤ _
    rw [Bt.vint_length]; omega
  · show (Bt.fx 8 f.v).length ≤ _
    rw [Bt.fx_length]; omega
  · show (Bt.vint f.t.size ++ f.t.data.toList).length ≤ _
    rw [List.length_append, Bt.vint_length]; simp; omega
  · simp [Vl.by]
  · show (Bt.fx 4 _).length ≤ _
    rw [Bt.fx_length]; omega
  · simp [Vl.by]
theorem wrk_made : ∀ (l : List Ff) (b : List UInt8), wrk (l.map made1) b = rwk l b
  | [], b => rfl
  | f :: r, b => by
    rw [List.map_cons, wrk, rwk, made_may]
    split
    · rename_i hm
      rw [(made_by f hm).1, wrk_made r]
    · rfl
/-- A field of the program as a field of a message. -/
def fdg (g : Gf) : Fd := ⟨g.n.toNat, g.v.w, match g.v with | .va n => n | .ei n => n | .fo n => n | _ => 0, match g.v with | .tx t => t.data.toList | _ => []⟩
theorem fdg_ok {g : Gf} (hm : g.may = true) (ho : g.ok) : (fdg g).ok ∧ fby (fdg g) = g.by ∧ gfd (fdg g) = g := by
  obtain ⟨n, x⟩ := g
  obtain ⟨⟨h1, h2⟩, h3⟩ := Gf.may_iff.1 hm
  have h4 := ho.v
  dsimp only at h1 h2 h3 h4
  obtain ⟨n, rfl⟩ := Int.eq_ofNat_of_zero_le (a := n) (by omega)
  have hk : ∀ w, (w = 0 ∨ w = 1 ∨ w = 2 ∨ w = 5) → mayk ((n : Int)).toNat w = true := fun w hw => by
    unfold mayk
    rw [decide_eq_true (by omega), decide_eq_true hw]
    rfl
  cases x with
  | va m => exact ⟨⟨hk 0 (by omega), fun _ => h4, fun e => (by cases e), fun e => (by cases e), fun _ => rfl⟩, rfl, rfl⟩
  | ei m => exact ⟨⟨hk 1 (by omega), fun _ => h4, fun e => (by cases e), fun e => (by cases e), fun _ => rfl⟩, rfl, rfl⟩
  | tx t =>
    refine ⟨⟨hk 2 (by omega), fun e => (by rcases e with e | e <;> cases e), fun e => (by cases e), fun _ => ⟨rfl, ?_⟩, fun e => absurd rfl e⟩, rfl, ?_⟩
    · have h4 : t.size ≤ 1000000000000 := h4
      show t.data.toList.length < _
      simp
      omega
    · show (⟨((n : Int).toNat : Int), .tx (bs t.data.toList)⟩ : Gf) = ⟨(n : Int), .tx t⟩
      rw [bs_of]
      rfl
  | fo m => exact ⟨⟨hk 5 (by omega), fun e => (by rcases e with e | e <;> cases e), fun _ => h4, fun e => (by cases e), fun _ => rfl⟩, rfl, rfl⟩
  | no => cases h3
  | an k => cases h3
theorem gfd_ok {f : Fd} (h : f.ok) (ht : f.t.length ≤ 1000000000000) : (gfd f).may = true ∧ (gfd f).ok ∧ fdg (gfd f) = f := by
  obtain ⟨n, w, v, t⟩ := f
  obtain ⟨h1, h2, h3, h4, h5⟩ := h
  dsimp only at h2 h3 h4 h5 ht
  obtain ⟨g1, g2, hw⟩ := mayk_w h1
  dsimp only at g1 g2 hw
  rcases hw with rfl | rfl | rfl | rfl
  · rw [h5 (by decide)]
    exact ⟨Gf.may_iff.2 ⟨⟨by show (1 : Int) ≤ n; omega, by show (n : Int) ≤ _; omega⟩, rfl⟩, ⟨by show _ ≤ (n : Int); omega, by show (n : Int) ≤ _; omega, h2 (.inl rfl)⟩, rfl⟩
  · rw [h5 (by decide)]
    exact ⟨Gf.may_iff.2 ⟨⟨by show (1 : Int) ≤ n; omega, by show (n : Int) ≤ _; omega⟩, rfl⟩, ⟨by show _ ≤ (n : Int); omega, by show (n : Int) ≤ _; omega, h2 (.inr rfl)⟩, rfl⟩
  · obtain ⟨rfl, -⟩ := h4 rfl
    exact ⟨Gf.may_iff.2 ⟨⟨by show (1 : Int) ≤ n; omega, by show (n : Int) ≤ _; omega⟩, rfl⟩, ⟨by show _ ≤ (n : Int); omega, by show (n : Int) ≤ _; omega, ht⟩, rfl⟩
  · rw [h5 (by decide)]
    exact ⟨Gf.may_iff.2 ⟨⟨by show (1 : Int) ≤ n; omega, by show (n : Int) ≤ _; omega⟩, rfl⟩, ⟨by show _ ≤ (n : Int); omega, by show (n : Int) ≤ _; omega, h3 rfl⟩, rfl⟩
theorem wrk_all : ∀ (l : List Gf) (b : List UInt8), (∀ g ∈ l, g.may = true ∧ g.ok) → wrk l b = (b ++ (l.map fdg).flatMap fby, 0)
  | [], b, _ => by simp [wrk]
  | g :: r, b, h => by
    obtain ⟨h1, h2⟩ := h g (by simp)
    rw [wrk, if_pos h1, wrk_all r _ (fun x hx => h x (by simp [hx])), List.map_cons, List.flatMap_cons, (fdg_ok h1 h2).2.1, List.append_assoc]
theorem wrk_not : ∀ (l : List Gf) (b : List UInt8), (¬ ∀ g ∈ l, g.may = true) → wrk l b = ([], 4)
  | [], b, h => absurd (fun g hg => by cases hg) h
  | g :: r, b, h => by
    rw [wrk]
    split
    · rename_i h1
      refine wrk_not r _ (fun h2 => h fun x hx => ?_)
      rcases List.mem_cons.1 hx with rfl | hx
      · exact h1
      · exact h2 x hx
    · rfl
theorem whl_iff : ∀ (l : List Ff), whl l = true ↔ ∀ f ∈ l, f.may = true
  | [] => by simp [whl]
  | f :: r => by
    rw [whl]
    split
    · rename_i h
      rw [whl_iff r]
      constructor
      · intro h2 x hx
        rcases List.mem_cons.1 hx with rfl | hx
        · exact h
        · exact h2 x hx
      · exact fun h2 x hx => h2 x (by simp [hx])
    · rename_i h
      constructor
      · intro e; cases e
      · exact fun h2 => absurd (h2 f (by simp)) h
theorem map_id_of {α β : Type} (f : α → β) (g : β → α) : ∀ (l : List α), (∀ x ∈ l, g (f x) = x) → (l.map f).map g = l
  | [], _ => rfl
  | x :: r, h => by rw [List.map_cons, List.map_cons, h x (by simp), map_id_of f g r (fun y hy => h y (by simp [hy]))]
/-- What Write makes, Read reads. -/
theorem back_all (l : List Gf) (h : ∀ g ∈ l, g.may = true ∧ g.ok) : (wrk l []).2 = 0 ∧ msg (wrk l []).1 [] = (l.map fdg, 0) ∧ (l.map fdg).map gfd = l := by
  rw [wrk_all l [] h]
  refine ⟨rfl, ?_, map_id_of fdg gfd l fun g hg => (fdg_ok (h g hg).1 (h g hg).2).2.2⟩
  dsimp only
  rw [List.nil_append]
  refine msg_write _ fun f hf => ?_
  obtain ⟨g, hg, rfl⟩ := List.mem_map.1 hf
  exact (fdg_ok (h g hg).1 (h g hg).2).1
theorem fd_t_le {d : Fd} {M : List Fd} (hd : d ∈ M) : d.t.length ≤ (M.flatMap fby).length ∨ d.w ≠ 2 := by
  by_cases h2 : d.w = 2
  · left
    have : (fby d).length ≤ (M.flatMap fby).length := by
      obtain ⟨a, b, rfl⟩ := List.append_of_mem hd
      rw [List.flatMap_append, List.flatMap_cons, List.length_append, List.length_append]
      omega
    generalize (M.flatMap fby).length = X at *
    unfold fby vby at this
    rw [if_neg (by omega), if_neg (by omega), if_pos h2, List.length_append, List.length_append] at this
    omega
  · exact .inr h2
/-- What Read reads, Write writes, by no more bytes. -/
theorem read_all {s : ByteArray} (hs : s.size ≤ 1000000) {M : List Fd} (h : msg s.data.toList [] = (M, 0)) :
    (∀ g ∈ M.map gfd, g.may = true ∧ g.ok) ∧ (M.map gfd).map fdg = M ∧ (M.flatMap fby).length ≤ s.size ∧ (∀ g ∈ M.map gfd, g.v.by.length ≤ 1000000) := by
  have hl : s.data.toList.length = s.size := by simp
  obtain ⟨gs, h1, h2, h3⟩ := msg_facts _ _ _ _ (Nat.le_refl _) (by omega) h
  rw [List.nil_append] at h1
  subst h1
  have ht : ∀ f ∈ M, f.t.length ≤ 1000000000000 := fun f hf => by
    rcases fd_t_le hf with h | h
    · omega
    · rw [(h2 f hf).t2 h]; simp
  refine ⟨fun g hg => ?_, map_id_of gfd fdg M fun f hf => (gfd_ok (h2 f hf) (ht f hf)).2.2, by omega, fun g hg => ?_⟩
  · obtain ⟨f, hf, rfl⟩ := List.mem_map.1 hg
    exact ⟨(gfd_ok (h2 f hf) (ht f hf)).1, (gfd_ok (h2 f hf) (ht f hf)).2.1⟩
  · obtain ⟨f, hf, rfl⟩ := List.mem_map.1 hg
    have h4 := (fdg_ok (gfd_ok (h2 f hf) (ht f hf)).1 (gfd_ok (h2 f hf) (ht f hf)).2.1).2.1
    rw [(gfd_ok (h2 f hf) (ht f hf)).2.2] at h4
    have : (fby f).length ≤ (M.flatMap fby).length := by
      obtain ⟨a, b, rfl⟩ := List.append_of_mem hf
      rw [List.flatMap_append, List.flatMap_cons, List.length_append, List.length_append]
      omega
    rw [h4] at this
    unfold Gf.by at this
    rw [List.length_append] at this
    omega
end Go.Proofs.Ytbckkfoenembmaa
