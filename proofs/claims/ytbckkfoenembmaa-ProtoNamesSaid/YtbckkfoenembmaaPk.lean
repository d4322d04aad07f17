/- What ProtoPicks stands on: the opening of whole numbers, the state that is kept, the calls. -/
import Derived.Test.YtbckkfoenembmaaTx
import Derived.Test.YtbckkfoenembmaaAw
import Derived.Test.YtbckkfoenembmaaFs
import Derived.ChangeSlices
import Derived.OpenShut
namespace Go.Proofs.Ytbckkfoenembmaa
open Go.ChangeShapes Go.WideShapes Go.RowKit
/-- Whole numbers that are given. -/
def Kn (w : World) (v : Value) (l : List Int) : Prop := IAt w v l ∧ l.length ≤ maxLen ∧ ∀ x ∈ l, (Lit.int .i64 x).wf = true
set_option maxRecDepth 100000 in
theorem open_known {H : Type} {enc : TypeId × Value → H} {w : World} {base b0 : Nat} {spare : Nat → Bool} {held : Bool} {r : Reach} {v : Value} {d : DataW H} {p : List MemPlace} (hv : Value.okWide Try.prog w r b0 50 v) (h : DataW.Trod enc Try.prog w base spare held 50 v d p) : ∃ l : List Int, Kn w v l := by
  obtain ⟨a0, l0, c0, rfl⟩ := okWide_slice Try.underlying50 hv
  obtain ⟨fuel, hf⟩ := h
  rcases open_ints Try.underlying50 Try.underlying3 (by kernel_rfl) hf with ⟨h0, _⟩ | ⟨a, len, cap, zs, h0, _, hl, hm, hz, _, hc, hw⟩
  · cases h0
    exact ⟨[], .inl ⟨rfl, _, _, rfl⟩, Nat.zero_le _, fun p hp => by cases hp⟩
  · cases h0
    have hlz : l0 ≤ zs.length := by rw [hz]; split <;> omega
    rcases Nat.eq_zero_or_pos l0 with h0 | h0
    · subst h0; exact ⟨[], .inl ⟨rfl, _, _, rfl⟩, Nat.zero_le _, fun p hp => by cases hp⟩
    · obtain ⟨b, off, spot⟩ := a
      have hs : spot = none := by simpa [Addr.add] using World.cell?_spot (hc 0 (by omega))
      subst hs
      have hlen : (zs.take l0).length = l0 := by rw [List.length_take]; omega
      refine ⟨zs.take l0, .inr ⟨b, off, c0, by rw [hlen], fun j hj => ?_⟩, by omega, fun x hx => hw x (List.mem_of_mem_take hx)⟩
      have hj2 : j < zs.length := by rw [hlen] at hj; omega
      have := hc j hj2
      rw [Go.WideShapes.add_plain] at this
      rw [this, List.getElem_take, List.getD_eq_getElem?_getD, List.getElem?_eq_getElem hj2]
      rfl
theorem cells_new1 (W : World) (x : Value) (t : TypeId) : ∀ j u, [x][j]? = some u → (W.alloc (.cells #[x] t)).cell? ((⟨W.heap.size, 0, none⟩ : Addr).add j) = some u := by
  intro j u hj
  have hadd : (⟨W.heap.size, 0, none⟩ : Addr).add j = ⟨W.heap.size, j, none⟩ := by unfold Addr.add; split <;> simp_all
  rw [hadd, World.cell?_alloc_mark]
  match j, hj with
  | 0, hj => exact hj
theorem Try.info45 : (Try.prog.info? 45).map (fun i => (i.zero, i.size, i.bytes)) = some (some (.int .u64 0), 1, 8) := by kernel_rfl
/-- What is kept from call to call. -/
structure St (w W : World) (G : List (Value × List Gf)) (F : List (Value × List Ff)) (V : List (Value × List Value)) (I : List (Value × List Int)) : Prop where
  b : Below w.heap.size w W
  g : ∀ p ∈ G, GAt W p.1 p.2
  f : ∀ p ∈ F, FAt W p.1 p.2
  v : ∀ p ∈ V, VAt W p.1 p.2
  i : ∀ p ∈ I, IAt W p.1 p.2
theorem St.mk0 {w : World} {v u : Value} {l : List Ff} {k : List Int} (h : FAt w v l) (hk : IAt w u k) : St w w [] [(v, l)] [] [(u, k)] :=
  ⟨Below.refl _ _, fun p hp => (by cases hp), fun p hp => (by rcases List.mem_singleton.1 hp with rfl; exact h), fun p hp => (by cases hp), fun p hp => (by rcases List.mem_singleton.1 hp with rfl; exact hk)⟩
section
variable {w W W' : World} {G : List (Value × List Gf)} {F : List (Value × List Ff)} {V : List (Value × List Value)} {I : List (Value × List Int)}
theorem St.below (h : St w W G F V I) (hb : Below W.heap.size W W') : St w W' G F V I :=
  ⟨below_trans' h.b hb, fun p hp => (h.g p hp).below hb (Nat.le_refl _), fun p hp => (h.f p hp).below hb (Nat.le_refl _), fun p hp => (h.v p hp).below hb (Nat.le_refl _), fun p hp => (h.i p hp).below hb (Nat.le_refl _)⟩
theorem St.addG {x : Value} {l : List Gf} (h : St w W G F V I) (k : GAt W x l) : St w W ((x, l) :: G) F V I :=
  ⟨h.b, fun p hp => (List.mem_cons.1 hp).elim (fun e => by rw [e]; exact k) (fun q => h.g p q), h.f, h.v, h.i⟩
theorem St.addF {x : Value} {l : List Ff} (h : St w W G F V I) (k : FAt W x l) : St w W G ((x, l) :: F) V I :=
  ⟨h.b, h.g, fun p hp => (List.mem_cons.1 hp).elim (fun e => by rw [e]; exact k) (fun q => h.f p q), h.v, h.i⟩
theorem St.addV {x : Value} {l : List Value} (h : St w W G F V I) (k : VAt W x l) : St w W G F ((x, l) :: V) I :=
  ⟨h.b, h.g, h.f, fun p hp => (List.mem_cons.1 hp).elim (fun e => by rw [e]; exact k) (fun q => h.v p q), h.i⟩
variable {a0 a1 a2 a3 a4 a5 a6 : Value}
theorem St.g0 {l0 : List Gf} {r} (h : St w W ((a0, l0) :: r) F V I) : GAt W a0 l0 := h.g _ (.head _)
theorem St.g2 {l2 : List Gf} {p0 p1 r} (h : St w W (p0 :: p1 :: (a2, l2) :: r) F V I) : GAt W a2 l2 := h.g _ (.tail _ (.tail _ (.head _)))
theorem St.f0 {l : List Ff} {r} (h : St w W G ((a0, l) :: r) V I) : FAt W a0 l := h.f _ (.head _)
theorem St.f1 {l : List Ff} {p0 r} (h : St w W G (p0 :: (a0, l) :: r) V I) : FAt W a0 l := h.f _ (.tail _ (.head _))
theorem St.f2 {l : List Ff} {p0 p1 r} (h : St w W G (p0 :: p1 :: (a0, l) :: r) V I) : FAt W a0 l := h.f _ (.tail _ (.tail _ (.head _)))
theorem St.f3 {l : List Ff} {p0 p1 p2 r} (h : St w W G (p0 :: p1 :: p2 :: (a0, l) :: r) V I) : FAt W a0 l := h.f _ (.tail _ (.tail _ (.tail _ (.head _))))
theorem St.f4 {l : List Ff} {p0 p1 p2 p3 r} (h : St w W G (p0 :: p1 :: p2 :: p3 :: (a0, l) :: r) V I) : FAt W a0 l := h.f _ (.tail _ (.tail _ (.tail _ (.tail _ (.head _)))))
theorem St.f6 {l : List Ff} {p0 p1 p2 p3 p4 p5 r} (h : St w W G (p0 :: p1 :: p2 :: p3 :: p4 :: p5 :: (a0, l) :: r) V I) : FAt W a0 l := h.f _ (.tail _ (.tail _ (.tail _ (.tail _ (.tail _ (.tail _ (.head _)))))))
theorem St.v0 {l : List Value} {r} (h : St w W G F ((a0, l) :: r) I) : VAt W a0 l := h.v _ (.head _)
theorem St.v1 {l : List Value} {p0 r} (h : St w W G F (p0 :: (a0, l) :: r) I) : VAt W a0 l := h.v _ (.tail _ (.head _))
theorem St.v2 {l : List Value} {p0 p1 r} (h : St w W G F (p0 :: p1 :: (a0, l) :: r) I) : VAt W a0 l := h.v _ (.tail _ (.tail _ (.head _)))
theorem St.i0 {l : List Int} {r} (h : St w W G F V ((a0, l) :: r)) : IAt W a0 l := h.i _ (.head _)
end
/-- What is told of one kind's calls. -/
structure Kd (gs : List Gf) (fs : List Ff) (num : Int) (fa fl : Nat) (E : TypeId) (ik : IntKind) (wi : Int) (T : List Ff) (K : Nat) (X : Int) (B : Bool) (D : Nat) : Prop where
  all : ∀ V W, GAt W V gs → Calls Try.prog fa #[V, .int .i64 num] W (TellsA W E (T.map fun f : Ff => (.int ik (f.v : Int) : Value)) K)
  ral : ∀ V W, FAt W V fs → Calls Try.prog 29 #[V, .int .i64 num, .int .u8 wi] W (TellsFf W (T, K))
  las : ∀ V W, GAt W V gs → Calls Try.prog fl #[V, .int .i64 num] W (Ret W (.tuple #[.int ik X, .bool B, .int .i64 (D : Int)]))
  pic : ∀ V U W, VAt W V (T.map fun f : Ff => (.int .u64 (f.v : Int) : Value)) → FAt W U T → Calls Try.prog 30 #[V, U] W (Ret W (.bool true))
  ok : ∀ U W, FAt W U T → Calls Try.prog 34 #[.int .u64 X, .bool B, .int .i64 (D : Int), U, .int .i64 (K : Int)] W (Ret W (.bool true))
  len : T.length ≤ 500
theorem kd_V (gs : List Gf) (hl : gs.length ≤ 500) (num : Int) : ∃ T K X B D, Kd gs (gs.map plain1) num 26 31 55 .u64 0 T K X B D := by
  obtain ⟨T, K, hTK⟩ : ∃ T K, rall num 0 (gs.map plain1) [] = (T, K) := ⟨_, _, rfl⟩
  have hlen := rall_len num 0 (gs.map plain1) []
  have hrel := rel_V num gs
  rw [hTK] at hlen hrel
  dsimp only at hlen hrel
  rw [List.length_map, List.length_nil] at hlen
  refine ⟨T, K, ((lst (0 : Nat) (T.map (fun f : Ff => f.v), K)).1 : Int), _, _, fun V W hV => ?_, fun V W hV => ?_, fun V W hV => ?_, fun V U W hV hU => picked_any T (by omega) V U W hV hU, fun U W hU => lastok_any T (by omega) K U W hU, by omega⟩
  · have h := all_asV gs (by omega) num V W hV
    rw [hrel] at h
    dsimp only at h
    rw [List.map_map] at h
    exact h
  · have h := rall_any (gs.map plain1) (by rw [List.length_map]; omega) num 0 V W hV
    rw [hTK] at h
    exact h
  · have h := last_asV gs (by omega) num V W hV
    rw [hrel] at h
    exact h
theorem kd_E (gs : List Gf) (hl : gs.length ≤ 500) (num : Int) : ∃ T K X B D, Kd gs (gs.map plain1) num 27 32 59 .u64 1 T K X B D := by
  obtain ⟨T, K, hTK⟩ : ∃ T K, rall num 1 (gs.map plain1) [] = (T, K) := ⟨_, _, rfl⟩
  have hlen := rall_len num 1 (gs.map plain1) []
  have hrel := rel_E num gs
  rw [hTK] at hlen hrel
  dsimp only at hlen hrel
  rw [List.length_map, List.length_nil] at hlen
  refine ⟨T, K, ((lst (0 : Nat) (T.map (fun f : Ff => f.v), K)).1 : Int), _, _, fun V W hV => ?_, fun V W hV => ?_, fun V W hV => ?_, fun V U W hV hU => picked_any T (by omega) V U W hV hU, fun U W hU => lastok_any T (by omega) K U W hU, by omega⟩
  · have h := all_asE gs (by omega) num V W hV
    rw [hrel] at h
    dsimp only at h
    rw [List.map_map] at h
    exact h
  · have h := rall_any (gs.map plain1) (by rw [List.length_map]; omega) num 1 V W hV
    rw [hTK] at h
    exact h
  · have h := last_asE gs (by omega) num V W hV
    rw [hrel] at h
    exact h
theorem rall_mem (num wi : Int) : ∀ (l acc : List Ff), ∀ f ∈ (rall num wi l acc).1, f ∈ acc ∨ (f ∈ l ∧ (f.w : Int) = wi)
  | [], acc, f, hf => .inl hf
  | g :: r, acc, f, hf => by
    rw [rall] at hf
    split at hf
    · split at hf
      · rename_i hw
        rcases rall_mem num wi r _ f hf with h | h
        · rcases List.mem_append.1 h with h | h
          · exact .inl h
          · rcases List.mem_singleton.1 h with rfl
            exact .inr ⟨by simp, hw⟩
        · exact .inr ⟨by simp [h.1], h.2⟩
      · cases hf
    · rcases rall_mem num wi r _ f hf with h | h
      · exact .inl h
      · exact .inr ⟨by simp [h.1], h.2⟩
theorem kd_F (gs : List Gf) (hl : gs.length ≤ 500) (hok : ∀ g ∈ gs, g.ok) (num : Int) : ∃ T K X B D, Kd gs (gs.map plain1) num 28 33 64 .u32 5 T K X B D ∧ (∀ f ∈ T, f.v < 4294967296) ∧ 0 ≤ X ∧ X < 4294967296 := by
  obtain ⟨T, K, hTK⟩ : ∃ T K, rall num 5 (gs.map plain1) [] = (T, K) := ⟨_, _, rfl⟩
  have hlen := rall_len num 5 (gs.map plain1) []
  have hrel := rel_F num gs
  have hmem := rall_mem num 5 (gs.map plain1) []
  rw [hTK] at hlen hrel hmem
  dsimp only at hlen hrel hmem
  rw [List.length_map, List.length_nil] at hlen
  have hbd : ∀ f ∈ T, f.v < 4294967296 := by
    intro f hf
    rcases hmem f hf with h | ⟨h, hw⟩
    · cases h
    · obtain ⟨⟨n, x⟩, hg, rfl⟩ := List.mem_map.1 h
      have := (hok _ hg).v
      cases x <;> simp_all [plain1, Vl.ok]
  have hx : (lst (0 : Nat) (T.map (fun f : Ff => f.v), K)).1 < 4294967296 := by
    unfold lst
    split
    · dsimp only
      cases hq : (T.map (fun f : Ff => f.v)).getLast? with
      | none => decide
      | some a =>
        obtain ⟨f, hf, rfl⟩ := List.mem_map.1 (List.mem_of_getLast? hq)
        exact hbd f hf
    · show (0 : Nat) < _
      omega
  refine ⟨T, K, ((lst (0 : Nat) (T.map (fun f : Ff => f.v), K)).1 : Int), _, _, ⟨fun V W hV => ?_, fun V W hV => ?_, fun V W hV => ?_, fun V U W hV hU => picked_any T (by omega) V U W hV hU, fun U W hU => lastok_any T (by omega) K U W hU, by omega⟩, hbd, by omega, by omega⟩
  · have h := all_asF gs (by omega) num V W hV
    rw [hrel] at h
    dsimp only at h
    rw [List.map_map] at h
    exact h
  · have h := rall_any (gs.map plain1) (by rw [List.length_map]; omega) num 5 V W hV
    rw [hTK] at h
    exact h
  · have h := last_asF gs (by omega) num V W hV
    rw [hrel] at h
    exact h
/-- What is told of all the law's calls. -/
structure Pc (l : List Ff) (num : Int) (kn : List Int) (gs : List Gf) (fs : List Ff) (T0 : List Ff) (K0 : Nat) (X0 : Int) (B0 : Bool) (D0 : Nat) (T1 : List Ff) (K1 : Nat) (X1 : Int) (B1 : Bool) (D1 : Nat) (T5 : List Ff) (K5 : Nat) (X5 : Int) (B5 : Bool) (D5 : Nat) (bt : Bool) (os : List Gf) (ro : List Ff) : Prop where
  md : ∀ V W, FAt W V l → Calls Try.prog 18 #[V] W (fun e w' => ∃ v', e = .returned v' ∧ Og w' W.heap.size v' gs ∧ Below W.heap.size W w')
  st : ∀ V W, FAt W V l → Calls Try.prog 21 #[V] W (fun e w' => ∃ v', e = .returned v' ∧ Of w' W.heap.size v' fs ∧ Below W.heap.size W w')
  k0 : Kd gs fs num 26 31 55 .u64 0 T0 K0 X0 B0 D0
  k1 : Kd gs fs num 27 32 59 .u64 1 T1 K1 X1 B1 D1
  k5 : Kd gs fs num 28 33 64 .u32 5 T5 K5 X5 B5 D5
  bd : ∀ f ∈ T5, f.v < 4294967296
  x0 : 0 ≤ X5
  x1 : X5 < 4294967296
  tx : ∀ V U W, GAt W V gs → FAt W U fs → Calls Try.prog 35 #[V, U, .int .i64 num] W (Ret W (.bool true))
  ot : ∀ V U W, GAt W V gs → IAt W U kn → Calls Try.prog 36 #[V, U] W (fun e w' => ∃ v', e = .returned v' ∧ Og w' W.heap.size v' os ∧ Below W.heap.size W w')
  pl : ∀ V W, GAt W V os → Calls Try.prog 16 #[V] W (fun e w' => ∃ v', e = .returned v' ∧ Of w' W.heap.size v' ro ∧ Below W.heap.size W w')
  rt : ∀ V U W, FAt W V fs → IAt W U kn → Calls Try.prog 37 #[V, U] W (fun e w' => ∃ v', e = .returned v' ∧ Of w' W.heap.size v' ro ∧ Below W.heap.size W w')
  sm : ∀ V U W, FAt W V ro → FAt W U ro → Calls Try.prog 15 #[V, U] W (Ret W (.bool true))
  ps : ∀ V U W, GAt W V gs → GAt W U gs → Calls Try.prog 38 #[V, U] W (Ret W (.bool bt))
  wh : ∀ V W, FAt W V l → Calls Try.prog 39 #[V] W (Ret W (.bool bt))
theorem pc_of {l : List Ff} (F : Fit l) (num : Int) (kn : List Int) (hkl : kn.length ≤ 100) (hkw : ∀ x ∈ kn, (Lit.int .i64 x).wf = true) :
    ∃ gs fs T0 K0 X0 B0 D0 T1 K1 X1 B1 D1 T5 K5 X5 B5 D5 bt os ro, Pc l num kn gs fs T0 K0 X0 B0 D0 T1 K1 X1 B1 D1 T5 K5 X5 B5 D5 bt os ro := by
  have hl5 := F.len
  have hgl : (l.map made1).length ≤ 500 := by rw [List.length_map]; exact hl5
  have hgok : ∀ g ∈ l.map made1, g.ok := fun g hg => by obtain ⟨f, hf, rfl⟩ := List.mem_map.1 hg; exact made_ok (F.ok f hf)
  obtain ⟨T0, K0, X0, B0, D0, k0⟩ := kd_V (l.map made1) hgl num
  obtain ⟨T1, K1, X1, B1, D1, k1⟩ := kd_E (l.map made1) hgl num
  obtain ⟨T5, K5, X5, B5, D5, k5, hbd, hx0, hx1⟩ := kd_F (l.map made1) hgl hgok num
  have hol : (oth kn (l.map made1)).length ≤ 500 := Nat.le_trans (List.length_filter_le _ _) hgl
  have hook : ∀ g ∈ oth kn (l.map made1), g.v.ok := fun g hg => (hgok g (List.mem_filter.1 hg).1).v
  have hrl : (roth kn ((l.map made1).map plain1)).length ≤ 500 := Nat.le_trans (List.length_filter_le _ _) (by rw [List.length_map]; exact hgl)
  have hst : l.map strip = (l.map made1).map plain1 := by rw [List.map_map]; rfl
  have hb : sml (l.map made1) (l.map made1) = whl l := by
    rw [Bool.eq_iff_iff, whl_iff]
    constructor
    · intro h f hf
      rw [← made_may]
      exact sml_all _ h _ (List.mem_map_of_mem hf)
    · intro h
      refine sml_refl _ (fun g hg => ?_)
      obtain ⟨f, hf, rfl⟩ := List.mem_map.1 hg
      rw [made_may]
      exact h f hf
  refine ⟨l.map made1, (l.map made1).map plain1, T0, K0, X0, B0, D0, T1, K1, X1, B1, D1, T5, K5, X5, B5, D5, whl l, oth kn (l.map made1), roth kn ((l.map made1).map plain1), fun V W hV => made_any l (by omega) F.ok V W hV, fun V W hV => ?_, k0, k1, k5, hbd, hx0, hx1, fun V U W hV hU => texts_any _ (by omega) num V U W hV hU, fun V U W hV hU => others_any _ (by omega) hgok kn (by omega) hkw V U W hV hU, fun V W hV => ?_, fun V U W hV hU => roth_any _ (by rw [List.length_map]; omega) kn (by omega) V U W hV hU, fun V U W hV hU => same_any _ (by omega) V U W hV hU, fun V U W hV hU => ?_, fun V W hV => whole_any l (by omega) V W hV⟩
  · have h := strip_any l (by omega) F.ok V W hV
    rw [hst] at h
    exact h
  · have h := plain_any (oth kn (l.map made1)) (by omega) hook V W hV
    rw [oth_roth] at h
    exact h
  · have h := psame_any _ _ (by omega) (by omega) (fun g hg => (hgok g hg).v) V U W hV hU
    rw [hb] at h
    exact h
end Go.Proofs.Ytbckkfoenembmaa
