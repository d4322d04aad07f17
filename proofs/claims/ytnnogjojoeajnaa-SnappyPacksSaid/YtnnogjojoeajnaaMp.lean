/- The map of places: match and add. -/
import Derived.Test.YtnnogjojoeajnaaMa2
import Derived.Maps.GroupsBeside
namespace Go.Proofs.Ytnnogjojoeajnaa
open Go.RowKit Go.Shelf Go.Sort Go.Maps Go.ChangeShapes Go.WideMaps
/-- What a row of places reads as. -/
def rowd (zs : List Nat) : DataW Unit := if zs = [] then .nil else .slice (lits .i64 (zs.map fun (n : Nat) => (n : Int))) []
/-- Block B is a map of at most n entries, that has the places F k at each key k; the rows lie from 'base' on. -/
def Gm (w : World) (B base n : Nat) (F : List UInt8 → List Nat) : Prop :=
  ∃ D : DataW Unit, w.ownsGroups Try.prog 9 base 3 .i64 B n D ∧ IsMap D ∧ ∀ k : List UInt8, D.atKey (.string k) .nil = rowd (F k)
theorem law9 : Keyed Try.prog 9 := string_keyed Try.underlying9
theorem zero90 (w : World) : (zeroValue 90).run Try.prog w = .ok (.slice none 0 0) w := by kernel_rfl
theorem Try.info3 : (Try.prog.info? 3).map (fun i => (i.zero, i.size, i.bytes)) = some (some (.int .i64 0), 1, 8) := by kernel_rfl
theorem lits_inj {a b : List Int} (h : lits (H := Unit) .i64 a = lits .i64 b) : a = b := by
  induction a generalizing b with
  | nil => cases b <;> simp [lits] at h ⊢
  | cons x a ih =>
    cases b with
    | nil => simp [lits] at h
    | cons y b =>
      simp only [lits, List.map_cons, List.cons.injEq] at h
      obtain ⟨h1, h2⟩ := h
      rw [ih h2]
      cases h1
      rfl
theorem rowd_zs {w : World} {base : Nat} {v : Value} {zs : List Int} {ns : List Nat} (ho : w.ownsInts base 3 .i64 v zs) (h : rowd ns = rowDatum .i64 v zs) : zs = ns.map fun (n : Nat) => (n : Int) := by
  unfold rowd at h
  rcases ho.datum (H := Unit) with ⟨h1, h2⟩ | h1
  · rw [h1] at h
    split at h
    · rename_i hn; rw [h2, hn]; rfl
    · cases h
  · rw [h1] at h
    split at h
    · cases h
    · simp only [DataW.slice.injEq, and_true] at h
      exact (lits_inj h).symm
theorem places_of {w : World} {base : Nat} {v : Value} {ns : List Nat} (ho : w.ownsInts base 3 .i64 v (ns.map fun (n : Nat) => (n : Int))) : PlacesAt w v ns := by
  obtain ⟨⟨h1, h2⟩, _⟩ := ho
  rcases h2 with ⟨rfl, h0⟩ | ⟨g, cap, cur, rfl, hg, hh, hc, hm, hsz, ht⟩
  · rw [List.length_map] at h0
    exact .inl ⟨List.eq_nil_of_length_eq_zero h0, 0, rfl⟩
  · simp only [List.length_map, Nat.mul_one] at ht hc
    refine .inr ⟨g, cap, by rw [List.length_map], fun j hj => ?_⟩
    have hj2 : j < cur.size := by omega
    simp only [World.cell?, hh]
    have e1 : cur[j]? = (cur.toList.take ns.length)[j]? := by
      rw [List.getElem?_take_of_lt hj, Array.getElem?_toList]
    rw [if_neg (by simp), e1, ht]
    simp [hj]
theorem own_lt {w : World} {base : Nat} {e : TypeId} {size n : Nat} {v : Value} {xs : List Value} (h : w.ownsRow base e size v n xs) : ∀ g, v.ownBlock = some g → base ≤ g ∧ g < w.heap.size := fun g hg => h.lt g hg
set_option maxRecDepth 100000 in
set_option maxHeartbeats 1000000 in
theorem pmatch_any (s : ByteArray) (hs : s.size ≤ 1000000000000) (a : Nat) (ha : a < s.size) (w : World) (B base n : Nat) (F : List UInt8 → List Nat) (hG : Gm w B base n F) (hn : n ≤ 1000000000000) (hF : ∀ x ∈ F (nxt s.data.toList a), x < a) :
    Calls Try.prog 39 #[.map (some B), .string s, .int .i64 a] w (Two w (lg s.data.toList a (min 64 (s.size - a)) (F (nxt s.data.toList a)).reverse 0 0)) := by
  obtain ⟨D, hown, hmap, hD⟩ := hG
  have hsz : (bs (nxt s.data.toList a)).size ≤ maxLen := by
    rw [bs_size]
    unfold nxt maxLen
    rw [List.length_take]
    omega
  have hkey := keyOf_string_mk (P := Try.prog) Try.underlying9 hsz
  rw [bs_data] at hkey
  have hdk := hD (nxt s.data.toList a)
  have HN := Lib.hid (next_any s hs a (by omega) w)
  generalize hk : nxt s.data.toList a = k at *
  have HK := Lib.hid hk
  have HDK := Lib.hid hdk
  have HF := Lib.hid hF
  clear hk hdk hF hD
  go_enter Try.func39, Try.ntmps39
  go_wp2_with (first
    | (go_at_call 60; refine HN.out.mono ?_; rintro e w1 ⟨rfl, rfl⟩)
    | (at_lookup; refine wpList_lookup_groups _ rfl _ _ 66 rfl 9 90 3 .i64 law9 Try.underlying66 (zero90 _) base B n _ rfl hown (by unfold maxLen; omega) _ _ rfl hkey ?_; intro v zs hat hoi hzl hback; have HAT := Lib.hid hat; have HOI := Lib.hid hoi; have HZL := Lib.hid hzl; clear hat hoi hzl hback)
    | fail)
  have hzs := rowd_zs HOI.out (HDK.out.symm.trans HAT.out)
  have hpl : PlacesAt w v (F k) := places_of (by rw [← hzs]; exact HOI.out)
  have hlenF : (F k).length ≤ 1000000000000 := by have := HZL.out; rw [hzs, List.length_map] at this; omega
  obtain ⟨va, vc, hv⟩ := hpl.slice
  have hvlt := own_lt HOI.out.1
  have HPL := Lib.hid hpl; have HVL := Lib.hid hvlt; have HLF := Lib.hid hlenF
  clear hzs hpl hvlt hlenF
  have hv2 : ∃ a n c, v = .slice a n c := ⟨_, _, _, hv⟩
  have hvE := Lib.hid hv
  clear hv
  refine (nearest_any v hv2 w).mono ?_
  rintro e w2 ⟨rfl, hw2⟩
  have HB2 : Hid (Boxed w2 w.heap.size 90 v) := Lib.hid (by rw [hw2]; exact Boxed.new w 90 v)
  have HS2 : Hid (w2.heap.size = w.heap.size + 1) := Lib.hid (by rw [hw2]; simp)
  have HL2 : Hid (Below w.heap.size w w2) := Lib.hid (by rw [hw2]; exact (Below.refl _ w).alloc (Nat.le_refl _) _)
  clear hw2
  have HC := Lib.hid (longest_any s hs a (min 64 (s.size - a)) ha rfl (F k).reverse (fun x hx => HF.out x (List.mem_reverse.1 hx)) 75 #[.pointer (some ⟨w.heap.size, 0, none⟩)] (fun j => j = w.heap.size ∨ some j = v.ownBlock) w2
    (enters_of Try.func75 (by kernel_rfl) rfl)
    (fun j hj => hj.elim (fun h => by have := HS2.out; omega) (fun h => by have := (HVL.out j h.symm).2; have := HS2.out; omega))
    (fun m W hm hb => nearest_gives m hm v (F k) HLF.out W _ ((hb.block _ (by have := HS2.out; omega)).trans HB2.out)
      (HPL.out.congr (fun g hg => (hb.block g (by have := (HVL.out g hg).2; have := HS2.out; omega)).trans (HL2.out.block g (HVL.out g hg).2)))))
  go_wp2_with fail
  refine HC.out.mono ?_
  rintro e w3 ⟨rfl, hb⟩
  have HB3 := Lib.hid hb
  clear hb
  go_wp2
  go_ret2
  exact ⟨rfl, HL2.out.trans (HB3.out.mono HL2.out.size)⟩
/-- F, with other places at one key. -/
def upd (F : List UInt8 → List Nat) (k : List UInt8) (zs : List Nat) : List UInt8 → List Nat := fun k' => if k' = k then zs else F k'
/-- What a call of add leaves. -/
structure Added (w : World) (B base n : Nat) (F : List UInt8 → List Nat) (No : Nat → Prop) (w' : World) : Prop where
  gm : Gm w' B base n F
  sh : w'.Shuns B No
  bel : Below B w w'
  same : ∀ j, j < w.heap.size → (j < base ∧ j ≠ B) ∨ No j → w'.heap[j]? = w.heap[j]?
theorem no_of {w : World} {v v' : Value} {No : Nat → Prop} {o : Obj} (h1 : ∀ g, v.ownBlock = some g → ¬ No g) (h2 : ∀ j, No j → j < w.heap.size) (h : v'.ownBlock = v.ownBlock ∨ v'.ownBlock = some (w.alloc o).heap.size) : ∀ g, v'.ownBlock = some g → ¬ No g := by
  intro g hg hN
  rcases h with h | h
  · exact h1 g (h ▸ hg) hN
  · rw [h] at hg
    have := h2 g hN
    have e := Option.some.inj hg
    rw [World.size_alloc] at e
    omega
set_option maxRecDepth 100000 in
set_option maxHeartbeats 1000000 in
theorem add_any (s : ByteArray) (hs : s.size ≤ 1000000000000) (a : Nat) (ha : a < s.size) (w : World) (B base n : Nat) (F : List UInt8 → List Nat) (No : Nat → Prop) (hG : Gm w B base n F) (hn : n ≤ 1000000000000) (hbase : base ≤ w.heap.size) (hBb : B < base) (hsh : w.Shuns B No) (hNo : ∀ j, No j → j < w.heap.size) (hNB : ¬ No B) :
    Calls Try.prog 40 #[.map (some B), .string s, .int .i64 a] w fun e w' => e = .returned (.tuple #[]) ∧ Added w B base (n + 1) (upd F (nxt s.data.toList a) (F (nxt s.data.toList a) ++ [a])) No w' := by
  obtain ⟨D, hown, hmap, hD⟩ := hG
  obtain ⟨i0, hi, hz0, hz1, hz2⟩ := info_parts Try.info3
  have hsz : (bs (nxt s.data.toList a)).size ≤ maxLen := by
    rw [bs_size]
    unfold nxt maxLen
    rw [List.length_take]
    omega
  have hkey := keyOf_string_mk (P := Try.prog) Try.underlying9 hsz
  rw [bs_data] at hkey
  have HD := Lib.hid hD
  have HN := Lib.hid (next_any s hs a (by omega) w)
  have HSH := Lib.hid hsh
  have HNO := Lib.hid hNo
  have HM := Lib.hid hmap
  generalize hk : nxt s.data.toList a = k at *
  have HK := Lib.hid hk
  clear hk hD hsh hNo hmap
  go_enter Try.func40, Try.ntmps40
  go_wp2_with (first
    | (go_at_call 60; refine HN.out.mono ?_; rintro e w1 ⟨rfl, rfl⟩)
    | (at_lookup; refine wpList_lookup_groups_shuns _ rfl _ _ 66 rfl 9 90 3 .i64 law9 Try.underlying66 (zero90 _) base B n _ rfl hown (by unfold maxLen; omega) _ _ rfl hkey ?_; intro v zs hat hoi hzl hback hsu; have HAT := Lib.hid hat; have HSU := Lib.hid hsu; clear hat hsu)
    | (at_builtin; refine wpList_append_own_at _ rfl _ _ 90 rfl base 3 i0 (.int .i64 0) 1 8 Try.underlying90 hi hz0 hz1 hz2 rfl (by decide) _ _ _ rfl (hoi.1.alloc _) ⟨w.heap.size, 0, none⟩ 1 1 [.int .i64 a] rfl rfl (cell_one_new _ _ _) (by simp [Value.oneCell']) (by unfold maxLen; omega) (by omega) (by simp; omega) ?_; intro v' w1 hown' hgrow hnil hloc; have hno := Lib.hid (no_of (No := No) (HSU.out No HSH.out) HNO.out hloc))
    | (at_mapUpdate; refine wpList_mapUpdate_back_shuns _ rfl _ _ _ 66 rfl law9 Try.underlying66 hkey hown (by unfold maxLen; omega) hoi HSH.out hno.out hback rfl rfl rfl ((World.grownBy_alloc _ _ _).trans hgrow) (hoi.appended hown' (WalkArith.wf_i64 (by omega))) (by simp; omega) (hloc.imp id (fun h => ⟨_, h, by simp⟩)) ?_; intro w2 hown2 hgrow2 hsh2)
    | fail)
  go_wp2
  go_end0
  have hzs := rowd_zs hoi ((HD.out k).symm.trans HAT.out)
  have hap := hoi.appended hown' (WalkArith.wf_i64 (n := (a : Int)) (by omega))
  have hdp := hap.datum_pos (H := Unit) (by simp)
  have hall := (World.grownBy_alloc w (.cells #[.int .i64 (a : Int)] 3) v.ownBlock).trans hgrow
  have hvl := own_lt hoi.1
  have hnB : ∀ j, some j = v.ownBlock → base ≤ j := fun j e => (hvl j e.symm).1
  refine ⟨rfl, ⟨_, hown2, ?_, ?_⟩, hsh2, ?_, ?_⟩
  · obtain ⟨es, rfl⟩ := HM.out
    exact ⟨_, rfl⟩
  · intro k'
    unfold upd
    by_cases hkk : k' = k
    · subst hkk
      rw [if_pos rfl, atKey_put_same HM.out (by trivial), hdp]
      unfold rowd
      rw [if_neg (by simp), hzs]
      simp
    · rw [if_neg hkk, atKey_put_other (fun e => hkk (by cases e; rfl)), HD.out k']
  · have h1 : Below B w w1 := (Below.refl B w).grown hall (by omega) (fun j e => by have := hnB j e.symm; omega)
    exact h1.grown hgrow2 (Nat.le_trans (by omega) h1.size) (fun j e => by cases e; exact Nat.le_refl _)
  · intro j hj hjn
    have n1 : some j ≠ v.ownBlock := by
      intro e
      rcases hjn with ⟨h1, _⟩ | h1
      · have := hnB j e; omega
      · exact HSU.out No HSH.out j e.symm h1
    have n2 : some j ≠ some B := by
      intro e
      have e := Option.some.inj e
      rcases hjn with ⟨_, h1⟩ | h1
      · exact h1 e
      · exact hNB (e ▸ h1)
    rw [hgrow2.block j (Nat.lt_of_lt_of_le hj hall.size) n2]
    exact hall.block j hj n1
end Go.Proofs.Ytnnogjojoeajnaa
