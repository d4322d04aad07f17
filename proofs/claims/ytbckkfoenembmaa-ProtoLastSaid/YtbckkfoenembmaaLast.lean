/- ProtoLast: for any fields, any number and any text the law answers true. No condition. -/
import Derived.Test.YtbckkfoenembmaaRows
import Derived.Test.YtbckkfoenembmaaAw
import Derived.Test.YtbckkfoenembmaaAp
import Derived.Test.YtbckkfoenembmaaFs
import Derived.Test.YtbckkfoenembmaaAl
import Derived.Test.YtbckkfoenembmaaOt
import Derived.WalkKit
import Derived.ProofKit
import Derived.OpenShut
import Derived.ShutString
namespace Go.Proofs.Ytbckkfoenembmaa.protoLast
open Go.ChangeShapes Go.WideShapes Go.ChangeAt Go.RowKit
open Go.ChangeMaps (open_string shut_string)
set_option linter.unusedVariables false
theorem alk_err {α : Type} (pk : Vl → α × Bool) (num : Int) : ∀ (l : List Gf) (acc : List α), (alk pk num l acc).2 = 0 ∨ alk pk num l acc = ([], 4)
  | [], acc => .inl rfl
  | f :: r, acc => by
    rw [alk]
    split
    · split
      · exact alk_err pk num r _
      · exact .inr rfl
    · exact alk_err pk num r _
theorem alk_app {α : Type} (pk : Vl → α × Bool) (num : Int) (b : List Gf) : ∀ (a : List Gf) (acc : List α), ((alk pk num a acc).2 = 0 → alk pk num (a ++ b) acc = alk pk num b (alk pk num a acc).1) ∧ (alk pk num a acc = ([], 4) → alk pk num (a ++ b) acc = ([], 4))
  | [], acc => ⟨fun _ => rfl, fun h => by simp [alk] at h⟩
  | f :: r, acc => by
    rw [List.cons_append, alk, alk]
    split
    · split
      · exact alk_app pk num b r _
      · exact ⟨fun h => by simp at h, fun _ => rfl⟩
    · exact alk_app pk num b r _
theorem alk_oth {α : Type} (pk : Vl → α × Bool) (num : Int) : ∀ (l : List Gf) (acc : List α), alk pk num (oth [num] l) acc = (acc, 0)
  | [], acc => rfl
  | f :: r, acc => by
    unfold oth
    by_cases h : f.n = num
    · rw [List.filter_cons_of_neg (by simp [h])]
      exact alk_oth pk num r acc
    · rw [List.filter_cons_of_pos (by simp [h]), alk, if_neg h]
      exact alk_oth pk num r acc
theorem alk_cnt {α : Type} (pk : Vl → α × Bool) (num : Int) : ∀ (l : List Gf) (acc : List α), (alk pk num l acc).2 = 0 → (alk pk num l acc).1.length + (oth [num] l).length = acc.length + l.length
  | [], acc, _ => by simp [alk, oth]
  | f :: r, acc, h => by
    rw [alk] at h ⊢
    unfold oth
    by_cases hn : f.n = num
    · rw [if_pos hn] at h ⊢
      rw [List.filter_cons_of_neg (by simp [hn])]
      by_cases hb : (pk f.v).2 = true
      · rw [if_pos hb] at h ⊢
        have := alk_cnt pk num r _ h
        unfold oth at this
        rw [List.length_append, List.length_singleton] at this
        rw [List.length_cons]
        omega
      · rw [if_neg hb] at h
        simp at h
    · rw [if_neg hn] at h ⊢
      rw [List.filter_cons_of_pos (by simp [hn])]
      have := alk_cnt pk num r _ h
      unfold oth at this
      rw [List.length_cons, List.length_cons]
      omega
theorem iat_one (W : World) (x : Int) : IAt (W.alloc (.cells #[.int .i64 x] 3)) (.slice (some ⟨W.heap.size, 0, none⟩) 1 1) [x] := by
  refine .inr ⟨W.heap.size, 0, 1, rfl, fun j hj => ?_⟩
  have : j = 0 := by simpa using hj
  subst this
  rw [World.cell?_alloc_mark]
  rfl
theorem own_apart {w : World} {base e z n : Nat} {v7 v6 : Value} {xs : List Value} (h : w.ownsRow base e z v7 n xs) (h6 : ∀ g, v6.ownBlock = some g → g < base) : v7.ownBlock = none ∨ v7.ownBlock ≠ v6.ownBlock := by
  cases he : v7.ownBlock with
  | none => exact .inl rfl
  | some g =>
    refine .inr (fun e => ?_)
    have h1 := (own_lt h g he).1
    have h2 := h6 g e.symm
    omega
/-- A string as a value. -/
def str (x : ByteArray) : Value := .string x
/-- What is told of the law's calls. -/
structure Lc (gs : List Gf) (num : Int) (t : ByteArray) (cs ds : List Value) (K : Nat) (x : ByteArray) (b : Bool) (rs : List Gf) : Prop where
  c1 : ∀ V W, GAt W V gs → Calls Try.prog 48 #[V, .int .i64 num] W (TellsA W 80 cs K)
  c2 : ∀ V W, GAt W V (gs ++ [⟨num, .tx t⟩]) → Calls Try.prog 48 #[V, .int .i64 num] W (TellsA W 80 ds K)
  c3 : ∀ V W, GAt W V (gs ++ [⟨num, .tx t⟩]) → Calls Try.prog 49 #[V, .int .i64 num] W (Ret W (.tuple #[.string x, .bool b, .int .i64 (K : Int)]))
  c4 : ∀ V W, GAt W V (gs ++ [⟨num, .tx t⟩] ++ rs) → Calls Try.prog 49 #[V, .int .i64 num] W (Ret W (.tuple #[.string x, .bool b, .int .i64 (K : Int)]))
  c5 : ∀ V U W, GAt W V gs → IAt W U [num] → Calls Try.prog 36 #[V, U] W (fun e w' => ∃ v', e = .returned v' ∧ Og w' W.heap.size v' rs ∧ Below W.heap.size W w')
  rl : rs.length ≤ 500
  rn : ∀ f ∈ rs, f.n ≠ num
  cl : cs.length ≤ 500
theorem lc_of (gs : List Gf) (hl : gs.length ≤ 500) (hok : ∀ g ∈ gs, g.ok) (num : Int) (hw : (Lit.int .i64 num).wf = true) (t : ByteArray) (ht : t.size ≤ 3000) :
    (∃ cs rs, Lc gs num t cs (cs ++ [.string t]) 0 t true rs ∧ cs.length + rs.length = gs.length ∧ ∀ k, k < cs.length → ∃ s, cs[k]? = some (.string s)) ∨ ∃ rs, Lc gs num t [] [] 4 ⟨#[]⟩ false rs := by
  have hml : (gs ++ [(⟨num, .tx t⟩ : Gf)]).length ≤ 501 := by rw [List.length_append, List.length_singleton]; omega
  have hrl : (oth [num] gs).length ≤ 500 := Nat.le_trans (List.length_filter_le _ _) hl
  have hrn : ∀ f ∈ oth [num] gs, f.n ≠ num := fun f hf => by
    have := (List.mem_filter.1 hf).2
    simpa using this
  have hm2 : (gs ++ [(⟨num, .tx t⟩ : Gf)] ++ oth [num] gs).length ≤ 1001 := by rw [List.length_append]; omega
  have h1 := fun V W hV => all_asT gs (by omega) num V W hV
  have h2 := fun V W hV => all_asT (gs ++ [⟨num, .tx t⟩]) (by omega) num V W hV
  have h3 := fun V W hV => last_asT (gs ++ [⟨num, .tx t⟩]) (by omega) num V W hV
  have h4 := fun V W hV => last_asT (gs ++ [⟨num, .tx t⟩] ++ oth [num] gs) (by omega) num V W hV
  have h5 := fun V U W hV hU => others_any gs (by omega) hok [num] (by simp) (fun x hx => by rcases List.mem_singleton.1 hx with rfl; exact hw) V U W hV hU
  obtain ⟨xs, K, hx⟩ : ∃ xs K, alk asT num gs [] = (xs, K) := ⟨_, _, rfl⟩
  have hcase := alk_err asT num gs []
  have ha := alk_app asT num [⟨num, .tx t⟩] gs []
  have ha2 := alk_app asT num (oth [num] gs) (gs ++ [⟨num, .tx t⟩]) []
  have hlen := alk_len asT num gs []
  have hcnt := alk_cnt asT num gs []
  rw [hx] at hcase ha h1 hlen hcnt
  dsimp only at hcase ha h1 hlen hcnt
  by_cases h0 : K = 0
  · subst h0
    left
    have hm : alk asT num (gs ++ [⟨num, .tx t⟩]) [] = (xs ++ [t], 0) := by
      rw [ha.1 rfl, alk, if_pos rfl]
      rfl
    rw [hm] at h2 h3 ha2
    have hm3 : alk asT num (gs ++ [⟨num, .tx t⟩] ++ oth [num] gs) [] = (xs ++ [t], 0) := by
      rw [ha2.1 rfl, alk_oth]
    rw [hm3] at h4
    have hlst : lst (⟨#[]⟩ : ByteArray) (xs ++ [t], 0) = (t, true, 0) := by
      unfold lst
      rw [if_pos rfl]
      dsimp only
      rw [List.getLast?_append]
      rfl
    rw [hlst] at h3 h4
    have hmap : (xs ++ [t]).map (fun x : ByteArray => (.string x : Value)) = xs.map (fun x : ByteArray => (.string x : Value)) ++ [.string t] := by rw [List.map_append]; rfl
    dsimp only at h2
    rw [hmap] at h2
    refine ⟨xs.map (fun x : ByteArray => (.string x : Value)), oth [num] gs, ⟨h1, h2, h3, h4, h5, hrl, hrn, by rw [List.length_map]; simp at hlen; omega⟩, ?_, fun k hk => ?_⟩
    · rw [List.length_map]
      have := hcnt rfl
      simpa using this
    · rw [List.length_map] at hk
      exact ⟨xs[k], by rw [List.getElem?_map, List.getElem?_eq_getElem hk]; rfl⟩
  · right
    have h4' : xs = [] ∧ K = 4 := by
      rcases hcase with h | h
      · exact absurd h h0
      · simpa using h
    obtain ⟨rfl, rfl⟩ := h4'
    have hm := ha.2 rfl
    rw [hm] at h2 h3 ha2
    rw [ha2.2 rfl] at h4
    exact ⟨oth [num] gs, h1, h2, h3, h4, h5, hrl, hrn, by simp⟩
set_option maxRecDepth 100000 in
set_option maxHeartbeats 1500000 in
theorem core (v : Value) (l : List Ff) (num : Int) (t : ByteArray) (wn : (Lit.int .i64 num).wf = true) (wt : t.size ≤ maxLen) (w : World) (h : Arg w v l) :
    Calls Try.prog 11 #[v, .int .i64 num, .string t] w fun e w' => e = .returned (.bool true) ∧ Below w.heap.size w w' := by
  obtain ⟨hA, hlm, hwd⟩ := h
  have ht63 : (t.size : Int) ≤ 9223372036854775807 := by unfold maxLen at wt; omega
  have HA := Lib.hid hA
  have HLG := Lib.hid (fun W (hW : FAt W v l) => large_any l hlm hwd v W hW)
  obtain ⟨va, vc, hv⟩ := hA.slice
  generalize hLL : l.length = LL at hv
  clear hLL
  subst hv
  clear hA
  by_cases hb : 10000 ≤ lng l 0
  · have hd : decide (10000 ≤ lng l 0) = true := decide_eq_true hb
    clear hb
    rw [hd] at HLG
    clear hd hwd hlm
    go_enter Try.func11, Try.ntmps11
    go_wp2_with fail
    refine (HLG.out _ HA.out).mono ?_
    rintro e w1 ⟨rfl, rfl⟩
    go_wp2_with fail
    refine (awake_any _).mono ?_
    rintro e w1 ⟨rfl, hb1⟩
    have HB1 := Lib.hid hb1
    clear hb1
    go_wp2
    go_ret
    exact ⟨rfl, HB1.out⟩
  have hd : decide (10000 ≤ lng l 0) = false := decide_eq_false hb
  rw [hd] at HLG
  have F := fit_of hwd (by omega)
  clear hd hwd hlm hb
  by_cases hbig : 3000 < t.size
  · clear F
    go_enter Try.func11, Try.ntmps11
    go_wp2_with fail
    refine (HLG.out _ HA.out).mono ?_
    rintro e w1 ⟨rfl, rfl⟩
    go_wp2_with fail
    refine (awake_any _).mono ?_
    rintro e w1 ⟨rfl, hb1⟩
    have HB1 := Lib.hid hb1
    clear hb1
    go_wp2
    go_ret
    exact ⟨rfl, HB1.out⟩
  obtain ⟨gs, R, E, H1⟩ := fst_of F
  have HMD := Lib.hid H1.md
  have hgl := H1.gl
  have hlc := lc_of gs hgl H1.gok num wn t (by omega)
  clear H1 F
  rcases hlc with ⟨cs, rs, LC, hcnt, hstr⟩ | ⟨rs, LC⟩
  · have HST := Lib.hid hstr
    clear hstr
    have K1 := Lib.hid LC.c1
    have K2 := Lib.hid LC.c2
    have K3 := Lib.hid LC.c3
    have K4 := Lib.hid LC.c4
    have K5 := Lib.hid LC.c5
    have hrl := LC.rl
    have HRN := Lib.hid LC.rn
    have hcl := LC.cl
    clear LC
    have HONE := Lib.hid (fun W => gat_one W ⟨num, .tx t⟩)
    have hmore : (gs ++ [(⟨num, .tx t⟩ : Gf)]).length ≤ 501 := by rw [List.length_append, List.length_singleton]; omega
    obtain ⟨ms, hms⟩ : ∃ ms, ms = gs ++ [(⟨num, .tx t⟩ : Gf)] := ⟨_, rfl⟩
    rw [← hms] at K2 K3 K4 hmore
    have HMS := Lib.hid hms
    clear hms
    go_enter Try.func11, Try.ntmps11
    go_wp2_with fail
    refine (HLG.out _ HA.out).mono ?_
    rintro e w0 ⟨rfl, rfl⟩
    go_wp2_with fail
    refine (awake_any _).mono ?_
    rintro e w1 ⟨rfl, hb1⟩
    have HB1 := Lib.hid hb1
    have HA1 := Lib.hid (HA.out.below hb1 (Nat.le_refl _))
    clear hb1
    go_wp2_with fail
    refine (HMD.out _ _ HA1.out).mono ?_
    rintro e w2 ⟨v2, rfl, ho2, hb2⟩
    have HB2 := Lib.hid (below_trans' HB1.out hb2)
    have HG2 := Lib.hid ho2.at
    obtain ⟨a2, c2, hv2⟩ := ho2.shape
    generalize hGG : gs.length = GG at hv2
    have HGG := Lib.hid hGG
    have hGG5 : GG ≤ 500 := by omega
    clear hGG hb2 ho2
    subst hv2
    go_wp2_with fail
    refine (K1.out _ _ HG2.out).mono ?_
    rintro e w3 ⟨v3, rfl, ho3, hb3⟩
    have HB3 := Lib.hid (below_trans' HB2.out hb3)
    have HG3 := Lib.hid (HG2.out.below hb3 (Nat.le_refl _))
    obtain ⟨N3, hn3⟩ : ∃ N3, cs.length = N3 := ⟨_, rfl⟩
    rw [hn3] at ho3 hcl hcnt
    have HN3 := Lib.hid hn3
    clear hn3
    have HW3 := Lib.hid ho3
    obtain ⟨a3, c3, hv3⟩ := ownsRow_shape ho3
    subst hv3
    clear hb3 ho3
    rw [show ((0 : Nat) : Int) = 0 from rfl]
    have HE3 := Lib.hid (og_empty w3 w3.heap.size (Nat.le_refl _))
    have HG4 := Lib.hid (HG3.out.below ((Below.refl w3.heap.size w3).alloc (Nat.le_refl _) (.cells #[] 35)) (Nat.le_refl _))
    have HX4 : Hid (Below w3.heap.size w3 (w3.alloc (.cells #[] 35))) := Lib.hid ((Below.refl w3.heap.size w3).alloc (Nat.le_refl _) _)
    go_wp2_with (first
      | (at_builtin; refine wpList_append_w (by rfl) (.tmp 42) (.tmp 43) rfl w3.heap.size _ [] rfl HE3.out (.slice a2 GG c2) gs rfl HG4.out (by simp; omega) (by simp) ?_; intro v5 w5 ho5 hg5 hb5; have HO5 : Hid (Og w5 w3.heap.size v5 gs) := Lib.hid (by simpa using ho5); have HX5 : Hid (Below w3.heap.size w3 w5) := Lib.hid (HX4.out.grown hg5 (by simp) (fun g hg => (own_lt HE3.out g hg).1)); clear ho5 hg5 hb5)
      | (at_builtin; refine wpList_append_w (by rfl) (.tmp 44) (.tmp 49) rfl w3.heap.size _ gs rfl (Og.alloc HO5.out (.cells #[.int .i64 num, .iface 80 (.string t)] 35)) (.slice (some ⟨w5.heap.size, 0, none⟩) 1 1) [⟨num, .tx t⟩] rfl (HONE.out w5) (by simp; omega) (by have := HX5.out.size; simp; omega) ?_; intro v6 w6 ho6 hg6 hb6; have HO6 : Hid (Og w6 w3.heap.size v6 ms) := Lib.hid (by rw [HMS.out]; exact ho6); have HX6 : Hid (Below w3.heap.size w3 w6) := Lib.hid ((HX5.out.alloc HX5.out.size (.cells #[.int .i64 num, .iface 80 (.string t)] 35)).grown hg6 (by have := HX5.out.size; simp; omega) (fun g hg => (own_lt HO5.out g hg).1)); clear ho6 hg6 hb6))
    refine (K2.out _ _ HO6.out.at).mono ?_
    rintro e w7 ⟨v7, rfl, ho7, hb7⟩
    have HX7 := Lib.hid (HX6.out.trans (hb7.mono HX6.out.size))
    have HO7 := Lib.hid (HO6.out.below hb7 (Nat.le_refl _))
    obtain ⟨N4, hN4⟩ : ∃ N4, N3 + 1 = N4 := ⟨_, rfl⟩
    have hN3i : ((N3 : Nat) : Int) + 1 = ((N4 : Nat) : Int) := by omega
    have hds : (cs ++ [(.string t : Value)]).length = N4 := by rw [List.length_append, List.length_singleton, HN3.out, hN4]
    rw [hds] at ho7
    have HN4 := Lib.hid hN4
    have hN4' : N4 ≤ 501 := by omega
    clear hN4 hds
    have HN7 := Lib.hid ho7
    have HL7 : Hid (∀ g, v6.ownBlock = some g → g < w6.heap.size) := Lib.hid (fun g hg => (own_lt HO6.out g hg).2)
    obtain ⟨a7, c7, hv7⟩ := ownsRow_shape ho7
    subst hv7
    clear hb7 ho7
    rw [show ((0 : Nat) : Int) = 0 from rfl]
    go_wp2_with fail
    refine (K3.out _ _ HO7.out.at).mono ?_
    rintro e w8 ⟨rfl, hb8⟩
    have HX8 := Lib.hid (HX7.out.trans (hb8.mono HX7.out.size))
    have HO8 := Lib.hid (HO7.out.below hb8 (Nat.le_refl _))
    have HN8 := Lib.hid (ownsRow_below HN7.out hb8 (Nat.le_refl _))
    clear hb8
    rw [show ((0 : Nat) : Int) = 0 from rfl]
    have HGB := Lib.hid (HG3.out.below HX8.out (Nat.le_refl _))
    go_wp2_with fail
    refine (K5.out _ _ _ (HGB.out.below ((Below.refl w8.heap.size w8).alloc (Nat.le_refl _) _) (Nat.le_refl _)) (iat_one w8 num)).mono ?_
    rintro e w9 ⟨v9, rfl, ho9, hb9⟩
    have hb9' : Below w8.heap.size w8 w9 := ((Below.refl w8.heap.size w8).alloc (Nat.le_refl _) (.cells #[.int .i64 num] 3)).trans (hb9.mono (by simp))
    have HX9 := Lib.hid (HX8.out.trans (hb9'.mono HX8.out.size))
    have HO9 := Lib.hid (HO8.out.below hb9' (Nat.le_refl _))
    have HN9 := Lib.hid (ownsRow_below HN8.out hb9' (Nat.le_refl _))
    have HR9 := Lib.hid ho9.at
    clear hb9 hb9' ho9
    go_wp2_with (at_builtin; refine wpList_append_w (by rfl) (.tmp 65) (.tmp 69) rfl w3.heap.size v6 ms rfl HO9.out v9 rs rfl HR9.out (by omega) HX9.out.size ?_; intro v10 w10 ho10 hg10 hb10; have HO10 := Lib.hid ho10; have HX10 : Hid (Below w3.heap.size w3 w10) := Lib.hid (HX9.out.grown hg10 HX9.out.size (fun g hg => (own_lt HO9.out g hg).1)); have HN10 := Lib.hid (World.ownsRow.kept HN9.out hg10 (own_apart HN9.out HL7.out)); clear ho10 hg10 hb10)
    refine (K4.out _ _ HO10.out.at).mono ?_
    rintro e w11 ⟨rfl, hb11⟩
    have HX11 := Lib.hid (HX10.out.trans (hb11.mono HX10.out.size))
    have HN11 := Lib.hid (ownsRow_below HN10.out hb11 (Nat.le_refl _))
    clear hb11
    rw [show ((0 : Nat) : Int) = 0 from rfl]
    have HW11 := Lib.hid (ownsRow_below HW3.out HX11.out (Nat.le_refl _))
    have HG11 := Lib.hid (HG3.out.below HX11.out (Nat.le_refl _))
    rcases HN11.out.2 with ⟨-, hn⟩ | ⟨g7, cap7, cur7, hv7, _⟩
    · have := HN4.out; omega
    cases hv7
    have hn34 : N3 < N4 := by have := HN4.out; omega
    have hcell : w11.cell? ⟨g7, N3, none⟩ = some (.string t) := by
      rw [HN11.out.cellAt N3 (by omega), List.getElem?_append_right (by rw [HN3.out]; exact Nat.le_refl _), HN3.out, Nat.sub_self]
      rfl
    have s1 : (t.toList != t.toList) = false := by simp
    have s2 : ((N4 : Int) != (N4 : Int)) = false := by simp
    go_wp2
    go_loopw [19] (fun i wr => ∃ k : Nat, i = .int .i64 (k : Int) ∧ k ≤ N3 ∧ Hid (Below w11.heap.size w11 wr)) (fun i _ => N3 - (intOf i).toNat)
    case atStart => exact ⟨0, rfl, by omega, Lib.hid (Below.refl _ _)⟩
    case round =>
      obtain ⟨k, rfl, hk, HBL⟩ := hrel
      clear hcell
      by_cases hlt : k < N3
      · have HWr := ownsRow_below HW11.out HBL.out (Nat.le_refl _)
        have HNr := ownsRow_below HN11.out HBL.out (Nat.le_refl _)
        rcases HWr.2 with ⟨-, hn⟩ | ⟨g3, cap3, cur3, hv3, _⟩
        · omega
        cases hv3
        obtain ⟨s, hs⟩ := HST.out k (by have := HN3.out; omega)
        have q1 : wr.cell? ⟨g3, k, none⟩ = some (.string s) := by rw [HWr.cellAt k (by omega)]; exact hs
        have q2 : wr.cell? ⟨g7, k, none⟩ = some (.string s) := by
          rw [HNr.cellAt k (by omega), List.getElem?_append_left (by have := HN3.out; omega)]
          exact hs
        have s3 : (s.toList != s.toList) = false := by simp
        have hk4 : k < N4 := by omega
        clear HWr HNr hs
        go_wp2
        go_big_quiet (fail)
        go_wp2
        go_roundw
        case rel => exact ⟨k + 1, by go_num, by omega, Lib.hid (below_drewN HBL.out _)⟩
        case measure => simp [intOf]; omega
      · obtain rfl : k = N3 := by omega
        have HGr := Lib.hid (HG11.out.below HBL.out (Nat.le_refl _))
        have HXr := Lib.hid (below_trans' HX11.out HBL.out)
        go_wp2_with fail
        refine (K5.out _ _ _ (HGr.out.below ((Below.refl wr.heap.size wr).alloc (Nat.le_refl _) _) (Nat.le_refl _)) (iat_one wr num)).mono ?_
        rintro e w13 ⟨v13, rfl, ho13, hb13⟩
        have hb13' : Below wr.heap.size wr w13 := ((Below.refl wr.heap.size wr).alloc (Nat.le_refl _) (.cells #[.int .i64 num] 3)).trans (hb13.mono (by simp))
        have HX13 := Lib.hid (below_trans' HXr.out hb13')
        have HR13 := Lib.hid ho13.at
        obtain ⟨a13, c13, hv13⟩ := ho13.shape
        generalize hRL : rs.length = RL at hv13 hrl hcnt
        have HRL := Lib.hid hRL
        clear hRL hb13 hb13' ho13
        subst hv13
        have hsum : ((RL : Int) + (k : Int) == (GG : Int)) = true := by rw [beq_iff_eq]; have := HGG.out; omega
        go_wp2
        go_loopw [21] (fun i wq => ∃ q : Nat, i = .int .i64 (q : Int) ∧ q ≤ RL ∧ Hid (GAt wq (.slice a13 RL c13) rs) ∧ Hid (Below w3.heap.size w3 wq)) (fun i _ => RL - (intOf i).toNat)
        case atStart => exact ⟨0, rfl, by omega, HR13, HX13⟩
        case round =>
          obtain ⟨q, rfl, hq, HGq, HXq⟩ := hrel
          by_cases hqlt : q < RL
          · have hql : q < rs.length := by have := HRL.out; omega
            rcases HGq.out with ⟨h0, _⟩ | ⟨g, o, cc, hg, hcs⟩
            · rw [h0] at hql; simp at hql
            obtain ⟨q0, -⟩ := hcs q hql
            have hne := HRN.out rs[q] (List.getElem_mem hql)
            clear hcs
            generalize rs[q] = f at *
            clear hql
            have hnn : (f.n == num) = false := by rw [beq_eq_false_iff_ne]; exact hne
            clear hne
            generalize f.n = n1 at *
            cases hg
            go_wp2
            go_roundw
            case rel => exact ⟨q + 1, by go_num, by omega, HGq, HXq⟩
            case measure => simp [intOf]; omega
          · obtain rfl : q = RL := by omega
            go_wp2
            go_ret
            exact ⟨rfl, below_trans' HB3.out HXq.out⟩
  · have K1 := Lib.hid LC.c1
    have K2 := Lib.hid LC.c2
    have K3 := Lib.hid LC.c3
    have K4 := Lib.hid LC.c4
    have K5 := Lib.hid LC.c5
    have hrl := LC.rl
    have HRN := Lib.hid LC.rn
    have hcl := LC.cl
    clear LC
    have HONE := Lib.hid (fun W => gat_one W ⟨num, .tx t⟩)
    have hmore : (gs ++ [(⟨num, .tx t⟩ : Gf)]).length ≤ 501 := by rw [List.length_append, List.length_singleton]; omega
    obtain ⟨ms, hms⟩ : ∃ ms, ms = gs ++ [(⟨num, .tx t⟩ : Gf)] := ⟨_, rfl⟩
    rw [← hms] at K2 K3 K4 hmore
    have HMS := Lib.hid hms
    clear hms
    go_enter Try.func11, Try.ntmps11
    go_wp2_with fail
    refine (HLG.out _ HA.out).mono ?_
    rintro e w0 ⟨rfl, rfl⟩
    go_wp2_with fail
    refine (awake_any _).mono ?_
    rintro e w1 ⟨rfl, hb1⟩
    have HB1 := Lib.hid hb1
    have HA1 := Lib.hid (HA.out.below hb1 (Nat.le_refl _))
    clear hb1
    go_wp2_with fail
    refine (HMD.out _ _ HA1.out).mono ?_
    rintro e w2 ⟨v2, rfl, ho2, hb2⟩
    have HB2 := Lib.hid (below_trans' HB1.out hb2)
    have HG2 := Lib.hid ho2.at
    obtain ⟨a2, c2, hv2⟩ := ho2.shape
    generalize hGG : gs.length = GG at hv2
    have HGG := Lib.hid hGG
    have hGG5 : GG ≤ 500 := by omega
    clear hGG hb2 ho2
    subst hv2
    go_wp2_with fail
    refine (K1.out _ _ HG2.out).mono ?_
    rintro e w3 ⟨v3, rfl, ho3, hb3⟩
    have HB3 := Lib.hid (below_trans' HB2.out hb3)
    have HG3 := Lib.hid (HG2.out.below hb3 (Nat.le_refl _))
    rw [List.length_nil] at ho3
    have HW3 := Lib.hid ho3
    obtain ⟨a3, c3, hv3⟩ := ownsRow_shape ho3
    subst hv3
    clear hb3 ho3
    rw [show ((4 : Nat) : Int) = 4 from rfl]
    have HE3 := Lib.hid (og_empty w3 w3.heap.size (Nat.le_refl _))
    have HG4 := Lib.hid (HG3.out.below ((Below.refl w3.heap.size w3).alloc (Nat.le_refl _) (.cells #[] 35)) (Nat.le_refl _))
    have HX4 : Hid (Below w3.heap.size w3 (w3.alloc (.cells #[] 35))) := Lib.hid ((Below.refl w3.heap.size w3).alloc (Nat.le_refl _) _)
    go_wp2_with (first
      | (at_builtin; refine wpList_append_w (by rfl) (.tmp 42) (.tmp 43) rfl w3.heap.size _ [] rfl HE3.out (.slice a2 GG c2) gs rfl HG4.out (by simp; omega) (by simp) ?_; intro v5 w5 ho5 hg5 hb5; have HO5 : Hid (Og w5 w3.heap.size v5 gs) := Lib.hid (by simpa using ho5); have HX5 : Hid (Below w3.heap.size w3 w5) := Lib.hid (HX4.out.grown hg5 (by simp) (fun g hg => (own_lt HE3.out g hg).1)); clear ho5 hg5 hb5)
      | (at_builtin; refine wpList_append_w (by rfl) (.tmp 44) (.tmp 49) rfl w3.heap.size _ gs rfl (Og.alloc HO5.out (.cells #[.int .i64 num, .iface 80 (.string t)] 35)) (.slice (some ⟨w5.heap.size, 0, none⟩) 1 1) [⟨num, .tx t⟩] rfl (HONE.out w5) (by simp; omega) (by have := HX5.out.size; simp; omega) ?_; intro v6 w6 ho6 hg6 hb6; have HO6 : Hid (Og w6 w3.heap.size v6 ms) := Lib.hid (by rw [HMS.out]; exact ho6); have HX6 : Hid (Below w3.heap.size w3 w6) := Lib.hid ((HX5.out.alloc HX5.out.size (.cells #[.int .i64 num, .iface 80 (.string t)] 35)).grown hg6 (by have := HX5.out.size; simp; omega) (fun g hg => (own_lt HO5.out g hg).1)); clear ho6 hg6 hb6))
    refine (K2.out _ _ HO6.out.at).mono ?_
    rintro e w7 ⟨v7, rfl, ho7, hb7⟩
    have HX7 := Lib.hid (HX6.out.trans (hb7.mono HX6.out.size))
    have HO7 := Lib.hid (HO6.out.below hb7 (Nat.le_refl _))
    rw [List.length_nil] at ho7
    have HN7 := Lib.hid ho7
    have HL7 : Hid (∀ g, v6.ownBlock = some g → g < w6.heap.size) := Lib.hid (fun g hg => (own_lt HO6.out g hg).2)
    obtain ⟨a7, c7, hv7⟩ := ownsRow_shape ho7
    subst hv7
    clear hb7 ho7
    rw [show ((4 : Nat) : Int) = 4 from rfl]
    go_wp2_with fail
    refine (K3.out _ _ HO7.out.at).mono ?_
    rintro e w8 ⟨rfl, hb8⟩
    have HX8 := Lib.hid (HX7.out.trans (hb8.mono HX7.out.size))
    have HO8 := Lib.hid (HO7.out.below hb8 (Nat.le_refl _))
    have HN8 := Lib.hid (ownsRow_below HN7.out hb8 (Nat.le_refl _))
    clear hb8
    rw [show ((4 : Nat) : Int) = 4 from rfl]
    have HGB := Lib.hid (HG3.out.below HX8.out (Nat.le_refl _))
    go_wp2_with fail
    refine (K5.out _ _ _ (HGB.out.below ((Below.refl w8.heap.size w8).alloc (Nat.le_refl _) _) (Nat.le_refl _)) (iat_one w8 num)).mono ?_
    rintro e w9 ⟨v9, rfl, ho9, hb9⟩
    have hb9' : Below w8.heap.size w8 w9 := ((Below.refl w8.heap.size w8).alloc (Nat.le_refl _) (.cells #[.int .i64 num] 3)).trans (hb9.mono (by simp))
    have HX9 := Lib.hid (HX8.out.trans (hb9'.mono HX8.out.size))
    have HO9 := Lib.hid (HO8.out.below hb9' (Nat.le_refl _))
    have HN9 := Lib.hid (ownsRow_below HN8.out hb9' (Nat.le_refl _))
    have HR9 := Lib.hid ho9.at
    clear hb9 hb9' ho9
    go_wp2_with (at_builtin; refine wpList_append_w (by rfl) (.tmp 65) (.tmp 69) rfl w3.heap.size v6 ms rfl HO9.out v9 rs rfl HR9.out (by omega) HX9.out.size ?_; intro v10 w10 ho10 hg10 hb10; have HO10 := Lib.hid ho10; have HX10 : Hid (Below w3.heap.size w3 w10) := Lib.hid (HX9.out.grown hg10 HX9.out.size (fun g hg => (own_lt HO9.out g hg).1)); have HN10 := Lib.hid (World.ownsRow.kept HN9.out hg10 (own_apart HN9.out HL7.out)); clear ho10 hg10 hb10)
    refine (K4.out _ _ HO10.out.at).mono ?_
    rintro e w11 ⟨rfl, hb11⟩
    have HX11 := Lib.hid (HX10.out.trans (hb11.mono HX10.out.size))
    have HN11 := Lib.hid (ownsRow_below HN10.out hb11 (Nat.le_refl _))
    clear hb11
    rw [show ((4 : Nat) : Int) = 4 from rfl]
    go_wp2
    go_ret
    exact ⟨rfl, below_trans' HB3.out HX11.out⟩
theorem own : ownKnob Try.prog.godebug = none := by kernel_rfl
theorem laidOut : laidOutB Try.prog = true := by kernel_rfl
set_option maxRecDepth 100000 in
theorem lifted (os : Os) (started : os.Started) (H : Type) (enc : TypeId × Value → H) :
    ReturnsInHanded {} Try.checked os 11 .any (Rows.protoLastSpec.pre6 enc Try.prog Try.f11 Rows.protoLastRow.domain false) (Rows.protoLastSpec.post enc Try.prog Try.f11 false true false false) := by
  refine returnsInHanded_of_change (C := Try.checked) own started (by kernel_rfl) Try.func11
    (ChangeSpec.witness6 (enc := enc) (C := Try.checked) false ⟨#[], #[.slice none 0 0, .int .i64 0, .string ByteArray.empty], []⟩ 8 (by kernel_rfl) (by kernel_rfl) (by kernel_rfl) (by kernel_rfl)) ?_
  intro W base args ds gs before hval0 hW hcnd _
  have hval : ∀ (j : Nat) t v, Try.f11.params[j]? = some t → args[j]? = some v → Value.okWide Try.prog W .any base t v := hval0
  have hW' := hW
  obtain ⟨p, q, hA0, hV, rfl, hfz, hnd⟩ := hW
  have hA : DataW.TrodAll enc Try.prog W 0 (fun _ => true) true Try.f11.params.toList args.toList ds p := hA0
  rw [Try.params11] at hA hval
  obtain ⟨v0, vs0, d0, ds0, p0, q0, hargs, rfl, rfl, h0, r0⟩ := trodAll_cons hA
  obtain ⟨v1, vs1, d1, ds1, p1, q1, rfl, rfl, rfl, h1, r1⟩ := trodAll_cons r0
  obtain ⟨v2, vs2, d2, ds2, p2, q2, rfl, rfl, rfl, h2, r2⟩ := trodAll_cons r1
  obtain ⟨rfl, rfl, rfl⟩ := trodAll_nil r2
  obtain rfl : args = #[v0, v1, v2] := by cases args; simp_all
  obtain ⟨rfl, rfl⟩ := trodVars_none hV
  have k0 := h0
  have lt0 : ∀ x ∈ p0, x.block < W.heap.size := by obtain ⟨m, hm⟩ := k0; exact DataW.trod_lt m _ _ _ hm
  have k1 := h1
  have lt1 : ∀ x ∈ p1, x.block < W.heap.size := by obtain ⟨m, hm⟩ := k1; exact DataW.trod_lt m _ _ _ hm
  have k2 := h2
  have lt2 : ∀ x ∈ p2, x.block < W.heap.size := by obtain ⟨m, hm⟩ := k2; exact DataW.trod_lt m _ _ _ hm
  obtain ⟨a0, w0⟩ := open_fields (hval 0 23 v0 rfl rfl) h0
  obtain ⟨a1, rfl, rfl, rfl, w1⟩ := open_int Try.underlying3 (hval 1 3 v1 rfl rfl) h1
  obtain ⟨a2, rfl, rfl, rfl, w2⟩ := open_string Try.underlying9 (hval 2 9 v2 rfl rfl) h2
  clear hA0 hval0
  refine (core v0 a0 a1 a2 w1 w2 W w0).mono fun e W' ⟨he, bel⟩ => ?_
  subst he
  exact ⟨_, rfl, _, _, _, [], _, [], hW', trodAll_mk1 (shut_bool Try.underlying4 _), (trodAll_cons_mk (Below.trod laidOut (by kernel_rfl) (of_decide_eq_true (by kernel_rfl)) k0 bel lt0) (trodAll_cons_mk (Below.trod laidOut (by kernel_rfl) (of_decide_eq_true (by kernel_rfl)) k1 bel lt1) (trodAll_cons_mk (Below.trod laidOut (by kernel_rfl) (of_decide_eq_true (by kernel_rfl)) k2 bel lt2) trodAll_mk0))), rfl, bel.frame _, fun h => by cases h⟩
theorem over : Rows.protoLastRow.holds Try.pinned (OpenSpec.ofChange Rows.protoLastSpec) :=
  OpenClaim.holds_of_wide 11 Try.f11 rfl rfl rfl rfl rfl rfl rfl ⟨rfl, rfl, rfl, rfl, rfl⟩ rfl rfl rfl rfl rfl (by kernel_rfl) Try.func11 (by kernel_rfl)
    (of_decide_eq_true (by kernel_rfl)) (by unfold Func.isWrapper; first | (rw [if_pos (by decide +kernel)]; kernel_rfl) | (rw [if_neg (by decide +kernel)]; exact ⟨rfl, rfl⟩))
    (fun os started H enc _ => lifted os started H enc)
theorem proved : Rows.ProtoLastSaid := over
end Go.Proofs.Ytbckkfoenembmaa.protoLast
