/- The document's Same, Free. -/
import Derived.Test.YtieemdcoomilaaaGreatDoorJb
import Derived.Test.YtieemdcoomilaaaGreatDoorWr
import Derived.Test.YtieemdcoomilaaaGreatDoorWi
import Derived.Test.YtieemdcoomilaaaGreatDoorHr
import Derived.Test.YtieemdcoomilaaaGreatDoorVi
set_option linter.unusedVariables false
set_option linter.unusedSimpArgs false
namespace Go.Proofs.YtieemdcoomilaaaGreatDoor
open Go Go.RowKit BigFrame
set_option maxRecDepth 100000
set_option maxHeartbeats 1000000 in
theorem rsame_in (g b s : Int) (l m : List Int) (u v : Value) (w : World) (hu : KAt w u l) (hv : KAt w v m) (hl : l.length ≤ 9223372036854775807) (hlm : l.length = m.length) : Calls Tryz.prog 16 #[hval ⟨g, b, s, l⟩ u, hval ⟨g, b, s, m⟩ v] w (Ret w (.bool (decide (l = m)))) := by
  obtain ⟨a1, c1, rfl⟩ := hu.slice
  obtain ⟨a2, c2, rfl⟩ := hv.slice
  have HU := Lib.hid hu
  have HVV := Lib.hid hv
  clear hu hv
  have HN := Lib.hid (fun (k : Nat) (h1 : k < l.length) (h2 : k < m.length) (e : l[k] = m[k]) (et : l.take k = m.take k) => show l.take (k + 1) = m.take (k + 1) from by
    rw [List.take_succ_eq_append_getElem h1, List.take_succ_eq_append_getElem h2, e, et])
  have HNE := Lib.hid (fun (k : Nat) (h1 : k < l.length) (h2 : k < m.length) (e : ¬ l[k] = m[k]) => show decide (l = m) = false from decide_eq_false (fun eq => e (by subst eq; rfl)))
  have HEQ := Lib.hid (fun (k : Nat) (h1 : k = l.length) (et : l.take k = m.take k) => show decide (l = m) = true from decide_eq_true (by
    rw [List.take_of_length_le (by omega), List.take_of_length_le (by omega)] at et; exact et))
  have HB0 : Hid (Below w.heap.size w ((w.alloc (.cells #[.int .i64 g, .int .i64 b, .int .i64 s, .slice a1 l.length c1] 40)).alloc (.cells #[.int .i64 g, .int .i64 b, .int .i64 s, .slice a2 m.length c2] 40))) := Lib.hid (below_two _ _ _)
  have X0 : Hid (Box4 ((w.alloc (.cells #[.int .i64 g, .int .i64 b, .int .i64 s, .slice a1 l.length c1] 40)).alloc (.cells #[.int .i64 g, .int .i64 b, .int .i64 s, .slice a2 m.length c2] 40)) w.heap.size (.int .i64 g) (.int .i64 b) (.int .i64 s) (.slice a1 l.length c1)) := Lib.hid ((Box4.new w _ _ _ _).alloc _)
  have Y0 : Hid (Box4 ((w.alloc (.cells #[.int .i64 g, .int .i64 b, .int .i64 s, .slice a1 l.length c1] 40)).alloc (.cells #[.int .i64 g, .int .i64 b, .int .i64 s, .slice a2 m.length c2] 40)) (w.heap.size + 1) (.int .i64 g) (.int .i64 b) (.int .i64 s) (.slice a2 m.length c2)) := Lib.hid (by
    have := Box4.new (w.alloc (.cells #[.int .i64 g, .int .i64 b, .int .i64 s, .slice a1 l.length c1] 40)) (.int .i64 g) (.int .i64 b) (.int .i64 s) (.slice a2 m.length c2)
    rw [World.size_alloc] at this; exact this)
  unfold hval
  dsimp only
  obtain ⟨N, hN⟩ : ∃ N, N = l.length := ⟨_, rfl⟩
  have HNl := Lib.hid hN
  have HNm := Lib.hid (hN.trans hlm)
  rw [← hlm] at HB0 X0 Y0 HVV ⊢
  rw [← hN] at HB0 X0 Y0 HVV ⊢
  rw [← hN] at HU hl
  clear hN hlm
  generalize decide (l = m) = D at *
  have eg : (g != g) = false := by simp
  have eb : (b != b) = false := by simp
  have es : (s != s) = false := by simp
  have el : ((N : Int) != (N : Int)) = false := by simp
  go_enter Tryz.func16, Tryz.ntmps16
  go_wp2
  go_loopw [5] (fun i wl => ∃ k : Nat, i = .int .i64 (k : Int) ∧ k ≤ N ∧ Hid (l.take k = m.take k) ∧ Hid (Box4 wl w.heap.size (.int .i64 g) (.int .i64 b) (.int .i64 s) (.slice a1 N c1)) ∧ Hid (Box4 wl (w.heap.size + 1) (.int .i64 g) (.int .i64 b) (.int .i64 s) (.slice a2 N c2)) ∧ Hid (Below w.heap.size w wl)) (fun i _ => N - (intOf i).toNat)
  case atStart => exact ⟨0, rfl, by omega, Lib.hid (by simp), X0, Y0, HB0⟩
  case round =>
    obtain ⟨k, rfl, hk, HT, HX, HY, HB⟩ := hrel
    have q3 := HX.out.c3
    have p3 := HY.out.c3
    by_cases hltN : k < N
    · have hlt : k < l.length := by rw [← HNl.out]; exact hltN
      have hlt2 : k < m.length := by rw [← HNm.out]; exact hltN
      obtain ⟨G, o, c', ee, hc⟩ := HU.out.pos (fun e => by rw [e] at hlt; exact absurd hlt (by simp))
      injection ee with ea en ec
      clear en
      subst ea ec
      obtain ⟨G2, o2, c2', ee, hc2⟩ := HVV.out.pos (fun e => by rw [e] at hlt2; exact absurd hlt2 (by simp))
      injection ee with ea en ec
      clear en
      subst ea ec
      have hx := (HU.out.below HB.out (Nat.le_refl _)).at k hlt
      have hy := ((show KAt w (.slice (some ⟨G2, o2, none⟩) N c2) m from HVV.out).below HB.out (Nat.le_refl _)).at k hlt2
      have HN1 := Lib.hid (HN.out k hlt hlt2)
      have HNE1 := Lib.hid (HNE.out k hlt hlt2)
      have hkc : k < c1 := by have := HNl.out; omega
      have hkc2 : k < c2 := by have := HNm.out; omega
      have hdw := Lib.hid (fun nq => Go.below_drewN (Below.refl wr.heap.size wr) nq)
      generalize l[k] = x at *
      generalize m[k] = y at *
      clear hlt hlt2 hc hc2
      by_cases hxy : x = y
      · have e4 : (x != y) = false := by rw [bne_eq_false_iff_eq]; exact hxy
        have HT2 := Lib.hid (HN1.out hxy HT.out)
        have HX4 := Lib.hid (fun nq => HX.out.below (hdw.out nq) HX.out.lt)
        have HY4 := Lib.hid (fun nq => HY.out.below (hdw.out nq) HY.out.lt)
        clear hxy
        go_wp2
        go_big_quiet (fail)
        go_wp2
        go_roundw
        case rel => exact ⟨k + 1, by go_num, by omega, HT2, Lib.hid (HX4.out _), Lib.hid (HY4.out _), Lib.hid (Go.below_drewN HB.out _)⟩
        case measure => simp [intOf]; omega
      · have e4 : (x != y) = true := by rw [bne_iff_ne]; exact hxy
        have HD : Hid (D = false) := Lib.hid (HNE1.out hxy)
        clear hxy
        go_wp2
        go_big_quiet (fail)
        go_wp2
        go_ret
        exact ⟨by rw [HD.out]; rfl, Go.below_drewN HB.out _⟩
    · have HD : Hid (D = true) := Lib.hid (HEQ.out k (by have := HNl.out; omega) HT.out)
      go_wp2
      go_ret
      exact ⟨by rw [HD.out]; rfl, HB.out⟩
set_option maxHeartbeats 1000000 in
theorem rsame_any (x y : He) (u v : Value) (w : World) (hu : KAt w u x.log) (hv : KAt w v y.log) (hl : x.log.length ≤ 9223372036854775807) (hm : y.log.length ≤ 9223372036854775807) : Calls Tryz.prog 16 #[hval x u, hval y v] w (Ret w (.bool (sameB x y))) := by
  obtain ⟨g, b, s, l⟩ := x
  obtain ⟨g', b', s', m⟩ := y
  dsimp only at *
  by_cases h1 : g = g'
  · by_cases h2 : b = b'
    · by_cases h3 : s = s'
      · by_cases h4 : l.length = m.length
        · subst h1 h2 h3
          have := rsame_in g b s l m u v w hu hv hl h4
          have e : sameB ⟨g, b, s, l⟩ ⟨g, b, s, m⟩ = decide (l = m) := by unfold sameB; simp
          rw [e]; exact this
        · have e : sameB ⟨g, b, s, l⟩ ⟨g', b', s', m⟩ = false := by
            unfold sameB
            dsimp only
            rw [decide_eq_false (fun e => h4 (by rw [e]) : ¬ l = m)]; simp
          rw [e]
          obtain ⟨a1, c1, rfl⟩ := hu.slice
          obtain ⟨a2, c2, rfl⟩ := hv.slice
          subst h1 h2 h3
          have eg : (g != g) = false := by simp
          have eb : (b != b) = false := by simp
          have es : (s != s) = false := by simp
          have el : ((l.length : Int) != (m.length : Int)) = true := by rw [bne_iff_ne]; omega
          unfold hval
          dsimp only
          clear hu hv e h4
          go_enter Tryz.func16, Tryz.ntmps16
          go_wp2
          go_ret
          exact ⟨rfl, below_two _ _ _⟩
      · have e : sameB ⟨g, b, s, l⟩ ⟨g', b', s', m⟩ = false := by
          unfold sameB
          dsimp only
          rw [decide_eq_false h3]; simp
        rw [e]
        subst h1 h2
        have eg : (g != g) = false := by simp
        have eb : (b != b) = false := by simp
        have es : (s != s') = true := by rw [bne_iff_ne]; exact h3
        unfold hval
        dsimp only
        clear hu hv e h3
        go_enter Tryz.func16, Tryz.ntmps16
        go_wp2
        go_ret
        exact ⟨rfl, below_two _ _ _⟩
    · have e : sameB ⟨g, b, s, l⟩ ⟨g', b', s', m⟩ = false := by
        unfold sameB
        dsimp only
        rw [decide_eq_false h2]; simp
      rw [e]
      subst h1
      have eg : (g != g) = false := by simp
      have eb : (b != b') = true := by rw [bne_iff_ne]; exact h2
      unfold hval
      dsimp only
      clear hu hv e h2
      go_enter Tryz.func16, Tryz.ntmps16
      go_wp2
      go_ret
      exact ⟨rfl, below_two _ _ _⟩
  · have e : sameB ⟨g, b, s, l⟩ ⟨g', b', s', m⟩ = false := by
      unfold sameB
      dsimp only
      rw [decide_eq_false h1]; simp
    rw [e]
    have eg : (g != g') = true := by rw [bne_iff_ne]; exact h1
    unfold hval
    dsimp only
    clear hu hv e h1
    go_enter Tryz.func16, Tryz.ntmps16
    go_wp2
    go_ret
    exact ⟨rfl, below_two _ _ _⟩
end Go.Proofs.YtieemdcoomilaaaGreatDoor
namespace Go.Proofs.YtieemdcoomilaaaGreatDoor
open Go Go.RowKit Go.Sort
set_option maxRecDepth 100000
/-- A row of texts that is read. -/
def SAt (W : World) (v : Value) (l : List ByteArray) : Prop :=
  (l = [] ∧ ∃ a c, v = .slice a 0 c) ∨ ∃ g o c, v = .slice (some ⟨g, o, none⟩) l.length c ∧ l.length ≤ c ∧ ∀ j (h : j < l.length), W.cell? ⟨g, o + j, none⟩ = some (.string l[j])
theorem SAt.same {w w' : World} {v : Value} {l : List ByteArray} (h : SAt w v l) (hb : ∀ g, g < w.heap.size → v.ownBlock = some g → w'.heap[g]? = w.heap[g]?) : SAt w' v l := by
  rcases h with h | ⟨g, o, c, rfl, hc, h⟩
  · exact .inl h
  · refine .inr ⟨g, o, c, rfl, hc, fun j hj => ?_⟩
    have hlt := World.block_lt_of_cell? w ⟨g, _, none⟩ (h j hj)
    exact (World.cell?_of_block (a := ⟨g, _, none⟩) (hb g hlt rfl)).trans (h j hj)
theorem SAt.below {w w' : World} {v : Value} {l : List ByteArray} (h : SAt w v l) (hb : Below w.heap.size w w') : SAt w' v l := h.same fun g hg _ => hb.block g hg
theorem SAt.grown {w w' : World} {v : Value} {l : List ByteArray} {B : Nat} (h : SAt w v l) (hb : w.grownBy w' (some B)) (hn : ∀ q, v.ownBlock = some q → q ≠ B) : SAt w' v l := h.same fun g hg e => hb.block g hg (fun e2 => hn g e (by cases e2; rfl))
theorem SAt.slice {w : World} {v : Value} {l : List ByteArray} (h : SAt w v l) : ∃ a c, v = .slice a l.length c := by
  rcases h with ⟨rfl, a, c, rfl⟩ | ⟨g, o, c, rfl, _⟩
  · exact ⟨_, _, rfl⟩
  · exact ⟨_, _, rfl⟩
theorem SAt.nil (W : World) : SAt W (.slice none 0 0) [] := .inl ⟨rfl, _, _, rfl⟩
theorem SAt.pos {w : World} {v : Value} {l : List ByteArray} (h : SAt w v l) (hne : 0 < l.length) : ∃ g o c, v = .slice (some ⟨g, o, none⟩) l.length c ∧ l.length ≤ c ∧ ∀ j (h : j < l.length), w.cell? ⟨g, o + j, none⟩ = some (.string l[j]) := by
  rcases h with ⟨rfl, _⟩ | h
  · simp at hne
  · exact h
theorem Own.sat {w : World} {base : Nat} {v : Value} {l : List ByteArray} (h : Own w base v (strs l)) : SAt w v l := by
  unfold strs at h
  rcases h with ⟨rfl, h0⟩ | ⟨g, cap, rfl, _, _, hc, _, _, hcs⟩
  · exact .inl ⟨by simpa using h0, _, _, rfl⟩
  · rw [List.length_map] at *
    refine .inr ⟨g, 0, cap, rfl, hc, fun j hj => ?_⟩
    rw [Nat.zero_add, hcs j hj]
    simp [hj]
theorem sat_new (W : World) (l : List ByteArray) (t : TypeId) (hne : 0 < l.length) : SAt (W.alloc (.cells (strs l).toArray t)) (.slice (some ⟨W.heap.size, 0, none⟩) l.length l.length) l :=
  .inr ⟨_, _, _, rfl, Nat.le_refl _, fun j hj => by
    rw [Nat.zero_add, World.cell?_alloc_new]
    simp [strs, hj]⟩
theorem str_eq (x y : ByteArray) : (x.toList == y.toList) = decide (x = y) := by
  rw [Bool.eq_iff_iff]
  simp only [beq_iff_eq, decide_eq_true_eq]
  constructor
  · intro e
    rw [Lib.toList_data, Lib.toList_data] at e
    apply ByteArray.ext
    exact Array.toList_inj.1 e
  · rintro rfl; rfl
theorem retb {a b : Bool} (h : a = b) : Ending.returned (.bool a) = .returned (.bool b) := by rw [h]
theorem get_eq {l m : List ByteArray} (hl : l.length = m.length) (h : ∀ j (h1 : j < l.length) (h2 : j < m.length), l[j] = m[j]) : l = m := List.ext_getElem hl h
set_option maxHeartbeats 1000000 in
theorem texts_any (l m : List ByteArray) (u v : Value) (w : World) (hu : SAt w u l) (hv : SAt w v m) (hl : l.length ≤ 9223372036854775807) (hm : m.length ≤ 9223372036854775807) : Calls Tryz.prog 31 #[u, v] w (Ret w (.bool (decide (l = m)))) := by
  have HU := Lib.hid hu
  have HV := Lib.hid hv
  obtain ⟨a1, c1, e1⟩ := hu.slice
  obtain ⟨a2, c2, e2⟩ := hv.slice
  obtain ⟨L, hL⟩ : ∃ L, l.length = L := ⟨_, rfl⟩
  obtain ⟨M, hM⟩ : ∃ M, m.length = M := ⟨_, rfl⟩
  rw [hL] at e1 hl
  rw [hM] at e2 hm
  have HLM := Lib.hid (And.intro hL hM)
  by_cases hn : L = M
  · have hb : ((L : Int) != (M : Int)) = false := by rw [hn]; simp
    have HY := Lib.hid (fun h => decide_eq_true (get_eq (l := l) (m := m) (by omega) h))
    have HN : Hid (∀ j (h1 : j < l.length) (h2 : j < m.length), l[j] ≠ m[j] → decide (l = m) = false) := Lib.hid (fun j h1 h2 h => decide_eq_false (fun e => h (by subst e; rfl)))
    have HB0 : Hid (Below w.heap.size w w) := Lib.hid (Below.refl _ _)
    have HNN := Lib.hid hn
    clear hu hv hL hM hn
    subst e1 e2
    generalize decide (l = m) = r at *
    go_enter Tryz.func31, Tryz.ntmps31
    go_wp2
    go_loopw [5] (fun i wr => ∃ k : Nat, i = .int .i64 k ∧ k ≤ L ∧ Hid (Below w.heap.size w wr) ∧ Hid (∀ j (h1 : j < l.length) (h2 : j < m.length), j < k → l[j] = m[j])) (fun i _ => L - (intOf i).toNat)
    case atStart => exact ⟨0, rfl, by omega, HB0, Lib.hid fun j _ _ h => by omega⟩
    case round =>
      obtain ⟨k, rfl, hk, HB, HK⟩ := hrel
      by_cases hlt : k < L
      · have hlt2 : k < M := by have := HNN.out; omega
        have hL := HLM.out.1
        have hM := HLM.out.2
        obtain ⟨g1, o1, c3, h1, h2, h3⟩ := (HU.out.below HB.out).pos (by omega)
        obtain ⟨g2, o2, c4, h4, h5, h6⟩ := (HV.out.below HB.out).pos (by omega)
        have q1 := h3 k (by omega)
        have q2 := h6 k (by omega)
        rw [hL] at h1
        rw [hM] at h4
        injection h1 with h1 h1b h1c
        injection h4 with h4 h4b h4c
        subst h1 h4
        obtain ⟨x, hx⟩ : ∃ x, l[k]'(by omega) = x := ⟨_, rfl⟩
        obtain ⟨y, hy⟩ : ∃ y, m[k]'(by omega) = y := ⟨_, rfl⟩
        rw [hx] at q1
        rw [hy] at q2
        have hs := str_eq x y
        have HX : Hid (∀ (h1 : k < l.length) (h2 : k < m.length), l[k] = x ∧ m[k] = y) := Lib.hid fun _ _ => ⟨hx, hy⟩
        clear h3 h6 hx hy h1c h4c h1b h4b h2 h5 hL hM
        by_cases hxy : x = y
        · have HZ : Hid (∀ j (h1 : j < l.length) (h2 : j < m.length), j < k + 1 → l[j] = m[j]) := Lib.hid fun j p1 p2 p3 => by
            have hL := HLM.out.1
            rcases Nat.lt_or_ge j k with h | h
            · exact HK.out j p1 p2 h
            · obtain rfl : j = k := by omega
              rw [(HX.out p1 p2).1, (HX.out p1 p2).2, hxy]
          rw [decide_eq_true hxy] at hs
          clear hxy
          go_wp2
          go_region
          go_wp2
          go_roundw
          case rel => exact ⟨k + 1, by simp, by omega, Lib.hid (Below.drew HB.out), HZ⟩
          case measure => (try simp [intOf]); (try omega)
        · have HZ := Lib.hid (HN.out k (by have := HLM.out.1; omega) (by have := HLM.out.2; omega) (by have hL := HLM.out.1; have hM := HLM.out.2; rw [(HX.out (by omega) (by omega)).1, (HX.out (by omega) (by omega)).2]; exact hxy))
          rw [decide_eq_false hxy] at hs
          clear hxy
          go_wp2
          go_region
          go_wp2
          go_ret
          exact ⟨retb HZ.out.symm, HB.out.drew⟩
      · have HZ := Lib.hid (HY.out fun j h1 h2 => HK.out j h1 h2 (by have := HLM.out.1; omega))
        go_wp2
        go_ret
        exact ⟨retb HZ.out.symm, HB.out⟩
  · have hb : ((L : Int) != (M : Int)) = true := by rw [bne_iff_ne]; omega
    have HF : Hid (decide (l = m) = false) := Lib.hid (decide_eq_false (fun e => hn (by rw [← hL, ← hM, e])))
    clear hu hv HU HV hn hL hM HLM
    subst e1 e2
    go_enter Tryz.func31, Tryz.ntmps31
    go_wp2
    go_ret
    exact ⟨retb HF.out.symm, Below.refl _ _⟩
theorem vis_any (V B mo : Nat) (h : He) (n : Nat) (vv : Value) (x : He) (u : Value) (w : World) (a : VAt w V B mo h n vv) (hne : h.log ≠ []) (hl : h.log.length ≤ 1000) (hu : KAt w u x.log) (hx : x.log.length ≤ 1000) :
    Calls Tryz.prog 19 #[.pointer (some ⟨V, 0, none⟩), .int .i64 x.gen, .int .i64 x.base, .int .i64 x.snap, u] w (Ret w (.bool (sameB h x))) := by
  have HH := Lib.hid (head_any V B mo h n vv w a hne hl)
  have HU := Lib.hid hu
  have HS := Lib.hid (fun W v (k1 : KAt W v h.log) (k2 : KAt W u x.log) => rsame_any h x v u W k1 k2 (by omega) (by omega))
  obtain ⟨ua, uc, eu⟩ := hu.slice
  clear a hu
  generalize x.log.length = L at *
  subst eu
  go_enter Tryz.func19, Tryz.ntmps19
  go_wp2_with fail
  refine HH.out.mono ?_
  rintro e w1 ⟨v, rfl, ho, hb⟩
  have HO := Lib.hid ho
  have HB := Lib.hid hb
  obtain ⟨va, vc, ev⟩ := ho.shape
  rw [List.length_map] at ev
  clear ho hb
  subst ev
  generalize h.log.length = M at *
  unfold hval at *
  go_wp2_with fail
  refine (HS.out _ _ HO.out.kat (HU.out.below HB.out (Nat.le_refl _))).mono ?_
  rintro e w2 ⟨rfl, hb⟩
  have HB2 := Lib.hid (below_trans' HB.out hb)
  clear hb
  go_wp2
  go_ret
  exact ⟨rfl, HB2.out⟩
end Go.Proofs.YtieemdcoomilaaaGreatDoor
namespace Go.Proofs.YtieemdcoomilaaaGreatDoor.Vt
open Go Go.RowKit
set_option maxRecDepth 100000
theorem do_down {d : Dk} (hdn : d.dn = true) (t : Int) (torn : Bool) (g : Tp → Tp × Nat) : doD d t torn g = (d, 45) := by unfold doD; rw [if_pos hdn]
theorem sl_down {d : Dk} (hdn : d.dn = true) (t : Nat) : sl d t = (d, 45) ∨ sl d t = (d, 0) := by
  unfold sl
  split
  · exact .inl (do_down hdn _ _ _)
  · exact .inr rfl
theorem open_down {d : Dk} (hdn : d.dn = true) : opD d = ((d, 45), he0, none, []) := by
  have hl : (ldR d).2.2.2 = 45 := by unfold ldR; rw [if_pos hdn]
  have hb : bgH d = ((d, 45), he0) := by unfold bgH; rw [hl, if_pos (by decide)]
  have e : bg d = ((d, 45), he0) := by
    unfold bg
    rcases sl_down hdn 0 with h0 | h0
    · rw [h0, thn_bad _ rfl]; rfl
    · rcases sl_down hdn 1 with h1 | h1
      · rw [h0, thn_ok _ rfl]
        simp only [h1]
        rfl
      · rw [h0, thn_ok _ rfl]
        simp only [h1, hb]
        rfl
  unfold opD
  rw [e]
  rfl
theorem add_down {d : Dk} (hdn : d.dn = true) (h : He) (n most : Nat) (r : ByteArray) : (addD d h n most r).1.1 = d ∧ ((addD d h n most r).1.2 = 40 ∨ (addD d h n most r).1.2 = 45) ∧ (addD d h n most r).2 = (h, n) := by
  unfold addD
  split
  · exact ⟨rfl, .inl rfl, rfl⟩
  · exact ⟨rfl, .inr rfl, rfl⟩
theorem sync_down {d : Dk} (hdn : d.dn = true) (h : He) : syD d h = (d, 45) := do_down hdn _ _ _
theorem lay_down {d : Dk} (hdn : d.dn = true) (h : He) (n : Nat) (s : ByteArray) : (layD d h n s).1.1 = d ∧ ((layD d h n s).1.2 = 40 ∨ (layD d h n s).1.2 = 45) ∧ (layD d h n s).2 = (h, n) := by
  unfold layD
  split
  · exact ⟨rfl, .inl rfl, rfl⟩
  · exact ⟨rfl, .inr rfl, rfl⟩
theorem whl_new : (whl hNew).size = 14 := size_A 1 (by omega)
/-- A vault on a new disk. -/
theorem open_new {c : Nat} (hc : 14 ≤ c) (hok : (made0 c []).ok) : ∃ d', opD (made0 c []) = ((d', 0), hNew, none, []) ∧ Opn (made0 c []) hNew none [] d' ∧ d'.T = upd (upd (made0 c []).T 2 t0) 0 ⟨whl hNew, 14⟩ := by
  have hdn : (made0 c []).dn = false := rfl
  have hdm : (made0 c []).dm = false := rfl
  have hT : ∀ j, (made0 c []).T j = t0 := fun j => rfl
  have hu := made0_used c
  have hcap : (made0 c []).cap = c := rfl
  have hld : ldR (made0 c []) = (he0, 0, false, 0) := rfl
  have hp : ptT (made0 c []) = 0 := rfl
  generalize made0 c [] = d at *
  have e1 : thn (sl d 0) (fun d => sl d 1) = (d, 0) := by rw [sl_firm (by rw [hT]; rfl), thn_ok _ rfl]; exact sl_firm (by rw [hT]; rfl)
  rcases wi_step hdn hok (t := 2) (by decide) with q | q
  · have q' : Okd d (upd d.T 2 t0) (doD d 2 false wi) := q
    have u1 : Upd d (doD d 2 false wi).1 := q'.upd ⟨hdn, hok, rfl, fun e => e⟩
    have T1 : (doD d 2 false wi).1.T = upd d.T 2 t0 := q'.T
    have e2 : bgH d = (putR (doD d 2 false wi).1 hNew, hNew) := by
      unfold bgH
      rw [hld, if_neg (by simp), if_neg (by simp)]
      have := thn_ok (x := doD d 2 false wi) (fun d => putR d hNew) q'.e
      rw [this]
    generalize (doD d 2 false wi).1 = d1 at *
    have hsz : ∀ j < 32, (d1.T j).s.size = (d.T j).s.size := fun j hj => by
      rw [T1]
      by_cases ej : j = 2
      · rw [ej, upd_same, hT]
      · rw [upd_other _ _ ej]
    have hu1 := used_same hsz
    have hp1 : ptT d1 = 0 := (ptT_same hdn u1.dn (by rw [T1]; rfl) (by rw [T1]; rfl)).trans hp
    have hw := whl_new
    have hr : room d1 (ptT d1) (whl hNew) := by
      unfold room
      have := u1.cap
      omega
    have hs := stP_st u1.dn (show ptT d1 < 32 by omega) (s := whl hNew) (by omega)
    have e : putR d1 hNew = stP d1 (ptT d1) (whl hNew) := by unfold putR; rw [hNew_may, if_pos rfl, ld_up u1.dn, if_neg (by simp)]
    have hcalm := hs.calm (u1.dm hdm) hr
    rw [← e] at hcalm
    have h0 : (bgH d).1.2 = 0 := by rw [e2, hcalm]
    obtain ⟨uy, hh⟩ := bgH_gen hdn hok hdm (by rw [hT]; rfl) (by rw [hT]; rfl) h0
    have eT : (bgH d).1.1.T = upd (upd d.T 2 t0) 0 ⟨whl hNew, 14⟩ := by
      rw [e2, hcalm]
      dsimp only
      rw [hp1, T1, hw]
    have eh : (bgH d).2 = hNew := by rw [e2]
    have hb : bg d = (over (wo hNew) tps (bgH d).1.1, hNew) := by
      unfold bg
      simp only [e1]
      rw [if_neg (by simp), eh, if_neg (by omega)]
    rw [eh] at hh
    generalize (bgH d).1.1 = d2 at *
    have hT2 : ∀ j, j ≠ 0 → d2.T j = t0 := fun j hj => by
      rw [eT, upd_other _ _ hj]
      by_cases ej : j = 2
      · rw [ej, upd_same]
      · rw [upd_other _ _ ej, hT]
    have hemp : Emp d2.T hNew := fun t h2 _ _ => by rw [hT2 t (by omega)]; rfl
    have hstd : StdT d2.T hNew none [] [] := by
      refine ⟨hh, .inl ⟨rfl, rfl⟩, .last 2 [] [] (fun r hr => by cases hr) ?_ (Nat.zero_le _)⟩
      rw [hT2 _ (by decide)]; rfl
    have hf : ∀ j < 32, fm (d2.T j) := fun j _ => by
      by_cases ej : j = 0
      · rw [ej]; exact hh.f0
      · rw [hT2 j ej]; rfl
    have ho := open_same uy.dn hstd hemp hf
    have hb2 : bg d2 = ((d2, 0), hNew) := by rw [bg_head uy.dn hh, over_wo_emp hemp]
    have hbd : bg d = ((d2, 0), hNew) := by rw [hb, over_wo_emp hemp]
    refine ⟨d2, ?_, ⟨uy, hstd, hemp, hf⟩, eT⟩
    have : opD d = opD d2 := by unfold opD; rw [hbd, hb2]
    rw [this]
    exact ho
  · have := q.dm; rw [hdm] at this; cases this
end Go.Proofs.YtieemdcoomilaaaGreatDoor.Vt
