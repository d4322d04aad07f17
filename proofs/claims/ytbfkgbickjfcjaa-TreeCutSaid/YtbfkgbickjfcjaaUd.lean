/- What stays within bounds; transactions in memory; grown. -/
import Derived.Test.YtbfkgbickjfcjaaUc
namespace Go.Proofs.Ytbfkgbickjfcjaa
set_option linter.unusedVariables false
set_option linter.unusedSimpArgs false
open Go Go.RowKit
set_option maxRecDepth 100000
/-- After n steps. -/
structure Fit (n : Nat) (s : St) : Prop where
  lo : 0 ≤ s.rev
  hi : s.rev ≤ n
  L : s.L.length ≤ 8 * n
  H : s.H.length ≤ n
  each : ∀ y ∈ s.H, y.2.length ≤ 8
theorem Fit.mono {n m : Nat} {s : St} (h : Fit n s) (k : n ≤ m) : Fit m s := ⟨h.lo, by have := h.hi; omega, by have := h.L; omega, by have := h.H; omega, h.each⟩
theorem fit_emp : Fit 0 emp := ⟨by decide, by decide, by decide, by decide, fun y h => by cases h⟩
theorem mayB_os {x : Tx} (h : mayB x = true) : x.os.length ≤ 8 := by
  unfold mayB at h
  simp only [Bool.and_eq_true, decide_eq_true_eq] at h
  exact h.1.1.2
theorem mem_insV {k : Int} {v : List Ev} {L : List (Int × List Ev)} {y : Int × List Ev} (h : y ∈ ins ltI k v L) : y = (k, v) ∨ y ∈ L := by
  unfold ins at h
  rcases List.mem_append.1 h with h | h
  · exact .inr (List.mem_filter.1 h).1
  · rcases List.mem_cons.1 h with h | h
    · exact .inl h
    · exact .inr (List.mem_filter.1 h).1
theorem fit_do {n : Nat} {s : St} (x : Tx) (h : Fit n s) : Fit (n + 1) (doS s x).2 := by
  unfold doS
  by_cases h1 : mayB x = false
  · rw [if_pos h1]; exact h.mono (by omega)
  rw [if_neg h1]
  by_cases h2 : holdsB s x.cs = false
  · rw [if_pos h2]; exact h.mono (by omega)
  rw [if_neg h2]
  by_cases h3 : x.os = []
  · rw [if_pos h3]; exact h.mono (by omega)
  rw [if_neg h3]
  by_cases h4 : s.rev = 1099511627776
  · rw [if_pos h4]; exact h.mono (by omega)
  rw [if_neg h4]
  have h8 := mayB_os (x := x) (by simpa using h1)
  have hr := runO_rev x.os { s with rev := s.rev + 1 }
  have hl := runO_len x.os { s with rev := s.rev + 1 }
  generalize runO { s with rev := s.rev + 1 } x.os = q at *
  obtain ⟨s', es⟩ := q
  dsimp only at hr hl ⊢
  have a1 := h.lo
  have a2 := h.hi
  have a3 := h.L
  have a4 := h.H
  unfold fin
  by_cases h5 : es = []
  · rw [if_pos h5]
    exact ⟨by omega, by omega, by omega, by rw [hr.2.1]; omega, by rw [hr.2.1]; exact h.each⟩
  · rw [if_neg h5]
    refine ⟨by show 0 ≤ s'.rev; omega, by show s'.rev ≤ _; omega, by show s'.L.length ≤ _; omega, ?_, ?_⟩
    · show (ins ltI s'.rev es s'.H).length ≤ _
      have := ins_len linI (L := s'.H) (k := s'.rev) (v := es)
      rw [hr.2.1] at this ⊢
      omega
    · intro y hy
      have hy : y ∈ ins ltI s'.rev es s'.H := hy
      rcases mem_insV hy with rfl | hy
      · show es.length ≤ 8
        omega
      · rw [hr.2.1] at hy
        exact h.each y hy
theorem fit_few {n : Nat} {s : St} (h : Fit n s) (hn : n ≤ 100000) : Few s := by
  refine ⟨fun pf fr => ?_, fun y hy => Nat.le_trans (h.each y hy) (by decide)⟩
  have key : ∀ ys : List (Int × List Ev), (∀ y ∈ ys, y.2.length ≤ 8) → (selV pf ys).length ≤ 8 * ys.length := by
    intro ys
    induction ys with
    | nil => intro _; simp [selV]
    | cons y ys ih =>
      intro hy
      have h1 := ih fun z hz => hy z (List.mem_cons_of_mem _ hz)
      have h2 := List.length_filter_le (preV pf) y.2
      have h3 := hy y List.mem_cons_self
      have e : selV pf (y :: ys) = y.2.filter (preV pf) ++ selV pf ys := rfl
      rw [e, List.length_append, List.length_cons]
      omega
  have h1 := key (frm ltI fr s.H) fun y hy => h.each y (List.mem_filter.1 hy).1
  have h2 : (frm ltI fr s.H).length ≤ s.H.length := List.length_filter_le _ _
  have := h.H
  unfold sinceL
  omega
/-- Steps, one after another. -/
def runT (s : St) (xs : List Tx) : St := xs.foldl (fun s x => (doS s x).2) s
theorem fit_run : ∀ (xs : List Tx) (n : Nat) (s : St), Fit n s → Fit (n + xs.length) (runT s xs)
  | [], n, s, h => h
  | x :: xs, n, s, h => by
    have := fit_run xs (n + 1) _ (fit_do x h)
    rw [List.length_cons, show n + (xs.length + 1) = n + 1 + xs.length by omega]
    exact this
/-- A transaction as it lies in a row. -/
structure Ti where
  vc : Value
  vo : Value
  x : Tx
def encT (t : Ti) : List Value := [t.vc, t.vo]
structure Txs (w : World) (v : Value) (l : List Ti) : Prop where
  row : RAt encT w v l
  each : ∀ t ∈ l, TxV w t.vc t.vo t.x ∧ t.x.cs.length ≤ 9223372036854775807 ∧ t.x.os.length ≤ 9223372036854775807
theorem Txs.below {w w' : World} {v : Value} {l : List Ti} (h : Txs w v l) (hb : Below w.heap.size w w') : Txs w' v l := ⟨h.row.below hb, fun t ht => ⟨(h.each t ht).1.below hb, (h.each t ht).2⟩⟩
theorem RAt.atT {W : World} {g o : Nat} {l : List Ti} (h : ∀ j u, (cz encT l)[j]? = some u → W.cell? ⟨g, o + j, none⟩ = some u) (i : Nat) (hi : i < l.length) :
    W.cell? ⟨g, o + i * 2, none⟩ = some l[i].vc ∧ W.cell? ⟨g, o + i * 2 + 1, none⟩ = some l[i].vo := by
  have z := cz_at (enc := encT) (z := 2) (fun _ => rfl) l i hi
  exact ⟨h _ _ (z 0 (by omega)), by have := h _ _ (z 1 (by omega)); rwa [← Nat.add_assoc] at this⟩
def txs (l : List Ti) : List Tx := l.map (·.x)
theorem below_grownT {n : Nat} {w w' : World} {b : Nat} (h : w.grownBy w' (some b)) (hb : n ≤ b) (hs : n ≤ w.heap.size) : Below n w w' :=
  ⟨h.os, h.tape, h.output, h.size, fun k hk => h.block k (by omega) (fun e => by have := Option.some.inj e; omega)⟩
set_option maxHeartbeats 1000000 in
theorem grown_any (l : List Ti) (v : Value) (w : World) (h : Txs w v l) (hl : l.length ≤ 1000) :
    Calls Try.prog 45 #[v] w fun e w' => (∃ b, e = .returned (.pointer (some ⟨b, 0, none⟩)) ∧ w.heap.size ≤ b ∧ TrAt w' b (runT emp (txs l))) ∧ Below w.heap.size w w' := by
  have HT := Lib.hid h
  have HN := Lib.hid (new_any w)
  obtain ⟨ad, c, rfl⟩ := h.row.slice
  obtain ⟨N, hN⟩ : ∃ n, l.length = n := ⟨_, rfl⟩
  have HL := Lib.hid hN
  rw [hN] at hl HT ⊢
  clear h hN
  go_enter Try.func45, Try.ntmps45
  go_wp2_with fail
  refine HN.out.mono ?_
  rintro e w0 ⟨⟨b, rfl, hb, hT⟩, hb0⟩
  have HB := Lib.hid hb
  have H0 := Lib.hid hT
  have HB0 := Lib.hid hb0
  clear hb hT hb0 HN
  go_wp2_with fail
  go_loopw [4] (fun s wr => ∃ i : Nat, s = .int .i64 i ∧ i ≤ N ∧ Hid (Below w.heap.size w wr ∧ TrAt wr b (runT emp (txs (l.take i))) ∧ Fit i (runT emp (txs (l.take i))))) (fun s _ => N - (intOf s).toNat)
  case atStart => exact ⟨0, rfl, Nat.zero_le _, Lib.hid ⟨HB0.out, H0.out, fit_emp⟩⟩
  case round =>
    obtain ⟨i, rfl, hi, HH⟩ := hrel
    by_cases hlt : i < N
    · have hli : i < l.length := by rw [HL.out]; exact hlt
      obtain ⟨t, ht⟩ : ∃ t, l[i] = t := ⟨_, rfl⟩
      have hX := HT.out.below HH.out.1
      obtain ⟨g, o, c', e1, -, hc⟩ := hX.row.pos (by intro e; rw [e] at hli; exact absurd hli (by simp))
      injection e1 with e1 e3 e4
      subst e1
      obtain ⟨q0, q1⟩ := RAt.atT hc i hli
      rw [ht] at q0 q1
      obtain ⟨hx, hx1, hx2⟩ := hX.each t (by rw [← ht]; exact List.getElem_mem _)
      have hf := HH.out.2.2
      have HD := Lib.hid (do_any b _ t.x t.vc t.vo wr HH.out.2.1 hx hx1 hx2 hf.lo (by have := hf.hi; omega) (by have := hf.L; omega) (by have := hf.H; omega))
      have e5 : runT emp (txs (l.take (i + 1))) = (doS (runT emp (txs (l.take i))) t.x).2 := by
        unfold runT txs
        rw [List.take_succ_eq_append_getElem hli, List.map_append, List.foldl_append, ht]
        rfl
      have HE := Lib.hid e5
      have HF := Lib.hid (fit_do t.x hf)
      have HB1 := Lib.hid HH.out.1
      obtain ⟨ca, cc, hvc⟩ := hx.1.slice
      obtain ⟨oa, oc, hvo⟩ := hx.2.1.slice
      rw [hvc] at q0 HD
      rw [hvo] at q1 HD
      clear hX hc e3 e4 hx hx1 hx2 hf e5 HH ht hli hvc hvo
      generalize t.x.cs.length = n1 at *
      generalize t.x.os.length = n2 at *
      generalize runT emp (txs (l.take i)) = s at *
      go_wp2_with fail
      refine HD.out.mono ?_
      rintro e w' ⟨v, rfl, -, hT, hg⟩
      have HT2 := Lib.hid hT.at
      have HG := Lib.hid hg
      clear hT hg
      go_wp2
      go_roundw
      case rel => exact ⟨i + 1, by go_num, by omega, Lib.hid ⟨HB1.out.trans (below_grownT HG.out HB.out HB1.out.size), by rw [HE.out]; exact HT2.out, by rw [HE.out]; exact HF.out⟩⟩
      case measure => simp [intOf]; omega
    · obtain rfl : i = N := by omega
      have HR : Hid (TrAt wr b (runT emp (txs l))) := Lib.hid (by have := HH.out.2.1; rwa [List.take_of_length_le (by rw [HL.out]; exact Nat.le_refl _)] at this)
      have HB1 := Lib.hid HH.out.1
      clear HH
      go_wp2
      go_ret
      exact ⟨⟨b, rfl, HB.out, HR.out⟩, HB1.out⟩
end Go.Proofs.Ytbfkgbickjfcjaa
