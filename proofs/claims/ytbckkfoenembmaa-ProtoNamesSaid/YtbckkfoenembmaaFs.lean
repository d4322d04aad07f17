/- What is told of fields that are written, and of a text that is read. -/
import Derived.Test.YtbckkfoenembmaaMo
namespace Go.Proofs.Ytbckkfoenembmaa
open Go.RowKit
/-- The second half: what is read of a text. -/
structure Half (s : ByteArray) (M : List Fd) (E : Nat) : Prop where
  rd : ∀ W, Calls Try.prog 14 #[.string s] W (TellsG W (M.map gfd, E))
  wr : E = 0 → ∀ V W, GAt W V (M.map gfd) → Calls Try.prog 19 #[V] W (TellsW W (M.flatMap fby, 0))
  rd2 : E = 0 → ∀ W, Calls Try.prog 14 #[.string (bs (M.flatMap fby))] W (TellsG W (M.map gfd, 0))
  le : E = 0 → (bs (M.flatMap fby)).size ≤ s.size
  sm : E = 0 → ∀ V U W, GAt W V (M.map gfd) → GAt W U (M.map gfd) → Calls Try.prog 38 #[V, U] W (Ret W (.bool true))
theorem half (s : ByteArray) (hs : s.size ≤ 20000) : ∃ M E, Half s M E := by
  obtain ⟨M, E, hME⟩ : ∃ M E, msg s.data.toList [] = (M, E) := ⟨_, _, rfl⟩
  have hR := fun W => pread_any s (by omega) W
  have hln := rd_len (s := s) (by omega)
  rw [hME] at hR hln
  dsimp only at hln
  refine ⟨M, E, hR, fun h0 => ?_, fun h0 => ?_, fun h0 => ?_, fun h0 => ?_⟩
  all_goals
    subst h0
    obtain ⟨g1, g2, g3, g4⟩ := read_all (s := s) (by omega) hME
    have hml : (M.map gfd).length ≤ 20000 := by rw [List.length_map]; omega
  · intro V W hV
    have h := write_any (M.map gfd) (by omega) (fun g hg => (g1 g hg).2) g4 V W hV
    rw [wrk_all _ [] g1, g2, List.nil_append] at h
    exact h
  · intro W
    have hb := back_all (M.map gfd) g1
    rw [wrk_all _ [] g1, g2, List.nil_append] at hb
    have h := pread_any (bs (M.flatMap fby)) (by rw [bs_size]; omega) W
    rw [bs_data, hb.2.1] at h
    exact h
  · rw [bs_size]; exact g3
  · intro V U W h1 h2
    have h := psame_any (M.map gfd) (M.map gfd) (by omega) (by omega) (fun g hg => (g1 g hg).2.v) V U W h1 h2
    rw [sml_refl _ (fun g hg => (g1 g hg).1)] at h
    exact h
/-- The first half: what is written of fields. -/
structure Fst (l : List Ff) (gs : List Gf) (R : List UInt8) (E : Nat) : Prop where
  md : ∀ V W, FAt W V l → Calls Try.prog 18 #[V] W (fun e w' => ∃ v', e = .returned v' ∧ Og w' W.heap.size v' gs ∧ Below W.heap.size W w')
  wr : ∀ V W, GAt W V gs → Calls Try.prog 19 #[V] W (TellsW W (R, E))
  wh : ∀ V W, FAt W V l → Calls Try.prog 39 #[V] W (Ret W (.bool (decide (E = 0))))
  rd : E = 0 → ∀ W, Calls Try.prog 14 #[.string (bs R)] W (TellsG W (gs, 0))
  sm : E = 0 → ∀ V U W, GAt W V gs → GAt W U gs → Calls Try.prog 38 #[V, U] W (Ret W (.bool true))
  all : E = 0 → ∀ g ∈ gs, g.may = true ∧ g.ok
  eq : wrk gs [] = (R, E)
  le : R.length ≤ 10000
  gl : gs.length ≤ 500
  gok : ∀ g ∈ gs, g.ok
  map : gs = l.map made1
theorem fst_of {l : List Ff} (F : Fit l) : ∃ gs R E, Fst l gs R E := by
  have hl5 := F.len
  have hgl : (l.map made1).length = l.length := by simp
  have hgok : ∀ g ∈ l.map made1, g.ok := fun g hg => by obtain ⟨f, hf, rfl⟩ := List.mem_map.1 hg; exact made_ok (F.ok f hf)
  have hgby : ∀ g ∈ l.map made1, g.v.by.length ≤ 10010 := fun g hg => by obtain ⟨f, hf, rfl⟩ := List.mem_map.1 hg; exact made_by_le (F.ok f hf) (F.t f hf)
  obtain ⟨R, E, hRE⟩ : ∃ R E, wrk (l.map made1) [] = (R, E) := ⟨_, _, rfl⟩
  have hmm : (∀ g ∈ l.map made1, g.may = true) ↔ whl l = true := by
    rw [whl_iff]
    constructor
    · intro h f hf
      rw [← made_may]
      exact h _ (List.mem_map_of_mem hf)
    · intro h g hg
      obtain ⟨f, hf, rfl⟩ := List.mem_map.1 hg
      rw [made_may]
      exact h f hf
  have hE : decide (E = 0) = whl l := by
    rw [Bool.eq_iff_iff, decide_eq_true_eq, ← hmm]
    constructor
    · intro h0
      by_cases hc : ∀ g ∈ l.map made1, g.may = true
      · exact hc
      · rw [wrk_not _ [] hc] at hRE
        simp only [Prod.mk.injEq] at hRE
        omega
    · intro hc
      rw [wrk_all _ [] (fun g hg => ⟨hc g hg, hgok g hg⟩)] at hRE
      simp only [Prod.mk.injEq] at hRE
      exact hRE.2.symm
  have hRl : R.length ≤ 10000 := by
    have h1 := rwk_len l [] F.ok
    rw [← wrk_made, hRE] at h1
    have := F.tot
    simp at h1
    omega
  refine ⟨l.map made1, R, E, fun V W hv => made_any l (by omega) F.ok V W hv, fun V W hv => ?_, fun V W hv => ?_, fun h0 => ?_, fun h0 => ?_, fun h0 => ?_, hRE, hRl, by omega, hgok, rfl⟩
  · have h := write_any (l.map made1) (by omega) hgok (fun g hg => by have := hgby g hg; omega) V W hv
    rw [hRE] at h
    exact h
  · rw [hE]
    exact whole_any l (by omega) V W hv
  all_goals
    have hc : ∀ g ∈ l.map made1, g.may = true ∧ g.ok := by
      rw [h0, decide_eq_true rfl] at hE
      exact fun g hg => ⟨hmm.2 hE.symm g hg, hgok g hg⟩
  · intro W
    obtain ⟨b1, b2, b3⟩ := back_all (l.map made1) hc
    rw [hRE] at b2
    dsimp only at b2
    have hRl : R.length ≤ 1000000 := by
      have h1 := rwk_len l [] F.ok
      rw [← wrk_made, hRE] at h1
      have := F.tot
      simp at h1
      omega
    have h := pread_any (bs R) (by rw [bs_size]; omega) W
    rw [bs_data, b2] at h
    dsimp only at h
    rw [b3] at h
    exact h
  · intro V U W h1 h2
    have h := psame_any (l.map made1) (l.map made1) (by omega) (by omega) (fun g hg => (hc g hg).2.v) V U W h1 h2
    rw [sml_refl _ (fun g hg => (hc g hg).1)] at h
    exact h
  · exact hc
end Go.Proofs.Ytbckkfoenembmaa
