/- Since; the law's since. -/
import Derived.Test.YtbfkgbickjfcjaaTx
import Derived.Test.YtbfkgbickjfcjaaTr
namespace Go.Proofs.Ytbfkgbickjfcjaa
set_option linter.unusedVariables false
set_option linter.unusedSimpArgs false
open Go.RowKit
set_option maxRecDepth 100000
def sinS (s : St) (pf : ByteArray) (fr : Int) : List Ev × Int :=
  if prefB pf.data.toList = false then ([], 4) else if fr < 1 ∨ s.rev + 1 < fr then ([], 1) else if fr ≤ s.low then ([], 52) else (sinceL pf fr s, 0)
def SinR (w : World) (r : List Ev × Int) (e : Ending) (w' : World) : Prop := (∃ v, e = .returned (.tuple #[v, .int .i64 r.2]) ∧ Ow 44 4 encV w' w.heap.size v r.1) ∧ Below w.heap.size w w'
/-- How many events there are, at most. -/
structure Few (s : St) : Prop where
  all : ∀ pf fr, (sinceL pf fr s).length ≤ 1000000
  each : ∀ y ∈ s.H, y.2.length ≤ 1000000
set_option maxHeartbeats 1000000 in
theorem Since_any (b : Nat) (s : St) (pf : ByteArray) (fr : Int) (w : World) (h : TrAt w b s) (hf : Few s) (hr : 0 ≤ s.rev ∧ s.rev ≤ 1099511627776) :
    Calls Try.prog 32 #[.pointer (some ⟨b, 0, none⟩), .string pf, .int .i64 fr] w (SinR w (sinS s pf fr)) := by
  have HP := Lib.hid (fun W => prefix_any pf W)
  have HS := Lib.hid (fun W (hW : Below w.heap.size w W) => since_any b s pf fr W (h.below hW) (hf.all pf fr) hf.each)
  obtain ⟨pe, pv, te, tv, hT⟩ := h
  obtain ⟨⟨-, -, t2, t3⟩, -⟩ := hT.cells
  obtain ⟨r, hr'⟩ : ∃ r, sinS s pf fr = r := ⟨_, rfl⟩
  rw [hr']
  obtain ⟨q, hq⟩ : ∃ q, prefB pf.data.toList = q := ⟨_, rfl⟩
  rw [hq] at HP
  have hle := hr.1
  have hle2 := hr.2
  unfold sinS at hr'
  rw [hq] at hr'
  clear hT hf hr hq
  cases q with
  | false =>
    rw [if_pos rfl] at hr'
    subst hr'
    go_enter Try.func32, Try.ntmps32
    go_wp2_with fail
    refine (HP.out _).mono ?_
    rintro e w' ⟨rfl, rfl⟩
    go_wp2
    go_ret2
    exact ⟨⟨_, rfl, Ow.nil _ _⟩, Below.refl _ _⟩
  | true =>
    rw [if_neg (by simp)] at hr'
    by_cases h1 : fr < 1
    · rw [if_pos (.inl h1)] at hr'
      subst hr'
      go_enter Try.func32, Try.ntmps32
      go_wp2_with fail
      refine (HP.out _).mono ?_
      rintro e w' ⟨rfl, rfl⟩
      go_wp2
      go_ret2
      exact ⟨⟨_, rfl, Ow.nil _ _⟩, Below.refl _ _⟩
    have h1' : decide (fr < 1) = false := decide_eq_false h1
    by_cases h2 : s.rev + 1 < fr
    · rw [if_pos (.inr h2)] at hr'
      subst hr'
      clear h1
      go_enter Try.func32, Try.ntmps32
      go_wp2_with fail
      refine (HP.out _).mono ?_
      rintro e w' ⟨rfl, rfl⟩
      go_wp2
      go_ret2
      exact ⟨⟨_, rfl, Ow.nil _ _⟩, Below.refl _ _⟩
    have h2' : decide (s.rev + 1 < fr) = false := decide_eq_false h2
    rw [if_neg (by omega)] at hr'
    by_cases h3 : fr ≤ s.low
    · rw [if_pos h3] at hr'
      subst hr'
      clear h1 h2
      go_enter Try.func32, Try.ntmps32
      go_wp2_with fail
      refine (HP.out _).mono ?_
      rintro e w' ⟨rfl, rfl⟩
      go_wp2
      go_ret2
      exact ⟨⟨_, rfl, Ow.nil _ _⟩, Below.refl _ _⟩
    have h3' : decide (fr ≤ s.low) = false := decide_eq_false h3
    rw [if_neg h3] at hr'
    have HR := Lib.hid hr'
    clear h1 h2 h3 hr'
    go_enter Try.func32, Try.ntmps32
    go_wp2_with fail
    refine (HP.out _).mono ?_
    rintro e w' ⟨rfl, rfl⟩
    go_wp2_with fail
    refine (HS.out _ (Below.refl _ _)).mono ?_
    rintro e w2 ⟨⟨v, rfl, hv⟩, hb⟩
    have HV := Lib.hid hv
    have HB := Lib.hid hb
    clear hv hb
    go_wp2
    go_ret2
    exact ⟨⟨_, by rw [← HR.out]; rfl, by rw [← HR.out]; exact HV.out⟩, HB.out⟩
/-- The law's: how many, and how. -/
theorem since48_any (b : Nat) (s : St) (fr : Int) (w : World) (h : TrAt w b s) (hf : Few s) (hr : 0 ≤ s.rev ∧ s.rev ≤ 1099511627776) :
    Calls Try.prog 48 #[.pointer (some ⟨b, 0, none⟩), .int .i64 fr] w fun e w' => e = .returned (.tuple #[.int .i64 (((sinS s ⟨#[]⟩ fr).1.length : Nat) : Int), .int .i64 (sinS s ⟨#[]⟩ fr).2]) ∧ Below w.heap.size w w' := by
  have HS := Lib.hid (Since_any b s ⟨#[]⟩ fr w h hf hr)
  obtain ⟨r, hr'⟩ : ∃ r, sinS s ⟨#[]⟩ fr = r := ⟨_, rfl⟩
  rw [hr'] at HS ⊢
  clear h hf hr hr'
  go_enter Try.func48, Try.ntmps48
  go_wp2_with fail
  refine HS.out.mono ?_
  rintro e w2 ⟨⟨v, rfl, hv⟩, hb⟩
  obtain ⟨a, c, rfl⟩ := hv.shape
  have HB := Lib.hid hb
  clear hv hb
  go_wp2
  go_ret2
  exact ⟨rfl, HB.out⟩
end Go.Proofs.Ytbfkgbickjfcjaa
