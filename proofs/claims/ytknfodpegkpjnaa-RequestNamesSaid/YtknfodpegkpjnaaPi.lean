/- The contract of Decode. -/
import Derived.Test.YtknfodpegkpjnaaPh
namespace Go.Proofs.Ytknfodpegkpjnaa
open Go Go.RowKit Go.Shelf
set_option maxRecDepth 100000
theorem QS.ok (base : Nat) : QOk base 40 (QS base) := by
  rintro x p W W' row ⟨h1, h2⟩ hg hr
  have ne : ∀ {E : TypeId} {v : Value} {l : List Pv}, E ≠ 40 → O2 E W base v l → v.ownBlock = none ∨ v.ownBlock ≠ row := fun {E v l} hE h => by
    cases hv : v.ownBlock with
    | none => exact .inl rfl
    | some g =>
      refine .inr fun e => ?_
      rcases hr g e.symm with h3 | ⟨cur, h3⟩
      · have := (h.lt g hv).1; omega
      · exact h.ne h3 hE hv
  exact ⟨World.ownsRow.kept h1 hg (ne (by decide) h1), World.ownsRow.kept h2 hg (ne (by decide) h2)⟩
/-- What Decode answers. -/
def dec (s : List UInt8) : List Sr × Nat := if (rRq s).2 ≠ 0 then ([], (rRq s).2) else ((rRq s).1, 0)
theorem gat_tS (s : List UInt8) : gat (tS s) [] = dec s := by
  unfold tS dec rqT rRq gRq
  by_cases h0 : (msg s []).2 ≠ 0
  · rw [if_pos h0, if_pos h0, if_pos h0, gat, if_pos h0, if_pos h0]
  · rw [if_neg h0, if_neg h0, bad1_bd]
    by_cases h1 : bd 1 2 (msg s []).1 = true
    · rw [if_pos h1, if_pos h1]; rfl
    · rw [if_neg h1, if_neg h1, if_neg (by simp), gat_tel, pts_tx]
      split <;> simp
theorem all2_zs {b : Nat} {W : World} : ∀ {xs : List Sr} {ps : List Pv}, All2 (fun x p => QS b x p W) xs ps → ∃ zs : List Zr, zs.map Zr.x = xs ∧ zs.map zp = ps ∧ (∀ z ∈ zs, Ol W b z.a z.x.ls) ∧ ∀ z ∈ zs, Om W b z.b z.x.ss
  | [], [], _ => ⟨[], rfl, rfl, fun z h => (by cases h), fun z h => (by cases h)⟩
  | x :: xs, p :: ps, h => by
    obtain ⟨zs, h1, h2, h3, h4⟩ := all2_zs h.2
    refine ⟨⟨x, p.1, p.2⟩ :: zs, by rw [List.map_cons, h1], by rw [List.map_cons, h2]; rfl, ?_, ?_⟩
    · intro z hz
      rcases List.mem_cons.1 hz with rfl | hz
      · exact h.1.1
      · exact h3 z hz
    · intro z hz
      rcases List.mem_cons.1 hz with rfl | hz
      · exact h.1.2
      · exact h4 z hz
/-- Told: series, all their own, and an error. -/
def TellsD (w : World) (X : List Sr × Nat) (e : Ending) (w' : World) : Prop := ∃ v zs, e = .returned (.tuple #[v, .int .i64 (X.2 : Int)]) ∧ Osr w' w.heap.size v zs ∧ zs.map Zr.x = X.1 ∧ Below w.heap.size w w'
theorem listS_any (s : ByteArray) (hs : s.size ≤ 1000000) (b1 : Nat) (w : World) (hx : Boxed w b1 9 (.string s)) : Calls Try.prog 29 #[.func (.func 37) #[] #[.pointer (some ⟨b1, 0, none⟩)]] w (TellsD w (dec s.data.toList)) := by
  have hlen : (tS s.data.toList).length ≤ 1000000 := by
    have h := rqT_facts s.data.toList (by simpa using hs)
    unfold tS
    split
    · simp
    · have := tel_len rSr (rqT s.data.toList).1; omega
  have h := list29_any (QS (w.heap.size + 5)) 37 #[.pointer (some ⟨b1, 0, none⟩)] (enters_of Try.func37 (by kernel_rfl) rfl) (tS s.data.toList) hlen w (QS.ok _)
    (fun n W hn hsz hb => by rw [← hsz]; exact each_gives n s hs b1 _ W ((hb.block _ hx.lt).trans hx))
  rw [gat_tS] at h
  refine h.mono ?_
  rintro e w' ⟨v, ps, he, ho, hq, hb⟩
  obtain ⟨zs, h1, rfl, h3, h4⟩ := all2_zs hq
  exact ⟨v, zs, he, ⟨ho, fun z hz => O2.mono (h3 z hz) (by omega), fun z hz => O2.mono (h4 z hz) (by omega)⟩, h1, hb⟩
theorem decode_any (s : ByteArray) (hs : s.size ≤ 1000000) (w : World) : Calls Try.prog 12 #[.string s] w (TellsD w (dec s.data.toList)) := by
  have HL := Lib.hid (fun b W hx => listS_any s hs b W hx)
  generalize dec s.data.toList = X at *
  obtain ⟨xs, k⟩ := X
  go_enter Try.func12, Try.ntmps12
  go_wp2_with fail
  refine (each_any s w).mono ?_
  rintro e w1 ⟨rfl, hw1⟩
  have HX : Hid (Boxed w1 w.heap.size 9 (.string s)) := Lib.hid (by rw [hw1]; exact Boxed.new _ _ _)
  have HB : Hid (Below w.heap.size w w1) := Lib.hid (by rw [hw1]; exact (Below.refl _ _).alloc (Nat.le_refl _) _)
  clear hw1
  go_wp2_with fail
  refine (HL.out _ _ HX.out).mono ?_
  rintro e w2 ⟨v, zs, rfl, ho, hz, hb2⟩
  obtain ⟨a, c, hv⟩ := ho.shape
  subst hv
  have HB2 := Lib.hid (HB.out.trans (hb2.mono HB.out.size))
  have HO := Lib.hid (ho.mono HB.out.size)
  have HZ := Lib.hid hz
  clear ho hb2 hz
  go_wp2
  go_ret2
  exact ⟨_, zs, rfl, HO.out, HZ.out, HB2.out⟩
end Go.Proofs.Ytknfodpegkpjnaa
