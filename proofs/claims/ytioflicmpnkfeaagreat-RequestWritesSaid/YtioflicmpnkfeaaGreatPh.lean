/- The iterator of a request's series; Decode. -/
/- The contract of Decode. -/
import Derived.Test.YtioflicmpnkfeaaGreatPf
namespace Go.Proofs.YtioflicmpnkfeaaGreat
open Go Go.RowKit Go.Shelf
attribute [local go_sem] Oper.semAt_some
set_option maxRecDepth 100000
theorem YieldAt.any {n m : Nat} {P : Program} {l : Nat} {us : Array Value} {W : World} {R : Ending → World → Prop} (h : YieldAt Fence.wide n P l us W R) : YieldAt Fence.wide m P l us W R := by
  obtain ⟨fn, tmps, assign, body, h1, h2⟩ := h
  exact ⟨fn, tmps, assign, body, h1, h2.1, fun c cs _ => h2.2 c cs (room_wide _)⟩
theorem Gives.any {α : Type} {n m : Nat} {P : Program} {gf : Nat} {lb : Array Value} {En : α → Array Value → World → Prop} {XS : List α} {F0 : Bks} {W : World} (h : Gives n P gf lb En XS F0 W) : Gives m P gf lb En XS F0 W :=
  fun l J Jx hJ hJx hY h0 => callsIn_wide.2 (callsIn_wide.1 (h l J Jx hJ hJx (fun x rest us F A hj he hs => YieldAt.any (hY x rest us F A hj he hs)) h0))
theorem Gives.base {α : Type} {n : Nat} {P : Program} {gf : Nat} {lb : Array Value} {Q : Nat → α → Pv → World → Prop} {XS : List (α × Nat)} {F0 : Bks} {W : World} {b c : Nat} (h : Gives n P gf lb (En2 (Q b)) XS F0 W) (hQ : ∀ x p A, Q b x p A → Q c x p A) : Gives n P gf lb (En2 (Q c)) XS F0 W :=
  h.weaken fun x us A h => by obtain ⟨p, h⟩ := h; exact ⟨p, h.eq, hQ _ _ _ h.q, h.o1, h.o2⟩
/-- The texts of a request's series. -/
def rqT (s : List UInt8) : List (List UInt8) × Nat := if (msg s []).2 ≠ 0 then ([], (msg s []).2) else if bd 1 2 (msg s []).1 = true then ([], 4) else (tx 1 (msg s []).1, 0)
/-- What Each tells. -/
def tS (s : List UInt8) : List (Sr × Nat) := if (rqT s).2 ≠ 0 then [(⟨[], []⟩, (rqT s).2)] else tel rSr (rqT s).1
theorem how39 (v : Value) (hv : ∃ a n c, v = .slice a n c) (w : World) (X : List Value) (k : Nat) (h : Calls Tryz.prog 49 #[v, .int .i64 1] w (TellsA w 59 X k)) : Calls Tryz.prog 48 #[v] w (TellsA w 59 X k) := by
  obtain ⟨a, n, c, rfl⟩ := hv
  have H := Lib.hid h
  clear h
  go_enter Tryz.func48, Tryz.ntmps48
  go_wp2_with fail
  refine H.out.mono ?_
  rintro e w1 ⟨v1, rfl, ho, hb⟩
  obtain ⟨a1, c1, hv1⟩ := ownsRow_shape ho
  subst hv1
  go_wp2
  go_ret2
  exact ⟨_, rfl, ho, hb⟩
theorem part38_any (s : ByteArray) (hs : s.size ≤ 1000000) (w : World) : Calls Tryz.prog 47 #[.string s, .func (.func 48) #[] #[]] w (TellsA w 59 (tcs (rqT s.data.toList).1) (rqT s.data.toList).2) := by
  have HR := Lib.hid (fun W => pread_any s hs W)
  unfold rqT
  obtain ⟨fs, K, hm⟩ : ∃ fs K, msg s.data.toList [] = (fs, K) := ⟨_, _, rfl⟩
  rw [hm] at HR ⊢
  dsimp only at HR ⊢
  have hl := fun (h : K = 0) => msg_ok' (s := s.data.toList) (fs := fs) (by simpa using hs) (by rw [hm, h])
  rw [show s.data.toList.length = s.size by simp] at hl
  clear hm
  by_cases hK : K = 0
  · subst hK
    rw [if_neg (by simp)]
    obtain ⟨hok, hfl⟩ := hl rfl
    have HL := Lib.hid (fun v W (hW : GAt W v (fs.map gfd)) => all_asT (fs.map gfd) (by rw [List.length_map]; omega) 1 v W hW)
    rw [show alk asT (1 : Int) (fs.map gfd) [] = _ from alk_T 1 fs] at HL
    obtain ⟨cs, k, hck, HL2⟩ : ∃ cs k, (tcs (if bd 1 2 fs = true then ([], 4) else (tx 1 fs, 0)).1, (if bd 1 2 fs = true then (([] : List (List UInt8)), 4) else (tx 1 fs, 0)).2) = (cs, k) ∧ Hid (∀ v W, GAt W v (fs.map gfd) → Calls Tryz.prog 49 #[v, .int .i64 1] W (TellsA W 59 cs k)) := by
      by_cases h1 : bd 1 2 fs = true
      · rw [if_pos h1] at HL
        exact ⟨[], 4, by rw [if_pos h1]; rfl, Lib.hid fun v W hW => HL.out v W hW⟩
      · rw [if_neg h1] at HL
        dsimp only at HL
        rw [tcs_map] at HL
        exact ⟨tcs (tx 1 fs), 0, by rw [if_neg h1], Lib.hid fun v W hW => HL.out v W hW⟩
    rw [(Prod.mk.inj hck).1, (Prod.mk.inj hck).2]
    clear hl hok hfl HL hck
    go_enter Tryz.func47, Tryz.ntmps47
    go_wp2_with fail
    refine (HR.out _).mono ?_
    rintro e w1 ⟨u, rfl, ho, hb1⟩
    have HU := Lib.hid ho.at
    obtain ⟨ua, uc, hu⟩ := ho.shape
    rw [List.length_map] at hu
    generalize fs.length = L at hu
    subst hu
    have HB1 := Lib.hid hb1
    clear ho hb1
    go_wp2_with fail
    refine (how39 _ ⟨_, _, _, rfl⟩ _ cs k (HL2.out _ _ HU.out)).mono ?_
    rintro e w2 ⟨v2, rfl, ho2, hb2⟩
    obtain ⟨a2, c2, hv2⟩ := ownsRow_shape ho2
    subst hv2
    have HB2 := Lib.hid (HB1.out.trans (hb2.mono HB1.out.size))
    have HO2 := Lib.hid (ownsRow_mono ho2 HB1.out.size)
    clear ho2 hb2
    go_wp2
    go_ret2
    exact ⟨_, rfl, HO2.out, HB2.out⟩
  · rw [if_pos hK]
    have hK2 : ((K : Int) != 0) = true := by rw [bne_iff_ne]; omega
    clear hl hK
    go_enter Tryz.func47, Tryz.ntmps47
    go_wp2_with fail
    refine (HR.out _).mono ?_
    rintro e w1 ⟨u, rfl, ho, hb1⟩
    have HB1 := Lib.hid hb1
    clear hb1 ho
    go_wp2
    go_ret2
    exact ⟨_, rfl, World.ownsRow_nil _ _ _ _, HB1.out⟩
theorem each_any (s : ByteArray) (w : World) : Calls Tryz.prog 36 #[.string s] w fun e w' => e = .returned (.func (.func 46) #[] #[.pointer (some ⟨w.heap.size, 0, none⟩)]) ∧ w' = w.alloc (.cells #[.string s] 9) := by
  go_enter Tryz.func36, Tryz.ntmps36
  go_wp2
  go_ret
  exact ⟨rfl, rfl⟩
theorem rqT_facts (s : List UInt8) (hs : s.length ≤ 1000000) : (∀ t ∈ (rqT s).1, t.length ≤ 1000000) ∧ (rqT s).1.length ≤ 1000000 := by
  unfold rqT
  split
  · exact ⟨fun t h => (by cases h), Nat.zero_le _⟩
  · rename_i h0
    have hm : msg s [] = ((msg s []).1, 0) := by rw [← Decidable.not_not.1 h0]
    split
    · exact ⟨fun t h => (by cases h), Nat.zero_le _⟩
    · obtain ⟨h1, h2⟩ := msg_ok' hs hm
      exact ⟨tx_lt (msg_texts hs hm) 1, Nat.le_trans (tx_len 1 _) (by omega)⟩
set_option maxHeartbeats 1000000 in
theorem each_gives (n : Nat) (s : ByteArray) (hs : s.size ≤ 1000000) (b1 : Nat) (F0 : Bks) (W : World) (hx1 : Boxed W b1 9 (.string s)) :
    Gives n Tryz.prog 46 #[.pointer (some ⟨b1, 0, none⟩)] (En2 (QS W.heap.size)) (tS s.data.toList) F0 W := by
  refine Gives.any (n := 5) ?_
  intro l J Jx hJ hJx hY h0
  have HJ := Lib.hid hJ
  have HJx := Lib.hid hJx
  have HY := Lib.hid hY
  have H0 := Lib.hid h0
  have HP := Lib.hid (fun W => part38_any s hs W)
  have HFT := Lib.hid (rqT_facts s.data.toList (by simpa using hs))
  unfold tS at H0
  generalize rqT s.data.toList = X at *
  obtain ⟨ts, k⟩ := X
  dsimp only at HP HFT H0
  have c1 := hx1.cell
  clear hJ hJx hY h0 hx1
  refine callsIn_of_wp Tryz.func46 rfl trivial ?_ rfl
  simp only [Tryz.ntmps46, List.size_toArray, List.length_cons, List.length_nil, Nat.reduceAdd, Nat.reduceSub, Array.replicate_succ, Array.replicate_zero, List.push_toArray, List.append_toArray, List.nil_append, List.cons_append]
  gi_wp2_with fail
  refine ⟨trivial, (callsIn_wide.2 (HP.out _)).mono ?_⟩
  rintro e w1 ⟨u, rfl, ho, hb1⟩
  have HU := Lib.hid (vat_of ho)
  obtain ⟨ua, uc, hu⟩ := ownsRow_shape ho
  have HO := Lib.hid (own_lt ho)
  subst hu
  have HB1 := Lib.hid hb1
  clear ho hb1
  by_cases hk : k = 0
  · subst hk
    have h0 := H0.out
    rw [if_neg (by simp)] at h0
    have H0' := Lib.hid h0
    clear H0 h0
    gi_wp2_with fail
    refine ⟨trivial, (callsIn_wide.2 (partsS_any _ ⟨_, _, _, rfl⟩ _)).mono ?_⟩
    rintro e w2 ⟨rfl, hw2⟩
    have h2 : Below w1.heap.size w1 w2 := by rw [hw2]; exact below_two _ _ _
    have HQ2 : Hid (Boxed w2 w1.heap.size 90 (.slice ua (tcs ts).length uc)) := Lib.hid (by rw [hw2]; exact heap_alloc2_old _ _ _)
    have HR2 : Hid (Boxed w2 (w1.heap.size + 1) 96 (.func (.func 51) #[] #[])) := Lib.hid (by rw [hw2]; exact two_at _ _ _)
    have HB2 := Lib.hid (HB1.out.trans (h2.mono HB1.out.size))
    have HU2 := Lib.hid (HU.out.below h2 (Nat.le_refl _))
    clear hw2 h2
    have hJ2 := HJ.out _ _ (fun j => F0 j ∨ (W.heap.size ≤ j ∧ j < w2.heap.size)) _ _ H0'.out HB2.out (fun j h => h)
    have hsz2 := HB2.out.size
    have hG := (partsS_gives 5 (by omega) ts HFT.out.1 HFT.out.2 w1.heap.size (w1.heap.size + 1) _ (fun j => F0 j ∨ (W.heap.size ≤ j ∧ j < w2.heap.size)) w2 HQ2.out HR2.out HU2.out
      ⟨.inr ⟨HB1.out.size, HQ2.out.lt⟩, .inr ⟨Nat.le_trans HB1.out.size (Nat.le_succ _), HR2.out.lt⟩, fun h0 g e => .inr ⟨(HO.out g e).1, vat_lt HU2.out (by simpa [tcs] using h0) g e⟩⟩).base (c := W.heap.size) (fun x p A h => ⟨O2.mono h.1 hsz2, O2.mono h.2 hsz2⟩)
    have HG := Lib.hid ((hG.any (m := 4)) l J Jx HJ.out HJx.out (fun x rest us F A hj he hs => YieldAt.any (HY.out x rest us F A hj he (Nat.le_trans hsz2 hs))) hJ2)
    clear hJ2 hsz2 hG
    gi_wp2_with fail
    refine ⟨trivial, HG.out.mono ?_⟩
    rintro e A ⟨⟨v, rfl⟩, hor⟩
    have HOR := Lib.hid hor
    clear hor
    gi_wp2
    go_end0
    exact ⟨⟨_, rfl⟩, HOR.out⟩
  · have hk2 : ((k : Int) != 0) = true := by rw [bne_iff_ne]; omega
    have h0 := H0.out
    rw [if_pos hk] at h0
    obtain ⟨fn, tmps, assign, body, hy, hR⟩ := HY.out (⟨[], []⟩, k) _ #[.agg #[.slice none 0 0, .slice none 0 0], .int .i64 (k : Int)] F0 _ (HJ.out _ _ F0 _ _ h0 HB1.out (fun j h => .inl h)) ⟨(.slice none 0 0, .slice none 0 0), rfl, ⟨O2.nil _ _ _, O2.nil _ _ _⟩, rfl, rfl⟩ HB1.out.size
    have HYR := Lib.hid hR
    clear hR h0 hk H0
    gi_wp2
    refine HYR.out.mono ?_
    rintro e W3 (⟨rfl, hJ3, hk3⟩ | ⟨rfl, hJx3, hsz⟩)
    · have HJ3 := Lib.hid hJ3
      clear hJ3 hk3
      gi_wp2
      refine bodyPost_ret (results_none rfl _ _ _) rfl ?_
      exact ⟨⟨_, rfl⟩, .inl ⟨F0, HJ3.out⟩⟩
    · have HJ3 := Lib.hid hJx3
      clear hJx3
      gi_wp2
      refine bodyPost_ret (results_none rfl _ _ _) rfl ?_
      exact ⟨⟨_, rfl⟩, .inr HJ3.out⟩
end Go.Proofs.YtioflicmpnkfeaaGreat

namespace Go.Proofs.YtioflicmpnkfeaaGreat
open Go Go.RowKit Go.Shelf
set_option maxRecDepth 100000
theorem QS.ok (base : Nat) : QOk base 29 (QS base) := by
  rintro x p W W' row ⟨h1, h2⟩ hg hr
  have ne : ∀ {E : TypeId} {v : Value} {l : List Pv}, E ≠ 29 → O2 E W base v l → v.ownBlock = none ∨ v.ownBlock ≠ row := fun {E v l} hE h => by
    cases hv : v.ownBlock with
    | none => exact .inl rfl
    | some g =>
      refine .inr fun e => ?_
      rcases hr g e.symm with h3 | ⟨cur, h3⟩
      · have := (h.lt g hv).1; omega
      · exact h.ne h3 hE hv
  exact ⟨World.ownsRow.kept h1 hg (ne (by decide) h1), World.ownsRow.kept h2 hg (ne (by decide) h2)⟩
/-- What Decode answers. -/
def dec (s : List UInt8) : List Sr × Nat := if (rRq s).2 ≠ 0 then ([], (rRq s).2) else ((rRq s).1, 0)
theorem gat_tS (s : List UInt8) : gat (tS s) [] = dec s := by
  unfold tS dec rqT rRq gRq
  by_cases h0 : (msg s []).2 ≠ 0
  · rw [if_pos h0, if_pos h0, if_pos h0, gat, if_pos h0, if_pos h0]
  · rw [if_neg h0, if_neg h0, bad1_bd]
    by_cases h1 : bd 1 2 (msg s []).1 = true
    · rw [if_pos h1, if_pos h1]; rfl
    · rw [if_neg h1, if_neg h1, if_neg (by simp), gat_tel, pts_tx]
      split <;> simp
theorem all2_zs {b : Nat} {W : World} : ∀ {xs : List Sr} {ps : List Pv}, All2 (fun x p => QS b x p W) xs ps → ∃ zs : List Zr, zs.map Zr.x = xs ∧ zs.map zp = ps ∧ (∀ z ∈ zs, Ol W b z.a z.x.ls) ∧ ∀ z ∈ zs, Om W b z.b z.x.ss
  | [], [], _ => ⟨[], rfl, rfl, fun z h => (by cases h), fun z h => (by cases h)⟩
  | x :: xs, p :: ps, h => by
    obtain ⟨zs, h1, h2, h3, h4⟩ := all2_zs h.2
    refine ⟨⟨x, p.1, p.2⟩ :: zs, by rw [List.map_cons, h1], by rw [List.map_cons, h2]; rfl, ?_, ?_⟩
    · intro z hz
      rcases List.mem_cons.1 hz with rfl | hz
      · exact h.1.1
      · exact h3 z hz
    · intro z hz
      rcases List.mem_cons.1 hz with rfl | hz
      · exact h.1.2
      · exact h4 z hz
/-- Told: series, all their own, and an error. -/
def TellsD (w : World) (X : List Sr × Nat) (e : Ending) (w' : World) : Prop := ∃ v zs, e = .returned (.tuple #[v, .int .i64 (X.2 : Int)]) ∧ Osr w' w.heap.size v zs ∧ zs.map Zr.x = X.1 ∧ Below w.heap.size w w'
theorem listS_any (s : ByteArray) (hs : s.size ≤ 1000000) (b1 : Nat) (w : World) (hx : Boxed w b1 9 (.string s)) : Calls Tryz.prog 35 #[.func (.func 46) #[] #[.pointer (some ⟨b1, 0, none⟩)]] w (TellsD w (dec s.data.toList)) := by
  have hlen : (tS s.data.toList).length ≤ 1000000 := by
    have h := rqT_facts s.data.toList (by simpa using hs)
    unfold tS
    split
    · simp
    · have := tel_len rSr (rqT s.data.toList).1; omega
  have h := list29_any (QS (w.heap.size + 5)) 46 #[.pointer (some ⟨b1, 0, none⟩)] (enters_of Tryz.func46 (by kernel_rfl) rfl) (tS s.data.toList) hlen w (QS.ok _)
    (fun n W hn hsz hb => by rw [← hsz]; exact each_gives n s hs b1 _ W ((hb.block _ hx.lt).trans hx))
  rw [gat_tS] at h
  refine h.mono ?_
  rintro e w' ⟨v, ps, he, ho, hq, hb⟩
  obtain ⟨zs, h1, rfl, h3, h4⟩ := all2_zs hq
  exact ⟨v, zs, he, ⟨ho, fun z hz => O2.mono (h3 z hz) (by omega), fun z hz => O2.mono (h4 z hz) (by omega)⟩, h1, hb⟩
theorem decode_any (s : ByteArray) (hs : s.size ≤ 1000000) (w : World) : Calls Tryz.prog 24 #[.string s] w (TellsD w (dec s.data.toList)) := by
  have HL := Lib.hid (fun b W hx => listS_any s hs b W hx)
  generalize dec s.data.toList = X at *
  obtain ⟨xs, k⟩ := X
  go_enter Tryz.func24, Tryz.ntmps24
  go_wp2_with fail
  refine (each_any s w).mono ?_
  rintro e w1 ⟨rfl, hw1⟩
  have HX : Hid (Boxed w1 w.heap.size 9 (.string s)) := Lib.hid (by rw [hw1]; exact Boxed.new _ _ _)
  have HB : Hid (Below w.heap.size w w1) := Lib.hid (by rw [hw1]; exact (Below.refl _ _).alloc (Nat.le_refl _) _)
  clear hw1
  go_wp2_with fail
  refine (HL.out _ _ HX.out).mono ?_
  rintro e w2 ⟨v, zs, rfl, ho, hz, hb2⟩
  obtain ⟨a, c, hv⟩ := ho.shape
  subst hv
  have HB2 := Lib.hid (HB.out.trans (hb2.mono HB.out.size))
  have HO := Lib.hid (ho.mono HB.out.size)
  have HZ := Lib.hid hz
  clear ho hb2 hz
  go_wp2
  go_ret2
  exact ⟨_, zs, rfl, HO.out, HZ.out, HB2.out⟩
end Go.Proofs.YtioflicmpnkfeaaGreat
