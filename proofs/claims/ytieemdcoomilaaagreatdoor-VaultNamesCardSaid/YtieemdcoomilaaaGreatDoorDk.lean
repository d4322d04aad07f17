/- Back. -/
import Derived.Test.YtieemdcoomilaaaGreatDoorDg
import Derived.Deep.Slices
import Derived.Deep.SlicePairs
import Derived.ChangeSame
import Derived.OpenShut
set_option linter.unusedVariables false
set_option linter.unusedSimpArgs false
namespace Go.Proofs.YtieemdcoomilaaaGreatDoor
open Go Go.RowKit
set_option maxRecDepth 100000
/-- Numbers, read wherever they begin. -/
def KAt (W : World) (v : Value) (l : List Int) : Prop :=
  (l = [] ∧ ∃ a c, v = .slice a 0 c) ∨ ∃ g o c, v = .slice (some ⟨g, o, none⟩) l.length c ∧ l.length ≤ c ∧ ∀ j (h : j < l.length), W.cell? ⟨g, o + j, none⟩ = some (.int .i64 l[j])
theorem KAt.same {w w' : World} {v : Value} {l : List Int} (h : KAt w v l) (hb : ∀ g, g < w.heap.size → v.ownBlock = some g → w'.heap[g]? = w.heap[g]?) : KAt w' v l := by
  rcases h with h | ⟨g, o, c, rfl, hc, h⟩
  · exact .inl h
  · refine .inr ⟨g, o, c, rfl, hc, fun j hj => ?_⟩
    have hlt := World.block_lt_of_cell? w ⟨g, _, none⟩ (h j hj)
    exact (World.cell?_of_block (a := ⟨g, _, none⟩) (hb g hlt rfl)).trans (h j hj)
theorem KAt.slice {w : World} {v : Value} {l : List Int} (h : KAt w v l) : ∃ a c, v = .slice a l.length c := by
  rcases h with ⟨rfl, a, c, rfl⟩ | ⟨g, o, c, rfl, _⟩
  · exact ⟨_, _, rfl⟩
  · exact ⟨_, _, rfl⟩
theorem KAt.nil (W : World) : KAt W (.slice none 0 0) [] := .inl ⟨rfl, _, _, rfl⟩
/-- The tapes and what is left of the numbers, when the first k tapes have had their turn. -/
def bkT (T : Nat → Tp) (ks : List Int) : Nat → (Nat → Tp) × List Int
  | 0 => (T, ks)
  | k + 1 =>
    if (T k).s.size - (T k).f = 0 then bkT T ks k
    else (upd (bkT T ks k).1 k (bk ((bkT T ks k).2.headD 0) (T k)), (bkT T ks k).2.tail)
def backD (d : Dk) (ks : List Int) : Dk := { d with T := (bkT d.T ks 32).1, dn := false, dm := false, left := 0 }
set_option maxHeartbeats 1000000 in
theorem back_disk (B : Nat) (d : Dk) (ks : List Int) (v : Value) (w : World) (h : DAt w B d) (hd : ∀ i < 32, (d.T i).ok) (hv : KAt w v ks) (hne : ks ≠ [] → v.ownBlock ≠ some B) (hks : ks.length ≤ 9223372036854775807) :
    Calls Tryz.prog 25 #[.pointer (some ⟨B, 0, none⟩), v] w (DRet w B (.int .i64 0) (backD d ks)) := by
  have HIX := Lib.hid (fun k (hk : k < 32) W => index67 d.T k hk W)
  have HL : Hid ((Tryz.prog.info? 101).map (·.size) = some (tcells d.T 32).length) := Lib.hid (by rw [tcells_len]; exact len67)
  have HOK := Lib.hid hd
  have HR := Lib.hid h.range
  have HD0 := Lib.hid h
  have HV0 := Lib.hid hv
  have HNE := Lib.hid hne
  have l := h.lt
  clear h hd hv hne
  obtain ⟨cap, T, dn, dm, left⟩ := d
  unfold backD
  dsimp only at *
  generalize tcells T 32 = C at *
  go_enter Tryz.func25, Tryz.ntmps25
  go_wp2_with (refine wpList_load_mid rfl 101 _ rfl B 1 rfl _ _ HR.out Tryz.underlying101 rfl HL.out ?_)
  go_loopw [1, 14] (fun x i wl => ∃ (k : Nat) (ls : List Int), i = .int .i64 (k : Int) ∧ k ≤ 32 ∧ Hid (KAt w x ls ∧ (ls ≠ [] → x.ownBlock ≠ some B)) ∧ ls.length ≤ 9223372036854775807 ∧ Hid (ls = (bkT T ks k).2) ∧ Hid (DAt wl B ⟨cap, (bkT T ks k).1, dn, dm, left⟩) ∧ Hid (w.grownBy wl (some B))) (fun _ i _ => 32 - (intOf i).toNat)
  case atStart => exact ⟨0, ks, rfl, by omega, Lib.hid ⟨HV0.out, HNE.out⟩, hks, Lib.hid rfl, HD0, Lib.hid (World.grownBy.refl _ _)⟩
  case round =>
    obtain ⟨k, ls, rfl, hk, HV, hls, HLS, HD, HG⟩ := hrel
    obtain ⟨wl, hwl⟩ : ∃ wl, wl = wr := ⟨_, rfl⟩
    subst hwl
    by_cases hlt : k < 32
    · have hi := HIX.out k hlt
      have hok := HOK.out k hlt
      have HLO := Lib.hid (fun W => loose_any (T k) W hok)
      have HBK := Lib.hid (fun n W => back_any (T k) n W hok)
      have HBT : Hid (bkT T ks (k + 1) = if (T k).s.size - (T k).f = 0 then bkT T ks k else (upd (bkT T ks k).1 k (bk ((bkT T ks k).2.headD 0) (T k)), (bkT T ks k).2.tail)) := Lib.hid rfl
      have hS : (T k).s.size ≤ 1048576 := hok.2
      clear hok
      have B0 : Hid (Box2 (wl.alloc (.cells #[.string (T k).s, .int .i64 ((T k).f : Int)] 100)) wl.heap.size 100 (.string (T k).s) (.int .i64 ((T k).f : Int))) := Lib.hid (Box2.new _ _ _ _)
      have HA0 : Hid (Below wl.heap.size wl (wl.alloc (.cells #[.string (T k).s, .int .i64 ((T k).f : Int)] 100))) := Lib.hid ((Below.refl _ _).alloc (Nat.le_refl _) _)
      generalize hQ : (T k).s.size - (T k).f = Q at *
      clear hQ
      generalize hbq : (fun n => bk n (T k)) = bq at *
      have hbq2 : ∀ n, bk n (T k) = bq n := fun n => by rw [← hbq]
      simp only [hbq2] at HBK HBT
      clear hbq hbq2
      generalize (T k).f = F at *
      generalize (T k).s = S at *
      by_cases hQ : Q = 0
      · have HQ : Hid (bkT T ks (k + 1) = bkT T ks k) := Lib.hid (by rw [HBT.out, if_pos hQ])
        have hq : ((Q : Int) == 0) = true := by rw [beq_iff_eq]; omega
        go_wp2_with fail
        refine (HLO.out _).mono ?_
        rintro e w2 ⟨rfl, hb⟩
        have HB2 := Lib.hid (HA0.out.trans (hb.mono HA0.out.size))
        clear hb
        go_wp2
        go_roundw
        case rel => exact ⟨k + 1, ls, by go_num, by omega, HV, hls, Lib.hid (by rw [HQ.out]; exact HLS.out), Lib.hid (by rw [HQ.out]; exact HD.out.below HB2.out HD.out.lt), Lib.hid (grown_trans HG.out (grown_below HB2.out _))⟩
        case measure => simp [intOf]; omega
      · have hq : ((Q : Int) == 0) = false := by rw [beq_eq_false_iff_ne]; omega
        have HQ : Hid (bkT T ks (k + 1) = (upd (bkT T ks k).1 k (bq (ls.headD 0)), ls.tail)) := Lib.hid (by rw [HBT.out, if_neg hQ, HLS.out])
        cases ls with
        | nil =>
          obtain ⟨va, vc, hx⟩ := HV.out.1.slice
          subst hx
          have HBK0 := Lib.hid (fun W => HBK.out 0 W)
          clear HBK
          dsimp only [List.headD, List.tail, List.length_nil] at HQ HV hls ⊢
          generalize hR : bq 0 = R at *
          clear hR
          obtain ⟨S2, F2⟩ := R
          go_wp2_with fail
          refine (HLO.out _).mono ?_
          rintro e w2 ⟨rfl, hb⟩
          have HB2 := Lib.hid (HA0.out.trans (hb.mono HA0.out.size))
          have B2 := Lib.hid (B0.out.below hb B0.out.lt)
          have HD2 := Lib.hid (HD.out.below HB2.out HD.out.lt)
          clear hb
          have k0 := And.intro B2.out.c0 B2.out.c1
          have cs := HD2.out.s k hlt
          have cf := HD2.out.f k hlt
          have fs := HD2.out.fz (1 + k * 2)
          have ff := HD2.out.fz (1 + k * 2 + 1)
          have hn9 : wl.heap.size ≠ B := by have := HD.out.lt; omega
          go_wp2_with fail
          go_region_held3 (fun w' => w'.cell? ⟨wl.heap.size, 0, none⟩ = some (.string S) ∧ w'.cell? ⟨wl.heap.size, 1, none⟩ = some (.int .i64 (F : Int))) (first | exact k1 | exact k0 | exact ⟨((B3.out.apart (a := ⟨_, _, none⟩) hn9 _).apart (a := ⟨_, _, none⟩) hn9 _).c0, ((B3.out.apart (a := ⟨_, _, none⟩) hn9 _).apart (a := ⟨_, _, none⟩) hn9 _).c1⟩) (first
            | (go_at_call 71; refine (HBK0.out _).mono ?_; rintro e wB ⟨rfl, hbB⟩; have hq3 : Below w2.heap.size w2 wB := ⟨hbB.os, hbB.tape, hbB.output, hbB.size, hbB.block⟩; have HB3 := Lib.hid (HB2.out.trans (hq3.mono HB2.out.size)); have B3 := Lib.hid (B2.out.below hq3 B2.out.lt); have HD3 := Lib.hid (HD2.out.below hq3 HD2.out.lt); have k1 := And.intro B3.out.c0 B3.out.c1; have cs3 := HD3.out.s k hlt; have cf3 := HD3.out.f k hlt; have fs3 := HD3.out.fz (1 + k * 2); have ff3 := HD3.out.fz (1 + k * 2 + 1); clear hq3 hbB))
          go_wp2
          go_roundw
          case rel => exact ⟨k + 1, [], by go_num, by omega, HV, hls, Lib.hid (by rw [HQ.out]), Lib.hid (by rw [HQ.out]; exact DAt.congr (HD3.out.setT hlt ⟨S2, F2⟩) rfl), Lib.hid (grown_trans HG.out (grown_trans (grown_below HB3.out _) (grown_set2 _ _ _ _ _ _)))⟩
          case measure => simp [intOf]; omega
        | cons q r =>
          rcases HV.out.1 with ⟨h0, _⟩ | ⟨g, o, c, hx, hc, hcs⟩
          · cases h0
          have hgB : g ≠ B := fun e => HV.out.2 (by simp) (by rw [hx, e]; rfl)
          have q0 := hcs 0 (by simp)
          rw [Nat.add_zero] at q0
          have hgl := World.block_lt_of_cell? w _ q0
          have hcell : ∀ W, w.grownBy W (some B) → W.cell? ⟨g, o, none⟩ = some (.int .i64 q) := fun W hW => (World.cell?_of_block (a := ⟨g, o, none⟩) (hW.block g hgl (by simpa using hgB))).trans q0
          obtain ⟨A, hA⟩ : ∃ A, (if c = 1 then (⟨g, o, none⟩ : Addr) else ⟨g, o + 1, none⟩) = A := ⟨_, rfl⟩
          have HV2 : Hid (KAt w (.slice (some A) r.length (c - 1)) r ∧ (r ≠ [] → (Value.slice (some A) r.length (c - 1)).ownBlock ≠ some B)) := Lib.hid (by
            constructor
            · cases r with
              | nil => exact .inl ⟨rfl, _, _, rfl⟩
              | cons q2 r2 =>
                rw [if_neg (by simp at hc; omega)] at hA
                subst hA
                refine .inr ⟨g, o + 1, c - 1, rfl, by simp at hc ⊢; omega, fun j hj => ?_⟩
                have := hcs (j + 1) (by simpa using hj)
                rw [show o + 1 + j = o + (j + 1) by omega]
                exact this
            · intro _
              rw [← hA]
              split <;> simpa [Value.ownBlock] using hgB)
          have HC := Lib.hid hcell
          have hc1 : r.length + 1 ≤ c := by simpa using hc
          subst hx
          have HBK0 := Lib.hid (fun W => HBK.out q W)
          clear HBK hcs q0 hcell hc
          dsimp only [List.headD, List.tail] at HQ
          rw [List.length_cons] at hls ⊢
          generalize hL : r.length = L at *
          have HLR := Lib.hid hL
          clear hL
          generalize hR : bq q = R at *
          clear hR
          obtain ⟨S2, F2⟩ := R
          go_wp2_with fail
          refine (HLO.out _).mono ?_
          rintro e w2 ⟨rfl, hb⟩
          have HB2 := Lib.hid (HA0.out.trans (hb.mono HA0.out.size))
          have B2 := Lib.hid (B0.out.below hb B0.out.lt)
          have HD2 := Lib.hid (HD.out.below HB2.out HD.out.lt)
          clear hb
          have hq1 := HC.out _ (grown_trans HG.out (grown_below HB2.out _))
          have hAs : (if c = 1 then some (⟨g, o, none⟩ : Addr) else some ⟨g, o + 1, none⟩) = some A := by rw [← hA]; split <;> rfl
          clear hA
          go_wp2_with fail
          go_quiet (fail)
          rename_i nq
          have HB2 : Hid (Below wl.heap.size wl (w2.drewN nq)) := Lib.hid ⟨HB2.out.os, HB2.out.tape, HB2.out.output, HB2.out.size, HB2.out.block⟩
          have B2 : Hid (Box2 (w2.drewN nq) wl.heap.size 100 (.string S) (.int .i64 (F : Int))) := B2
          have HD2 := Lib.hid (HD2.out.drewN nq)
          generalize w2.drewN nq = WX at *
          have k0 := And.intro B2.out.c0 B2.out.c1
          have cs := HD2.out.s k hlt
          have cf := HD2.out.f k hlt
          have fs := HD2.out.fz (1 + k * 2)
          have ff := HD2.out.fz (1 + k * 2 + 1)
          have hn9 : wl.heap.size ≠ B := by have := HD.out.lt; omega
          go_wp2_with fail
          go_region_held3 (fun w' => w'.cell? ⟨wl.heap.size, 0, none⟩ = some (.string S) ∧ w'.cell? ⟨wl.heap.size, 1, none⟩ = some (.int .i64 (F : Int))) (first | exact k1 | exact k0 | exact ⟨((B3.out.apart (a := ⟨_, _, none⟩) hn9 _).apart (a := ⟨_, _, none⟩) hn9 _).c0, ((B3.out.apart (a := ⟨_, _, none⟩) hn9 _).apart (a := ⟨_, _, none⟩) hn9 _).c1⟩) (first
            | (go_at_call 71; refine (HBK0.out _).mono ?_; rintro e wB ⟨rfl, hbB⟩; have hq3 : Below WX.heap.size WX wB := ⟨hbB.os, hbB.tape, hbB.output, hbB.size, hbB.block⟩; have HB3 := Lib.hid (HB2.out.trans (hq3.mono HB2.out.size)); have B3 := Lib.hid (B2.out.below hq3 B2.out.lt); have HD3 := Lib.hid (HD2.out.below hq3 HD2.out.lt); have k1 := And.intro B3.out.c0 B3.out.c1; have cs3 := HD3.out.s k hlt; have cf3 := HD3.out.f k hlt; have fs3 := HD3.out.fz (1 + k * 2); have ff3 := HD3.out.fz (1 + k * 2 + 1); clear hq3 hbB))
          go_wp2
          go_roundw
          case rel => exact ⟨k + 1, r, by go_num, by omega, HV2, by have := HLR.out; omega, Lib.hid (by rw [HQ.out]), Lib.hid (by rw [HQ.out]; exact DAt.congr (HD3.out.setT hlt ⟨S2, F2⟩) rfl), Lib.hid (grown_trans HG.out (grown_trans (grown_below HB3.out _) (grown_set2 _ _ _ _ _ _)))⟩
          case measure => simp [intOf]; omega
    · obtain rfl : k = 32 := by omega
      have c65 := HD.out.dn
      have c66 := HD.out.dm
      have c67 := HD.out.left
      have f65 := HD.out.fz 65
      have f66 := HD.out.fz 66
      have f67 := HD.out.fz 67
      go_wp2
      go_ret
      exact ⟨rfl, ((HD.out.setDn false).setDm false).setLeft 0, grown_trans HG.out (grown_trans (grown_set2 _ _ _ _ _ _) (grown_setCell _ _ _ _))⟩
end Go.Proofs.YtieemdcoomilaaaGreatDoor
namespace Go.Proofs.YtieemdcoomilaaaGreatDoor
open Go Go.RowKit
theorem Dk.ok.upd {d : Dk} (h : d.ok) {i : Nat} (hi : i < 32) {x : Tp} (hx : x.ok) (hu : x.s.size + d.used ≤ d.cap + (d.T i).s.size) : ({ d with T := YtieemdcoomilaaaGreatDoor.upd d.T i x } : Dk).ok := by
  refine ⟨fun j hj => ?_, ?_, h.cap, h.left⟩
  · show (YtieemdcoomilaaaGreatDoor.upd d.T i x j).ok
    by_cases e : j = i
    · subst e; rw [upd_same]; exact hx
    · rw [upd_other _ _ e]; exact h.t j hj
  · have := sumT_upd d.T i x 32 hi
    show sumT (YtieemdcoomilaaaGreatDoor.upd d.T i x) 32 ≤ d.cap
    have h2 : d.used = sumT d.T 32 := rfl
    omega
/-- A deed that leaves what may be. -/
def Fine (d : Dk) (g : Tp → Tp × Nat) : Prop := ∀ i < 32, (g (d.T i)).2 = 0 → (g (d.T i)).1.ok ∧ (g (d.T i)).1.s.size + d.used ≤ d.cap + (d.T i).s.size
theorem res_fine {d : Dk} {g : Tp → Tp × Nat} (hg : Fine d g) {t : Int} (h : (res d t g).2 = 0) : t.toNat < 32 ∧ (res d t g).1.ok ∧ (res d t g).1.s.size + d.used ≤ d.cap + (d.T t.toNat).s.size := by
  unfold res at *
  split at h
  · rename_i ht
    rw [if_pos ht]
    exact ⟨by omega, hg _ (by omega) h⟩
  · cases h
theorem doD_ok {d : Dk} (h : d.ok) (t : Int) (torn : Bool) {g : Tp → Tp × Nat} (hg : Fine d g) : (doD d t torn g).1.ok := by
  unfold doD
  split
  · exact h
  · split
    · split
      · rename_i hr
        obtain ⟨h1, h2, h3⟩ := res_fine hg hr.2
        have := h.upd h1 h2 h3
        exact ⟨this.t, this.used, this.cap, this.left⟩
      · exact ⟨h.t, h.used, h.cap, h.left⟩
    · split
      · exact h
      · rename_i hr
        obtain ⟨h1, h2, h3⟩ := res_fine (t := t) hg (by omega)
        have := h.upd h1 h2 h3
        refine ⟨this.t, this.used, this.cap, ?_⟩
        show (if d.dm = true then d.left - 1 else d.left) ≤ _
        have := h.left
        split <;> omega
theorem fine_sy {d : Dk} (h : d.ok) : Fine d sy := fun i hi _ => ⟨⟨Nat.le_refl _, (h.t i hi).2⟩, by have := h.used; show (d.T i).s.size + _ ≤ _; omega⟩
theorem fine_wi {d : Dk} (h : d.ok) : Fine d wi := fun i _ _ => ⟨⟨Nat.le_refl _, Nat.zero_le _⟩, by have := h.used; show 0 + _ ≤ _; omega⟩
theorem fine_tr {d : Dk} (h : d.ok) (n : Int) : Fine d (tr n) := fun i hi he => by
  have h1 := (h.t i hi).2
  have hu := h.used
  unfold tr at *
  split at he
  · rename_i hn
    rw [if_pos hn]
    have hz : ((d.T i).s.extract 0 n.toNat).size = n.toNat := by simp; omega
    exact ⟨⟨by dsimp only; omega, by dsimp only; omega⟩, by dsimp only; omega⟩
  · cases he
theorem fine_wf {d : Dk} (h : d.ok) (x : ByteArray) : Fine d (wf d x) := fun i hi he => by
  have h1 := h.t i hi
  unfold Tp.ok at h1
  unfold wf at *
  split at he
  · cases he
  · rename_i hc
    rw [if_neg hc]
    unfold wr at *
    split at he
    · cases he
    · rename_i hx
      rw [if_neg hx] at hc ⊢
      have hz : ((d.T i).s ++ x).size = (d.T i).s.size + x.size := ByteArray.size_append
      dsimp only at hc ⊢
      refine ⟨⟨by dsimp only; omega, by dsimp only; omega⟩, ?_⟩
      have : ¬ d.cap < x.size + d.used := fun h => hc ⟨rfl, h⟩
      omega
theorem bk_ok {t : Tp} (h : t.ok) (n : Int) : (bk n t).ok ∧ (bk n t).s.size ≤ t.s.size ∧ (bk n t).f = (bk n t).s.size ∧ t.f ≤ (bk n t).f ∧ ∃ k, k ≤ t.s.size ∧ (bk n t).s = t.s.extract 0 k := by
  obtain ⟨h1, h2⟩ := h
  have hm := Nat.mod_lt (IntKind.u64.wrap n).toNat (show 0 < t.s.size - t.f + 1 by omega)
  have hz : (t.s.extract 0 (t.f + (IntKind.u64.wrap n).toNat % (t.s.size - t.f + 1))).size = t.f + (IntKind.u64.wrap n).toNat % (t.s.size - t.f + 1) := by simp; omega
  unfold bk
  dsimp only
  exact ⟨⟨by dsimp only; omega, by dsimp only; omega⟩, by omega, hz.symm, by omega, _, by omega, rfl⟩
theorem bkT_at (T : Nat → Tp) (ks : List Int) : ∀ k i, (i < k → ((T i).s.size - (T i).f = 0 ∧ (bkT T ks k).1 i = T i) ∨ ((T i).s.size - (T i).f ≠ 0 ∧ ∃ n, (bkT T ks k).1 i = bk n (T i))) ∧ (k ≤ i → (bkT T ks k).1 i = T i)
  | 0, i => ⟨fun h => by omega, fun _ => rfl⟩
  | k + 1, i => by
    obtain ⟨h1, h2⟩ := bkT_at T ks k i
    by_cases hz : (T k).s.size - (T k).f = 0
    · have e : bkT T ks (k + 1) = bkT T ks k := if_pos hz
      rw [e]
      refine ⟨fun h => ?_, fun h => h2 (by omega)⟩
      by_cases hik : i = k
      · subst hik; exact .inl ⟨hz, h2 (Nat.le_refl _)⟩
      · exact h1 (by omega)
    · have e : (bkT T ks (k + 1)).1 = upd (bkT T ks k).1 k (bk ((bkT T ks k).2.headD 0) (T k)) := by
        show (if (T k).s.size - (T k).f = 0 then _ else _ : (Nat → Tp) × List Int).1 = _
        rw [if_neg hz]
      rw [e]
      refine ⟨fun h => ?_, fun h => ?_⟩
      · by_cases hik : i = k
        · subst hik; rw [upd_same]; exact .inr ⟨hz, _, rfl⟩
        · rw [upd_other _ _ hik]; exact h1 (by omega)
      · rw [upd_other _ _ (by omega)]; exact h2 (by omega)
theorem sumT_mono {T U : Nat → Tp} : ∀ n, (∀ j < n, (T j).s.size ≤ (U j).s.size) → sumT T n ≤ sumT U n
  | 0, _ => Nat.le_refl _
  | n + 1, h => by
    have a := sumT_mono n (fun j hj => h j (by omega))
    have b := h n (by omega)
    show sumT T n + _ ≤ sumT U n + _
    omega
/-- What a Back leaves of tape i. -/
theorem back_at {d : Dk} (h : d.ok) (ks : List Int) (i : Nat) (hi : i < 32) : ((backD d ks).T i).ok ∧ ((backD d ks).T i).s.size ≤ (d.T i).s.size ∧ ((backD d ks).T i).f = ((backD d ks).T i).s.size ∧ (d.T i).f ≤ ((backD d ks).T i).f ∧ ∃ k, k ≤ (d.T i).s.size ∧ ((backD d ks).T i).s = (d.T i).s.extract 0 k := by
  have hok := h.t i hi
  show ((bkT d.T ks 32).1 i).ok ∧ _
  rcases (bkT_at d.T ks 32 i).1 hi with ⟨h0, e⟩ | ⟨h0, n, e⟩
  · have : (backD d ks).T i = d.T i := e
    rw [e, this]
    refine ⟨hok, Nat.le_refl _, ?_, Nat.le_refl _, (d.T i).s.size, Nat.le_refl _, ?_⟩
    · have := hok.1; omega
    · exact (ByteArray.extract_zero_size).symm
  · have : (backD d ks).T i = bk n (d.T i) := e
    rw [e, this]
    exact bk_ok hok n
theorem backD_ok {d : Dk} (h : d.ok) (ks : List Int) : (backD d ks).ok :=
  ⟨fun i hi => (back_at h ks i hi).1, Nat.le_trans (sumT_mono 32 (fun i hi => (back_at h ks i hi).2.1)) h.used, h.cap, Nat.zero_le _⟩
theorem failD_ok {d : Dk} (h : d.ok) (n : Int) (hn : n ≤ 9223372036854775807) : (failD d n).1.ok := by
  unfold failD
  split
  · exact h
  · split
    · exact h
    · exact ⟨h.t, h.used, h.cap, by show n.toNat ≤ _; omega⟩
theorem wf_le {n : Int} (h : (Lit.int .i64 n).wf = true) : n ≤ 9223372036854775807 := by
  have := (Go.bounds_i64 h).2
  omega
theorem made0_ok {cap : Nat} {l : List Tq} (hc : cap ≤ 9223372036854775807) (h : loadE cap l = 0) : (made0 cap l).ok := by
  unfold loadE at h
  split at h
  · cases h
  · split at h
    · cases h
    · rename_i hb
      split at h
      · cases h
      · rename_i hu
        rw [Int.toNat_natCast] at hu
        refine ⟨fun i _ => ofT_size (fun q hq => ?_) i, by show (made0 cap l).used ≤ cap; omega, hc, Nat.zero_le _⟩
        have hq2 : ¬ tooLong q = true := fun e => hb (List.any_eq_true.2 ⟨q, hq, e⟩)
        unfold tooLong at hq2
        have : ¬ (1048576 < q.b.size + q.a.size) := fun e => hq2 (decide_eq_true e)
        omega
end Go.Proofs.YtieemdcoomilaaaGreatDoor
namespace Go.Proofs.YtieemdcoomilaaaGreatDoor
open Go Go.RowKit
set_option maxRecDepth 100000
set_option maxHeartbeats 400000 in
theorem load_no (cap : Int) (l : List Tq) (v : Value) (w : World) (hv : TAt w v l) (hl : l.length ≤ 9223372036854775807) (h : cap < 0 ∨ 32 < l.length) :
    Calls Tryz.prog 29 #[.int .i64 cap, v] w fun e w' => e = .returned (.tuple #[.pointer none, .int .i64 1]) ∧ w = w' := by
  obtain ⟨va, vc, hv2⟩ := At2.slice hv
  rw [List.length_map] at hv2
  clear hv
  generalize l.length = L at *
  subst hv2
  by_cases hc : cap < 0
  · clear h
    go_enter Tryz.func29, Tryz.ntmps29
    go_wp2
    go_ret2
    exact ⟨rfl, rfl⟩
  · have hL : 32 < L := by omega
    have hc2 : 0 ≤ cap := by omega
    clear h
    go_enter Tryz.func29, Tryz.ntmps29
    go_wp2
    go_ret2
    exact ⟨rfl, rfl⟩
/-- What Load tells: no disk, and an error; or a disk in a block of the call's own. -/
def Loaded (w : World) (cap : Int) (l : List Tq) (e : Ending) (w' : World) : Prop :=
  Below w.heap.size w w' ∧ ((loadE cap l ≠ 0 ∧ e = .returned (.tuple #[.pointer none, .int .i64 (loadE cap l : Int)])) ∨
    (loadE cap l = 0 ∧ ∃ c : Nat, cap = c ∧ (made0 c l).ok ∧ ∃ B, w.heap.size ≤ B ∧ e = .returned (.tuple #[.pointer (some ⟨B, 0, none⟩), .int .i64 0]) ∧ DAt w' B (made0 c l)))
theorem load_any (cap : Int) (l : List Tq) (v : Value) (w : World) (hv : TAt w v l) (hc : (Lit.int .i64 cap).wf = true) (hl : l.length ≤ 9223372036854775807) (hw : ∀ q ∈ l, q.a.size ≤ 9223372036854775807 ∧ q.b.size ≤ 9223372036854775807) : Calls Tryz.prog 29 #[.int .i64 cap, v] w (Loaded w cap l) := by
  by_cases h : cap < 0 ∨ 32 < l.length
  · have he : loadE cap l = 1 := if_pos h
    refine (load_no cap l v w hv hl h).mono ?_
    rintro e w' ⟨rfl, rfl⟩
    exact ⟨Below.refl _ _, .inl ⟨by rw [he]; decide, by rw [he]; rfl⟩⟩
  · obtain ⟨c, rfl⟩ := Int.eq_ofNat_of_zero_le (show 0 ≤ cap by omega)
    have hc2 : c ≤ 9223372036854775807 := by have := wf_le hc; omega
    refine (load_in c l v w hv (by omega) hc2 hw _ rfl).mono ?_
    rintro e w' ⟨hb, ⟨h0, rfl, hd⟩ | ⟨h0, rfl⟩⟩
    · exact ⟨hb, .inr ⟨h0, c, rfl, made0_ok hc2 h0, _, Nat.le_refl _, rfl, hd⟩⟩
    · exact ⟨hb, .inl ⟨h0, rfl⟩⟩
theorem KAt.lt {w : World} {v : Value} {l : List Int} (h : KAt w v l) (hl : l ≠ []) : ∀ g, v.ownBlock = some g → g < w.heap.size := fun g hg => by
  rcases h with ⟨h, _⟩ | ⟨g2, o, c, rfl, _, hc⟩
  · exact absurd h hl
  · cases hg
    cases l with
    | nil => exact absurd rfl hl
    | cons q r => exact World.block_lt_of_cell? w _ (hc 0 (by simp))
end Go.Proofs.YtieemdcoomilaaaGreatDoor
namespace Go.Proofs.YtieemdcoomilaaaGreatDoor
open Go Go.RowKit Go.Deep Go.ChangeShapes Go.WideShapes
set_option maxRecDepth 100000
/-- Tapes, as they are handed in. -/
structure Tps (w : World) (v : Value) (l : List Tq) : Prop where
  at' : TAt w v l
  len : l.length ≤ 9223372036854775807
  wide : ∀ q ∈ l, q.a.size ≤ 9223372036854775807 ∧ q.b.size ≤ 9223372036854775807
theorem Tps.below {w w' : World} {v : Value} {l : List Tq} (h : Tps w v l) {m : Nat} (hb : Below m w w') (hm : w.heap.size ≤ m) : Tps w' v l := ⟨At2.below h.at' hb hm, h.len, h.wide⟩
instance : Inhabited Tq := ⟨⟨⟨#[]⟩, ⟨#[]⟩⟩⟩
section
variable {H : Type} {enc : TypeId × Value → H} {w : World} {base b0 : Nat} {spare : Nat → Bool} {held : Bool}
theorem open_nums' {fuel : Nat} {v : Value} {x : DataW H × List MemPlace} (hf : DataW.trod enc Tryz.prog w base spare held fuel 38 [v] = some x) : ∃ l : List Int, KAt w v l ∧ l.length ≤ 9223372036854775807 := by
  rcases open_ints Tryz.underlying38 Tryz.underlying3 (by kernel_rfl) hf with ⟨h0, _⟩ | ⟨a, len, cap, zs, h0, _, hl, hm, hz, _, hc, hw⟩
  · cases h0
    exact ⟨[], .inl ⟨rfl, _, _, rfl⟩, Nat.zero_le _⟩
  · cases h0
    have hlz : len ≤ zs.length := by rw [hz]; split <;> omega
    rcases Nat.eq_zero_or_pos len with h0 | h0
    · subst h0; exact ⟨[], .inl ⟨rfl, _, _, rfl⟩, Nat.zero_le _⟩
    · obtain ⟨b, off, spot⟩ := a
      have hs : spot = none := by simpa [Addr.add] using World.cell?_spot (hc 0 (by omega))
      subst hs
      have hlen : (zs.take len).length = len := by rw [List.length_take]; omega
      refine ⟨zs.take len, .inr ⟨b, off, cap, by rw [hlen], by rw [hlen]; exact hl, fun j hj => ?_⟩, by rw [hlen]; unfold maxLen at hm; omega⟩
      have hj2 : j < zs.length := by rw [hlen] at hj; omega
      have := hc j hj2
      rw [Go.WideShapes.add_plain] at this
      rw [this, List.getElem_take, List.getD_eq_getElem?_getD, List.getElem?_eq_getElem hj2]
      rfl
theorem open_tapes {r : Reach} {v : Value} {d : DataW H} {p : List MemPlace} (hv : Value.okWide Tryz.prog w r b0 56 v) (h : DataW.Trod enc Tryz.prog w base spare held 56 v d p) : ∃ l : List Tq, Tps w v l := by
  obtain ⟨a0, l0, c0, rfl⟩ := okWide_slice Tryz.underlying56 hv
  obtain ⟨fuel, hf⟩ := h
  rcases open_slice (cs := [.slice a0 l0 c0]) Tryz.underlying56 hf with ⟨h0, _⟩ | ⟨a, len, cap, m, n, D, Pl, h0, _, hl, hm, hmm, _, hi⟩
  · cases h0
    exact ⟨[], At2.nil _, Nat.zero_le _, fun a ha => (by cases ha)⟩
  · cases h0
    have hlm : l0 ≤ m := by rw [hmm]; split <;> omega
    rw [show Tryz.prog.cellsOf 97 = 2 by kernel_rfl] at hi
    have each : ∀ i, i < l0 → ∃ x : Tq, (x.a.size ≤ 9223372036854775807 ∧ x.b.size ≤ 9223372036854775807) ∧ w.cell? (a.add (i * 2)) = some (.string x.a) ∧ w.cell? ((a.add (i * 2)).add 1) = some (.string x.b) := fun i hil => by
      obtain ⟨cs', h1, h2⟩ := hi i (by omega)
      obtain ⟨_, hlen, hcell⟩ := World.cells?_some h1
      obtain ⟨xs, k, -, hx, -, hxl, hf⟩ := DataW.trod_struct Tryz.underlying97 h2
      match cs', hlen, xs, hxl with
      | [v0, v1], _, [y0, y1], _ =>
        have g0 := hf 0 _ rfl
        have g1 := hf 1 _ rfl
        change DataW.trod enc Tryz.prog w base spare held k 9 ((([v0, v1] : List Value).drop 0).take (Tryz.prog.cellsOf 9)) = some y0 at g0
        rw [show Tryz.prog.cellsOf 9 = 1 by kernel_rfl] at g0
        change DataW.trod enc Tryz.prog w base spare held k 9 [v0] = some y0 at g0
        change DataW.trod enc Tryz.prog w base spare held k 9 ((([v0, v1] : List Value).drop 1).take (Tryz.prog.cellsOf 9)) = some y1 at g1
        rw [show Tryz.prog.cellsOf 9 = 1 by kernel_rfl] at g1
        change DataW.trod enc Tryz.prog w base spare held k 9 [v1] = some y1 at g1
        obtain ⟨z0, k0, _, f0⟩ := DataW.trod_string Tryz.underlying9 g0
        obtain ⟨z1, k1, _, f1⟩ := DataW.trod_string Tryz.underlying9 g1
        simp only [List.cons.injEq, and_true] at k0 k1
        subst k0 k1
        refine ⟨⟨z0, z1⟩, ⟨by unfold maxLen at f0; show z0.size ≤ _; omega, by unfold maxLen at f1; show z1.size ≤ _; omega⟩, ?_, hcell 1 (by decide)⟩
        have := hcell 0 (by decide)
        rwa [Go.Deep.add_add, Nat.add_zero] at this
    obtain ⟨q, hq⟩ := choose_lt each
    refine ⟨(List.range l0).map q, ?_, by rw [List.length_map, List.length_range]; unfold maxLen at hm; omega, fun x hx => ?_⟩
    · rcases Nat.eq_zero_or_pos l0 with h0 | h0
      · subst h0; exact .inl ⟨rfl, _, _, rfl⟩
      · obtain ⟨g, o, spot⟩ := a
        have hs : spot = none := by
          have := World.cell?_spot (hq 0 h0).2.1
          simpa [Addr.add] using this
        subst hs
        refine .inr ⟨g, o, c0, by simp, fun j hj => ?_⟩
        have hj' : j < l0 := by simpa using hj
        obtain ⟨-, e0, e1⟩ := hq j hj'
        rw [Go.WideShapes.add_plain] at e0 e1
        rw [Go.WideShapes.add_plain] at e1
        simp only [List.getElem_map, List.getElem_range]
        exact ⟨e0, e1⟩
    · obtain ⟨i, hi2, rfl⟩ := List.mem_map.1 hx
      exact (hq i (List.mem_range.1 hi2)).1
end
end Go.Proofs.YtieemdcoomilaaaGreatDoor
