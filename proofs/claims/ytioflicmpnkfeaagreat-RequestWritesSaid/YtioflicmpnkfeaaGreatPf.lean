/- The contracts of part at series, and the iterator of series. -/
import Derived.Test.YtioflicmpnkfeaaGreatPe
namespace Go.Proofs.YtioflicmpnkfeaaGreat
open Go Go.RowKit Go.Shelf
attribute [local go_sem] Oper.semAt_some
set_option maxRecDepth 100000
theorem f_len {fs : List Fd} (hok : ∀ f ∈ fs, f.ok) : ∀ f ∈ fs, f.t.length ≤ (eM fs).length := by
  induction fs with
  | nil => intro f hf; cases hf
  | cons g r ih =>
    intro f hf
    rw [eM_cons, List.length_append]
    rcases List.mem_cons.1 hf with rfl | hf
    · have h := hok f (by simp)
      by_cases hw : f.w = 2
      · have e := fd_part h hw
        have := part_len f.n f.t
        rw [← e] at this
        omega
      · rw [h.t2 hw]; simp
    · have := ih (fun g hg => hok g (by simp [hg])) f hf; omega
theorem msg_texts {s : List UInt8} (hs : s.length ≤ 1000000) {fs : List Fd} (h : msg s [] = (fs, 0)) : ∀ f ∈ fs, f.t.length ≤ 1000000 := by
  obtain ⟨h1, h2⟩ := msg_len (by omega) h
  intro f hf
  have := f_len h1 f hf
  omega
/-- A series told: where its parts lie. -/
def QS (base : Nat) (x : Sr) (p : Pv) (A : World) : Prop := Ol A base p.1 x.ls ∧ Om A base p.2 x.ss
set_option maxHeartbeats 1000000 in
theorem partS_any (s : ByteArray) (hs : s.size ≤ 1000000) (w : World) :
    Calls Tryz.prog 61 #[.string s, .func (.func 51) #[] #[]] w (TellsR w (rSr s.data.toList)) := by
  have HR := Lib.hid (fun W => pread_any s hs W)
  unfold rSr
  obtain ⟨fs, K, hm⟩ : ∃ fs K, msg s.data.toList [] = (fs, K) := ⟨_, _, rfl⟩
  rw [hm] at HR ⊢
  dsimp only at HR ⊢
  have hl := fun (h : K = 0) => msg_ok' (s := s.data.toList) (fs := fs) (by simpa using hs) (by rw [hm, h])
  rw [show s.data.toList.length = s.size by simp] at hl
  have HA : Hid (Below w.heap.size w (w.alloc (.cells #[.slice none 0 0, .slice none 0 0] 29))) := Lib.hid ((Below.refl _ _).alloc (Nat.le_refl _) _)
  have HX : Hid (Box2 (w.alloc (.cells #[.slice none 0 0, .slice none 0 0] 29)) w.heap.size 29 (.slice none 0 0) (.slice none 0 0)) := Lib.hid (Box2.new _ _ _ _)
  have htl := fun (h : K = 0) => msg_texts (s := s.data.toList) (fs := fs) (by simpa using hs) (by rw [hm, h])
  clear hm
  by_cases hK : K = 0
  · subst hK
    rw [if_neg (by simp)]
    obtain ⟨hok, hfl⟩ := hl rfl
    have HL := Lib.hid (fun v W (hW : GAt W v (fs.map gfd)) => rser_any fs hok (by omega) (htl rfl) v W hW)
    clear hl htl hok hfl
    generalize gSr fs = X at *
    go_enter Tryz.func61, Tryz.ntmps61
    go_wp2_with fail
    refine (HR.out _).mono ?_
    rintro e w1 ⟨u, rfl, ho, hb1⟩
    have HU := Lib.hid ho.at
    obtain ⟨ua, uc, hu⟩ := ho.shape
    rw [List.length_map] at hu
    generalize fs.length = L at hu
    subst hu
    have HX1 := Lib.hid (HX.out.below hb1 HX.out.lt)
    have HB1 := Lib.hid (HA.out.trans (hb1.mono HA.out.size))
    clear ho hb1
    go_wp2_with fail
    refine (HL.out _ _ HU.out).mono ?_
    rintro e w2 ⟨a, b, rfl, hol, hom, hb2⟩
    have HOL := Lib.hid hol
    have HOM := Lib.hid hom
    obtain ⟨a1, c1, ha⟩ := O2.shape hol
    obtain ⟨a2, c2, hb⟩ := O2.shape hom
    rw [List.length_map] at ha hb
    subst ha hb
    have X2 := HX1.out.below hb2 HX1.out.lt
    have HB2 := Lib.hid (HB1.out.trans (hb2.mono HB1.out.size))
    have f0 := X2.free 0
    have f1 := X2.free 1
    have x0 := X2.c0
    have x1 := X2.c1
    have HX2 := Lib.hid X2
    clear X2 hb2 hol hom
    go_wp2
    exact retc2 Tryz.results61 two40 w.heap.size rfl rfl rfl (HX2.out.set _ _) ⟨_, _, rfl, O2.mono (O2.set2 HOL.out HX2.out (by decide)) HB1.out.size, O2.mono (O2.set2 HOM.out HX2.out (by decide)) HB1.out.size, below_set (below_set HB2.out (Nat.le_refl _) _) (Nat.le_refl _) _⟩
  · rw [if_pos hK]
    have hK2 : ((K : Int) != 0) = true := by rw [bne_iff_ne]; omega
    clear hl htl hK
    go_enter Tryz.func61, Tryz.ntmps61
    go_wp2_with fail
    refine (HR.out _).mono ?_
    rintro e w1 ⟨u, rfl, ho, hb1⟩
    have X1 := HX.out.below hb1 HX.out.lt
    have HB1 := Lib.hid (HA.out.trans (hb1.mono HA.out.size))
    have HX1 := Lib.hid X1
    clear X1 hb1 ho
    have HB2 := Lib.hid (HB1.out.alloc HB1.out.size (.cells #[.slice none 0 0, .slice none 0 0] 29))
    have HX2 := Lib.hid (HX1.out.alloc (.cells #[.slice none 0 0, .slice none 0 0] 29))
    have f0 := HX2.out.free 0
    have f1 := HX2.out.free 1
    have x0 := HX2.out.c0
    have x1 := HX2.out.c1
    go_wp2
    exact retc2 Tryz.results61 two40 w.heap.size rfl rfl rfl (HX2.out.set _ _) ⟨_, _, rfl, O2.nil _ _ _, O2.nil _ _ _, below_set (below_set HB2.out (Nat.le_refl _) _) (Nat.le_refl _) _⟩
theorem partsS_any (v : Value) (hv : ∃ a n c, v = .slice a n c) (w : World) :
    Calls Tryz.prog 50 #[v, .func (.func 51) #[] #[]] w fun e w' => e = .returned (.func (.func 60) #[] #[.pointer (some ⟨w.heap.size, 0, none⟩), .pointer (some ⟨w.heap.size + 1, 0, none⟩)]) ∧ w' = (w.alloc (.cells #[v] 90)).alloc (.cells #[.func (.func 51) #[] #[]] 96) := by
  obtain ⟨a, n, c, rfl⟩ := hv
  go_enter Tryz.func50, Tryz.ntmps50
  go_wp2
  go_ret
  exact ⟨rfl, rfl⟩
set_option maxHeartbeats 1000000 in
theorem partsS_gives (n : Nat) (hn : 1 ≤ n) (ts : List (List UInt8)) (hts : ∀ t ∈ ts, t.length ≤ 1000000) (hlen : ts.length ≤ 1000000) (b1 b2 : Nat) (v : Value) (F0 : Bks) (W : World)
    (hx1 : Boxed W b1 90 v) (hx2 : Boxed W b2 96 (.func (.func 51) #[] #[])) (hv : VAt W v (tcs ts))
    (hF : F0 b1 ∧ F0 b2 ∧ (ts ≠ [] → ∀ g, v.ownBlock = some g → F0 g)) :
    Gives n Tryz.prog 60 #[.pointer (some ⟨b1, 0, none⟩), .pointer (some ⟨b2, 0, none⟩)] (En2 (QS W.heap.size)) (tel rSr ts) F0 W := by
  intro l J Jx hJ hJx hY h0
  have HJ := Lib.hid hJ
  have HJx := Lib.hid hJx
  have HY := Lib.hid hY
  have H0 := Lib.hid h0
  have HV := Lib.hid hv
  have HTS := Lib.hid hts
  have HF := Lib.hid hF
  have HX1 := Lib.hid hx1
  have HX2 := Lib.hid hx2
  have c1 := hx1.cell
  have c2 := hx2.cell
  obtain ⟨va, vc, hv2⟩ := hv.slice
  rw [show (tcs ts).length = ts.length by simp [tcs]] at hv2
  generalize hL : ts.length = L at *
  have HL := Lib.hid hL
  subst hv2
  clear hJ hJx hY h0 hv hts hF hx1 hx2 hL
  refine callsIn_of_wp Tryz.func60 rfl trivial ?_ rfl
  simp only [Tryz.ntmps60, List.size_toArray, List.length_cons, List.length_nil, Nat.reduceAdd, Nat.reduceSub, Array.replicate_succ, Array.replicate_zero, List.push_toArray, List.append_toArray, List.nil_append, List.cons_append]
  gi_wp2
  gi_loopw [10] (fun p wr => ∃ (k : Nat), p = .int .i64 (k : Int) ∧ k ≤ L ∧ Hid (W.heap.size ≤ wr.heap.size) ∧ Hid (Kept F0 W wr) ∧ Hid (J (tel rSr (ts.drop k)) F0 wr)) (fun p _ => L - (intOf p).toNat)
  case atStart => exact ⟨0, rfl, by omega, Lib.hid (Nat.le_refl _), Lib.hid (Kept.refl _ _), H0⟩
  case round =>
    obtain ⟨k, rfl, hk, HZ, HK, HI⟩ := hrel
    by_cases hlt : k < L
    · have hkl : k < ts.length := by have := HL.out; omega
      have X1 : Boxed wr b1 90 (.slice va L vc) := (HK.out.same _ HF.out.1 HX1.out.lt).trans HX1.out
      have X2 : Boxed wr b2 96 (.func (.func 51) #[] #[]) := (HK.out.same _ HF.out.2.1 HX2.out.lt).trans HX2.out
      rcases HV.out.same (fun g hg e => HK.out.same g (HF.out.2.2 (fun h0 => by rw [h0] at hkl; simp at hkl) g e) hg) with ⟨h0, _⟩ | ⟨g, o, c, hg, hcs⟩
      · have := HL.out
        unfold tcs at h0
        rw [List.map_eq_nil_iff] at h0
        rw [h0] at this; simp at this; omega
      have q0 := hcs k (by simpa [tcs] using hkl)
      rw [show (tcs ts)[k]'(by simpa [tcs] using hkl) = .string (bs ts[k]) by simp [tcs]] at q0
      clear hcs
      have hi := HI.out
      rw [List.drop_eq_getElem_cons hkl, tel] at hi
      have hT := HTS.out ts[k] (List.getElem_mem hkl)
      generalize ts[k] = T at *
      have P := partS_any (bs T) (by rw [bs_size]; exact hT) wr
      rw [bs_data] at P
      have hc2 := X2.cell
      generalize rSr T = X at *
      obtain ⟨X, E⟩ := X
      dsimp only at P hi
      rw [show (tcs ts).length = L by simp [tcs]; exact HL.out] at hg
      cases hg
      have HP := Lib.hid P
      have HI2 := Lib.hid hi
      clear P hi hT X1 X2 c1 c2
      gi_wp2_with fail
      refine ⟨trivial, (callsIn_wide.2 HP.out).mono ?_⟩
      rintro e w3 ⟨a, b, rfl, hol, hom, hb3⟩
      obtain ⟨d1, e1, ha⟩ := O2.shape hol
      obtain ⟨d2, e2, hb⟩ := O2.shape hom
      subst ha hb
      generalize (X.ls.map lp).length = n1 at *
      generalize (X.ss.map sp).length = n2 at *
      have HB3 := Lib.hid (hb3.alloc hb3.size (.cells #[.slice d1 n1 e1, .slice d2 n2 e2] 29))
      have HEN : Hid (∀ k : Nat, En2 (QS W.heap.size) (X, k) #[.agg #[.slice d1 n1 e1, .slice d2 n2 e2], .int .i64 (k : Int)] (w3.alloc (.cells #[.slice d1 n1 e1, .slice d2 n2 e2] 29))) := Lib.hid fun k =>
        ⟨(.slice d1 n1 e1, .slice d2 n2 e2), rfl, ⟨World.ownsRow.alloc (O2.mono hol HZ.out) _, World.ownsRow.alloc (O2.mono hom HZ.out) _⟩, rfl, rfl⟩
      clear hb3 hol hom
      by_cases hE : E = 0
      · subst hE
        have hi := HI2.out
        rw [if_neg (by simp)] at hi
        obtain ⟨fn, tmps, assign, body, hy, hR⟩ := HY.out (X, 0) _ #[.agg #[.slice d1 n1 e1, .slice d2 n2 e2], .int .i64 0] F0 _ (HJ.out _ _ F0 _ _ hi HB3.out (fun j h => .inl h)) (HEN.out 0) (Nat.le_trans HZ.out HB3.out.size)
        have HYR := Lib.hid hR
        clear hR hi
        gi_wp2
        refine HYR.out.mono ?_
        rintro e W3 (⟨rfl, hJ3, hk3⟩ | ⟨rfl, hJx3, hsz⟩)
        · have HJ3 := Lib.hid hJ3
          have HK3 := Lib.hid hk3
          clear hJ3 hk3
          gi_wp2
          go_roundw
          case rel => exact ⟨k + 1, by go_num, by omega, Lib.hid (Nat.le_trans (Nat.le_trans HZ.out HB3.out.size) HK3.out.size), Lib.hid ((HK.out.trans (Kept.below HB3.out)).trans HK3.out), HJ3⟩
          case measure => simp [intOf]; omega
        · have HJ3 := Lib.hid hJx3
          clear hJx3
          gi_wp2
          refine bodyPost_ret (results_none rfl _ _ _) rfl ?_
          exact ⟨⟨_, rfl⟩, .inr HJ3.out⟩
      · have hi := HI2.out
        rw [if_pos hE] at hi
        have hE2 : ((E : Int) != 0) = true := by rw [bne_iff_ne]; omega
        obtain ⟨fn, tmps, assign, body, hy, hR⟩ := HY.out (X, E) _ #[.agg #[.slice d1 n1 e1, .slice d2 n2 e2], .int .i64 (E : Int)] F0 _ (HJ.out _ _ F0 _ _ hi HB3.out (fun j h => .inl h)) (HEN.out E) (Nat.le_trans HZ.out HB3.out.size)
        have HYR := Lib.hid hR
        clear hR hi hE
        gi_wp2
        refine HYR.out.mono ?_
        rintro e W3 (⟨rfl, hJ3, hk3⟩ | ⟨rfl, hJx3, hsz⟩)
        · have HJ3 := Lib.hid hJ3
          clear hJ3 hk3
          gi_wp2
          refine bodyPost_ret (results_none rfl _ _ _) rfl ?_
          exact ⟨⟨_, rfl⟩, .inl ⟨F0, HJ3.out⟩⟩
        · have HJ3 := Lib.hid hJx3
          clear hJx3
          gi_wp2
          refine bodyPost_ret (results_none rfl _ _ _) rfl ?_
          exact ⟨⟨_, rfl⟩, .inr HJ3.out⟩
    · obtain rfl : k = L := by omega
      gi_wp2
      go_end0
      refine ⟨⟨_, rfl⟩, .inl ⟨F0, ?_⟩⟩
      have := HI.out
      rw [List.drop_eq_nil_of_le (by have := HL.out; omega), tel] at this
      exact this
end Go.Proofs.YtioflicmpnkfeaaGreat
