/- The contracts of Of, the program's and the document's. -/
import Derived.Test.YtjhgmlhoefakpaaDoorTx
namespace Go.Proofs.YtjhgmlhoefakpaaDoor
open Go.RowKit
set_option maxRecDepth 100000
set_option maxHeartbeats 1000000
/-- How far a reader is from its end. -/
def rmes (b n : Nat) (w : World) : Nat := match w.cell? ⟨b, 1, none⟩, w.cell? ⟨b, 2, none⟩ with
  | some (.int _ a), some (.int _ e) => 2 * (n - a.toNat) + (if e = 0 then 1 else 0)
  | _, _ => 0
theorem rmes_eq {b n : Nat} {w : World} {s : ByteArray} {a e : Int} (h : RdAt w b s a e) : rmes b n w = 2 * (n - a.toNat) + (if e = 0 then 1 else 0) := by
  unfold rmes
  rw [h.c1, h.c2]
def exP (pre : List Lb) (x : Except Nat (List Lb)) : Except Nat (List Lb) := x.map fun r => pre ++ r
theorem exP_nil (x : Except Nat (List Lb)) : exP [] x = x := by cases x <;> rfl
theorem exP_cons (pre : List Lb) (y : Lb) (x : Except Nat (List Lb)) : exP pre (x.map fun r => y :: r) = exP (pre ++ [y]) x := by
  cases x with
  | error k => rfl
  | ok r => simp [exP, Except.map]
theorem lbs_end (f : Nat) : lbs f [] = .ok [] := by cases f <;> rfl
theorem lbs_succ (f : Nat) (l : List UInt8) : lbs (f + 1) l = if l = [] then .ok [] else match txt l 64 with
    | .error k => .error k
    | .ok p => match txt (l.drop (p.1 + p.2)) 256 with
      | .error k => .error k
      | .ok q => (lbs f ((l.drop (p.1 + p.2)).drop (q.1 + q.2))).map fun r => mkL ((l.drop p.1).take p.2) (((l.drop (p.1 + p.2)).drop q.1).take q.2) :: r := rfl
theorem lbs_more {f : Nat} {l : List UInt8} (h : l ≠ []) {C N D M : Nat} (h1 : txt l 64 = .ok (C, N)) (h2 : txt (l.drop (C + N)) 256 = .ok (D, M)) :
    lbs (f + 1) l = (lbs f ((l.drop (C + N)).drop (D + M))).map fun r => mkL ((l.drop C).take N) (((l.drop (C + N)).drop D).take M) :: r := by
  rw [lbs_succ, if_neg h, h1]
  simp only
  rw [h2]
theorem lbs_bad1 {f : Nat} {l : List UInt8} (h : l ≠ []) {k : Nat} (h1 : txt l 64 = .error k) : lbs (f + 1) l = .error k := by
  rw [lbs_succ, if_neg h, h1]
theorem lbs_bad2 {f : Nat} {l : List UInt8} (h : l ≠ []) {C N k : Nat} (h1 : txt l 64 = .ok (C, N)) (h2 : txt (l.drop (C + N)) 256 = .error k) : lbs (f + 1) l = .error k := by
  rw [lbs_succ, if_neg h, h1]
  simp only
  rw [h2]
theorem take_snoc17 (pre : List Lb) (y : Lb) (h : (pre.take 17).length ≤ 16) : (pre ++ [y]).take 17 = pre.take 17 ++ [y] := by
  rw [List.length_take] at h
  rw [List.take_of_length_le (by rw [List.length_append, List.length_singleton]; omega), List.take_of_length_le (by omega)]
theorem take_same17 (pre : List Lb) (y : Lb) (h : ¬ (pre.take 17).length ≤ 16) : (pre ++ [y]).take 17 = pre.take 17 := by
  rw [List.length_take] at h
  rw [List.take_append_of_le_length (by omega)]
theorem extract_eq (s : ByteArray) (a C N : Nat) : (s.extract (a + C) (a + C + N)) = ⟨(((s.data.toList.drop a).drop C).take N).toArray⟩ := by
  apply ByteArray.ext
  apply Array.ext'
  simp [List.extract_eq_take_drop, List.drop_drop]
  try omega
/-- A name and a value, read one behind the other. -/
theorem pair_is (s : ByteArray) (hs : s.size ≤ 1000000000) (a : Nat) (ha : a < s.size) :
    ∃ (nm vl : ByteArray) (a1 e1 a2 e2 : Nat), Both 67 54 [.int .i64 64] s a 0 (.string nm) a1 e1 ∧ Both 67 54 [.int .i64 256] s a1 e1 (.string vl) a2 e2 ∧ nm.size ≤ 1000 ∧ vl.size ≤ 1000 ∧ a2 ≤ s.size ∧ a ≤ a2 ∧
      ((e2 = 0 ∧ a < a2 ∧ ∀ f, lbs (f + 1) (s.data.toList.drop a) = (lbs f (s.data.toList.drop a2)).map fun r => ⟨nm, vl⟩ :: r) ∨ (e2 ≠ 0 ∧ ∀ f, lbs (f + 1) (s.data.toList.drop a) = .error e2)) := by
  have hne : s.data.toList.drop a ≠ [] := by
    intro h
    have := drop_len s a
    rw [h, List.length_nil] at this
    omega
  rcases text_is s a (by omega) (by omega) 64 (by omega) with ⟨C, N, t1, hC, hle, hN, B⟩ | ⟨k, t1, hk, B⟩
  · have hdd : (s.data.toList.drop a).drop (C + N) = s.data.toList.drop (a + C + N) := by rw [List.drop_drop, ← Nat.add_assoc]
    have hz : (s.extract (a + C) (a + C + N)).size ≤ 1000 := by simp; omega
    rcases text_is s (a + C + N) hle (by omega) 256 (by omega) with ⟨D, M, t2, hD, hle2, hM, B2⟩ | ⟨k, t2, hk, B2⟩
    · refine ⟨_, _, a + C + N, 0, a + C + N + D + M, 0, B, B2, hz, by simp; omega, hle2, by omega, .inl ⟨rfl, by omega, fun f => ?_⟩⟩
      rw [lbs_more hne t1 (by rw [hdd]; exact t2), hdd, extract_eq, extract_eq]
      have h3 : (s.data.toList.drop (a + C + N)).drop (D + M) = s.data.toList.drop (a + C + N + D + M) := by rw [List.drop_drop, ← Nat.add_assoc]
      rw [h3]
      rfl
    · refine ⟨_, ⟨#[]⟩, a + C + N, 0, a + C + N, k, B, B2, hz, (by show (0 : Nat) ≤ 1000; omega), hle, by omega, .inr ⟨hk, fun f => ?_⟩⟩
      exact lbs_bad2 hne t1 (by rw [hdd]; exact t2)
  · refine ⟨⟨#[]⟩, ⟨#[]⟩, a, k, a, k, B, ⟨fun w b h => mtext_err b s a k 256 w h (ne0 hk), fun w b h => qtext_err b s a k 256 (by omega) (by omega) w h (ne0 hk)⟩, (by show (0 : Nat) ≤ 1000; omega), (by show (0 : Nat) ≤ 1000; omega), by omega, Nat.le_refl _, .inr ⟨hk, fun f => lbs_bad1 hne t1⟩⟩
theorem grown_then {w a c : World} {r : Option Nat} (h : w.grownBy a r) (k : Below w.heap.size a c) : w.grownBy c r :=
  ⟨k.os.trans h.os, k.tape.trans h.tape, k.output.trans h.output, Nat.le_trans h.size k.size, fun i hi hr => (k.block i hi).trans (h.block i hi hr)⟩
/-- What texts leaves. -/
def TxRet (w : World) (b : Nat) (x : Except Nat (List Lb)) (e : Ending) (w' : World) : Prop :=
  (match x with
  | .error k => ∃ u, e = .returned (.tuple #[u, .int .i64 k]) ∧ k ≠ 0
  | .ok m => ∃ u, e = .returned (.tuple #[u, .int .i64 0]) ∧ Ol w' w.heap.size u (m.take 17)) ∧ w.grownBy w' (some b)
theorem texts_any (b : Nat) (s : ByteArray) (hs : s.size ≤ 1000000000) (w : World) (h : RdAt w b s 0 0) :
    Calls Tryd.prog 48 #[.pointer (some ⟨b, 0, none⟩)] w (TxRet w b (lbs s.data.toList.length s.data.toList)) := by
  have hsz := Lib.size_eq s
  rw [← hsz]
  obtain ⟨X, hX⟩ : ∃ X, lbs s.size s.data.toList = X := ⟨_, rfl⟩
  rw [hX]
  have HX := Lib.hid hX
  have HS := Lib.hid hsz
  have HI := Lib.hid h
  have hbw := h.lt
  clear h hX hsz
  go_enter Tryd.func48, Tryd.ntmps48
  go_wp2
  go_loopw [4] (fun u wr => ∃ (pre kept : List Lb) (a e f : Nat), Hid (RdAt wr b s a e) ∧ Hid (Ol wr w.heap.size u kept) ∧ kept.length ≤ 17 ∧ a ≤ s.size ∧ Hid (w.grownBy wr (some b)) ∧ Hid ((e = 0 → kept = pre.take 17 ∧ s.size - a ≤ f ∧ exP pre (lbs f (s.data.toList.drop a)) = X) ∧ (e ≠ 0 → X = .error e))) (fun _ wr => rmes b s.size wr)
  case atStart => exact ⟨[], [], 0, 0, s.size, Lib.hid HI.out, Lib.hid (ol_nil _ _), by simp, by omega, Lib.hid (World.grownBy.refl _ _), Lib.hid ⟨fun _ => ⟨rfl, by omega, by rw [exP_nil, List.drop_zero]; exact HX.out⟩, fun h => absurd rfl h⟩⟩
  case round =>
    obtain ⟨pre, kept, a, e, f, HR, HO, hk17, ha, HG, HE⟩ := hrel
    have HA := Lib.hid (fun W (h : W = wr) => (show Calls Tryd.prog 65 #[.pointer (some ⟨b, 0, none⟩)] W _ from by subst h; exact err_any b e W HR.out.c2))
    by_cases he : e = 0
    · subst he
      have HLf := Lib.hid (left_any b s a wr HR.out.c0 HR.out.c1 (by omega) (by omega) (by omega))
      by_cases hlt : a < s.size
      · have hlz : decide ((0 : Int) < (s.size : Int) - (a : Int)) = true := decide_eq_true (by omega)
        have HM : Hid (rmes b s.size wr = 2 * (s.size - a) + 1) := Lib.hid (by rw [rmes_eq HR.out]; simp)
        obtain ⟨nm, vl, a1, e1, a2, e2, B1, B2, hn1, hn2, ha2, hle, hres⟩ := pair_is s hs a hlt
        have HE2 : Hid ((e2 = 0 → kept = pre.take 17 ∧ s.size - a2 ≤ f - 1 ∧ exP (pre ++ [⟨nm, vl⟩]) (lbs (f - 1) (s.data.toList.drop a2)) = X) ∧ (e2 ≠ 0 → X = .error e2)) := Lib.hid (by
          obtain ⟨hk, hf, hX⟩ := HE.out.1 rfl
          obtain ⟨g, rfl⟩ : ∃ g, f = g + 1 := ⟨f - 1, by omega⟩
          rcases hres with ⟨h0, hlt2, hL⟩ | ⟨h0, hL⟩
          · refine ⟨fun _ => ⟨hk, by omega, ?_⟩, fun h => absurd h0 h⟩
            rw [← hX, hL, exP_cons]; rfl
          · refine ⟨fun h => absurd h h0, fun _ => ?_⟩
            rw [← hX, hL]; rfl)
        have HM2 : Hid (2 * (s.size - a2) + (if (e2 : Int) = 0 then 1 else 0) < 2 * (s.size - a) + 1) := Lib.hid (by
          rcases hres with ⟨h0, hlt2, _⟩ | ⟨h0, _⟩
          · rw [if_pos (by omega)]; omega
          · rw [if_neg (by omega)]; omega)
        have HB1 := Lib.hid B1.1
        have HB2 := Lib.hid B2.1
        clear hres B1 B2 hle hs
        have HC := Lib.hid (fun W => cloned_any nm vl (by omega) (by omega) W)
        go_wp2_with (first | (go_at_call 65; refine (HA.out _ rfl).mono ?_; rintro e1 w' ⟨rfl, rfl⟩) | (go_at_call 66; refine HLf.out.mono ?_; rintro e1 w' ⟨rfl, m, rfl⟩))
        have HR1 := Lib.hid (HR.out.drewN m)
        have HG1 : Hid (w.grownBy (wr.drewN m) (some b)) := Lib.hid (grown_trans HG.out (grown_drewN wr m b))
        have HO1 : Hid (Ol (wr.drewN m) w.heap.size u4 kept) := Lib.hid (HO.out.same fun g _ _ => rfl)
        go_wp2_with fail
        refine (HB1.out _ b HR1.out).mono ?_
        rintro en w1 ⟨rfl, hR2, hG2⟩
        have HR2 := Lib.hid hR2; have HG2 := Lib.hid hG2; clear hR2 hG2
        go_wp2_with fail
        refine (HB2.out _ b HR2.out).mono ?_
        rintro en w2 ⟨rfl, hR3, hG3⟩
        have HR3 := Lib.hid hR3
        have HGs : Hid ((wr.drewN m).grownBy w2 (some b)) := Lib.hid (grown_trans HG2.out hG3)
        have hsame : ∀ g, g < (wr.drewN m).heap.size → u4.ownBlock = some g → w2.heap[g]? = (wr.drewN m).heap[g]? := fun g hg ho => HGs.out.block g hg (fun e => by
          have := (own_lt HO1.out g ho).1
          have h2 : g = b := (Option.some.inj e)
          omega)
        have HO2 : Hid (Ol w2 w.heap.size u4 kept) := Lib.hid (HO1.out.same hsame)
        have HG4 : Hid (w.grownBy w2 (some b)) := Lib.hid (grown_trans HG1.out HGs.out)
        clear hG3 hsame
        obtain ⟨ao, ac, hu⟩ := HO2.out.shape
        subst hu
        by_cases h16 : kept.length ≤ 16
        · have h16z : decide ((kept.length : Int) ≤ 16) = true := decide_eq_true (by omega)
          go_wp2_with fail
          refine (HC.out _).mono ?_
          rintro en w3 ⟨rfl, hb3⟩
          have HB3 := Lib.hid hb3
          clear hb3
          unfold lv
          go_wp2_with (at_builtin; refine wpList_append_l _ _ rfl rfl w.heap.size _ kept rfl (HO2.out.below (HB3.out.alloc (HB3.out.size) _) (Nat.le_refl _)) _ [⟨nm, vl⟩] rfl (.inr ⟨_, 0, 1, rfl, fun j hj => ?cz⟩) (by simp; omega) (by have := HB3.out.size; have := HG4.out.size; simp; omega) ?_)
          case cz =>
            obtain rfl : j = 0 := by simp at hj; omega
            exact ⟨by simp, by simp⟩
          intro v' w4 hown hgr hblk
          have HO4 := Lib.hid hown
          have hws : w.heap.size ≤ w2.heap.size := HG4.out.size
          have HBB : Hid (Below w.heap.size (w3.alloc (.cells #[.string nm, .string vl] 28)) w4) := Lib.hid (below_grown hgr (by have := HB3.out.size; simp; omega) (fun g hg => (own_lt HO2.out g hg).1))
          have HB4 : Hid (Below w.heap.size w2 w4) := Lib.hid (((HB3.out.alloc HB3.out.size (.cells #[.string nm, .string vl] 28)).mono hws).trans HBB.out)
          have HG5 : Hid (w.grownBy w4 (some b)) := Lib.hid (grown_then HG4.out HB4.out)
          have HR4 := Lib.hid (HR3.out.congr (HB4.out.block b hbw))
          have HL4 : Hid ((kept ++ [(⟨nm, vl⟩ : Lb)]).length ≤ 17) := Lib.hid (by simp; omega)
          clear hown hgr hblk hws
          go_wp2
          go_roundw
          case rel =>
            refine ⟨pre ++ [⟨nm, vl⟩], kept ++ [⟨nm, vl⟩], a2, e2, f - 1, HR4, HO4, HL4.out, ha2, HG5, Lib.hid ⟨fun h => ?_, HE2.out.2⟩⟩
            obtain ⟨hk, hf, hX⟩ := HE2.out.1 h
            exact ⟨by rw [take_snoc17 _ _ (by rw [← hk]; exact h16), hk], hf, hX⟩
          case measure => rw [HM.out, rmes_eq HR4.out]; exact HM2.out
        · have h16z : decide ((kept.length : Int) ≤ 16) = false := decide_eq_false (by omega)
          go_wp2
          go_roundw
          case rel =>
            refine ⟨pre ++ [⟨nm, vl⟩], kept, a2, e2, f - 1, HR3, HO2, hk17, ha2, HG4, Lib.hid ⟨fun h => ?_, HE2.out.2⟩⟩
            obtain ⟨hk, hf, hX⟩ := HE2.out.1 h
            exact ⟨by rw [take_same17 _ _ (by rw [← hk]; exact h16), hk], hf, hX⟩
          case measure => rw [HM.out, rmes_eq HR3.out]; exact HM2.out
      · have hlz : decide ((0 : Int) < (s.size : Int) - (a : Int)) = false := decide_eq_false (by omega)
        obtain rfl : a = s.size := by omega
        have HX2 : Hid (X = .ok pre ∧ kept = pre.take 17) := Lib.hid (by
          obtain ⟨hk, hf, hX⟩ := HE.out.1 rfl
          have hn : s.data.toList.drop s.size = [] := List.drop_of_length_le (by rw [Lib.size_eq]; exact Nat.le_refl _)
          rw [hn, lbs_end] at hX
          exact ⟨by rw [← hX]; simp [exP, Except.map], hk⟩)
        go_wp2_with (first | (go_at_call 65; refine (HA.out _ rfl).mono ?_; rintro e1 w' ⟨rfl, rfl⟩) | (go_at_call 66; refine HLf.out.mono ?_; rintro e1 w' ⟨rfl, m, rfl⟩) | (go_at_call 65; refine (err_any b 0 _ (HR.out.drewN _).c2).mono ?_; rintro e1 w' ⟨rfl, rfl⟩))
        go_ret2
        refine ⟨?_, grown_trans HG.out (grown_drewN wr m b)⟩
        rw [HX2.out.1]
        exact ⟨_, rfl, HX2.out.2 ▸ (HO.out.same fun g _ _ => rfl)⟩
    · have hez : ((e : Int) == 0) = false := beq_eq_false_iff_ne.2 (by omega)
      have HX2 := Lib.hid (HE.out.2 he)
      have HE0 := Lib.hid he
      clear he
      go_wp2_with (first | (go_at_call 65; refine (HA.out _ rfl).mono ?_; rintro e1 w' ⟨rfl, rfl⟩))
      go_ret2
      refine ⟨?_, HG.out⟩
      rw [HX2.out]
      exact ⟨_, rfl, HE0.out⟩
theorem txt_le {l : List UInt8} {z C N : Nat} (h : txt l z = .ok (C, N)) : N ≤ z := by
  unfold txt at h
  split at h
  · cases h
  · split at h
    · cases h
    · split at h
      · cases h
      · cases h; omega
theorem mkL_size (a b : List UInt8) : (mkL a b).n.size = a.length ∧ (mkL a b).v.size = b.length := ⟨rfl, rfl⟩
theorem lbs_wide : ∀ (f : Nat) (l : List UInt8) (m : List Lb), lbs f l = .ok m → m.length ≤ f ∧ ∀ x ∈ m, x.n.size ≤ 64 ∧ x.v.size ≤ 256
  | 0, l, m, h => by cases h; exact ⟨Nat.le_refl _, fun x hx => by cases hx⟩
  | f + 1, l, m, h => by
    rw [lbs_succ] at h
    split at h
    · cases h; exact ⟨Nat.zero_le _, fun x hx => by cases hx⟩
    · cases h1 : txt l 64 with
      | error k => rw [h1] at h; cases h
      | ok p =>
        obtain ⟨C, N⟩ := p
        rw [h1] at h
        simp only at h
        cases h2 : txt (l.drop (C + N)) 256 with
        | error k => rw [h2] at h; cases h
        | ok q =>
          obtain ⟨D, M⟩ := q
          rw [h2] at h
          simp only at h
          cases h3 : lbs f ((l.drop (C + N)).drop (D + M)) with
          | error k => rw [h3] at h; cases h
          | ok r =>
            rw [h3] at h
            cases h
            obtain ⟨i1, i2⟩ := lbs_wide f _ r h3
            refine ⟨by rw [List.length_cons]; omega, fun x hx => ?_⟩
            rcases List.mem_cons.1 hx with rfl | hx
            · have e1 := txt_le h1
              have e2 := txt_le h2
              have := mkL_size (List.take N (List.drop C l)) (List.take M (List.drop D (List.drop (C + N) l)))
              rw [this.1, this.2, List.length_take, List.length_take]
              omega
            · exact i2 x hx
def ofX : Except Nat (List Lb) → List Lb × Nat
  | .error k => ([], k)
  | .ok m => if mayL m then (m, 0) else ([], 4)
theorem ofK_X (l : List UInt8) : ofK l = ofX (lbs l.length l) := rfl
/-- What Of, and Parse, leave. -/
def LsRet (w : World) (p : List Lb × Nat) (e : Ending) (w' : World) : Prop :=
  ∃ u, e = .returned (.tuple #[u, .int .i64 p.2]) ∧ Ol w' w.heap.size u p.1 ∧ Below w.heap.size w w'
theorem of_any (s : ByteArray) (hs : s.size ≤ 1000000000) (w : World) (hT : Tab w) : Calls Tryd.prog 19 #[.string s] w (LsRet w (ofK s.data.toList)) := by
  have HN := Lib.hid (fun W => new_any s W)
  have HT := Lib.hid hT
  obtain ⟨X, hX⟩ : ∃ X, lbs s.data.toList.length s.data.toList = X := ⟨_, rfl⟩
  have HX := Lib.hid hX
  have HXW := Lib.hid (lbs_wide s.data.toList.length s.data.toList)
  have HK : Hid (ofK s.data.toList = ofX X) := Lib.hid (by rw [ofK_X, hX])
  have HW1 := Lib.hid (texts_any w.heap.size s hs (w.alloc (.cells #[.string s, .int .i64 0, .int .i64 0] 90)) (RdAt.made s w 90))
  rw [hX] at HXW HW1
  clear hX hT
  generalize ofK s.data.toList = P at *
  go_enter Tryd.func19, Tryd.ntmps19
  go_wp2_with (go_at_call 49; refine (HN.out _).mono ?_; rintro e w' ⟨rfl, rfl⟩)
  refine HW1.out.mono ?_
  rintro e w2 ⟨hm, hg⟩
  have HB : Hid (Below w.heap.size w w2) := Lib.hid (((Below.refl w.heap.size w).alloc (Nat.le_refl _) _).trans (below_grown hg (by simp) (fun g h => by cases h; exact Nat.le_refl _)))
  clear hg
  cases X with
  | error k =>
    obtain ⟨u, rfl, hk⟩ := hm
    have hkz : ((k : Int) != 0) = true := by rw [bne_iff_ne]; omega
    clear hk
    go_wp2
    go_ret2
    exact ⟨_, by rw [HK.out]; rfl, by rw [HK.out]; exact ol_nil _ _, HB.out⟩
  | ok m =>
    obtain ⟨u, rfl, hO⟩ := hm
    have HO : Hid (Ol w2 w.heap.size u (m.take 17)) := Lib.hid (hO.mono (by simp))
    clear hO
    have HMW : Hid ((m.take 17).length ≤ 9223372036854775807 ∧ Wide (m.take 17)) := Lib.hid ⟨by rw [List.length_take]; omega, fun p hp => by
      have := (HXW.out m rfl).2 p (List.mem_of_mem_take hp)
      omega⟩
    have HM := Lib.hid (mayL_any (m.take 17) HMW.out.1 HMW.out.2 u w2 HO.out.at (HT.out.below HB.out (Nat.le_refl _)))
    rw [mayL_take] at HM
    cases hmay : mayL m with
    | false =>
      rw [hmay] at HM
      have HP : Hid (P = ([], 4)) := Lib.hid (by rw [HK.out, ofX, hmay]; rfl)
      clear hmay
      go_wp2_with (go_at_call 16; refine HM.out.mono ?_; rintro e w3 ⟨rfl, hb3⟩)
      go_ret2
      refine ⟨_, by rw [HP.out]; rfl, by rw [HP.out]; exact ol_nil _ _, HB.out.trans (hb3.mono HB.out.size)⟩
    | true =>
      rw [hmay] at HM
      have HP : Hid (P = (m, 0) ∧ m.take 17 = m) := Lib.hid ⟨by rw [HK.out, ofX, hmay]; rfl, List.take_of_length_le (by have := mayL_len hmay; omega)⟩
      clear hmay
      go_wp2_with (go_at_call 16; refine HM.out.mono ?_; rintro e w3 ⟨rfl, hb3⟩)
      go_ret2
      refine ⟨_, by rw [HP.out.1]; rfl, ?_, HB.out.trans (hb3.mono HB.out.size)⟩
      rw [HP.out.1]
      have h1 := HO.out
      rw [HP.out.2] at h1
      exact h1.below hb3 (Nat.le_refl _)
theorem rof_any (s : ByteArray) (hs : s.size ≤ 1000000000) (w : World) : Calls Tryd.prog 30 #[.string s] w (LsRet w (ofK s.data.toList)) := by
  have hsz := Lib.size_eq s
  obtain ⟨X, hX⟩ : ∃ X, lbs s.data.toList.length s.data.toList = X := ⟨_, rfl⟩
  have HX := Lib.hid hX
  have HXW := Lib.hid (lbs_wide s.data.toList.length s.data.toList)
  have HK : Hid (ofK s.data.toList = ofX X) := Lib.hid (by rw [ofK_X, hX])
  have HS := Lib.hid hsz
  rw [hX] at HXW
  clear hX hsz
  generalize ofK s.data.toList = P at *
  go_enter Tryd.func30, Tryd.ntmps30
  go_wp2
  go_loopw [5] (fun u wr => ∃ (pre : List Lb) (a f : Nat), Hid (RdAt wr w.heap.size s a 0) ∧ Hid (Ol wr (w.heap.size + 1) u pre) ∧ pre.length ≤ a ∧ a ≤ s.size ∧ Hid (Below w.heap.size w wr ∧ w.heap.size < wr.heap.size) ∧ Hid (s.size - a ≤ f ∧ exP pre (lbs f (s.data.toList.drop a)) = X)) (fun _ wr => rmes w.heap.size s.size wr)
  case atStart => exact ⟨[], 0, s.size, Lib.hid (RdAt.made s w 70), Lib.hid (ol_nil _ _), by simp, by omega, Lib.hid ⟨(Below.refl w.heap.size w).alloc (Nat.le_refl _) _, by simp⟩, Lib.hid ⟨by omega, by rw [exP_nil, List.drop_zero, HS.out]; exact HX.out⟩⟩
  case round =>
    obtain ⟨pre, a, f, HR, HO, hpl, ha, HB, HE⟩ := hrel
    have hc1 := HR.out.c1
    by_cases hlt : a < s.size
    · have HM : Hid (rmes w.heap.size s.size wr = 2 * (s.size - a) + 1) := Lib.hid (by rw [rmes_eq HR.out]; simp)
      obtain ⟨nm, vl, a1, e1, a2, e2, B1, B2, hn1, hn2, ha2, hle, hres⟩ := pair_is s hs a hlt
      have HB1 := Lib.hid B1.2
      have HB2 := Lib.hid B2.2
      clear B1 B2
      have HF : Hid (∃ g, f = g + 1) := Lib.hid ⟨f - 1, by have := HE.out.1; omega⟩
      have hkeep : ∀ (W W' : World) (u : Value) (l : List Lb), Ol W (w.heap.size + 1) u l → W.grownBy W' (some w.heap.size) → Ol W' (w.heap.size + 1) u l := fun W W' u l hO hG => hO.same fun g hg ho => hG.block g hg (fun e => by
        have h1 := (own_lt hO g ho).1
        have h2 : g = w.heap.size := Option.some.inj e
        omega)
      have HKp := Lib.hid hkeep
      clear hkeep
      go_wp2_with fail
      refine (HB1.out _ _ HR.out).mono ?_
      rintro en w1 ⟨rfl, hR1, hG1⟩
      have HR1 := Lib.hid hR1
      have HO1 := Lib.hid (HKp.out _ _ _ _ HO.out hG1)
      have HG1 := Lib.hid hG1
      clear hR1 hG1 hc1
      go_wp2_with fail
      refine (HB2.out _ _ HR1.out).mono ?_
      rintro en w2 ⟨rfl, hR2, hG2⟩
      have HR2 := Lib.hid hR2
      have HO2 := Lib.hid (HKp.out _ _ _ _ HO1.out hG2)
      have HW2 : Hid (Below w.heap.size w w2 ∧ w.heap.size < w2.heap.size) := Lib.hid ⟨HB.out.1.trans (below_grown (grown_trans HG1.out hG2) (by have := HB.out.2; omega) (fun g h => by cases h; exact Nat.le_refl _)), by have := HB.out.2; have := HG1.out.size; have := hG2.size; omega⟩
      clear hG2
      have hc2 := HR2.out.c2
      rcases hres with ⟨h0, hlt2, hL⟩ | ⟨h0, hL⟩
      · subst h0
        have HL := Lib.hid hL
        have HO3 := HO2.out
        obtain ⟨ao, ac, hu⟩ := HO3.shape
        clear HO3
        subst hu
        clear hL
        go_wp2_with (at_builtin; refine wpList_append_l _ _ rfl rfl (w.heap.size + 1) _ pre rfl (HO2.out.below ((Below.refl w2.heap.size w2).alloc (Nat.le_refl _) _) (Nat.le_refl _)) _ [⟨nm, vl⟩] rfl (.inr ⟨_, 0, 1, rfl, fun j hj => ?cz⟩) (by simp; omega) (by have := HW2.out.2; simp; omega) ?_)
        case cz =>
          obtain rfl : j = 0 := by simp at hj; omega
          exact ⟨by simp, by simp⟩
        intro v' w4 hown hgr hblk
        have HO4 := Lib.hid hown
        have HBB : Hid (Below (w.heap.size + 1) (w2.alloc (.cells #[.string nm, .string vl] 28)) w4) := Lib.hid (below_grown hgr (by have := HW2.out.2; simp; omega) (fun g hg => (own_lt HO2.out g hg).1))
        have HB4 : Hid (Below (w.heap.size + 1) w2 w4) := Lib.hid (((Below.refl (w.heap.size + 1) w2).alloc (by have := HW2.out.2; omega) _).trans HBB.out)
        have HR4 := Lib.hid (HR2.out.congr (HB4.out.block w.heap.size (by omega)))
        have HW4 : Hid (Below w.heap.size w w4 ∧ w.heap.size < w4.heap.size) := Lib.hid ⟨HW2.out.1.trans (HB4.out.mono (by omega)), by have := HW2.out.2; have := HB4.out.size; omega⟩
        clear hown hgr hblk
        go_wp2
        go_roundw
        case rel =>
          refine ⟨pre ++ [⟨nm, vl⟩], a2, f - 1, HR4, HO4, by simp; omega, ha2, HW4, Lib.hid ?_⟩
          obtain ⟨g, rfl⟩ := HF.out
          obtain ⟨hf, hX⟩ := HE.out
          refine ⟨by omega, ?_⟩
          rw [← hX, HL.out, exP_cons]; rfl
        case measure =>
          rw [HM.out, rmes_eq HR4.out]
          simp
          omega
      · have hez : ((e2 : Int) != 0) = true := by rw [bne_iff_ne]; omega
        have HP : Hid (P = ([], e2)) := Lib.hid (by
          obtain ⟨g, rfl⟩ := HF.out
          rw [HK.out, ← HE.out.2, hL]; rfl)
        clear hL h0
        go_wp2
        go_big_quiet (fail)
        go_wp2
        go_ret2
        exact ⟨_, by rw [HP.out]; rfl, by rw [HP.out]; exact ol_nil _ _, below_drewN HW2.out.1 _⟩
    · obtain rfl : a = s.size := by omega
      have hXp : X = .ok pre := by
        have hX := HE.out.2
        have hn : s.data.toList.drop s.size = [] := List.drop_of_length_le (by rw [Lib.size_eq]; exact Nat.le_refl _)
        rw [hn, lbs_end] at hX
        rw [← hX]; simp [exP, Except.map]
      subst hXp
      have HMW : Hid (pre.length ≤ 9223372036854775807 ∧ Wide pre) := Lib.hid ⟨by omega, fun p hp => by
        have := (HXW.out pre rfl).2 p hp
        omega⟩
      have HM := Lib.hid (rmayL_any pre HMW.out.1 HMW.out.2 u5 wr HO.out.at)
      cases hmay : mayL pre with
      | false =>
        rw [hmay] at HM
        have HP : Hid (P = ([], 4)) := Lib.hid (by rw [HK.out, ofX, hmay]; rfl)
        clear hmay
        go_wp2_with (go_at_call 24; refine HM.out.mono ?_; rintro e w3 ⟨rfl, hb3⟩)
        go_ret2
        exact ⟨_, by rw [HP.out]; rfl, by rw [HP.out]; exact ol_nil _ _, HB.out.1.trans (hb3.mono HB.out.1.size)⟩
      | true =>
        rw [hmay] at HM
        have HP : Hid (P = (pre, 0)) := Lib.hid (by rw [HK.out, ofX, hmay]; rfl)
        clear hmay
        go_wp2_with (go_at_call 24; refine HM.out.mono ?_; rintro e w3 ⟨rfl, hb3⟩)
        go_ret2
        refine ⟨_, by rw [HP.out]; rfl, ?_, HB.out.1.trans (hb3.mono HB.out.1.size)⟩
        rw [HP.out]
        exact (HO.out.mono (by omega)).below hb3 (Nat.le_refl _)
end Go.Proofs.YtjhgmlhoefakpaaDoor
