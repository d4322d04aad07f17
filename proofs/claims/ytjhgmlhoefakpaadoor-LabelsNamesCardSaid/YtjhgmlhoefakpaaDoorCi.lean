/- The contracts of Get and Without, the program's and the document's. -/
import Derived.Test.YtjhgmlhoefakpaaDoorCh
namespace Go.Proofs.YtjhgmlhoefakpaaDoor
open Go.RowKit Go.Sort
set_option maxRecDepth 100000
set_option maxHeartbeats 1000000
def getL : List Lb → ByteArray → ByteArray × Bool
  | [], _ => (⟨#[]⟩, false)
  | x :: r, n => if x.n = n then (x.v, true) else getL r n
def withL (l : List Lb) (n : ByteArray) : List Lb := l.filter fun x => decide (x.n ≠ n)
theorem ret_sb {a b : ByteArray} {p q : Bool} (h : a = b) (k : p = q) : Ending.returned (.tuple #[.string a, .bool p]) = .returned (.tuple #[.string b, .bool q]) := by rw [h, k]
theorem withL_yes {l : List Lb} {n : ByteArray} {k : Nat} (h : k < l.length) (e : l[k].n ≠ n) : withL (l.take (k + 1)) n = withL (l.take k) n ++ [l[k]] := by
  unfold withL
  rw [List.take_add_one, List.getElem?_eq_getElem h, List.filter_append]
  simp [e]
theorem withL_no {l : List Lb} {n : ByteArray} {k : Nat} (h : k < l.length) (e : l[k].n = n) : withL (l.take (k + 1)) n = withL (l.take k) n := by
  unfold withL
  rw [List.take_add_one, List.getElem?_eq_getElem h, List.filter_append]
  simp [e]
theorem withL_len (l : List Lb) (n : ByteArray) : (withL l n).length ≤ l.length := List.length_filter_le _ _
theorem get_any (l : List Lb) (hl : l.length ≤ 9223372036854775807) (n : ByteArray) (v : Value) (w : World) (hv : LAt w v l) :
    Calls Tryd.prog 31 #[v, .string n] w (Ret w (.tuple #[.string (getL l n).1, .bool (getL l n).2])) := by
  have HV := Lib.hid hv
  obtain ⟨va, vc, hv2⟩ := hv.slice
  clear hv
  obtain ⟨P, Q, hpq⟩ : ∃ P Q, getL l n = (P, Q) := ⟨_, _, rfl⟩
  have HPQ := Lib.hid hpq
  rw [hpq]
  clear hpq
  generalize hL : l.length = L at *
  have HL := Lib.hid hL
  clear hL
  subst hv2
  go_enter Tryd.func31, Tryd.ntmps31
  go_wp2
  go_loopw [10] (fun i wr => ∃ k : Nat, i = .int .i64 (k : Int) ∧ k ≤ L ∧ Hid (getL (l.drop k) n = (P, Q)) ∧ Hid (Below w.heap.size w wr)) (fun i _ => L - (intOf i).toNat)
  case atStart => exact ⟨0, rfl, by omega, Lib.hid HPQ.out, Lib.hid (Below.refl _ _)⟩
  case round =>
    obtain ⟨k, rfl, hk, HE, HB⟩ := hrel
    by_cases hlt : k < L
    · have hkl : k < l.length := by have := HL.out; omega
      rcases (HV.out.below HB.out (Nat.le_refl _)) with ⟨h0, _⟩ | ⟨g, o, c, hg, hcs⟩
      · have := HL.out; rw [h0] at this; simp at this; omega
      obtain ⟨q0, q1⟩ := hcs k hkl
      clear hcs
      have hrun := HE.out
      rw [List.drop_eq_getElem_cons hkl, getL] at hrun
      generalize l[k] = x at *
      obtain ⟨xn, xv⟩ := x
      dsimp only at q0 q1 hrun
      have hn := bytes_eq xn n
      cases hg
      by_cases d1 : xn = n
      · rw [decide_eq_true d1] at hn
        rw [if_pos d1] at hrun
        cases hrun
        clear d1
        go_wp2
        go_ret2
        exact ⟨rfl, HB.out.alloc HB.out.size _⟩
      · rw [decide_eq_false d1] at hn
        rw [if_neg d1] at hrun
        have HR := Lib.hid hrun
        clear d1 hrun
        go_wp2
        go_roundw
        case rel => exact ⟨k + 1, by go_num, by omega, HR, Lib.hid (HB.out.alloc HB.out.size _)⟩
        case measure => (try simp [intOf]); (try omega)
    · obtain rfl : k = L := by omega
      have hrun := HE.out
      rw [List.drop_of_length_le (by have := HL.out; omega), getL] at hrun
      cases hrun
      go_wp2
      go_ret2
      exact ⟨rfl, HB.out⟩
theorem rget_any (l : List Lb) (hl : l.length ≤ 9223372036854775807) (n : ByteArray) (v : Value) (w : World) (hv : LAt w v l) :
    Calls Tryd.prog 32 #[v, .string n] w (Ret w (.tuple #[.string (getL l n).1, .bool (getL l n).2])) := by
  have HV := Lib.hid hv
  obtain ⟨va, vc, hv2⟩ := hv.slice
  clear hv
  obtain ⟨P, Q, hpq⟩ : ∃ P Q, getL l n = (P, Q) := ⟨_, _, rfl⟩
  have HPQ := Lib.hid hpq
  rw [hpq]
  clear hpq
  generalize hL : l.length = L at *
  have HL := Lib.hid hL
  clear hL
  subst hv2
  go_enter Tryd.func32, Tryd.ntmps32
  go_wp2
  go_loopw [6] (fun i wr => ∃ k : Nat, i = .int .i64 (k : Int) ∧ k ≤ L ∧ Hid (getL (l.drop k) n = (P, Q)) ∧ Hid (Below w.heap.size w wr)) (fun i _ => L - (intOf i).toNat)
  case atStart => exact ⟨0, rfl, by omega, Lib.hid HPQ.out, Lib.hid (Below.refl _ _)⟩
  case round =>
    obtain ⟨k, rfl, hk, HE, HB⟩ := hrel
    by_cases hlt : k < L
    · have hkl : k < l.length := by have := HL.out; omega
      rcases (HV.out.below HB.out (Nat.le_refl _)) with ⟨h0, _⟩ | ⟨g, o, c, hg, hcs⟩
      · have := HL.out; rw [h0] at this; simp at this; omega
      obtain ⟨q0, q1⟩ := hcs k hkl
      clear hcs
      have hrun := HE.out
      rw [List.drop_eq_getElem_cons hkl, getL] at hrun
      generalize l[k] = x at *
      obtain ⟨xn, xv⟩ := x
      dsimp only at q0 q1 hrun
      have hn := bytes_eq xn n
      cases hg
      by_cases d1 : xn = n
      · rw [decide_eq_true d1] at hn
        rw [if_pos d1] at hrun
        cases hrun
        clear d1
        go_wp2
        go_ret2
        exact ⟨rfl, HB.out⟩
      · rw [decide_eq_false d1] at hn
        rw [if_neg d1] at hrun
        have HR := Lib.hid hrun
        clear d1 hrun
        go_wp2
        go_roundw
        case rel => exact ⟨k + 1, by go_num, by omega, HR, Lib.hid (HB.out)⟩
        case measure => (try simp [intOf]); (try omega)
    · obtain rfl : k = L := by omega
      have hrun := HE.out
      rw [List.drop_of_length_le (by have := HL.out; omega), getL] at hrun
      cases hrun
      go_wp2
      go_ret2
      exact ⟨rfl, HB.out⟩
theorem with_any (l : List Lb) (hl : l.length ≤ 1000000000) (n : ByteArray) (v : Value) (w : World) (hv : LAt w v l) :
    Calls Tryd.prog 33 #[v, .string n] w fun e w' => ∃ u, e = .returned u ∧ Ol w' w.heap.size u (withL l n) ∧ Below w.heap.size w w' := by
  have HV := Lib.hid hv
  obtain ⟨va, vc, hv2⟩ := hv.slice
  clear hv
  have HLM := Lib.hid hl
  generalize hL : l.length = L at *
  have HL := Lib.hid hL
  clear hL
  subst hv2
  go_enter Tryd.func33, Tryd.ntmps33
  go_wp2
  go_loopw [5, 10] (fun u i wr => ∃ k : Nat, i = .int .i64 (k : Int) ∧ k ≤ L ∧ Hid (Ol wr w.heap.size u (withL (l.take k) n)) ∧ Hid (Below w.heap.size w wr)) (fun _ i _ => L - (intOf i).toNat)
  case atStart => exact ⟨0, rfl, by omega, Lib.hid (ol_nil _ _), Lib.hid (Below.refl _ _)⟩
  case round =>
    obtain ⟨k, rfl, hk, HO, HB⟩ := hrel
    by_cases hlt : k < L
    · have hkl : k < l.length := by have := HL.out; omega
      rcases (HV.out.below HB.out (Nat.le_refl _)) with ⟨h0, _⟩ | ⟨g, o, c, hg, hcs⟩
      · have := HL.out; rw [h0] at this; simp at this; omega
      obtain ⟨q0, q1⟩ := hcs k hkl
      clear hcs
      have HY := Lib.hid (withL_yes (n := n) hkl)
      have HN := Lib.hid (withL_no (n := n) hkl)
      have HK := Lib.hid (show (withL (l.take k) n).length ≤ 999999999 from by
        have h1 := withL_len (l.take k) n
        have h2 := HLM.out
        rw [List.length_take] at h1
        omega)
      generalize l[k] = x at *
      obtain ⟨xn, xv⟩ := x
      dsimp only at q0 q1 HY HN
      have hn := bytes_eq xn n
      cases hg
      by_cases d1 : xn = n
      · rw [decide_eq_true d1] at hn
        have HR := Lib.hid (HN.out d1)
        clear d1
        go_wp2
        go_roundw
        case rel => exact ⟨k + 1, by go_num, by omega, Lib.hid (by rw [HR.out]; exact HO.out.below ((Below.refl wr.heap.size wr).alloc (Nat.le_refl _) _) (Nat.le_refl _)), Lib.hid (HB.out.alloc HB.out.size _)⟩
        case measure => (try simp [intOf]); (try omega)
      · rw [decide_eq_false d1] at hn
        have HR := Lib.hid (HY.out d1)
        clear d1
        go_wp2_with (at_builtin; refine wpList_append_l _ _ rfl rfl w.heap.size _ (withL (l.take k) n) rfl (HO.out.below (((Below.refl wr.heap.size wr).alloc (Nat.le_refl _) _).alloc (by simp) _) (Nat.le_refl _)) _ [⟨xn, xv⟩] rfl (.inr ⟨_, 0, 1, rfl, fun j hj => ?cz⟩) (by have := HK.out; simp; omega) (by have := HB.out.size; simp; omega) ?_)
        case cz =>
          obtain rfl : j = 0 := by simp at hj; omega
          exact ⟨by simp, by simp⟩
        intro v' w1 hown hgr hblk
        have HO1 := Lib.hid hown
        have HB1 : Hid (Below w.heap.size w w1) := Lib.hid (((HB.out.alloc HB.out.size (.cells #[.string xn, .string xv] 28)).alloc (by have := HB.out.size; simp; omega) (.cells #[.string xn, .string xv] 28)).trans (below_grown hgr (by have := HB.out.size; simp; omega) (fun g hg => (own_lt HO.out g hg).1)))
        clear hown hgr hblk
        go_wp2
        go_roundw
        case rel => exact ⟨k + 1, by go_num, by omega, Lib.hid (by rw [HR.out]; exact HO1.out), HB1⟩
        case measure => (try simp [intOf]); (try omega)
    · obtain rfl : k = L := by omega
      have he : withL (l.take k) n = withL l n := by rw [List.take_of_length_le (by have := HL.out; omega)]
      have HO1 := Lib.hid (he ▸ HO.out)
      clear he
      go_wp2
      go_ret
      exact ⟨_, rfl, HO1.out, HB.out⟩
theorem rwith_any (l : List Lb) (hl : l.length ≤ 1000000000) (n : ByteArray) (v : Value) (w : World) (hv : LAt w v l) :
    Calls Tryd.prog 34 #[v, .string n] w fun e w' => ∃ u, e = .returned u ∧ Ol w' w.heap.size u (withL l n) ∧ Below w.heap.size w w' := by
  have HV := Lib.hid hv
  obtain ⟨va, vc, hv2⟩ := hv.slice
  clear hv
  have HLM := Lib.hid hl
  generalize hL : l.length = L at *
  have HL := Lib.hid hL
  clear hL
  subst hv2
  go_enter Tryd.func34, Tryd.ntmps34
  go_wp2
  go_loopw [5, 6] (fun u i wr => ∃ k : Nat, i = .int .i64 (k : Int) ∧ k ≤ L ∧ Hid (Ol wr w.heap.size u (withL (l.take k) n)) ∧ Hid (Below w.heap.size w wr)) (fun _ i _ => L - (intOf i).toNat)
  case atStart => exact ⟨0, rfl, by omega, Lib.hid (ol_nil _ _), Lib.hid (Below.refl _ _)⟩
  case round =>
    obtain ⟨k, rfl, hk, HO, HB⟩ := hrel
    by_cases hlt : k < L
    · have hkl : k < l.length := by have := HL.out; omega
      rcases (HV.out.below HB.out (Nat.le_refl _)) with ⟨h0, _⟩ | ⟨g, o, c, hg, hcs⟩
      · have := HL.out; rw [h0] at this; simp at this; omega
      obtain ⟨q0, q1⟩ := hcs k hkl
      clear hcs
      have HY := Lib.hid (withL_yes (n := n) hkl)
      have HN := Lib.hid (withL_no (n := n) hkl)
      have HK := Lib.hid (show (withL (l.take k) n).length ≤ 999999999 from by
        have h1 := withL_len (l.take k) n
        have h2 := HLM.out
        rw [List.length_take] at h1
        omega)
      generalize l[k] = x at *
      obtain ⟨xn, xv⟩ := x
      dsimp only at q0 q1 HY HN
      have hn := bytes_eq xn n
      cases hg
      by_cases d1 : xn = n
      · rw [decide_eq_true d1] at hn
        have HR := Lib.hid (HN.out d1)
        clear d1
        go_wp2
        go_roundw
        case rel => exact ⟨k + 1, by go_num, by omega, Lib.hid (by rw [HR.out]; exact HO.out), Lib.hid (HB.out)⟩
        case measure => (try simp [intOf]); (try omega)
      · rw [decide_eq_false d1] at hn
        have HR := Lib.hid (HY.out d1)
        clear d1
        go_wp2_with (at_builtin; refine wpList_append_l _ _ rfl rfl w.heap.size _ (withL (l.take k) n) rfl (HO.out.below ((Below.refl wr.heap.size wr).alloc (Nat.le_refl _) _) (Nat.le_refl _)) _ [⟨xn, xv⟩] rfl (.inr ⟨_, 0, 1, rfl, fun j hj => ?cz⟩) (by have := HK.out; simp; omega) (by have := HB.out.size; simp; omega) ?_)
        case cz =>
          obtain rfl : j = 0 := by simp at hj; omega
          exact ⟨by simp, by simp⟩
        intro v' w1 hown hgr hblk
        have HO1 := Lib.hid hown
        have HB1 : Hid (Below w.heap.size w w1) := Lib.hid ((HB.out.alloc HB.out.size (.cells #[.string xn, .string xv] 28)).trans (below_grown hgr (by have := HB.out.size; simp; omega) (fun g hg => (own_lt HO.out g hg).1)))
        clear hown hgr hblk
        go_wp2
        go_roundw
        case rel => exact ⟨k + 1, by go_num, by omega, Lib.hid (by rw [HR.out]; exact HO1.out), HB1⟩
        case measure => (try simp [intOf]); (try omega)
    · obtain rfl : k = L := by omega
      have he : withL (l.take k) n = withL l n := by rw [List.take_of_length_le (by have := HL.out; omega)]
      have HO1 := Lib.hid (he ▸ HO.out)
      clear he
      go_wp2
      go_ret
      exact ⟨_, rfl, HO1.out, HB.out⟩
end Go.Proofs.YtjhgmlhoefakpaaDoor
