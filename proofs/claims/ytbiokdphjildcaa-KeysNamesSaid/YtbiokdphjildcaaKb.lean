/- Package keys: cut at a slash, End, Read: the contracts of the program's functions. -/
import Derived.Test.YtbiokdphjildcaaKa
import Derived.Laws.AppendOwn
import Derived.Laws.IdiomStrings
import Derived.Lib.ConvBytes
import Derived.Deep.RegionWith
import Derived.Handy
namespace Go.Proofs.Ytbiokdphjildcaa
open Go Go.RowKit
set_option maxRecDepth 100000
set_option maxHeartbeats 1000000
def bs (l : List UInt8) : ByteArray := ⟨l.toArray⟩
theorem bs_data (l : List UInt8) : (bs l).data.toList = l := by simp [bs]
theorem bs_self (s : ByteArray) : bs s.data.toList = s := by
  apply ByteArray.ext; simp [bs]
theorem bs_size (l : List UInt8) : (bs l).size = l.length := by rw [Lib.size_eq, bs_data]
theorem bs_ext {s : ByteArray} {l : List UInt8} (h : s.data.toList = l) : s = bs l := by rw [← h, bs_self]
theorem bs_app (a b : ByteArray) : (a ++ b).data.toList = a.data.toList ++ b.data.toList := by simp
theorem bs_cut (s : ByteArray) (a b : Nat) : s.extract a b = bs ((s.data.toList.drop a).take (b - a)) :=
  bs_ext (by rw [← Lib.toList_data, Lib.extract_toList])
/-- What stands ahead of the first slash, and behind it, and whether there is one. -/
def ct1 (l : List UInt8) : List UInt8 := l.takeWhile (· != 47)
def ct2 (l : List UInt8) : List UInt8 := (l.dropWhile (· != 47)).drop 1
def ct3 (l : List UInt8) : Bool := !(l.dropWhile (· != 47)).isEmpty
theorem ix_cases (c : UInt8) : ∀ l : List UInt8, (Lib.indexByte l c = -1 ∧ l.takeWhile (· != c) = l ∧ l.dropWhile (· != c) = []) ∨
    ∃ k : Nat, Lib.indexByte l c = k ∧ k < l.length ∧ l.takeWhile (· != c) = l.take k ∧ l.dropWhile (· != c) = l.drop k
  | [] => .inl ⟨rfl, rfl, rfl⟩
  | b :: l => by
    unfold Lib.indexByte
    by_cases hb : b = c
    · right
      refine ⟨0, by simp [hb], by simp, ?_, ?_⟩
      · simp [List.takeWhile_cons, hb]
      · simp [List.dropWhile_cons, hb]
    · have hb' : (b == c) = false := by simpa using hb
      have hn : (b != c) = true := by simpa using hb
      rcases ix_cases c l with ⟨h1, h2, h3⟩ | ⟨k, h1, h2, h3, h4⟩
      · left
        rw [h1]
        refine ⟨by simp [hb'], ?_, ?_⟩
        · rw [List.takeWhile_cons, hn, if_pos rfl, h2]
        · rw [List.dropWhile_cons, hn, if_pos rfl, h3]
      · right
        rw [h1]
        refine ⟨k + 1, ?_, by simp; omega, ?_, ?_⟩
        · have : ((k : Int) == -1) = false := by rw [beq_eq_false_iff_ne]; omega
          simp [hb', this]
        · rw [List.takeWhile_cons, hn, if_pos rfl, h3]; rfl
        · rw [List.dropWhile_cons, hn, if_pos rfl, h4]; rfl
theorem indexB_any (s : ByteArray) (c : Int) (w : World) :
    Calls Try.prog 39 #[.string s, .int .u8 c] w fun e w' => e = .returned (.int .i64 (Lib.indexByte s.data.toList c.toNat.toUInt8)) ∧ w' = w := by
  go_enter Try.func39, Try.ntmps39
  go_wp2
  rw [run_callFunc_extern Try.func43 (by kernel_rfl) (by kernel_rfl) (by kernel_rfl) (e := Extern.BytealgIndexByte.indexByte) (by kernel_rfl), Lib.run_indexByteString]
  simp only [Result.andThen]
  rw [Oper.upon_value]
  go_wp2
  go_ret
  exact ⟨rfl, rfl⟩
theorem index_any (s : ByteArray) (c : UInt8) (w : World) :
    Calls Try.prog 38 #[.string s, .string ⟨#[c]⟩] w fun e w' => e = .returned (.int .i64 (Lib.indexByte s.data.toList c)) ∧ w' = w := by
  go_enter Try.func38, Try.ntmps38
  go_wp2_with (go_at_call 39; refine (indexB_any _ _ _).mono ?_; rintro e w' ⟨rfl, rfl⟩)
  · have h : ([c] == s.toList) = true := by assumption
    go_ret
    refine ⟨?_, rfl⟩
    have e : s.data.toList = [c] := by rw [← Lib.toList_data]; exact (beq_iff_eq.1 h).symm
    rw [e]
    simp [Lib.indexByte]
  · go_ret
    exact ⟨rfl, rfl⟩
theorem ret_ssb {a b c d : ByteArray} {x y : Bool} (h : a = b) (k : c = d) (m : x = y) : Ending.returned (.tuple #[.string a, .string c, .bool x]) = .returned (.tuple #[.string b, .string d, .bool y]) := by rw [h, k, m]
theorem below_trans' {w w1 w2 : World} (h : Below w.heap.size w w1) (k : Below w1.heap.size w1 w2) : Below w.heap.size w w2 := h.trans (k.mono h.size)
theorem cut34_any (s : ByteArray) (hs : s.size ≤ 9223372036854775807) (w : World) :
    Calls Try.prog 34 #[.string s, .string ⟨#[47]⟩] w fun e w' => e = .returned (.tuple #[.string (bs (ct1 s.data.toList)), .string (bs (ct2 s.data.toList)), .bool (ct3 s.data.toList)]) ∧ Below w.heap.size w w' := by
  have H := Lib.hid (index_any s 47)
  have hsz := Lib.size_eq s
  rcases ix_cases 47 s.data.toList with ⟨h1, h2, h3⟩ | ⟨k, h1, h2, h3, h4⟩
  · have E : Hid (bs (ct1 s.data.toList) = s ∧ bs (ct2 s.data.toList) = ⟨#[]⟩ ∧ ct3 s.data.toList = false) := Lib.hid (by
      unfold ct1 ct2 ct3; rw [h2, h3]; exact ⟨bs_self s, rfl, rfl⟩)
    rw [h1] at H
    clear h1 h2 h3 hsz
    go_enter Try.func34, Try.ntmps34
    go_wp2_with fail
    refine (H.out _).mono ?_
    rintro e w' ⟨rfl, rfl⟩
    go_wp2
    go_ret3
    exact ⟨ret_ssb E.out.1.symm E.out.2.1.symm E.out.2.2.symm, Below.refl _ _⟩
  · have E : Hid (bs (ct1 s.data.toList) = s.extract 0 k ∧ bs (ct2 s.data.toList) = s.extract (k + 1) s.size ∧ ct3 s.data.toList = true) := Lib.hid (by
      unfold ct1 ct2 ct3; rw [h3, h4, bs_cut, bs_cut]
      refine ⟨by simp, ?_, ?_⟩
      · rw [List.drop_drop, List.take_of_length_le (by simp)]
      · have hne : (s.data.toList.drop k).isEmpty = false := by
          rw [List.isEmpty_eq_false_iff]
          intro h; have := congrArg List.length h; simp at this; omega
        rw [hne]; rfl)
    rw [h1] at H
    have hk : k < s.size := by omega
    clear h1 h2 h3 h4 hsz
    go_enter Try.func34, Try.ntmps34
    go_wp2_with fail
    refine (H.out _).mono ?_
    rintro e w' ⟨rfl, rfl⟩
    go_wp2
    go_region
    go_wp2
    go_ret3
    exact ⟨ret_ssb E.out.1.symm E.out.2.1.symm E.out.2.2.symm, (Below.refl _ _).drew⟩
theorem cut_any (s : ByteArray) (hs : s.size ≤ 9223372036854775807) (w : World) :
    Calls Try.prog 30 #[.string s, .string ⟨#[47]⟩] w fun e w' => e = .returned (.tuple #[.string (bs (ct1 s.data.toList)), .string (bs (ct2 s.data.toList)), .bool (ct3 s.data.toList)]) ∧ Below w.heap.size w w' := by
  have H := Lib.hid (cut34_any s hs)
  go_enter Try.func30, Try.ntmps30
  go_wp2_with fail
  refine (H.out _).mono ?_
  rintro e w' ⟨rfl, hb⟩
  have HB := Lib.hid hb
  clear hb
  go_wp2
  go_ret3
  exact ⟨rfl, HB.out⟩
def rd (l : List UInt8) : List UInt8 × List UInt8 × Bool :=
  if ct1 l = [99] then (if (nameB (ct1 (ct2 l)) && nameB (ct2 (ct2 l))) = true then (ct1 (ct2 l), ct2 (ct2 l), true) else ([], [], false))
  else if ct1 l = [116] then (if nameB (ct2 l) = true then (ct2 l, [], true) else ([], [], false)) else ([], [], false)
theorem ct2_le (l : List UInt8) : (ct2 l).length ≤ l.length := by
  unfold ct2
  have := (List.dropWhile_sublist (l := l) (· != 47)).length_le
  simp; omega
theorem toL_bs (l : List UInt8) : (bs l).toList = l := by rw [Lib.toList_data, bs_data]
theorem ret_ssb' {a c : List UInt8} {x : Bool} {r : List UInt8 × List UInt8 × Bool} (h : r = (a, c, x)) : Ending.returned (.tuple #[.string (bs a), .string (bs c), .bool x]) = .returned (.tuple #[.string (bs r.1), .string (bs r.2.1), .bool r.2.2]) := by rw [h]
theorem read_any (s : ByteArray) (hs : s.size ≤ 9223372036854775807) (w : World) :
    Calls Try.prog 16 #[.string s] w fun e w' => e = .returned (.tuple #[.string (bs (rd s.data.toList).1), .string (bs (rd s.data.toList).2.1), .bool (rd s.data.toList).2.2]) ∧ Below w.heap.size w w' := by
  have C := Lib.hid (cut_any s hs)
  have hl : (ct2 s.data.toList).length ≤ 9223372036854775807 := by have := ct2_le s.data.toList; have := Lib.size_eq s; omega
  have C2 := Lib.hid (cut_any (bs (ct2 s.data.toList)) (by rw [bs_size]; exact hl))
  have N0 := Lib.hid (name_any (bs (ct2 s.data.toList)))
  have N1 := Lib.hid (name_any (bs (ct1 (ct2 s.data.toList))))
  have N2 := Lib.hid (name_any (bs (ct2 (ct2 s.data.toList))))
  simp only [bs_data] at C2 N0 N1 N2
  clear hl
  generalize s.data.toList = l at *
  by_cases hc : ct1 l = [99]
  · have HR : Hid (rd l = if (nameB (ct1 (ct2 l)) && nameB (ct2 (ct2 l))) = true then (ct1 (ct2 l), ct2 (ct2 l), true) else ([], [], false)) := Lib.hid (by unfold rd; rw [if_pos hc])
    rw [hc, show bs [99] = ⟨#[99]⟩ from rfl] at C
    clear hc N0
    generalize rd l = R at *
    generalize ct1 (ct2 l) = a at *
    generalize ct2 (ct2 l) = b at *
    generalize ct3 (ct2 l) = x at *
    generalize ct3 l = y at *
    generalize hB : bs (ct2 l) = B at *
    have hA : bs [] = ⟨#[]⟩ := rfl
    generalize nameB a = p at *
    generalize nameB b = q at *
    clear hB
    cases p
    · have HF := Lib.hid (ret_ssb' (HR.out.trans (if_neg (by simp))))
      have HA := Lib.hid hA
      clear hA HR
      go_enter Try.func16, Try.ntmps16
      go_wp2_with fail
      refine (C.out _).mono ?_
      rintro e w1 ⟨rfl, hb⟩
      have HB1 := Lib.hid hb
      clear hb
      go_wp2_with fail
      refine (C2.out _).mono ?_
      rintro e w2 ⟨rfl, hb⟩
      have HB2 := Lib.hid (below_trans' HB1.out hb)
      clear hb
      go_wp2_with fail
      refine (N1.out _).mono ?_
      rintro e w' ⟨rfl, rfl⟩
      go_wp2
      go_ret3
      exact ⟨HF.out, HB2.out⟩
    · cases q
      · have HF := Lib.hid (ret_ssb' (HR.out.trans (if_neg (by simp))))
        have HA := Lib.hid hA
        clear hA HR
        go_enter Try.func16, Try.ntmps16
        go_wp2_with fail
        refine (C.out _).mono ?_
        rintro e w1 ⟨rfl, hb⟩
        have HB1 := Lib.hid hb
        clear hb
        go_wp2_with fail
        refine (C2.out _).mono ?_
        rintro e w2 ⟨rfl, hb⟩
        have HB2 := Lib.hid (below_trans' HB1.out hb)
        clear hb
        go_wp2_with fail
        refine (N1.out _).mono ?_
        rintro e w' ⟨rfl, rfl⟩
        go_wp2_with fail
        refine (N2.out _).mono ?_
        rintro e w' ⟨rfl, rfl⟩
        go_wp2
        go_ret3
        exact ⟨HF.out, HB2.out⟩
      · have HF := Lib.hid (ret_ssb' (HR.out.trans (if_pos rfl)))
        clear hA HR
        go_enter Try.func16, Try.ntmps16
        go_wp2_with fail
        refine (C.out _).mono ?_
        rintro e w1 ⟨rfl, hb⟩
        have HB1 := Lib.hid hb
        clear hb
        go_wp2_with fail
        refine (C2.out _).mono ?_
        rintro e w2 ⟨rfl, hb⟩
        have HB2 := Lib.hid (below_trans' HB1.out hb)
        clear hb
        go_wp2_with fail
        refine (N1.out _).mono ?_
        rintro e w' ⟨rfl, rfl⟩
        go_wp2_with fail
        refine (N2.out _).mono ?_
        rintro e w' ⟨rfl, rfl⟩
        go_wp2
        go_ret3
        exact ⟨HF.out, HB2.out⟩
  clear C2 N1 N2
  by_cases ht : ct1 l = [116]
  · have HR : Hid (rd l = if nameB (ct2 l) = true then (ct2 l, [], true) else ([], [], false)) := Lib.hid (by unfold rd; rw [if_neg hc, if_pos ht])
    rw [ht, show bs [116] = ⟨#[116]⟩ from rfl] at C
    clear hc ht
    generalize rd l = R at *
    generalize ct2 l = a at *
    generalize ct3 l = y at *
    generalize nameB a = p at *
    cases p
    · have HF := Lib.hid (ret_ssb' (HR.out.trans (if_neg (by simp))))
      clear HR
      go_enter Try.func16, Try.ntmps16
      go_wp2_with fail
      refine (C.out _).mono ?_
      rintro e w1 ⟨rfl, hb⟩
      have HB1 := Lib.hid hb
      clear hb
      go_wp2_with fail
      refine (N0.out _).mono ?_
      rintro e w' ⟨rfl, rfl⟩
      go_wp2
      go_ret3
      exact ⟨HF.out, HB1.out⟩
    · have HF := Lib.hid (ret_ssb' (HR.out.trans (if_pos rfl)))
      clear HR
      go_enter Try.func16, Try.ntmps16
      go_wp2_with fail
      refine (C.out _).mono ?_
      rintro e w1 ⟨rfl, hb⟩
      have HB1 := Lib.hid hb
      clear hb
      go_wp2_with fail
      refine (N0.out _).mono ?_
      rintro e w' ⟨rfl, rfl⟩
      go_wp2
      go_ret3
      exact ⟨HF.out, HB1.out⟩
  · have HF := Lib.hid (ret_ssb' (r := rd l) (a := []) (c := []) (x := false) (by unfold rd; rw [if_neg hc, if_neg ht]))
    have h1 : ((bs (ct1 l)).toList == [99]) = false := by rw [toL_bs, beq_eq_false_iff_ne]; exact hc
    have h2 : ((bs (ct1 l)).toList == [116]) = false := by rw [toL_bs, beq_eq_false_iff_ne]; exact ht
    clear hc ht N0
    generalize rd l = R at *
    generalize bs (ct1 l) = A at *
    generalize bs (ct2 l) = B at *
    generalize ct3 l = y at *
    go_enter Try.func16, Try.ntmps16
    go_wp2_with fail
    refine (C.out _).mono ?_
    rintro e w1 ⟨rfl, hb⟩
    have HB1 := Lib.hid hb
    clear hb
    go_wp2
    go_ret3
    exact ⟨HF.out, HB1.out⟩
/-- string(b) of one byte, wherever it lies. -/
theorem run_string_one (c : UInt8) (x : Int) (hx : x = (c.toNat : Int)) (W : World) (g : Nat) (h : W.cell? ⟨g, 0, none⟩ = some (.int .u8 x)) :
    Sem.run Try.prog (convert 23 9 (.slice (some ⟨g, 0, none⟩) 1 1)) W = .ok (.string (bs [c])) W := by
  refine run_convert_bytes_back W 23 9 5 ⟨g, 0, none⟩ 1 [c] Try.underlying23 Try.underlying5 Try.underlying9 (fun j hj => ?_)
  have : j = 0 := by simpa using hj
  subst this
  have hadd : (⟨g, 0, none⟩ : Addr).add 0 = ⟨g, 0, none⟩ := by unfold Addr.add; simp
  rw [hadd, h, hx]
  rfl
def endL (l : List UInt8) : List UInt8 := if l.length ≠ 0 ∧ prefB l = true then l.take (l.length - 1) ++ [l.getD (l.length - 1) 0 + 1] else []
theorem wh_lt {n : Nat} (h : 1 ≤ wh n) : n ≤ 122 := by
  unfold wh at h
  split at h
  · omega
  · split at h
    · omega
    · omega
theorem wrap_u8 (x : Int) : IntKind.u8.wrap x = x % 256 := IntKind.wrap_u8' x
theorem end_any (s : ByteArray) (w : World) : Calls Try.prog 14 #[.string s] w fun e w' => e = .returned (.string (bs (endL s.data.toList))) ∧ Below w.heap.size w w' := by
  have hsz := Lib.size_eq s
  by_cases h0 : s.size = 0
  · have he := emp_t h0
    have HE : Hid (bs (endL s.data.toList) = ⟨#[]⟩) := Lib.hid (by unfold endL; rw [if_neg (by omega)]; rfl)
    clear hsz h0
    go_enter Try.func14, Try.ntmps14
    go_wp2
    go_ret
    exact ⟨ret_s HE.out.symm, Below.refl _ _⟩
  have he := emp_f h0
  have HP := Lib.hid (prefix_any s)
  by_cases hp : prefB s.data.toList = true
  · rw [hp] at HP
    have hlen : s.size ≤ 64 := by unfold prefB at hp; simp only [Bool.and_eq_true, decide_eq_true_eq] at hp; omega
    obtain ⟨k, hk⟩ : ∃ k, s.size = k + 1 := ⟨s.size - 1, by omega⟩
    have hk' : k < s.size := by omega
    obtain ⟨x, hx⟩ : ∃ x : UInt8, s[k]'hk' = x := ⟨_, rfl⟩
    have hgd : s.data.toList.getD k 0 = x := by
      rw [List.getD_eq_getElem?_getD, List.getElem?_eq_getElem (by omega)]; exact hx
    have hx2 : kyc x = true := by
      unfold prefB allK at hp
      simp only [Bool.and_eq_true, decide_eq_true_eq, List.all_eq_true] at hp
      apply hp.2
      rw [← hgd, List.getD_eq_getElem?_getD, List.getElem?_eq_getElem (by omega)]
      exact List.getElem_mem _
    have hx3 : x.toNat ≤ 122 := by unfold kyc at hx2; exact wh_lt (of_decide_eq_true hx2)
    have HE : Hid (bs (endL s.data.toList) = s.extract 0 k ++ bs [x + 1]) := Lib.hid (by
      unfold endL
      rw [if_pos ⟨by omega, hp⟩, ← hsz, show s.size - 1 = k from by omega, hgd]
      symm
      apply bs_ext
      rw [bs_app, bs_cut, bs_data, bs_data]
      simp)
    have hw : (x + 1).toNat = x.toNat + 1 := by rw [UInt8.toNat_add]; simp; omega
    have hcv := run_string_one (x + 1) ((x.toNat : Int) + 1) (by rw [hw]; rfl)
    have hz1 : (bs [x + 1]).size = 1 := rfl
    have hwr : IntKind.u8.wrap ((x.toNat : Int) + 1) = (x.toNat : Int) + 1 := by rw [wrap_u8]; omega
    generalize bs [x + 1] = U at *
    have e1 : ((s.size : Int) - 1) = (k : Int) := by omega
    clear hsz h0 hp hgd hx2 hw hk
    go_enter Try.func14, Try.ntmps14
    go_wp2_with fail
    refine (HP.out _).mono ?_
    rintro e w' ⟨rfl, rfl⟩
    go_wp2
    go_region
    go_wp2
    go_ret
    exact ⟨ret_s HE.out.symm, ((Below.refl _ _).alloc (Nat.le_refl _) _).drew⟩
  · rw [show prefB s.data.toList = false from by simpa using hp] at HP
    have HE : Hid (bs (endL s.data.toList) = ⟨#[]⟩) := Lib.hid (by unfold endL; rw [if_neg (fun h => hp h.2)]; rfl)
    clear hsz h0 hp
    go_enter Try.func14, Try.ntmps14
    go_wp2_with fail
    refine (HP.out _).mono ?_
    rintro e w' ⟨rfl, rfl⟩
    go_wp2
    go_ret
    exact ⟨ret_s HE.out.symm, Below.refl _ _⟩
end Go.Proofs.Ytbiokdphjildcaa
