/- VaultNames: a disk that fails at the next thing, and is down; Head and Up of a vault known by its tapes' sizes. -/
import Derived.Test.YtieemdcoomilaaaGreatDoorXi
import Derived.Test.YtieemdcoomilaaaGreatDoorJe
import Derived.Test.YtieemdcoomilaaaGreatDoorSh
import Derived.Test.YtieemdcoomilaaaGreatDoorJb
import Derived.Test.YtieemdcoomilaaaGreatDoorSo
set_option linter.unusedVariables false
set_option linter.unusedSimpArgs false
namespace Go.Proofs.YtieemdcoomilaaaGreatDoor
open Go Go.RowKit Go.Sort
set_option maxRecDepth 100000
def VfZ (W : World) (V B mo : Nat) (h : He) (n : Nat) : Prop := ∃ d, VSt W V B mo (d, h, n) ∧ d.dn = false ∧ d.dm = true ∧ d.left = 0 ∧ mayB h = true ∧ n ≤ 1099511627776
def VnZ (W : World) (V B mo : Nat) (h : He) (n : Nat) : Prop := ∃ d, VSt W V B mo (d, h, n) ∧ d.dn = true ∧ mayB h = true ∧ n ≤ 1099511627776
variable {W : World} {V B mo : Nat}
theorem vf_fail {z : Vt.Zs} (h : VZ W V B mo z) (hn : z.L.length ≤ 1099511627776) : Calls Tryz.prog 66 #[.pointer (some ⟨B, 0, none⟩), .int .i64 0] W fun e w' => e = .returned (.int .i64 0) ∧ VfZ w' V B mo z.h z.L.length ∧ Gv W w' B V := by
  obtain ⟨d, hx, i⟩ := h
  have hup : d.dn = false := i.c.dn
  refine (fail_any B d 0 W hx.d).mono ?_
  rintro e w' ⟨rfl, hd, hg⟩
  have e1 : failD d 0 = ({ d with dm := true, left := 0 }, 0) := by unfold failD; rw [if_neg (by rw [hup]; simp), if_neg (by omega)]; rfl
  rw [e1] at hd ⊢
  have ho : ({ d with dm := true, left := 0 } : Dk).ok := ⟨hx.ok.t, hx.ok.used, hx.ok.cap, Nat.zero_le _⟩
  obtain ⟨k1, k2⟩ := step_end (x := (d, z.h, z.L.length)) hx hd ho ⟨hg.os, hg.tape, hg.output, hg.size, hg.block⟩
  exact ⟨rfl, ⟨_, k1, hup, rfl, rfl, InvZ.may i, hn⟩, k2⟩
theorem vf_sync {x : He} {n : Nat} (h : VfZ W V B mo x n) : Calls Tryz.prog 12 #[.pointer (some ⟨V, 0, none⟩)] W fun e w' => e = .returned (.int .i64 45) ∧ VnZ w' V B mo x n ∧ Gv W w' B V := by
  obtain ⟨d, hx, h1, h2, h3, hm, hn⟩ := h
  have e1 : Vt.syD d x = (fallen d, 45) := by
    unfold Vt.syD doD
    rw [if_neg (by rw [h1]; simp), if_pos ⟨h2, h3⟩, if_neg (by simp)]
  have k := vsync_eq hx hm
  rw [e1] at k
  refine k.mono ?_
  rintro e w' ⟨rfl, k1, k2⟩
  exact ⟨rfl, ⟨_, k1, rfl, hm, hn⟩, k2⟩
theorem vn_add {x : He} {n : Nat} (r : ByteArray) (hr : r.size ≤ 262144) (hb : x.base + n < 1099511627776) (h : VnZ W V B mo x n) : Calls Tryz.prog 11 #[.pointer (some ⟨V, 0, none⟩), .string r] W fun e w' => e = .returned (.int .i64 45) ∧ VnZ w' V B mo x n ∧ Gv W w' B V := by
  obtain ⟨d, hx, h1, hm, hn⟩ := h
  have e1 : Vt.addD d x n mo r = ((d, 45), x, n) := by unfold Vt.addD; rw [if_neg (by omega), if_pos h1]
  have k := vadd_eq r (by omega) hn hx hm
  rw [e1] at k
  refine k.mono ?_
  rintro e w' ⟨rfl, k1, k2⟩
  exact ⟨rfl, ⟨_, k1, h1, hm, hn⟩, k2⟩
theorem vn_add_big {x : He} {n : Nat} (r : ByteArray) (hr : 262144 < r.size) (hr2 : r.size ≤ 9223372036854775807) (h : VnZ W V B mo x n) : Calls Tryz.prog 11 #[.pointer (some ⟨V, 0, none⟩), .string r] W fun e w' => e = .returned (.int .i64 40) ∧ VnZ w' V B mo x n ∧ Gv W w' B V := by
  obtain ⟨d, hx, h1, hm, hn⟩ := h
  have e1 : Vt.addD d x n mo r = ((d, 40), x, n) := by unfold Vt.addD; rw [if_pos (.inl hr)]
  have k := vadd_eq r hr2 hn hx hm
  rw [e1] at k
  refine k.mono ?_
  rintro e w' ⟨rfl, k1, k2⟩
  exact ⟨rfl, ⟨_, k1, h1, hm, hn⟩, k2⟩
theorem vn_lay {x : He} {n : Nat} (r : ByteArray) (hr : r.size ≤ 262144) (hb : x.base + n ≤ 1099511627776) (h : VnZ W V B mo x n) : Calls Tryz.prog 13 #[.pointer (some ⟨V, 0, none⟩), .string r] W fun e w' => e = .returned (.int .i64 45) ∧ VnZ w' V B mo x n ∧ Gv W w' B V := by
  obtain ⟨d, hx, h1, hm, hn⟩ := h
  have e1 : Vt.layD d x n r = ((d, 45), x, n) := by unfold Vt.layD; rw [if_neg (by omega), if_pos h1]
  have k := vlay_eq r (by omega) hn hx hm
  rw [e1] at k
  refine k.mono ?_
  rintro e w' ⟨rfl, k1, k2⟩
  exact ⟨rfl, ⟨_, k1, h1, hm, hn⟩, k2⟩
theorem vz_head {z : Vt.Zs} (h : VZ W V B mo z) : Calls Tryz.prog 17 #[.pointer (some ⟨V, 0, none⟩)] W (HRet W z.h) := by
  obtain ⟨d, hx, i⟩ := h
  obtain ⟨v, hv⟩ := hx.v
  have k := mayB_ok (InvZ.may i)
  exact head_any V B mo z.h z.L.length v W hv k.ne (by have := k.len; omega)
theorem vz_up {z : Vt.Zs} (h : VZ W V B mo z) : Calls Tryz.prog 27 #[.pointer (some ⟨B, 0, none⟩)] W fun e w' => e = .returned (.bool true) ∧ W = w' := by
  obtain ⟨d, hx, i⟩ := h
  have hup : d.dn = false := i.c.dn
  have k := up_any B d W hx.d
  rw [hup] at k
  exact k
end Go.Proofs.YtieemdcoomilaaaGreatDoor
namespace Go.Proofs.YtieemdcoomilaaaGreatDoor
open Go Go.RowKit Go.Sort
set_option maxRecDepth 100000
def wH : He := ⟨7, 3, 2, [3, 4]⟩
def tp (s : ByteArray) : Tp := ⟨s, s.size⟩
def sn : ByteArray := bs (Fr.frm 2 [115])
def rc : ByteArray := bs (Fr.frm 1 [114])
def xx : ByteArray := ⟨#[120]⟩
/-- A disk as it is loaded: a head's frame, nothing, and these tapes. -/
def dkOf (c : Nat) (h : He) (l : List ByteArray) : Dk := ⟨c, fun j => if j = 0 then tp (whl h) else if j = 1 then ⟨⟨#[]⟩, 0⟩ else tp (l.getD (j - 2) ⟨#[]⟩), false, false, 0⟩
def opE (l : List ByteArray) : Nat := (Vt.opD (dkOf 1000000 wH l)).1.2
theorem w1 : opE [sn, rc, rc] = 0 := by kernel_rfl
theorem w2 : opE [rc, rc, rc] = 4 := by kernel_rfl
theorem w3 : opE [sn ++ xx, rc, rc] = 4 := by kernel_rfl
theorem w4 : opE [⟨#[]⟩, rc, rc] = 4 := by kernel_rfl
theorem w5 : opE [sn, sn, rc] = 4 := by kernel_rfl
theorem w6 : opE [sn, rc ++ xx, rc] = 42 := by kernel_rfl
theorem w7 : opE [sn, rc, rc ++ xx] = 0 := by kernel_rfl
theorem w8 : opE [sn, rc, rc ++ sn] = 4 := by kernel_rfl
theorem w9 : opE [sn, rc ++ sn ++ xx, rc] = 4 := by kernel_rfl
def wL : He := ⟨1099511627776, 1099511627776, 2, [3]⟩
def wD : (Dk × Nat) × He × Option ByteArray × List ByteArray := Vt.opD (dkOf 100000 wL [sn])
theorem wl_e : wD.1.2 = 0 := by kernel_rfl
theorem wl_h : wD.2.1 = wL := by kernel_rfl
theorem wl_s : wD.2.2.1 = some ⟨#[115]⟩ := by kernel_rfl
theorem wl_r : wD.2.2.2 = [] := by kernel_rfl
theorem wl_m : mayB wL = true := by kernel_rfl
theorem wl_add : (Vt.addD wD.1.1 wL 0 100 ⟨#[]⟩).1.2 = 40 := by kernel_rfl
theorem wl_lay : (Vt.layD wD.1.1 wL 0 ⟨#[]⟩).1.2 = 40 := by kernel_rfl
theorem wl_sync : (Vt.syD wD.1.1 wL).2 = 0 := by kernel_rfl
theorem put67_any (k : UInt8) (p : ByteArray) (w : World) : Calls Tryz.prog 67 #[.int .u8 k.toNat, .string p] w (Ret w (.string (bs (mdl k p)))) := by
  have H := Lib.hid (fun W => rmake_any k p W)
  generalize bs (mdl k p) = F at *
  generalize mkE k p = E at *
  go_enter Tryz.func67, Tryz.ntmps67
  go_wp2_with fail
  refine (H.out _).mono ?_
  rintro e w1 ⟨rfl, hb⟩
  have HB := Lib.hid hb
  clear hb
  go_wp2
  go_ret
  exact ⟨rfl, HB.out⟩
end Go.Proofs.YtieemdcoomilaaaGreatDoor
namespace Go.Proofs.YtieemdcoomilaaaGreatDoor
open Go Go.RowKit Go.Sort
set_option maxRecDepth 100000
def qOf (s : ByteArray) : Tq := ⟨s, ⟨#[]⟩⟩
def tapesOf (h : He) (l : List ByteArray) : List Tq := qOf (whl h) :: qOf ⟨#[]⟩ :: l.map qOf
def fq2 (q : Tq) : List Value := [.string q.a, .string q.b]
def fl2 (l : List Tq) : List Value := l.flatMap fq2
theorem fl2_append (l : List Tq) (q : Tq) : fl2 (l ++ [q]) = fl2 l ++ fq2 q := by simp [fl2]
theorem fl2_len (l : List Tq) : (fl2 l).length = l.length * 2 := by
  induction l with
  | nil => rfl
  | cons f r ih => show (fq2 f ++ fl2 r).length = _; rw [List.length_append, ih, List.length_cons]; simp [fq2]; omega
theorem fl2_at (l : List Tq) (j : Nat) (h : j < l.length) : (fl2 l)[j * 2]? = some (.string l[j].a) ∧ (fl2 l)[j * 2 + 1]? = some (.string l[j].b) := by
  induction l generalizing j with
  | nil => simp at h
  | cons f r ih =>
    cases j with
    | zero => exact ⟨rfl, rfl⟩
    | succ j =>
      have := ih j (by simpa using h)
      rw [show (j + 1) * 2 = j * 2 + 2 from by omega]
      exact this
theorem tat_of {w : World} {base : Nat} {v : Value} {l : List Tq} (h : w.ownsRow base 97 2 v l.length (fl2 l)) : TAt w v l := by
  rcases Nat.eq_zero_or_pos l.length with h0 | h0
  · obtain ⟨a, c, rfl⟩ := ownsRow_shape h
    have : l = [] := List.length_eq_zero_iff.1 h0
    subst this
    exact .inl ⟨rfl, a, c, rfl⟩
  · obtain ⟨a, c, rfl⟩ := ownsRow_shape h
    rcases h.2 with ⟨e, _⟩ | ⟨g, cap, cur, e, h1, h2, h3, h4, h5, h6⟩
    · injection e with e1 e2 e3; omega
    · cases e
      refine .inr ⟨g, 0, c, by rw [List.length_map], fun j hj => ?_⟩
      rw [List.length_map] at hj
      have k := fl2_at l j hj
      have c1 := World.ownsRow.cellAt h (j * 2) (by omega)
      have c2 := World.ownsRow.cellAt h (j * 2 + 1) (by omega)
      rw [k.1] at c1
      rw [k.2] at c2
      simp only [Nat.zero_add, List.getElem_map]
      exact ⟨c1, c2⟩
theorem cells_new2 (W : World) (x0 x1 : Value) (t : TypeId) : ∀ j u, [x0, x1][j]? = some u → (W.alloc (.cells #[x0, x1] t)).cell? ((⟨W.heap.size, 0, none⟩ : Addr).add j) = some u := by
  intro j u hj
  have hadd : (⟨W.heap.size, 0, none⟩ : Addr).add j = ⟨W.heap.size, j, none⟩ := by unfold Addr.add; split <;> simp_all
  rw [hadd, World.cell?_alloc_mark]
  match j, hj with
  | 0, hj => simpa using hj
  | 1, hj => simpa using hj
  | j + 2, hj => simp at hj
theorem info97s : (Tryz.prog.info? 97).map (fun i => (i.zero, i.size, i.bytes)) = some (some (.agg #[.string ⟨#[]⟩, .string ⟨#[]⟩]), 2, 32) := by kernel_rfl
theorem one2 (a b : ByteArray) : ∀ u ∈ [Value.string a, Value.string b], u.oneCell' = true := by
  intro u hu
  rcases List.mem_cons.1 hu with rfl | hu
  · rfl
  rcases List.mem_cons.1 hu with rfl | hu
  · rfl
  · cases hu
theorem fH : bs (mdl 3 (encR wH).1) = whl wH := by kernel_rfl
set_option maxHeartbeats 4000000 in
theorem loaded_any (l : List ByteArray) (u v : Value) (E : Nat) (w : World) (hT : Tab w) (hu : KAt w u [3, 4]) (hv : SAt w v l) (hl : l.length ≤ 20) (hs : ∀ x ∈ l, x.size ≤ 1000) (h0 : loadE 1000000 (tapesOf wH l) = 0) (hE : (Vt.opD (made0 1000000 (tapesOf wH l))).1.2 = E) :
    Calls Tryz.prog 68 #[.agg #[.int .i64 7, .int .i64 3, .int .i64 2, u], v] w (Ret w (.int .i64 (E : Int))) := by
  have HK := Lib.hid hu
  have HV := Lib.hid hv
  have HTT := Lib.hid hT
  obtain ⟨L, hL⟩ : ∃ L, l.length = L := ⟨_, rfl⟩
  have HL := Lib.hid hL
  rw [hL] at hl
  have HE := Lib.hid (fun W (hW : KAt W u [3, 4]) => rencode_any wH u W hW (by decide))
  have HP := Lib.hid (fun W => put67_any 3 (encR wH).1 W)
  rw [fH] at HP
  have eE : (encR wH).2 = 0 := by kernel_rfl
  rw [eE] at HE
  unfold hval at HE
  have HE : Hid (∀ W, KAt W u [3, 4] → Calls Tryz.prog 69 #[.agg #[.int .i64 7, .int .i64 3, .int .i64 2, u]] W (Ret W (.tuple #[.string (encR wH).1, .int .i64 0]))) := HE
  generalize (encR wH).1 = P at *
  obtain ⟨va, vc, hv1⟩ := hv.slice
  rw [hL] at hv1
  subst hv1
  obtain ⟨i0, hi, hz0, hz1, hz2⟩ := info_parts info97s
  clear hu hT eE hL
  rw [show ((UInt8.toNat 3 : Nat) : Int) = 3 from rfl] at HP
  go_enter Tryz.func68, Tryz.ntmps68
  go_wp2_with fail
  refine (HE.out _ (HK.out.below (below_one w _) (Nat.le_refl _))).mono ?_
  rintro e w1 ⟨rfl, hb⟩
  have HW1 := Lib.hid (below_alloc_trans (Below.refl w.heap.size w) hb)
  clear hb
  go_wp2_with fail
  refine (HP.out _).mono ?_
  rintro e w2 ⟨rfl, hb⟩
  have HW2 := Lib.hid (below_trans' HW1.out hb)
  clear hb
  go_wp2
  go_loopw [8, 7] (fun i x wr => ∃ j : Nat, i = .int .i64 j ∧ j ≤ L ∧ Hid (wr.ownsRow w.heap.size 97 2 x (2 + j) (fl2 (tapesOf wH (l.take j)))) ∧ Hid (Below w.heap.size w wr)) (fun i _ _ => L - (intOf i).toNat)
  case atStart => exact ⟨0, rfl, by omega, Lib.hid (World.ownsRow_lit w2 #[.string (whl wH), .string ⟨#[]⟩, .string ⟨#[]⟩, .string ⟨#[]⟩] 2 HW2.out.size (by decide) rfl), Lib.hid (HW2.out.alloc HW2.out.size _)⟩
  case round =>
    obtain ⟨j, rfl, hj, HO, HW⟩ := hrel
    obtain ⟨xa, xc, hx⟩ := ownsRow_shape HO.out
    subst hx
    by_cases hlt : j < L
    · obtain ⟨g1, o1, c3, h1, h2, h3⟩ := (HV.out.below HW.out).pos (by have := HL.out; omega)
      have q1 := h3 j (by have := HL.out; omega)
      rw [HL.out] at h1
      injection h1 with h1 h1b h1c
      subst h1
      obtain ⟨y, hy⟩ : ∃ y, l[j]'(by have := HL.out; omega) = y := ⟨_, rfl⟩
      rw [hy] at q1
      have HT2 : Hid (l.take (j + 1) = l.take j ++ [y]) := Lib.hid (by rw [List.take_succ_eq_append_getElem (by have := HL.out; omega), hy])
      have HO1 := Lib.hid (HO.out.alloc (.cells #[.string y, .string ⟨#[]⟩] 97))
      have HCN := Lib.hid (cells_new2 wr (.string y) (.string ⟨#[]⟩) 97)
      have HW1 := Lib.hid (HW.out.alloc HW.out.size (.cells #[.string y, .string ⟨#[]⟩] 97))
      clear h3 hy h1c h1b h2
      go_wp2_with (at_builtin; refine wpList_append_own_at _ rfl (.tmp 27) (.tmp 33) 56 rfl w.heap.size 97 i0 _ 2 32 Tryz.underlying56 hi hz0 hz1 hz2 (by rfl) (by decide) (.slice xa (2 + j) xc) (2 + j) (fl2 (tapesOf wH (l.take j))) rfl HO1.out ⟨wr.heap.size, 0, none⟩ 1 1 [.string y, .string ⟨#[]⟩] rfl rfl HCN.out (one2 _ _) (by unfold maxLen; omega) (by omega) HW1.out.size ?_; intro v' w4 hown' hgrow hnil hloc; have HON := Lib.hid hown'; have HGR := Lib.hid hgrow; clear hown' hgrow hnil hloc)
      go_roundw
      case rel => exact ⟨j + 1, by simp, by omega, Lib.hid (by rw [HT2.out, show tapesOf wH (l.take j ++ [y]) = tapesOf wH (l.take j) ++ [qOf y] from by simp [tapesOf], fl2_append]; exact HON.out), Lib.hid (HW1.out.grown HGR.out HW1.out.size (fun k e => (HO1.out.lt k e).1))⟩
      case measure => (try simp [intOf]); (try omega)
    · obtain rfl : j = L := by omega
      have HQ : Hid (TAt wr (.slice xa (2 + j) xc) (tapesOf wH l)) := Lib.hid (by
        have h := HO.out
        rw [show l.take j = l from by rw [← HL.out, List.take_length]] at h
        have e : 2 + j = (tapesOf wH l).length := by unfold tapesOf; simp [HL.out]; omega
        rw [e] at h ⊢
        exact tat_of h)
      have HLL : Hid ((tapesOf wH l).length ≤ 9223372036854775807) := Lib.hid (by unfold tapesOf; simp [HL.out]; omega)
      have HSS : Hid (∀ q ∈ tapesOf wH l, q.a.size ≤ 9223372036854775807 ∧ q.b.size ≤ 9223372036854775807) := Lib.hid (fun q hq => by
        unfold tapesOf at hq
        rcases List.mem_cons.1 hq with rfl | hq
        · exact ⟨by decide +kernel, by decide +kernel⟩
        rcases List.mem_cons.1 hq with rfl | hq
        · exact ⟨by decide +kernel, by decide +kernel⟩
        · obtain ⟨x, hx, rfl⟩ := List.mem_map.1 hq
          exact ⟨by have := hs x hx; show x.size ≤ _; omega, by show (0 : Nat) ≤ _; omega⟩)
      have H0 := Lib.hid h0
      have HEE := Lib.hid hE
      have HOP := Lib.hid (fun W B (hd : DAt W B (made0 1000000 (tapesOf wH l))) hok (ht : Tab W) (hb : B ≠ 0) => open_any B 100 (made0 1000000 (tapesOf wH l)) W (by decide) (by decide) hd hok ht hb)
      rw [show ((100 : Nat) : Int) = 100 from rfl] at HOP
      clear h0 hE hs HO HE HP HV
      generalize tapesOf wH l = TT at *
      go_wp2_with fail
      refine (load_any 1000000 TT _ wr HQ.out (by decide) HLL.out HSS.out).mono ?_
      rintro e w5 ⟨hb, hh⟩
      rcases hh with ⟨hh, -⟩ | ⟨-, c, hc, hok, B, hB, rfl, hd⟩
      · exact absurd H0.out hh
      obtain rfl : c = 1000000 := by omega
      have HW5 := Lib.hid (below_trans' HW.out hb)
      have HD := Lib.hid hd
      have HK5 := Lib.hid hok
      have HBB : Hid (w.heap.size ≤ B) := Lib.hid (Nat.le_trans HW.out.size hB)
      have HB0 : Hid (B ≠ 0) := Lib.hid (by have := HBB.out; have := HTT.out.1; omega)
      clear hb hok hB hd hc
      go_wp2_with fail
      refine (HOP.out _ _ HD.out HK5.out (HTT.out.below HW5.out) HB0.out).mono ?_
      rintro e w6 ⟨hg, -, -, hh⟩
      have HW6 := Lib.hid hg
      clear hg
      rcases hh with ⟨h1, rfl⟩ | ⟨h1, V, rv, rfl, -⟩
      · rw [HEE.out]
        go_wp2
        go_ret
        exact ⟨rfl, below_gr HW5.out HW6.out HW5.out.size HBB.out⟩
      · have e0 : E = 0 := HEE.out.symm.trans h1
        subst e0
        go_wp2
        go_ret
        exact ⟨rfl, below_gr HW5.out HW6.out HW5.out.size HBB.out⟩
end Go.Proofs.YtieemdcoomilaaaGreatDoor
namespace Go.Proofs.YtieemdcoomilaaaGreatDoor
open Go Go.RowKit Go.Sort
set_option maxRecDepth 100000
def lastD : (Dk × Nat) × He × Option ByteArray × List ByteArray := Vt.opD (made0 100000 (tapesOf wL [sn]))
theorem la_e : lastD.1.2 = 0 := by kernel_rfl
theorem la_h : lastD.2.1 = wL := by kernel_rfl
theorem la_s : lastD.2.2.1 = some ⟨#[115]⟩ := by kernel_rfl
theorem la_r : lastD.2.2.2 = [] := by kernel_rfl
theorem la_dn : lastD.1.1.dn = false := by kernel_rfl
theorem la_sy : (Vt.syD lastD.1.1 wL).2 = 0 := by kernel_rfl
theorem la_load : loadE 100000 (tapesOf wL [sn]) = 0 := by kernel_rfl
theorem la_put : bs (mdl 3 (encR wL).1) = whl wL := by kernel_rfl
theorem la_enc : (encR wL).2 = 0 := by kernel_rfl
theorem la_tat (W : World) : TAt (W.alloc (.cells #[.string (whl wL), .string ⟨#[]⟩, .string ⟨#[]⟩, .string ⟨#[]⟩, .string sn, .string ⟨#[]⟩] 97)) (.slice (some ⟨W.heap.size, 0, none⟩) 3 3) (tapesOf wL [sn]) :=
  tat_of (base := 0) (World.ownsRow_lit W #[.string (whl wL), .string ⟨#[]⟩, .string ⟨#[]⟩, .string ⟨#[]⟩, .string sn, .string ⟨#[]⟩] 3 (Nat.zero_le _) (by decide) rfl)
theorem la_small : ∀ q ∈ tapesOf wL [sn], q.a.size ≤ 9223372036854775807 ∧ q.b.size ≤ 9223372036854775807 := by
  intro q hq
  unfold tapesOf at hq
  rcases List.mem_cons.1 hq with rfl | hq
  · exact ⟨by decide +kernel, by decide +kernel⟩
  rcases List.mem_cons.1 hq with rfl | hq
  · exact ⟨by decide +kernel, by decide +kernel⟩
  rcases List.mem_cons.1 hq with rfl | hq
  · exact ⟨by decide +kernel, by decide +kernel⟩
  · cases hq
theorem la_open (B : Nat) (w : World) (hd : DAt w B (made0 100000 (tapesOf wL [sn]))) (hok : (made0 100000 (tapesOf wL [sn])).ok) (hT : Tab w) (hB : B ≠ 0) :
    Calls Tryz.prog 9 #[.pointer (some ⟨B, 0, none⟩), .int .i64 100] w fun e w' => w.grownBy w' (some B) ∧ ∃ V a c, e = .returned (.tuple #[.pointer (some ⟨V, 0, none⟩), .agg #[.bool true, .string ⟨#[115]⟩, .slice a 0 c], .int .i64 0]) ∧ w.heap.size ≤ V ∧ VSt w' V B 100 (lastD.1.1, wL, 0) := by
  refine (open_any B 100 (made0 100000 (tapesOf wL [sn])) w (by decide) (by decide) hd hok hT hB).mono ?_
  rintro e w' ⟨hg, -, -, hh⟩
  change _ ∨ _ at hh
  rcases hh with ⟨h1, _⟩ | ⟨h1, V, rv, rfl, hV, hx, hm, ho⟩
  · exact absurd la_e h1
  · have e1 := la_h
    have e2 := la_s
    have e3 := la_r
    unfold lastD at e1 e2 e3
    rw [e1, e3] at hx
    rw [e2]
    have ho2 := ho
    simp only [e3] at ho2
    obtain ⟨a, c, hv⟩ := ho2.1.shape
    subst hv
    exact ⟨hg, V, a, c, rfl, hV, hx⟩
theorem la_count {W : World} {V B : Nat} {d : Dk} (h : VSt W V B 100 (d, wL, 0)) : Calls Tryz.prog 14 #[.pointer (some ⟨V, 0, none⟩)] W (Ret W (.int .i64 1099511627776)) := by
  obtain ⟨v, hv⟩ := h.v
  have k := mayB_ok wl_m
  exact count_any V B 100 wL 0 v W hv k.b1 k.b2 (by decide)
theorem la_add {W : World} {V B : Nat} (h : VSt W V B 100 (lastD.1.1, wL, 0)) : Calls Tryz.prog 11 #[.pointer (some ⟨V, 0, none⟩), .string ⟨#[]⟩] W fun e w' => e = .returned (.int .i64 40) ∧ VSt w' V B 100 (lastD.1.1, wL, 0) ∧ Gv W w' B V := by
  have e1 : Vt.addD lastD.1.1 wL 0 100 ⟨#[]⟩ = ((lastD.1.1, 40), wL, 0) := by unfold Vt.addD; rw [if_pos (.inr (by decide))]
  have k := vadd_eq ⟨#[]⟩ (by decide) (by decide) h wl_m
  rw [e1] at k
  exact k
theorem la_lay {W : World} {V B : Nat} (h : VSt W V B 100 (lastD.1.1, wL, 0)) : Calls Tryz.prog 13 #[.pointer (some ⟨V, 0, none⟩), .string ⟨#[]⟩] W fun e w' => e = .returned (.int .i64 40) ∧ VSt w' V B 100 (lastD.1.1, wL, 0) ∧ Gv W w' B V := by
  have e1 : Vt.layD lastD.1.1 wL 0 ⟨#[]⟩ = ((lastD.1.1, 40), wL, 0) := by unfold Vt.layD; rw [if_neg (by decide), if_neg (by rw [la_dn]; decide), if_pos (by decide)]
  have k := vlay_eq ⟨#[]⟩ (by decide) (by decide) h wl_m
  rw [e1] at k
  exact k
theorem la_sync {W : World} {V B : Nat} (h : VSt W V B 100 (lastD.1.1, wL, 0)) : Calls Tryz.prog 12 #[.pointer (some ⟨V, 0, none⟩)] W fun e w' => e = .returned (.int .i64 0) ∧ Gv W w' B V := by
  have k := vsync_eq h wl_m
  rw [la_sy] at k
  exact k.mono fun e w' hh => ⟨hh.1, hh.2.2⟩
end Go.Proofs.YtieemdcoomilaaaGreatDoor
