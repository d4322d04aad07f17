/- row: the bytes of frames, and what they are to be scanned as. -/
import Derived.Test.YtkbifmgddbilmaaDoorPr
namespace Go.Proofs.YtkbifmgddbilmaaDoor
open Go Go.RowKit
set_option maxRecDepth 100000
/-- A kind, counted round. -/
def kdd (k : UInt8) : UInt8 := UInt8.ofNat (1 + k.toNat % 3)
theorem kdd_nat (k : UInt8) : (kdd k).toNat = 1 + k.toNat % 3 := by
  unfold kdd
  simp; omega
def pq1 (x : Prt) : UInt8 × List UInt8 := (kdd x.k, x.p.data.toList)
def pq (l : List Prt) : List (UInt8 × List UInt8) := l.map pq1
theorem pq_ok (l : List Prt) (h : lgn l < 6000) : ∀ x ∈ pq l, Fr.Ok x.1 x.2 := by
  intro x hx
  obtain ⟨y, hy, rfl⟩ := List.mem_map.1 hx
  have hy2 : y.p.size < 6000 := by
    clear hx
    induction l with
    | nil => cases hy
    | cons z r ih =>
      rw [lgn] at h
      rcases List.mem_cons.1 hy with rfl | hy
      · omega
      · exact ih (by omega) hy
  refine ⟨?_, ?_⟩
  · show 1 ≤ (kdd y.k).toNat ∧ (kdd y.k).toNat ≤ 3
    rw [kdd_nat]; omega
  · show y.p.data.toList.length ≤ 262144
    simp; omega
theorem row_len : ∀ (l : List Prt), lgn l < 6000 → (Fr.row (pq l)).length ≤ lgn l
  | [], _ => Nat.le_refl _
  | x :: r, h => by
    rw [lgn] at h
    have := row_len r (by omega)
    have e : (pq (x :: r)) = (kdd x.k, x.p.data.toList) :: pq r := rfl
    have hl : x.p.data.toList.length = x.p.size := by simp
    rw [e, Fr.row, List.length_append, Fr.frm_length, lgn, hl]
    omega
theorem lgn_count : ∀ (l : List Prt), 40 * l.length ≤ lgn l
  | [] => Nat.le_refl _
  | x :: r => by rw [lgn, List.length_cons]; have := lgn_count r; omega
/-- What the frames are to be scanned as. -/
def want (l : List Prt) : List Fq := (Fr.wnt (pq l) 0).map qf
theorem want_len (l : List Prt) : (want l).length = l.length := by
  unfold want pq
  rw [List.length_map, Fr.wnt_length, List.length_map]
theorem row_take1 (l : List Prt) (j : Nat) (h : j < l.length) : Fr.row (pq (l.take (j + 1))) = Fr.row (pq (l.take j)) ++ Fr.frm (kdd l[j].k) l[j].p.data.toList := by
  have e : pq (l.take (j + 1)) = pq (l.take j) ++ [(kdd l[j].k, l[j].p.data.toList)] := by
    unfold pq
    rw [List.take_succ_eq_append_getElem h, List.map_append]; rfl
  rw [e, Fr.row_snoc]
theorem want_take1 (l : List Prt) (j : Nat) (h : j < l.length) : want (l.take (j + 1)) = want (l.take j) ++ [⟨((kdd l[j].k).toNat : Int), l[j].p, ((Fr.row (pq (l.take j))).length : Int)⟩] := by
  have e : pq (l.take (j + 1)) = pq (l.take j) ++ [(kdd l[j].k, l[j].p.data.toList)] := by
    unfold pq
    rw [List.take_succ_eq_append_getElem h, List.map_append]; rfl
  unfold want
  rw [e, Fr.wnt_snoc, List.map_append, Nat.zero_add]
  rfl
/-- What a call tells that puts frames together. -/
def Rows (w : World) (l : List Prt) (e : Ending) (w' : World) : Prop := ∃ v, e = .returned (.tuple #[.string (bs (Fr.row (pq l))), v]) ∧ O3 28 w' w.heap.size v (want l) ∧ Below w.heap.size w w'
set_option maxHeartbeats 2000000 in
theorem rows_any (l : List Prt) (h6 : lgn l < 6000) (v : Value) (w : World) (h : PAt w v l) (hT : Hid (Tab w)) : Calls Tryd.prog 27 #[v] w (Rows w l) := by
  obtain ⟨i0, hi, hz0, hz1, hz2⟩ := info_parts Tryd.info28
  rcases h with ⟨h0, a, c, rfl⟩ | ⟨g, o, c, rfl, hc⟩
  · subst h0
    clear h6
    go_enter Tryd.func27, Tryd.ntmps27
    go_wp2
    go_loop [4, 5, 6] (fun s u i => s = .string ⟨#[]⟩ ∧ u = .slice none 0 0 ∧ i = .int .i64 0) (fun _ _ _ => 0)
    case atStart => exact ⟨rfl, rfl, rfl⟩
    case round =>
      obtain ⟨rfl, rfl, rfl⟩ := hrel
      go_wp2
      go_ret2
      exact ⟨_, rfl, O3.nil _ _ _, Below.refl _ _⟩
  · have HC := Lib.hid hc
    have hcnt := lgn_count l
    obtain ⟨L, hL⟩ : ∃ L, l.length = L := ⟨_, rfl⟩
    have HL := Lib.hid hL
    rw [hL] at hcnt ⊢
    have hLm : L ≤ 150 := by omega
    have HRL : Hid (∀ j, j ≤ L → (Fr.row (pq (l.take j))).length ≤ 6000) := Lib.hid fun j hj => by
      have := lgn_take_le l j
      have := row_len (l.take j) (by omega)
      omega
    have HMD : Hid (∀ j (h : j < l.length), mdl (kdd l[j].k) l[j].p = Fr.frm (kdd l[j].k) l[j].p.data.toList) := Lib.hid fun j hj => by
      have hok : Fr.Ok (kdd l[j].k) l[j].p.data.toList := pq_ok l h6 (pq1 l[j]) (List.mem_map.2 ⟨_, List.getElem_mem hj, rfl⟩)
      have h2 : l[j].p.data.toList.length ≤ 262144 := hok.2
      unfold mdl
      rw [if_pos hok.1, if_pos (by simpa using h2)]
    have HRT := Lib.hid (row_take1 l)
    have HWT := Lib.hid (want_take1 l)
    have HEND : Hid (l.take L = l) := Lib.hid (by rw [← hL, List.take_length])
    have HWL : Hid (∀ j, j ≤ L → (want (l.take j)).length = j) := Lib.hid fun j hj => by rw [want_len, List.length_take]; omega
    clear hc hL hcnt h6
    go_enter Tryd.func27, Tryd.ntmps27
    go_wp2
    go_loopw [4, 5, 6] (fun s u i wr => ∃ (j : Nat) (S : ByteArray), j ≤ L ∧ s = .string S ∧ i = .int .i64 (j : Int) ∧ Hid (S = bs (Fr.row (pq (l.take j)))) ∧ Hid (O3 28 wr w.heap.size u (want (l.take j))) ∧ Hid (Below w.heap.size w wr)) (fun _ _ i _ => L - (intOf i).toNat)
    case atStart => exact ⟨0, ⟨#[]⟩, by omega, rfl, rfl, Lib.hid rfl, Lib.hid (O3.nil _ _ _), Lib.hid (Below.refl _ _)⟩
    case round =>
      obtain ⟨j, S, hj, rfl, rfl, HS, HO, HB⟩ := hrel
      by_cases hlt : j < L
      · have hjl : j < l.length := by rw [HL.out]; exact hlt
        obtain ⟨x0, x1⟩ := HC.out j hjl
        have HX1 := Lib.hid x1
        have keep : ∀ {b i : Nat} {v : Value}, w.cell? ⟨b, i, none⟩ = some v → wr.cell? ⟨b, i, none⟩ = some v := fun {b i v} h => (HB.out.cell (p := ⟨b, i, none⟩) (World.block_lt_of_cell? w ⟨b, i, none⟩ h)).trans h
        have x0 := keep x0
        have x1 := keep x1
        have hml := HMD.out j hjl
        have hrt := HRT.out j hjl
        have hwt := HWT.out j hjl
        have hsz : (Fr.row (pq (l.take j))).length ≤ 6000 := HRL.out j (by omega)
        have hsz2 : (Fr.row (pq (l.take (j + 1)))).length ≤ 6000 := HRL.out (j + 1) (by omega)
        have hSs : S.size = (Fr.row (pq (l.take j))).length := by rw [HS.out, bs_size]
        have hwl := HWL.out j (by omega)
        have hk3 : (l[j].k.toNat : Int) % 3 = ((l[j].k.toNat % 3 : Nat) : Int) := by omega
        have hkd := kdd_nat l[j].k
        have hk8 := l[j].k.toNat_lt
        have hmd := fun W (hW : Tab W) => made_any (kdd l[j].k) l[j].p W (Lib.hid hW)
        rw [hml] at hmd
        have hap : S ++ bs (Fr.frm (kdd l[j].k) l[j].p.data.toList) = bs (Fr.row (pq (l.take (j + 1)))) := by rw [HS.out, bs_append, ← hrt]
        have hfs : (bs (Fr.frm (kdd l[j].k) l[j].p.data.toList)).size ≤ 6000 := by
          have := congrArg List.length hrt
          rw [List.length_append] at this
          rw [bs_size]; omega
        have hS6 : S.size ≤ 6000 := by omega
        rw [← hSs] at hwt
        rw [hkd] at hmd hwt
        have HMK := Lib.hid hmd
        have HAP := Lib.hid hap
        have HWN := Lib.hid hwt
        clear keep hml hrt hwt hsz hsz2 hSs hmd hap hkd
        generalize bs (Fr.frm (kdd l[j].k) l[j].p.data.toList) = B at *
        generalize l[j].p = T at *
        generalize l[j].k.toNat % 3 = K at *
        generalize l[j].k = kq at *
        have hO := HO.out
        unfold O3 at hO
        rw [hwl] at hO
        obtain ⟨va, vc, hv⟩ := ownsRow_shape hO
        subst hv
        have HO1 := Lib.hid (World.ownsRow.alloc hO (.cells #[.int .u8 (1 + (K : Int)), .string T, .int .i64 (S.size : Int)] 28))
        have HCN := Lib.hid (cells_new3 wr (.int .u8 (1 + (K : Int))) (.string T) (.int .i64 (S.size : Int)) 28)
        have HBA := Lib.hid (below_more (.cells #[.int .u8 (1 + (K : Int)), .string T, .int .i64 (S.size : Int)] 28) HB.out)
        clear hO
        go_wp2_with (at_builtin; refine wpList_append_own_at _ rfl (.tmp 21) (.tmp 31) 32 rfl w.heap.size 28 i0 _ 3 32 Tryd.underlying32 hi hz0 hz1 hz2 (by rfl) (by decide) (.slice va j vc) j (fls (want (l.take j))) rfl HO1.out ⟨wr.heap.size, 0, none⟩ 1 1 [.int .u8 (1 + (K : Int)), .string T, .int .i64 (S.size : Int)] rfl rfl HCN.out (one3 _ _ _) (by unfold maxLen; omega) (by omega) HBA.out.size ?_; intro v' w4 hown' hgrow hnil hloc; have HON := Lib.hid hown'; have HGR := Lib.hid hgrow; have hb4 := HBA.out.grown hgrow HBA.out.size (fun k e => (own_lt HO1.out k e).1); have y1 := (hb4.cell (p := ⟨g, o + j * 2 + 1, none⟩) (World.block_lt_of_cell? w ⟨g, o + j * 2 + 1, none⟩ HX1.out)).trans HX1.out; have HB4 := Lib.hid hb4; clear hown' hgrow hnil hloc hb4)
        refine (HMK.out _ (hT.out.below HB4.out)).mono ?_
        rintro e w5 ⟨rfl, hb5⟩
        have HB5 := Lib.hid (below_chain HB4.out hb5)
        have HO5 : Hid (O3 28 w5 w.heap.size v' (want (l.take (j + 1)))) := Lib.hid (O3.below (by rw [HWN.out]; unfold O3; rw [fls_append, List.length_append, hwl]; exact HON.out) hb5 (Nat.le_refl _))
        clear hb5 y1
        go_wp2
        go_roundw
        case rel => exact ⟨j + 1, S ++ B, by omega, rfl, by go_num, HAP, HO5, HB5⟩
        case measure => simp [intOf]; omega
      · obtain rfl : j = L := by omega
        have hS2 := HS.out
        have hO2 := HO.out
        rw [HEND.out] at hS2 hO2
        have HS2 := Lib.hid hS2
        have HO2 := Lib.hid hO2
        clear hS2 hO2
        go_wp2
        go_ret2
        exact ⟨_, by rw [HS2.out]; rfl, HO2.out, HB.out⟩
end Go.Proofs.YtkbifmgddbilmaaDoor
