/- FrameNames: the law answers true. Condition: the table of package sum reads as its initialiser lays it (tied to the program's text by the card). -/
import Derived.Test.YtkbifmgddbilmaaDoorCards
import Derived.Test.YtkbifmgddbilmaaDoorTie
import Derived.Test.YtkbifmgddbilmaaDoorSf
import Derived.Test.YtkbifmgddbilmaaDoorAw
import Derived.Lib.QuietBelow
import Derived.SevenTiedAt
namespace Go.Proofs.YtkbifmgddbilmaaDoor.frameNames
open Go Go.ChangeShapes Go.WideShapes Go.ChangeAt Go.RowKit
open Go.ChangeMaps (open_string shut_string)
set_option linter.unusedVariables false
open Go.Sort
set_option maxRecDepth 100000
theorem made_at (x : Value) (n j : Nat) (h : j < n) : (madeCells #[x] n)[j]? = some x := by
  unfold madeCells
  rw [Array.getElem?_map, Array.getElem?_range, if_pos h]
  simp [Nat.mod_one]
theorem made_long : ∃ (CZ : Array Value) (Z : ByteArray), Z.size = 262144 ∧
    (∀ W : World, (Instr.makeSlice 46 (.int .i64 262144) (.int .i64 262144)).run Tryd.prog W = .ok (.slice (some ⟨W.heap.size, 0, none⟩) 262144 262144) (W.alloc (.cells CZ 5))) ∧
    (∀ W : World, Sem.run Tryd.prog (convert 46 9 (.slice (some ⟨W.heap.size, 0, none⟩) 262144 262144)) (W.alloc (.cells CZ 5)) = .ok (.string Z) (W.alloc (.cells CZ 5))) := by
  obtain ⟨i0, hi, hz0, hz1, hz2⟩ := info_parts Tryd.info5
  refine ⟨madeCells #[.int .u8 0] 262144, bs (List.replicate 262144 0), by rw [bs_size, List.length_replicate], fun W => ?_, fun W => ?_⟩
  · have h := run_make (P := Tryd.prog) W 46 5 i0 (.int .u8 0) Tryd.underlying46 hi hz0 .i64 .i64 262144 262144 (by omega) (by omega) (by rw [hz2]; omega) (by omega)
    rw [hz1] at h
    exact h
  · have h := run_convert_bytes_back (W.alloc (.cells (madeCells #[.int .u8 0] 262144) 5)) 46 9 5 ⟨W.heap.size, 0, none⟩ 262144 (List.replicate 262144 0) Tryd.underlying46 Tryd.underlying5 Tryd.underlying9 (fun j hj => ?_)
    · rw [List.length_replicate] at h
      exact h
    · rw [List.length_replicate] at hj
      have hadd : (⟨W.heap.size, 0, none⟩ : Addr).add j = ⟨W.heap.size, j, none⟩ := by unfold Addr.add; simp <;> omega
      have hc := World.cell?_alloc_mark W (madeCells #[.int .u8 0] 262144) 5 (0, 0) j
      rw [hadd, hc, made_at _ _ _ hj, List.getElem_replicate]
      rfl
def hd : List UInt8 := [4, 0, 0, 0, 140, 73, 96, 216, 3, 104, 101, 97, 100]
theorem hd_frm : Fr.frm 3 [104, 101, 97, 100] = hd := by decide +kernel
theorem hd_good : Fr.Good hd := by
  have := Fr.good_of 3 [104, 101, 97, 100] [] ⟨by decide, by decide⟩
  rw [List.append_nil, hd_frm] at this
  exact this
theorem hd_kd : Fr.kd hd = 3 := rfl
theorem hd_pl : Fr.pl hd = [104, 101, 97, 100] := by decide +kernel
theorem hd_ln : Fr.ln hd = 4 := by decide +kernel
theorem ref_lit (s : ByteArray) (a : Int) (e : Nat) (E : Int) (hE : er1 s a = e) (h0 : e ≠ 0) (he : (e : Int) = E) (hs : s.size ≤ 1000) (W : World) (hT : Tab W) : Calls Tryd.prog 25 #[.string s, .int .i64 a, .int .i64 E] W (Ret W (.bool true)) := by
  subst he; exact refused_any s a e hE h0 W (by omega) (Lib.hid hT)
theorem one_lit (s : ByteArray) (k : UInt8) (kk : Int) (hk : (k.toNat : Int) = kk) (V : Value) (hV : oneV s k = V) (hs : s.size ≤ 1000) (W : World) (hT : Tab W) : Calls Tryd.prog 18 #[.string s, .int .u8 kk] W (Ret W V) := by
  subst hk; subst hV; exact one_any s k W (by omega) (Lib.hid hT)
theorem size_lit (n R : Int) (h : fsz n = R) (W : World) : Calls Tryd.prog 22 #[.int .i64 n] W fun e w' => e = .returned (.int .i64 R) ∧ W = w' := by
  subst h; exact size_any n W
set_option maxHeartbeats 4000000 in
theorem main (w : World) (hT : Hid (Tab w)) : Calls Tryd.prog 5 #[] w (Ret w (.bool true)) := by
  obtain ⟨CZ, Z, hZ, hmk, hcv⟩ := made_long
  obtain ⟨Y, hY⟩ : ∃ Y, Z ++ (⟨#[97]⟩ : ByteArray) = Y := ⟨_, rfl⟩
  have hYs : Y.size = 262145 := by rw [← hY, ByteArray.size_append, hZ]; rfl
  have s0 := Lib.hid (fun W => size_lit 0 9 (by decide) W)
  have s1 := Lib.hid (fun W => size_lit 262144 262153 (by decide) W)
  have s2 := Lib.hid (fun W => size_lit 262145 0 (by decide) W)
  have s3 := Lib.hid (fun W => size_lit (-1) 0 (by decide) W)
  obtain ⟨F, hF⟩ : ∃ F, bs (Fr.frm 3 Z.data.toList) = F := ⟨_, rfl⟩
  have m1 : Hid (∀ W, Tab W → Calls Tryd.prog 20 #[.int .u8 3, .string Z] W (Ret W (.tuple #[.string F, .int .i64 0]))) := Lib.hid fun W hW => by
    have h := make_ok 3 Z (by decide) (by omega) W (Lib.hid hW)
    rw [hF] at h
    exact h
  have m2 : Hid (∀ W, Calls Tryd.prog 20 #[.int .u8 3, .string Y] W (Ret W (noM 40))) := Lib.hid fun W => make_large 3 Y (by decide) (by omega) W
  have m3 : Hid (∀ W, Calls Tryd.prog 20 #[.int .u8 0, .string Y] W (Ret W (noM 1))) := Lib.hid fun W => make_arg 0 Y (by decide) W
  obtain ⟨S, hS⟩ : ∃ S, bs hd = S := ⟨_, rfl⟩
  have hSz : S.size = 13 := by rw [← hS]; rfl
  have hSl : S.data.toList = hd := by rw [← hS]; rfl
  have m4 : Hid (∀ W, Tab W → Calls Tryd.prog 24 #[.int .u8 3, .string ⟨#[104, 101, 97, 100]⟩] W (Ret W (.string S))) := Lib.hid fun W hW => made_lit 3 3 rfl _ S (by
    have h := ok1 3 [104, 101, 97, 100] (by decide) (by decide)
    rw [hd_frm] at h
    exact (congrArg bs h).trans hS) W hW
  obtain ⟨XS, hXS⟩ : ∃ X, (⟨#[120]⟩ : ByteArray) ++ S = X := ⟨_, rfl⟩
  have hXz : XS.size = 14 := by rw [← hXS, ByteArray.size_append, hSz]; rfl
  have hbx : bh XS 1 = hd := by
    have e : XS.data.toList = 120 :: hd := by rw [← hXS, ByteArray.data_append, Array.toList_append, hSl]; rfl
    unfold bh
    rw [e]; rfl
  have rd : Hid (∀ W, Tab W → Calls Tryd.prog 12 #[.string XS, .int .i64 1] W (Ret W (.tuple #[fv 3 ⟨#[104, 101, 97, 100]⟩ 1, .int .i64 14, .int .i64 0]))) := Lib.hid fun W hW => by
    have h := read_ok XS 1 (by rw [hbx]; exact hd_good) W (by omega) (Lib.hid hW)
    rw [hbx, hd_kd, hd_pl, hd_ln] at h
    exact h
  obtain ⟨SX, hSX⟩ : ∃ X, S ++ (⟨#[120]⟩ : ByteArray) = X := ⟨_, rfl⟩
  have hSXz : SX.size = 14 := by rw [← hSX, ByteArray.size_append, hSz]; rfl
  have hSXl : SX.data.toList = hd ++ [120] := by rw [← hSX, ByteArray.data_append, Array.toList_append, hSl]
  have o1 := Lib.hid (fun W hW => one_lit S 3 3 rfl (.tuple #[.string ⟨#[104, 101, 97, 100]⟩, .bool true]) (by
    unfold oneV
    rw [if_pos ⟨by rw [hSl]; exact Fr.er_good.2 hd_good, by rw [hSl]; rfl, by rw [hSl, hd_ln, hSz]⟩, hSl, hd_pl]; rfl) (by omega) W hW)
  have o2 := Lib.hid (fun W hW => one_lit S 1 1 rfl (.tuple #[.string ⟨#[]⟩, .bool false]) (by
    unfold oneV
    rw [if_neg (fun h => by have h2 := h.2.1; rw [hSl, hd_kd] at h2; exact absurd h2 (by decide))]) (by omega) W hW)
  have o3 := Lib.hid (fun W hW => one_lit SX 3 3 rfl (.tuple #[.string ⟨#[]⟩, .bool false]) (by
    unfold oneV
    rw [if_neg (fun h => by
      have h2 := h.2.2
      have h3 := Fr.ln_frm 3 [104, 101, 97, 100] [120] (by decide)
      rw [hd_frm] at h3
      rw [hSXl, h3, hSXz] at h2
      exact absurd h2 (by decide))]) (by omega) W hW)
  have o4 := Lib.hid (fun W hW => one_lit ⟨#[]⟩ 3 3 rfl (.tuple #[.string ⟨#[]⟩, .bool false]) (by
    unfold oneV
    rw [if_neg (fun h => absurd h.1 (by decide))]) (by decide) W hW)
  have sc1 := Lib.hid (fun W hW => scan_lit S 13 (by omega) (by omega) [] 13 (by
    have h := (scq_bad S 13 (by unfold bh; rw [hSl]; decide)).1; exact h) (by
    have h := (scq_bad S 13 (by unfold bh; rw [hSl]; decide)).2; exact h) W hW)
  have sc2 := Lib.hid (fun W => scan_arg S 14 W (.inr (by omega)))
  have eS : S = ⟨#[4, 0, 0, 0, 140, 73, 96, 216, 3, 104, 101, 97, 100]⟩ := by rw [← hS]; rfl
  obtain ⟨S12, h12⟩ : ∃ X, S.extract 0 12 = X := ⟨_, rfl⟩
  obtain ⟨Sa, hSa⟩ : ∃ X, S.extract 0 4 = X := ⟨_, rfl⟩
  obtain ⟨Sb, hSb⟩ : ∃ X, Sa ++ (⟨#[0]⟩ : ByteArray) = X := ⟨_, rfl⟩
  obtain ⟨Sc, hSc⟩ : ∃ X, S.extract 5 13 = X := ⟨_, rfl⟩
  obtain ⟨Se, hSe⟩ : ∃ X, Sb ++ Sc = X := ⟨_, rfl⟩
  have e12 : S12 = ⟨#[4, 0, 0, 0, 140, 73, 96, 216, 3, 104, 101, 97]⟩ := by rw [← h12, eS]; kernel_rfl
  have eSe : Se = ⟨#[4, 0, 0, 0, 0, 73, 96, 216, 3, 104, 101, 97, 100]⟩ := by rw [← hSe, ← hSb, ← hSc, ← hSa, eS]; kernel_rfl
  have zSa : Sa.size = 4 := by rw [← hSa, eS]; kernel_rfl
  have zSb : Sb.size = 5 := by rw [← hSb, ByteArray.size_append, zSa]; rfl
  have zSc : Sc.size = 8 := by rw [← hSc, eS]; kernel_rfl
  have r1 := Lib.hid (fun W hW => ref_lit S (-1) 1 1 (er1_out S (-1) (by omega)) (by omega) rfl (by omega) W hW)
  have r2 := Lib.hid (fun W hW => ref_lit S 14 1 1 (er1_out S 14 (by omega)) (by omega) rfl (by omega) W hW)
  have r3 := Lib.hid (fun W hW => ref_lit S 13 8 8 (by rw [eS]; decide +kernel) (by omega) rfl (by omega) W hW)
  have r4 := Lib.hid (fun W hW => ref_lit ⟨#[]⟩ 0 8 8 (by decide +kernel) (by omega) rfl (by decide) W hW)
  have r5 := Lib.hid (fun W hW => ref_lit ⟨#[1, 0, 4, 0, 0, 0, 0, 0, 1]⟩ 0 40 40 (by decide +kernel) (by omega) rfl (by decide) W hW)
  have r6 := Lib.hid (fun W hW => ref_lit ⟨#[0, 0, 4, 0, 0, 0, 0, 0, 1]⟩ 0 8 8 (by decide +kernel) (by omega) rfl (by decide) W hW)
  have r7 := Lib.hid (fun W hW => ref_lit ⟨#[255, 255, 255, 255, 0, 0, 0, 0, 1]⟩ 0 40 40 (by decide +kernel) (by omega) rfl (by decide) W hW)
  have r8 := Lib.hid (fun W hW => ref_lit S12 0 8 8 (by rw [e12]; decide +kernel) (by omega) rfl (by rw [e12]; decide) W hW)
  have r9 := Lib.hid (fun W hW => ref_lit Se 0 42 42 (by rw [eSe]; decide +kernel) (by omega) rfl (by rw [eSe]; decide) W hW)
  have rA := Lib.hid (fun W hW => ref_lit ⟨#[0, 0, 0, 0, 210, 143, 37, 73, 0]⟩ 0 4 4 (by decide +kernel) (by omega) rfl (by decide) W hW)
  have rB := Lib.hid (fun W hW => ref_lit ⟨#[0, 0, 0, 0, 210, 143, 37, 73, 1]⟩ 0 42 42 (by decide +kernel) (by omega) rfl (by decide) W hW)
  clear hF hS hSl hbx hSXl eS e12 eSe
  go_enter Tryd.func5, Tryd.ntmps5
  go_wp2_with fail
  refine (awake_any _ hT).mono ?_
  rintro e w1 ⟨rfl, hb1⟩
  have HB1 := Lib.hid hb1
  clear hb1
  go_wp2_with fail
  refine (s0.out _).mono ?_
  rintro e w' ⟨rfl, rfl⟩
  go_wp2_with fail
  refine (s1.out _).mono ?_
  rintro e w' ⟨rfl, rfl⟩
  go_wp2_with fail
  refine (s2.out _).mono ?_
  rintro e w' ⟨rfl, rfl⟩
  go_wp2_with fail
  refine (s3.out _).mono ?_
  rintro e w' ⟨rfl, rfl⟩
  have hcw := hcv w1
  have HB1a := Lib.hid (below_more (.cells CZ 5) HB1.out)
  go_wp2_with fail
  refine (m1.out _ (hT.out.below HB1a.out)).mono ?_
  rintro e w2 ⟨rfl, hb2⟩
  have HB2 := Lib.hid (below_chain HB1a.out hb2)
  clear hb2 hcw
  go_wp2_with fail
  refine (m2.out _ ).mono ?_
  rintro e w3 ⟨rfl, hb3⟩
  have HB3 := Lib.hid (below_chain HB2.out hb3)
  clear hb3
  go_wp2_with fail
  refine (m3.out _ ).mono ?_
  rintro e w4 ⟨rfl, hb4⟩
  have HB4 := Lib.hid (below_chain HB3.out hb4)
  clear hb4
  go_wp2_with fail
  refine (m4.out _ (hT.out.below HB4.out)).mono ?_
  rintro e w5 ⟨rfl, hb5⟩
  have HB5 := Lib.hid (below_chain HB4.out hb5)
  clear hb5
  go_wp2_with fail
  refine (rd.out _ (hT.out.below HB5.out)).mono ?_
  rintro e w6 ⟨rfl, hb6⟩
  have HB6 := Lib.hid (below_more (.cells #[.int .u8 3, .string ⟨#[104, 101, 97, 100]⟩, .int .i64 1] 24) (below_chain HB5.out hb6))
  have x6 := Box3.new w6 24 (.int .u8 3) (.string ⟨#[104, 101, 97, 100]⟩) (.int .i64 1)
  have x60 := x6.c0
  have x61 := x6.c1
  have x62 := x6.c2
  clear hb6 x6
  go_wp2_with fail
  refine (same_true 3 ⟨#[104, 101, 97, 100]⟩ 1 _).mono ?_
  rintro e w7 ⟨rfl, hb7⟩
  have HB7 := Lib.hid (below_chain HB6.out hb7)
  clear hb7 x60 x61 x62
  go_wp2_with fail
  have gr1 := Lib.hid (fun d os => Calls.regrown_of (w := w7) (d := d) (os := os) (r1.out _ ((hT.out.below HB7.out).below (below_regrown w7 d os))))
  have gr2 := Lib.hid (fun d os => Calls.regrown_of (w := w7) (d := d) (os := os) (r2.out _ ((hT.out.below HB7.out).below (below_regrown w7 d os))))
  have gr3 := Lib.hid (fun d os => Calls.regrown_of (w := w7) (d := d) (os := os) (r3.out _ ((hT.out.below HB7.out).below (below_regrown w7 d os))))
  have gr4 := Lib.hid (fun d os => Calls.regrown_of (w := w7) (d := d) (os := os) (r4.out _ ((hT.out.below HB7.out).below (below_regrown w7 d os))))
  have gr5 := Lib.hid (fun d os => Calls.regrown_of (w := w7) (d := d) (os := os) (r5.out _ ((hT.out.below HB7.out).below (below_regrown w7 d os))))
  have gr6 := Lib.hid (fun d os => Calls.regrown_of (w := w7) (d := d) (os := os) (r6.out _ ((hT.out.below HB7.out).below (below_regrown w7 d os))))
  have gr7 := Lib.hid (fun d os => Calls.regrown_of (w := w7) (d := d) (os := os) (r7.out _ ((hT.out.below HB7.out).below (below_regrown w7 d os))))
  have gr8 := Lib.hid (fun d os => Calls.regrown_of (w := w7) (d := d) (os := os) (r8.out _ ((hT.out.below HB7.out).below (below_regrown w7 d os))))
  have gr9 := Lib.hid (fun d os => Calls.regrown_of (w := w7) (d := d) (os := os) (r9.out _ ((hT.out.below HB7.out).below (below_regrown w7 d os))))
  refine wp_region_quiet_below (by kernel_rfl) (by kernel_rfl) ?_
  iterate 1 (go_big_quiet_step (fail))
  go_big_quiet_step (first | (go_at_call 25; exact gr1.out _ _))
  iterate 3 (go_big_quiet_step (fail))
  go_big_quiet_step (first | (go_at_call 25; exact gr2.out _ _))
  iterate 4 (go_big_quiet_step (fail))
  go_big_quiet_step (first | (go_at_call 25; exact gr3.out _ _))
  iterate 3 (go_big_quiet_step (fail))
  go_big_quiet_step (first | (go_at_call 25; exact gr4.out _ _))
  iterate 3 (go_big_quiet_step (fail))
  go_big_quiet_step (first | (go_at_call 25; exact gr5.out _ _))
  iterate 3 (go_big_quiet_step (fail))
  go_big_quiet_step (first | (go_at_call 25; exact gr6.out _ _))
  iterate 3 (go_big_quiet_step (fail))
  go_big_quiet_step (first | (go_at_call 25; exact gr7.out _ _))
  iterate 5 (go_big_quiet_step (fail))
  go_big_quiet_step (first | (go_at_call 25; exact gr8.out _ _))
  iterate 9 (go_big_quiet_step (fail))
  go_big_quiet_step (first | (go_at_call 25; exact gr9.out _ _))
  iterate 7 (go_big_quiet_step (fail))
  refine wpQuiet_nil ?_
  intro w8 hw8
  have HB8 : Hid (Below w.heap.size w w8) := Lib.hid (below_chain HB7.out (by obtain ⟨q, rfl⟩ := hw8; exact below_regrown _ _ _))
  clear hw8
  go_wp2_with fail
  refine (rA.out _ (hT.out.below HB8.out)).mono ?_
  rintro e w9 ⟨rfl, hb9⟩
  have HB9 := Lib.hid (below_chain HB8.out hb9)
  clear hb9
  go_wp2_with fail
  refine (rB.out _ (hT.out.below HB9.out)).mono ?_
  rintro e w10 ⟨rfl, hb10⟩
  have HB10 := Lib.hid (below_chain HB9.out hb10)
  clear hb10
  go_wp2_with fail
  refine (o1.out _ (hT.out.below HB10.out)).mono ?_
  rintro e w11 ⟨rfl, hb11⟩
  have HB11 := Lib.hid (below_chain HB10.out hb11)
  clear hb11
  go_wp2_with fail
  refine (o2.out _ (hT.out.below HB11.out)).mono ?_
  rintro e w12 ⟨rfl, hb12⟩
  have HB12 := Lib.hid (below_chain HB11.out hb12)
  clear hb12
  go_wp2_with fail
  refine (o3.out _ (hT.out.below HB12.out)).mono ?_
  rintro e w13 ⟨rfl, hb13⟩
  have HB13 := Lib.hid (below_chain HB12.out hb13)
  clear hb13
  go_wp2_with fail
  refine (o4.out _ (hT.out.below HB13.out)).mono ?_
  rintro e w14 ⟨rfl, hb14⟩
  have HB14 := Lib.hid (below_chain HB13.out hb14)
  clear hb14
  go_wp2_with fail
  refine (sc1.out _ (hT.out.below HB14.out)).mono ?_
  rintro e wa ⟨va, rfl, hoa, hba⟩
  have HBa := Lib.hid (below_chain HB14.out hba)
  obtain ⟨pa, ca, hva⟩ := hoa.shape
  rw [List.length_nil] at hva
  subst hva
  clear hba hoa
  go_wp2_with fail
  refine (sc2.out _).mono ?_
  rintro e wb ⟨vb, rfl, hob, hbb⟩
  have HBb := Lib.hid (below_chain HBa.out hbb)
  obtain ⟨pb, cb, hvb⟩ := hob.shape
  rw [List.length_nil] at hvb
  subst hvb
  clear hbb hob
  go_wp2
  go_ret
  exact ⟨rfl, HBb.out⟩
theorem core (w : World) (hT : Hid (Tab w)) : Calls Tryd.prog 5 #[] w fun e w' => e = .returned (.bool true) ∧ Below w.heap.size w w' := main w hT
set_option maxRecDepth 100000 in
theorem lifted (os : Os) (started : os.Started) (H : Type) (enc : TypeId × Value → H) :
    ReturnsInHanded {} Tryd.checked os 5 .any (fun w args => (Rows.frameNamesSpec.pre enc Tryd.prog Tryd.f5 [] false w args ∧ laidMetH Tryd.prog laid w) ∧ sizedMet enc Tryd.prog Tryd.f5 (OpenSpec.ofChange Rows.frameNamesSpec) false w args)
      (Rows.frameNamesSpec.post enc Tryd.prog Tryd.f5 false true false false) := by
  refine returnsInHanded_of_change_and (C := Tryd.checked) (X := fun w _ => laidMetH Tryd.prog laid w) (fun _ _ _ hh h => h.of_heap hh) own started (by kernel_rfl) Tryd.func5
    (ChangeSpec.witness_shaped (enc := enc) (C := Tryd.checked) (os := os) (X := fun w _ => laidMetH Tryd.prog laid w) false (World.doorLaid Tryd.prog doorSteps os) #[] 8 rfl (World.shaped_of_RefB (by kernel_rfl) (by kernel_rfl)) (by kernel_rfl) (by kernel_rfl) (by kernel_rfl) (door_met os _)) ?_
  intro W base args ds gs before hval0 hW hcnd _ hL _
  have hval : ∀ (j : Nat) t v, Tryd.f5.params[j]? = some t → args[j]? = some v → Value.okWide Tryd.prog W .any base t v := hval0
  have hW' := hW
  obtain ⟨p, q, hA0, hV, rfl, hfz, hnd⟩ := hW
  have hA : DataW.TrodAll enc Tryd.prog W 0 (fun _ => true) true Tryd.f5.params.toList args.toList ds p := hA0
  rw [Tryd.params5] at hA hval
  obtain ⟨hargs, rfl, rfl⟩ := trodAll_nil hA
  obtain rfl : args = #[] := by cases args; simp_all
  obtain ⟨rfl, rfl⟩ := trodVars_none hV
  clear hA0 hval0
  refine (core   W (Lib.hid (of_laid hL))).mono fun e W' ⟨he, bel⟩ => ?_
  subst he
  exact ⟨_, rfl, _, _, _, [], _, [], hW', trodAll_mk1 (shut_bool Tryd.underlying4 _), trodAll_mk0, rfl, bel.frame _, fun h => by cases h⟩
theorem over : Rows.frameNamesRow.holds Tryd.pinned (OpenSpec.ofChange Rows.frameNamesSpec) :=
  OpenClaim.holds_of_wide 5 Tryd.f5 rfl rfl rfl rfl rfl rfl rfl ⟨rfl, rfl, rfl, rfl, rfl⟩ rfl rfl rfl rfl rfl (by kernel_rfl) Tryd.func5 (by kernel_rfl)
    (of_decide_eq_true (by kernel_rfl)) (by unfold Func.isWrapper; first | (rw [if_pos (by decide +kernel)]; kernel_rfl) | (rw [if_neg (by decide +kernel)]; exact ⟨rfl, rfl⟩))
    (fun os started H enc _ => lifted os started H enc)
theorem proved : Rows.FrameNamesCardSaid :=
  Claim7.holds_tied_plain_at .later [] [.data] true (true, "528f451f71a3945e035b345f81124441f1a1f31a8451669a6375411dc09c6830") false
    over (fun _ h => by cases h) (by kernel_rfl) (fun _ h => by cases h) frameNames_row_tie rfl ⟨rfl, rfl⟩ (by kernel_rfl) rfl
    (fun f fn hf hfn => by
      obtain rfl : f = 5 := Option.some.inj ((show Tryd.prog.funcNamed "baton/batonlaw08.FrameNames" = some 5 by kernel_rfl).symm.trans hf) |>.symm
      obtain rfl : fn = Tryd.f5 := (Option.some.inj (Tryd.func5.symm.trans hfn)).symm
      exact ⟨by kernel_rfl, fun j t ht => by
        rw [Tryd.params5] at ht
        simp at ht⟩)
    (by kernel_rfl)
end Go.Proofs.YtkbifmgddbilmaaDoor.frameNames
