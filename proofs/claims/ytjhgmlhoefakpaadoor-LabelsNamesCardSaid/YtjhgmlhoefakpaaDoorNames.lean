/- LabelsNames: the law answers true. Condition: the tables of the library read as their initialisers lay them (tied to the program's text by the card). -/
import Derived.Test.YtjhgmlhoefakpaaDoorCards
import Derived.Test.YtjhgmlhoefakpaaDoorTie
import Derived.Test.YtjhgmlhoefakpaaDoorFi
import Derived.Test.YtjhgmlhoefakpaaDoorAw
import Derived.Test.YtjhgmlhoefakpaaDoorNt
import Derived.Deep.RegionHeld3
import Derived.WalkSpells
import Derived.SevenTiedAt
import Derived.LaidMore
import Derived.Lay
import Derived.WalkKit
import Derived.ProofKit
import Derived.OpenShut
import Derived.ShutString
namespace Go.Proofs.YtjhgmlhoefakpaaDoor.labelsNames
open Go.ChangeShapes Go.WideShapes Go.ChangeAt Go.RowKit
open Go.ChangeMaps (open_string shut_string)
set_option linter.unusedVariables false
theorem bd {n m : Nat} {w a : World} (h : Below n w a) : Below n w (a.drewN m) := h.trans ⟨rfl, rfl, rfl, Nat.le_refl _, fun _ _ => rfl⟩
theorem string_1 (x : Nat) (hx : x < 256) (W : World) (g : Nat) (h : W.cell? ⟨g, 0, none⟩ = some (.int .u8 x)) :
    Sem.run Tryd.prog (convert 26 9 (.slice (some ⟨g, 0, none⟩) 1 1)) W = .ok (.string (bs [UInt8.ofNat x])) W :=
  run_string_one (UInt8.ofNat x) x (by simp; omega) W g h
def NC (s : ByteArray) (b : Bool) : Prop := ∀ W, Calls Tryd.prog 14 #[.string s] W fun e w' => e = .returned (.bool b) ∧ W = w'
theorem nc (s : ByteArray) (b : Bool) (h : mayN s.data.toList = b) : Hid (NC s b) := Lib.hid fun W => by
  have := mayN_any s W
  rw [h] at this
  exact this
def VC (s : ByteArray) (b : Bool) : Prop := ∀ W, Tab W → Calls Tryd.prog 15 #[.string s] W (Ret W (.bool b))
theorem vc (s : ByteArray) (hs : s.size ≤ 10000) (b : Bool) (h : mayV s.data.toList = b) : Hid (VC s b) := Lib.hid fun W k => by
  have := mayV_any s W (by omega) k
  rw [h] at this
  exact this
def MC (l : List Lb) (b : Bool) : Prop := ∀ v W, LAt W v l → Tab W → Calls Tryd.prog 16 #[v] W (Ret W (.bool b))
theorem mc (l : List Lb) (hl : l.length ≤ 10000) (hw : Wide l) (b : Bool) (h : mayL l = b) : Hid (MC l b) := Lib.hid fun v W k1 k2 => by
  have := mayL_any l (by omega) hw v W k1 k2
  rw [h] at this
  exact this
theorem wide_many (k : Nat) : Wide (manyL k) := fun p hp => by
  unfold manyL at hp
  obtain ⟨i, _, rfl⟩ := List.mem_map.1 hp
  exact ⟨by show (bs [UInt8.ofNat (97 + i)]).size ≤ _; rw [bs_size]; simp, by show 1 ≤ _; omega⟩
theorem wide_take {l : List Lb} (h : Wide l) (k : Nat) : Wide (l.take k) := fun p hp => h p (List.mem_of_mem_take hp)
theorem wide_two {a b : Lb} (ha : a.n.size ≤ 100 ∧ a.v.size ≤ 100) (hb : b.n.size ≤ 100 ∧ b.v.size ≤ 100) : Wide [a, b] := fun p hp => by
  rcases List.mem_cons.1 hp with rfl | hp
  · exact ⟨by omega, by omega⟩
  · rw [List.mem_singleton] at hp; subst hp; exact ⟨by omega, by omega⟩
theorem wide_one {a : Lb} (ha : a.n.size ≤ 100 ∧ a.v.size ≤ 100) : Wide [a] := fun p hp => by
  rw [List.mem_singleton] at hp; subst hp; exact ⟨by omega, by omega⟩
theorem many_size (i : Nat) : (manyN i).n.size ≤ 100 ∧ (manyN i).v.size ≤ 100 := ⟨by show (bs [UInt8.ofNat (97 + i)]).size ≤ _; rw [bs_size]; simp, by show 1 ≤ _; omega⟩
theorem lat_dr {W : World} {v : Value} {l : List Lb} (h : LAt W v l) : LAt W.drew v l := h.below (n := W.heap.size) ⟨rfl, rfl, rfl, Nat.le_refl _, fun _ _ => rfl⟩ (Nat.le_refl _)
/-- The first two labels' cells. -/
def S4 (g : Nat) (a b c d : ByteArray) (w' : World) : Prop := w'.cell? ⟨g, 0, none⟩ = some (.string a) ∧ w'.cell? ⟨g, 1, none⟩ = some (.string b) ∧ w'.cell? ⟨g, 2, none⟩ = some (.string c) ∧ w'.cell? ⟨g, 3, none⟩ = some (.string d)
theorem S4.below {g : Nat} {a b c d : ByteArray} {W W' : World} (h : S4 g a b c d W) (hb : Below W.heap.size W W') : S4 g a b c d W' := ⟨cell_later hb h.1, cell_later hb h.2.1, cell_later hb h.2.2.1, cell_later hb h.2.2.2⟩
theorem S4.alloc {g : Nat} {a b c d : ByteArray} {W : World} (h : S4 g a b c d W) (o : Obj) : S4 g a b c d (W.alloc o) := h.below (below_new W o)
theorem pars_is (s : ByteArray) (m : List Lb) (K : Nat) (hs : s.size ≤ 10000) (h : parseK s.data.toList = (m, K)) : Hid (∀ W, Tab W → Calls Tryd.prog 17 #[.string s] W fun e w' => ∃ u, e = .returned (.tuple #[u, .int .i64 (K : Int)]) ∧ Ol w' W.heap.size u m ∧ Below W.heap.size W w') := Lib.hid fun W k => by
  have := parse_any s (by omega) W k
  rw [h] at this
  exact this
set_option maxRecDepth 100000 in
set_option maxHeartbeats 16000000 in
theorem core (w : World) (hT : Hid (Tab w)) :
    Calls Tryd.prog 3 #[] w fun e w' => e = .returned (.bool true) ∧ Below w.heap.size w w' := by
  have N0 := nc _ _ n_0
  have N1 := nc _ _ n_1
  have N2 := nc _ _ n_2
  have N3 := nc _ _ n_3
  have V0 := vc _ (by decide) _ v_0
  have HB0 : Hid (Below w.heap.size w w) := Lib.hid (Below.refl _ _)
  go_enter Tryd.func3, Tryd.ntmps3
  go_wp2_with fail
  refine (awake_any _ (tab_of hT HB0)).mono ?_
  rintro e w1 ⟨rfl, hb⟩
  have HB1 : Hid (Below w.heap.size w w1) := Lib.hid (below_trans' HB0.out hb)
  clear hb
  go_wp2
  go_loopw [1, 2, 3] (fun a b i wr => ∃ (k : Nat) (L D : ByteArray), a = .string L ∧ b = .string D ∧ i = .int .i64 (k : Int) ∧ k ≤ 64 ∧ L.size ≤ 64 ∧ D.size ≤ 256 ∧ wr = w1 ∧ Hid (L = lngN k ∧ D = widN k)) (fun _ _ i _ => 64 - (intOf i).toNat)
  case atStart => exact ⟨0, { data := #[] }, { data := #[] }, rfl, rfl, rfl, by omega, by decide, by decide, rfl, Lib.hid ⟨rfl, rfl⟩⟩
  case round =>
    obtain ⟨k, L, D, rfl, rfl, rfl, hk, hL, hD, rfl, HLD⟩ := hrel
    by_cases hlt : k < 64
    · have HN : Hid (L ++ { data := #[110] } = lngN (k + 1) ∧ D ++ { data := #[240, 159, 142, 187] } = widN (k + 1)) := Lib.hid ⟨by rw [HLD.out.1, lngN_succ], by rw [HLD.out.2, widN_succ]⟩
      go_wp2
      go_roundw
      case rel => exact ⟨k + 1, _, _, rfl, rfl, by go_num, by omega, by rw [HN.out.1, lngN_size]; omega, by rw [HN.out.2, widN_size]; omega, by first | rfl | trivial, HN⟩
      case measure => (try simp [intOf]); (try omega)
    obtain rfl : k = 64 := by omega
    have L1 := nc L true (by rw [HLD.out.1]; exact lng_may)
    have L2 := nc (L ++ { data := #[110] }) false (by rw [HLD.out.1]; exact lng_not)
    have D1 := vc D (by omega) true (by rw [HLD.out.2]; exact wid_may)
    have D2 := vc (D ++ { data := #[120] }) (by rw [ByteArray.size_append]; show D.size + 1 ≤ _; omega) false (by rw [HLD.out.2]; exact wid_not)
    obtain ⟨wa, hwa⟩ : ∃ wa, wa = wr := ⟨_, rfl⟩
    subst hwa
    go_wp2_with fail
    refine (L1.out _).mono ?_
    rintro e wx ⟨rfl, rfl⟩
    go_wp2_with fail
    refine (L2.out _).mono ?_
    rintro e wx ⟨rfl, rfl⟩
    go_wp2_with fail
    refine (N0.out _).mono ?_
    rintro e wx ⟨rfl, rfl⟩
    go_wp2_with fail
    refine (N1.out _).mono ?_
    rintro e wx ⟨rfl, rfl⟩
    go_wp2_with fail
    refine (N2.out _).mono ?_
    rintro e wx ⟨rfl, rfl⟩
    go_wp2_with fail
    refine (N3.out _).mono ?_
    rintro e wx ⟨rfl, rfl⟩
    go_wp2_with fail
    refine (D1.out _ (tab_of hT HB1)).mono ?_
    rintro e w2 ⟨rfl, hb⟩
    have HB2 : Hid (Below w.heap.size w w2) := Lib.hid (below_trans' HB1.out hb)
    clear hb
    go_wp2_with fail
    refine (D2.out _ (tab_of hT HB2)).mono ?_
    rintro e w3 ⟨rfl, hb⟩
    have HB3 : Hid (Below w.heap.size w w3) := Lib.hid (below_trans' HB2.out hb)
    clear hb
    go_wp2_with fail
    refine (V0.out _ (tab_of hT HB3)).mono ?_
    rintro e w4 ⟨rfl, hb⟩
    have HB4 : Hid (Below w.heap.size w w4) := Lib.hid (below_trans' HB3.out hb)
    clear hb
    have HT := Lib.hid (Tbl.new badV_at w4 9)
    have HBa : Hid (Below w.heap.size w (w4.alloc (.cells badV_cells 9))) := Lib.hid (HB4.out.alloc HB4.out.size _)
    have HSZ : Hid (w4.heap.size < (w4.alloc (.cells badV_cells 9)).heap.size) := Lib.hid (by simp)
    go_wp2
    go_loopw [74] (fun i wr => ∃ k : Nat, i = .int .i64 (k : Int) ∧ k ≤ 11 ∧ Hid (Tbl w4.heap.size 11 badV wr) ∧ Hid (w4.heap.size < wr.heap.size) ∧ Hid (Below w.heap.size w wr)) (fun i _ => 11 - (intOf i).toNat)
    case atStart => exact ⟨0, rfl, by omega, HT, HSZ, HBa⟩
    case round =>
      clear HT HSZ HBa
      obtain ⟨k, rfl, hk, HT, HS, HBr⟩ := hrel
      by_cases hlt : k < 11
      · have hq := HT.out k hlt
        have HC := vc (badV k) (by have := badV_size k hlt; omega) _ (badV_is k hlt)
        generalize badV k = R at *
        have HB1 := HBr
        go_wp2_with fail
        refine (HC.out _ (tab_of hT HB1)).mono ?_
        rintro e w2 ⟨rfl, hb⟩
        have HB2 : Hid (Below w.heap.size w w2) := Lib.hid (below_trans' HB1.out hb)
        have HT2 := Lib.hid (HT.out.below hb HS.out)
        have HS2 : Hid (w4.heap.size < w2.heap.size) := Lib.hid (Nat.lt_of_lt_of_le HS.out hb.size)
        clear hb
        go_wp2
        go_roundw
        case rel => exact ⟨k + 1, by go_num, by omega, HT2, HS2, HB2⟩
        case measure => (try simp [intOf]); (try omega)
      have hge : decide ((k : Int) < 11) = false := decide_eq_false (by omega)
      have hgn : decide (k < 11) = false := decide_eq_false (by omega)
      obtain ⟨wb, hwn⟩ : ∃ wo, wo = wr := ⟨_, rfl⟩
      subst hwn
      have HB5 := HBr
      clear HT HS HBr hk
      have HT := Lib.hid (Tbl.new goodV_at wb 9)
      have HBa : Hid (Below w.heap.size w (wb.alloc (.cells goodV_cells 9))) := Lib.hid (HB5.out.alloc HB5.out.size _)
      have HSZ : Hid (wb.heap.size < (wb.alloc (.cells goodV_cells 9)).heap.size) := Lib.hid (by simp)
      go_wp2
      go_loopw [83] (fun i wr => ∃ k : Nat, i = .int .i64 (k : Int) ∧ k ≤ 6 ∧ Hid (Tbl wb.heap.size 6 goodV wr) ∧ Hid (wb.heap.size < wr.heap.size) ∧ Hid (Below w.heap.size w wr)) (fun i _ => 6 - (intOf i).toNat)
      case atStart => exact ⟨0, rfl, by omega, HT, HSZ, HBa⟩
      case round =>
        clear HT HSZ HBa
        obtain ⟨k, rfl, hk, HT, HS, HBr⟩ := hrel
        by_cases hlt : k < 6
        · have hq := HT.out k hlt
          have HC := vc (goodV k) (by have := goodV_size k hlt; omega) _ (goodV_is k hlt)
          generalize goodV k = R at *
          have HB1 := HBr
          go_wp2_with fail
          refine (HC.out _ (tab_of hT HB1)).mono ?_
          rintro e w2 ⟨rfl, hb⟩
          have HB2 : Hid (Below w.heap.size w w2) := Lib.hid (below_trans' HB1.out hb)
          have HT2 := Lib.hid (HT.out.below hb HS.out)
          have HS2 : Hid (wb.heap.size < w2.heap.size) := Lib.hid (Nat.lt_of_lt_of_le HS.out hb.size)
          clear hb
          go_wp2
          go_roundw
          case rel => exact ⟨k + 1, by go_num, by omega, HT2, HS2, HB2⟩
          case measure => (try simp [intOf]); (try omega)
        have hge : decide ((k : Int) < 6) = false := decide_eq_false (by omega)
        have hgn : decide (k < 6) = false := decide_eq_false (by omega)
        obtain ⟨wc, hwn⟩ : ∃ wo, wo = wr := ⟨_, rfl⟩
        subst hwn
        have HB6 := HBr
        clear HT HS HBr hk
        go_wp2
        go_loopw [8, 9] (fun u i wr => ∃ k : Nat, i = .int .i64 (k : Int) ∧ k ≤ 17 ∧ Hid (Ol wr w.heap.size u (manyL k)) ∧ Hid (Below w.heap.size w wr)) (fun _ i _ => 17 - (intOf i).toNat)
        case atStart => exact ⟨0, rfl, by omega, Lib.hid (ol_nil _ _), HB6⟩
        case round =>
          obtain ⟨k, rfl, hk, HO, HBr⟩ := hrel
          by_cases hlt : k < 17
          · obtain ⟨X, hX⟩ : ∃ X, 97 + k = X := ⟨_, rfl⟩
            have hXz : (97 : Int) + (k : Int) = (X : Int) := by omega
            have hX2 : X < 256 := by omega
            obtain ⟨S, hS⟩ : ∃ S, bs [UInt8.ofNat X] = S := ⟨_, rfl⟩
            have hSz : S.size ≤ 1 := by rw [← hS, bs_size]; simp
            have hcv := fun W (h : W.cell? ⟨wr.heap.size, 0, none⟩ = some (.int .u8 (X : Int))) => string_1 X hX2 W wr.heap.size h
            rw [hS] at hcv
            have HM : Hid (manyL (k + 1) = manyL k ++ [⟨S, { data := #[118] }⟩]) := Lib.hid (by rw [← manyL_succ, ← hS, ← hX]; rfl)
            have HLn : Hid ((manyL k).length ≤ 17) := Lib.hid (by rw [manyL_len]; exact hk)
            obtain ⟨ao, ac, hu⟩ := HO.out.shape
            rw [manyL_len] at hu
            subst hu
            clear hS hX
            go_wp2_with (at_builtin; refine wpList_append_l _ _ rfl rfl w.heap.size _ (manyL k) rfl (HO.out.below (((Below.refl wr.heap.size wr).alloc (Nat.le_refl _) _).alloc (by simp) _) (Nat.le_refl _)) _ [⟨S, { data := #[118] }⟩] rfl (.inr ⟨_, 0, 1, rfl, fun j hj => ?cz⟩) (by have := HLn.out; simp; omega) (by have := HBr.out.size; simp; omega) ?_)
            case cz =>
              obtain rfl : j = 0 := by simp at hj; omega
              exact ⟨by simp, by simp⟩
            intro v' w4 hown hgr hblk
            have HO4 := Lib.hid hown
            have HB4 : Hid (Below w.heap.size w w4) := Lib.hid (((HBr.out.alloc HBr.out.size (.cells #[.int .u8 X] 5)).alloc (by have := HBr.out.size; simp; omega) (.cells #[.string S, .string { data := #[118] }] 28)).trans (below_grown hgr (by have := HBr.out.size; simp; omega) (fun g hg => (own_lt HO.out g hg).1)))
            clear hown hgr hblk
            go_wp2
            go_roundw
            case rel => exact ⟨k + 1, by go_num, by omega, Lib.hid (by rw [HM.out]; exact HO4.out), HB4⟩
            case measure => (try simp [intOf]); (try omega)
          have h17 : k = 17 := by omega
          have hge : decide ((k : Int) < 17) = false := decide_eq_false (by omega)
          have hgn : decide (k < 17) = false := decide_eq_false (by omega)
          have HO17 : Hid (Ol wr w.heap.size u8 (manyL 17)) := Lib.hid (by rw [← h17]; exact HO.out)
          clear HO h17
          have HO := HO17
          clear HO17
          obtain ⟨wd, hwn⟩ : ∃ wo, wo = wr := ⟨_, rfl⟩
          subst hwn
          have HB7 := HBr
          clear HBr hk
          have A17 : LAt wd u8 (manyL 17) := HO.out.at
          have hcap : ∃ g C, u8 = .slice (some ⟨g, 0, none⟩) 17 C ∧ 17 ≤ C ∧ C ≤ maxLen := by
            have h := HO.out
            unfold Ol at h
            rw [manyL_len] at h
            rcases h.2 with ⟨_, hn⟩ | ⟨g, cap, cur, hv, _, _, hle, hm, _⟩
            · exact absurd hn (by decide)
            · exact ⟨g, cap, hv, hle, hm⟩
          obtain ⟨g, C, hu, hC17, hCm⟩ := hcap
          subst hu
          unfold maxLen at hCm
          have A16 : LAt wd (.slice (some ⟨g, 0, none⟩) 16 C) ((manyL 17).take 16) := by
            have h2 : LAt wd (.slice (some ⟨g, 0, none⟩) (manyL 17).length C) (manyL 17) := by rw [manyL_len]; exact A17
            exact lat_take h2 16 C (by rw [manyL_len]; omega)
          have M16 := mc _ (by rw [List.length_take]; omega) (wide_take (wide_many 17) 16) _ many_16
          have M17 := mc _ (by rw [manyL_len]; omega) (wide_many 17) _ many_17
          have MN := mc [] (by simp) (fun p hp => by cases hp) _ may_nil
          have M00 := mc _ (by simp) (wide_two (many_size 0) (many_size 0)) _ may_00
          have M10 := mc _ (by simp) (wide_two (many_size 1) (many_size 0)) _ may_10
          have MA := mc _ (by simp) (wide_one ⟨by decide, by decide⟩) _ may_a
          have MV := mc _ (by simp) (wide_one ⟨by decide, by decide⟩) _ may_v
          have e0 : manyN 0 = ⟨bs [UInt8.ofNat 97], { data := #[118] }⟩ := rfl
          have e1 : manyN 1 = ⟨bs [UInt8.ofNat 98], { data := #[118] }⟩ := rfl
          have K0 : S4 g (bs [UInt8.ofNat 97]) { data := #[118] } (bs [UInt8.ofNat 98]) { data := #[118] } wd := by
            rcases A17 with ⟨h0, _⟩ | ⟨g2, o2, c2, hg2, hcs⟩
            · exact absurd (congrArg List.length h0) (by rw [manyL_len]; decide)
            · cases hg2
              have q0 := hcs 0 (by rw [manyL_len]; decide)
              have q1 := hcs 1 (by rw [manyL_len]; decide)
              exact ⟨q0.1, q0.2, q1.1, q1.2⟩
          rw [e0] at M00
          rw [e0, e1] at M10
          generalize bs [UInt8.ofNat 97] = X0 at *
          generalize bs [UInt8.ofNat 98] = X1 at *
          have A16h := Lib.hid A16
          have A17h := Lib.hid A17
          have hC16 : (16 : Int) ≤ (C : Int) := by omega
          have hC17z : (17 : Int) ≤ (C : Int) := by omega
          have HO8 := HO
          clear A16 A17 e0 e1 HO
          have HR0 := HB7
          have k0 := K0
          clear K0
          go_wp2_with fail
          try simp only [List.append_eq, List.cons_append, List.nil_append]
          go_region_held3 (fun w' => w'.cell? ⟨g, 0, none⟩ = some (.string X0) ∧ w'.cell? ⟨g, 1, none⟩ = some (.string { data := #[118] }) ∧ w'.cell? ⟨g, 2, none⟩ = some (.string X1) ∧ w'.cell? ⟨g, 3, none⟩ = some (.string { data := #[118] })) (first | exact k0 | exact k1 | exact k2 | exact k3 | exact k3.alloc _ | exact k4 | exact k4.alloc _ | exact k5 | exact k5.alloc _ | exact k6 | exact k6.alloc _ | exact k7) (first
            | (have hx := HR6; clear hx; go_at_call 16; refine (MV.out _ _ (by exact (lat_one wr6 ⟨{ data := #[] }, { data := #[97] }⟩)) (by exact ((tab_of hT HR6).below (below_new wr6 _) (Nat.le_refl _)))).mono ?_; rintro e wr7 ⟨rfl, hb⟩; have hb2 : Below (wr6.alloc (.cells #[.string { data := #[] }, .string { data := #[97] }] 28)).heap.size (wr6.alloc (.cells #[.string { data := #[] }, .string { data := #[97] }] 28)) wr7 := ⟨hb.os, hb.tape, hb.output, hb.size, hb.block⟩; have HR7 : Hid (Below w.heap.size w wr7) := Lib.hid (below_trans' (HR6.out.alloc HR6.out.size _) hb2); have k7 := (k6.alloc (.cells #[.string { data := #[] }, .string { data := #[97] }] 28)).below hb2; clear hb hb2)
            | (have hx := HR5; clear hx; go_at_call 16; refine (MA.out _ _ (by exact (lat_one wr5 ⟨{ data := #[97] }, { data := #[] }⟩)) (by exact ((tab_of hT HR5).below (below_new wr5 _) (Nat.le_refl _)))).mono ?_; rintro e wr6 ⟨rfl, hb⟩; have hb2 : Below (wr5.alloc (.cells #[.string { data := #[97] }, .string { data := #[] }] 28)).heap.size (wr5.alloc (.cells #[.string { data := #[97] }, .string { data := #[] }] 28)) wr6 := ⟨hb.os, hb.tape, hb.output, hb.size, hb.block⟩; have HR6 : Hid (Below w.heap.size w wr6) := Lib.hid (below_trans' (HR5.out.alloc HR5.out.size _) hb2); have k6 := (k5.alloc (.cells #[.string { data := #[97] }, .string { data := #[] }] 28)).below hb2; clear hb hb2)
            | (have hx := HR4; clear hx; go_at_call 16; refine (M10.out _ _ (by exact (lat_two wr4 ⟨X1, { data := #[118] }⟩ ⟨X0, { data := #[118] }⟩)) (by exact ((tab_of hT HR4).below (below_new wr4 _) (Nat.le_refl _)))).mono ?_; rintro e wr5 ⟨rfl, hb⟩; have hb2 : Below (wr4.alloc (.cells #[.string X1, .string { data := #[118] }, .string X0, .string { data := #[118] }] 28)).heap.size (wr4.alloc (.cells #[.string X1, .string { data := #[118] }, .string X0, .string { data := #[118] }] 28)) wr5 := ⟨hb.os, hb.tape, hb.output, hb.size, hb.block⟩; have HR5 : Hid (Below w.heap.size w wr5) := Lib.hid (below_trans' (HR4.out.alloc HR4.out.size _) hb2); have k5 := (k4.alloc (.cells #[.string X1, .string { data := #[118] }, .string X0, .string { data := #[118] }] 28)).below hb2; clear hb hb2)
            | (have hx := HR3; clear hx; go_at_call 16; refine (M00.out _ _ (by exact (lat_two wr3 ⟨X0, { data := #[118] }⟩ ⟨X0, { data := #[118] }⟩)) (by exact ((tab_of hT HR3).below (below_new wr3 _) (Nat.le_refl _)))).mono ?_; rintro e wr4 ⟨rfl, hb⟩; have hb2 : Below (wr3.alloc (.cells #[.string X0, .string { data := #[118] }, .string X0, .string { data := #[118] }] 28)).heap.size (wr3.alloc (.cells #[.string X0, .string { data := #[118] }, .string X0, .string { data := #[118] }] 28)) wr4 := ⟨hb.os, hb.tape, hb.output, hb.size, hb.block⟩; have HR4 : Hid (Below w.heap.size w wr4) := Lib.hid (below_trans' (HR3.out.alloc HR3.out.size _) hb2); have k4 := (k3.alloc (.cells #[.string X0, .string { data := #[118] }, .string X0, .string { data := #[118] }] 28)).below hb2; clear hb hb2)
            | (have hx := HR2; clear hx; go_at_call 16; refine (MN.out _ _ (by exact (LAt.nil _)) (by exact ((tab_of hT HR2)))).mono ?_; rintro e wr3 ⟨rfl, hb⟩; have hb2 : Below wr2.heap.size wr2 wr3 := ⟨hb.os, hb.tape, hb.output, hb.size, hb.block⟩; have HR3 : Hid (Below w.heap.size w wr3) := Lib.hid (below_trans' HR2.out hb2); have k3 := k2.below hb2; clear hb hb2)
            | (have hx := HR1; clear hx; go_at_call 16; refine (M17.out _ _ (by exact A17i.out) (by exact ((tab_of hT HR1)))).mono ?_; rintro e wr2 ⟨rfl, hb⟩; have hb2 : Below wr1.heap.size wr1 wr2 := ⟨hb.os, hb.tape, hb.output, hb.size, hb.block⟩; have HR2 : Hid (Below w.heap.size w wr2) := Lib.hid (below_trans' HR1.out hb2); have k2 := k1.below hb2; clear hb hb2)
            | (have hx := HR0; clear hx; go_at_call 16; refine (M16.out _ _ (by exact (lat_dr A16h.out)) (by exact (tab_of hT HR0).below (n := wd.heap.size) ⟨rfl, rfl, rfl, Nat.le_refl _, fun _ _ => rfl⟩ (Nat.le_refl _))).mono ?_; rintro e wr1 ⟨rfl, hb⟩; have hb2 : Below wd.heap.size wd wr1 := ⟨hb.os, hb.tape, hb.output, hb.size, hb.block⟩; have HR1 : Hid (Below w.heap.size w wr1) := Lib.hid (below_trans' HR0.out hb2); have k1 := k0.below hb2; have A17i := Lib.hid (A17h.out.below hb2 (Nat.le_refl _)); clear hb hb2))
          have HB8 := HR7
          obtain ⟨we, hwn⟩ : ∃ wo, wo = wr7 := ⟨_, rfl⟩
          subst hwn
          clear HR0 HR1 HR2 HR3 HR4 HR5 HR6 HR7 k0 k1 k2 k3 k4 k5 k6 k7
          have HT := Lib.hid (Tbl.new notS_at we 9)
          have HBa : Hid (Below w.heap.size w (we.alloc (.cells notS_cells 9))) := Lib.hid (HB8.out.alloc HB8.out.size _)
          have HSZ : Hid (we.heap.size < (we.alloc (.cells notS_cells 9)).heap.size) := Lib.hid (by simp)
          go_wp2
          go_loopw [147] (fun i wr => ∃ k : Nat, i = .int .i64 (k : Int) ∧ k ≤ 30 ∧ Hid (Tbl we.heap.size 30 notS wr) ∧ Hid (we.heap.size < wr.heap.size) ∧ Hid (Below w.heap.size w wr)) (fun i _ => 30 - (intOf i).toNat)
          case atStart => exact ⟨0, rfl, by omega, HT, HSZ, HBa⟩
          case round =>
            clear HT HSZ HBa
            obtain ⟨k, rfl, hk, HT, HS, HBr⟩ := hrel
            by_cases hlt : k < 30
            · have hq := HT.out k hlt
              have HC := pars_is (notS k) _ _ (by have := notS_size k hlt; omega) (notS_is k hlt)
              generalize notS k = R at *
              have HB1 := HBr
              go_wp2_with fail
              refine (HC.out _ (tab_of hT HB1)).mono ?_
              rintro e w2 ⟨u, rfl, ho, hb⟩
              obtain ⟨ud, uc, hu⟩ := ho.shape
              subst hu
              have HB2 : Hid (Below w.heap.size w w2) := Lib.hid (below_trans' HB1.out hb)
              have HT2 := Lib.hid (HT.out.below hb HS.out)
              have HS2 : Hid (we.heap.size < w2.heap.size) := Lib.hid (Nat.lt_of_lt_of_le HS.out hb.size)
              clear hb
              go_wp2
              go_roundw
              case rel => exact ⟨k + 1, by go_num, by omega, HT2, HS2, HB2⟩
              case measure => (try simp [intOf]); (try omega)
            have hge : decide ((k : Int) < 30) = false := decide_eq_false (by omega)
            have hgn : decide (k < 30) = false := decide_eq_false (by omega)
            obtain ⟨wf, hwn⟩ : ∃ wo, wo = wr := ⟨_, rfl⟩
            subst hwn
            have HB9 := HBr
            clear HT HS HBr hk
            have PT := pars_is _ _ _ (by decide) par_two
            have ST : Hid (∀ v W, LAt W v two → Tab W → Calls Tryd.prog 18 #[v] W (Ret W (.tuple #[.string { data := #[123, 97, 61, 34, 65, 92, 34, 92, 92, 92, 117, 123, 49, 102, 51, 98, 98, 125, 34, 44, 98, 61, 34, 61, 44, 125, 34, 125] }, .int .i64 ((0 : Nat) : Int)]))) := Lib.hid (fun v W h k => show_yes two _ (by decide) (wide_two ⟨by decide, by decide⟩ ⟨by decide, by decide⟩) sh_two v W h k)
            have SN := Lib.hid (fun v W (h : LAt W v []) (k : Tab W) => show_not [] (by simp) (fun p hp => by cases hp) sh_nil v W h k)
            have F0 := Lib.hid (fun W (k : Tab W) => of_is _ _ _ (by decide) of_0 W k)
            have F1 := Lib.hid (fun W (k : Tab W) => of_is _ _ _ (by decide) of_1 W k)
            have F2 := Lib.hid (fun W (k : Tab W) => of_is _ _ _ (by decide) of_2 W k)
            have F3 := Lib.hid (fun W (k : Tab W) => of_is _ _ _ (by decide) of_3 W k)
            go_wp2_with fail
            refine (PT.out _ (tab_of hT HB9)).mono ?_
            rintro e w10 ⟨ul, rfl, ho, hb⟩
            have HB10 : Hid (Below w.heap.size w w10) := Lib.hid (below_trans' HB9.out hb)
            have HLo := Lib.hid ho
            have HL_10 := Lib.hid ho.at
            have HLw_10 := Lib.hid ho.wr
            clear ho hb
            obtain ⟨ud, uc, hul⟩ := HLo.out.shape
            rw [show two.length = 2 from rfl] at hul
            subst hul
            go_wp2_with fail
            refine (ST.out _ _ HL_10.out (tab_of hT HB10)).mono ?_
            rintro e w11 ⟨rfl, hb⟩
            have HB11 : Hid (Below w.heap.size w w11) := Lib.hid (below_trans' HB10.out hb)
            have HL_11 := Lib.hid (HL_10.out.below hb (Nat.le_refl _))
            have HLw_11 := Lib.hid (HLw_10.out.below hb (Nat.le_refl _))
            clear hb
            go_wp2_with fail
            refine (SN.out _ _ (LAt.nil _) (tab_of hT HB11)).mono ?_
            rintro e w12 ⟨rfl, hb⟩
            have HB12 : Hid (Below w.heap.size w w12) := Lib.hid (below_trans' HB11.out hb)
            have HL_12 := Lib.hid (HL_11.out.below hb (Nat.le_refl _))
            have HLw_12 := Lib.hid (HLw_11.out.below hb (Nat.le_refl _))
            clear hb
            go_wp2_with fail
            refine (F0.out _ (tab_of hT HB12)).mono ?_
            rintro e w13 ⟨uf0, rfl, ho, hb⟩
            have HB13 : Hid (Below w.heap.size w w13) := Lib.hid (below_trans' HB12.out hb)
            have HL_13 := Lib.hid (HL_12.out.below hb (Nat.le_refl _))
            have HLw_13 := Lib.hid (HLw_12.out.below hb (Nat.le_refl _))
            have HF0o := Lib.hid ho
            have HF0_13 := Lib.hid ho.at
            have HF0w_13 := Lib.hid ho.wr
            clear ho hb
            go_wp2_with fail
            refine (F1.out _ (tab_of hT HB13)).mono ?_
            rintro e w14 ⟨uf1, rfl, ho, hb⟩
            have HB14 : Hid (Below w.heap.size w w14) := Lib.hid (below_trans' HB13.out hb)
            have HL_14 := Lib.hid (HL_13.out.below hb (Nat.le_refl _))
            have HLw_14 := Lib.hid (HLw_13.out.below hb (Nat.le_refl _))
            have HF0_14 := Lib.hid (HF0_13.out.below hb (Nat.le_refl _))
            have HF0w_14 := Lib.hid (HF0w_13.out.below hb (Nat.le_refl _))
            have HF1o := Lib.hid ho
            have HF1_14 := Lib.hid ho.at
            have HF1w_14 := Lib.hid ho.wr
            clear ho hb
            go_wp2_with fail
            refine (F2.out _ (tab_of hT HB14)).mono ?_
            rintro e w15 ⟨uf2, rfl, ho, hb⟩
            have HB15 : Hid (Below w.heap.size w w15) := Lib.hid (below_trans' HB14.out hb)
            have HL_15 := Lib.hid (HL_14.out.below hb (Nat.le_refl _))
            have HLw_15 := Lib.hid (HLw_14.out.below hb (Nat.le_refl _))
            have HF0_15 := Lib.hid (HF0_14.out.below hb (Nat.le_refl _))
            have HF0w_15 := Lib.hid (HF0w_14.out.below hb (Nat.le_refl _))
            have HF1_15 := Lib.hid (HF1_14.out.below hb (Nat.le_refl _))
            have HF1w_15 := Lib.hid (HF1w_14.out.below hb (Nat.le_refl _))
            have HF2o := Lib.hid ho
            have HF2_15 := Lib.hid ho.at
            have HF2w_15 := Lib.hid ho.wr
            clear ho hb
            go_wp2_with fail
            refine (F3.out _ (tab_of hT HB15)).mono ?_
            rintro e w16 ⟨uf3, rfl, ho, hb⟩
            have HB16 : Hid (Below w.heap.size w w16) := Lib.hid (below_trans' HB15.out hb)
            have HL_16 := Lib.hid (HL_15.out.below hb (Nat.le_refl _))
            have HLw_16 := Lib.hid (HLw_15.out.below hb (Nat.le_refl _))
            have HF0_16 := Lib.hid (HF0_15.out.below hb (Nat.le_refl _))
            have HF0w_16 := Lib.hid (HF0w_15.out.below hb (Nat.le_refl _))
            have HF1_16 := Lib.hid (HF1_15.out.below hb (Nat.le_refl _))
            have HF1w_16 := Lib.hid (HF1w_15.out.below hb (Nat.le_refl _))
            have HF2_16 := Lib.hid (HF2_15.out.below hb (Nat.le_refl _))
            have HF2w_16 := Lib.hid (HF2w_15.out.below hb (Nat.le_refl _))
            have HF3o := Lib.hid ho
            have HF3_16 := Lib.hid ho.at
            have HF3w_16 := Lib.hid ho.wr
            clear ho hb
            rcases HL_16.out with ⟨h0, _⟩ | ⟨g2, o2, c2, hg2, hcs⟩
            · cases h0
            have p0 := (hcs 0 (by decide)).2
            have p1 := (hcs 1 (by decide)).2
            cases hg2
            have p0' : w16.cell? ⟨g2, o2 + 1, none⟩ = some (.string two[0].v) := p0
            have p1' : w16.cell? ⟨g2, o2 + 2 + 1, none⟩ = some (.string two[1].v) := p1
            have p1'' : w16.cell? ⟨g2, o2 + 3, none⟩ = some (.string two[1].v) := p1
            rw [show two[0].v = _ from rfl] at p0'
            clear hcs p0 p1
            unfold two at p0' p1' p1''
            dsimp only [List.getElem_cons_zero, List.getElem_cons_succ] at p0' p1' p1'' 
            go_wp2
            go_ret
            exact ⟨rfl, HB16.out⟩
set_option maxRecDepth 100000 in
theorem lifted (os : Os) (started : os.Started) (H : Type) (enc : TypeId × Value → H) :
    ReturnsInHanded {} Tryd.checked os 3 .any (fun w args => (Rows.labelsNamesSpec.pre enc Tryd.prog Tryd.f3 [] false w args ∧ laidMetH Tryd.prog laid w) ∧ sizedMet enc Tryd.prog Tryd.f3 (OpenSpec.ofChange Rows.labelsNamesSpec) false w args)
      (Rows.labelsNamesSpec.post enc Tryd.prog Tryd.f3 false true false false) := by
  refine returnsInHanded_of_change_and (C := Tryd.checked) (X := fun w _ => laidMetH Tryd.prog laid w) (fun _ _ _ hh h => h.of_heap hh) own started (by kernel_rfl) Tryd.func3
    (ChangeSpec.witness_shaped (enc := enc) (C := Tryd.checked) (os := os) (X := fun w _ => laidMetH Tryd.prog laid w) false (World.laidAll Tryd.prog os laid) #[] 8 (World.laidAll_os _ _ _) (World.shaped_of_ZipB (by kernel_rfl) (by kernel_rfl)) (by kernel_rfl) (by kernel_rfl) (by kernel_rfl) (door_met os _)) ?_
  intro W base args ds gs before hval0 hW hcnd _ hL _
  have hval : ∀ (j : Nat) t v, Tryd.f3.params[j]? = some t → args[j]? = some v → Value.okWide Tryd.prog W .any base t v := hval0
  have hW' := hW
  obtain ⟨p, q, hA0, hV, rfl, hfz, hnd⟩ := hW
  have hA : DataW.TrodAll enc Tryd.prog W 0 (fun _ => true) true Tryd.f3.params.toList args.toList ds p := hA0
  rw [Tryd.params3] at hA hval
  obtain ⟨hargs, rfl, rfl⟩ := trodAll_nil hA
  obtain rfl : args = #[] := by cases args; simp_all
  obtain ⟨rfl, rfl⟩ := trodVars_none hV
  clear hA0 hval0
  refine (core  W  (Lib.hid (of_laid hL))).mono fun e W' ⟨he, bel⟩ => ?_
  subst he
  exact ⟨_, rfl, _, _, _, [], _, [], hW', trodAll_mk1 (shut_bool Tryd.underlying4 _), trodAll_mk0, rfl, bel.frame _, fun h => by cases h⟩
theorem over : Rows.labelsNamesRow.holds Tryd.pinned (OpenSpec.ofChange Rows.labelsNamesSpec) :=
  OpenClaim.holds_of_wide 3 Tryd.f3 rfl rfl rfl rfl rfl rfl rfl ⟨rfl, rfl, rfl, rfl, rfl⟩ rfl rfl rfl rfl rfl (by kernel_rfl) Tryd.func3 (by kernel_rfl)
    (of_decide_eq_true (by kernel_rfl)) (by unfold Func.isWrapper; first | (rw [if_pos (by decide +kernel)]; kernel_rfl) | (rw [if_neg (by decide +kernel)]; exact ⟨rfl, rfl⟩))
    (fun os started H enc _ => lifted os started H enc)
theorem proved : Rows.LabelsNamesCardSaid :=
  Claim7.holds_tied_plain_at .later [] [.data, .data, .data, .data, .pinned] true (true, "29d8eb039746b622064e7fdd6be2e3716893f65b16f6a8010a72416b636b660b") false
    over (fun _ h => by cases h) (by kernel_rfl) (fun _ h => by cases h) labelsNames_row_tie rfl ⟨rfl, rfl⟩ (by kernel_rfl) rfl
    (fun f fn hf hfn => by
      obtain rfl : f = 3 := Option.some.inj ((show Tryd.prog.funcNamed "baton/batonlaw05.LabelsNames" = some 3 by kernel_rfl).symm.trans hf) |>.symm
      obtain rfl : fn = Tryd.f3 := (Option.some.inj (Tryd.func3.symm.trans hfn)).symm
      exact ⟨by kernel_rfl, fun j t ht => by
        rw [Tryd.params3] at ht
        simp at ht⟩)
    (by kernel_rfl)
end Go.Proofs.YtjhgmlhoefakpaaDoor.labelsNames
