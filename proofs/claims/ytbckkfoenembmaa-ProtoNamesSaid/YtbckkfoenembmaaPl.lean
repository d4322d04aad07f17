/- The contract of the law's plain. -/
import Derived.Test.YtbckkfoenembmaaDr
import Derived.Test.YtbckkfoenembmaaRp
namespace Go.Proofs.Ytbckkfoenembmaa
open Go.RowKit
/-- A field of the program as a plain one. -/
def plain1 (f : Gf) : Ff := match f.v with
  | .va n => ⟨f.n, 0, n, ⟨#[]⟩⟩
  | .ei n => ⟨f.n, 1, n, ⟨#[]⟩⟩
  | .tx t => ⟨f.n, 2, 0, t⟩
  | .fo n => ⟨f.n, 5, n, ⟨#[]⟩⟩
  | _ => ⟨f.n, 9, 0, ⟨#[]⟩⟩
set_option maxRecDepth 100000 in
set_option maxHeartbeats 3000000 in
theorem plain_any (l : List Gf) (hl : l.length ≤ 1000000) (hok : ∀ f ∈ l, f.v.ok) (v : Value) (w : World) (hv : GAt w v l) :
    Calls Try.prog 16 #[v] w (fun e w' => ∃ v', e = .returned v' ∧ Of w' w.heap.size v' (l.map plain1) ∧ Below w.heap.size w w') := by
  obtain ⟨i0, hi, hz0, hz1, hz2⟩ := info_parts Try.info47
  have HV := Lib.hid hv
  have HOK := Lib.hid hok
  obtain ⟨va, vc, hv2⟩ := hv.slice
  clear hv hok
  generalize hL : l.length = L at *
  have HL := Lib.hid hL
  clear hL
  subst hv2
  go_enter Try.func16, Try.ntmps16
  go_wp2
  go_loopw [3, 4] (fun u i wr => ∃ (k : Nat) (gs : List Ff), i = .int .i64 (k : Int) ∧ k ≤ L ∧ gs.length = k ∧ Hid ((l.take k).map plain1 = gs) ∧ Hid (Of wr w.heap.size u gs) ∧ Hid (Below w.heap.size w wr)) (fun _ i _ => L - (intOf i).toNat)
  case atStart => exact ⟨0, [], rfl, by omega, rfl, Lib.hid (by simp), Lib.hid (World.ownsRow_nil _ _ _ _), Lib.hid (Below.refl _ _)⟩
  case round =>
    obtain ⟨k, gs, rfl, hk, hgl, HGS, HO, HB⟩ := hrel
    have HGL := Lib.hid hgl
    clear hgl
    obtain ⟨ua, uc, hu⟩ := (HO.out).shape
    subst hu
    by_cases hlt : k < L
    · have hkl : k < l.length := by have := HL.out; omega
      rcases (HV.out.below HB.out (Nat.le_refl _)) with ⟨h0, _⟩ | ⟨g, og, cg, hg, hcs⟩
      · have := HL.out; rw [h0] at this; simp at this; omega
      obtain ⟨q0, q1⟩ := hcs k hkl
      have hglt := World.block_lt_of_cell? wr ⟨g, _, none⟩ q0
      have hfo := HOK.out l[k] (List.getElem_mem hkl)
      have HMF : Hid ((l.take (k + 1)).map plain1 = gs ++ [plain1 l[k]]) := Lib.hid (by
        rw [List.take_succ_eq_append_getElem hkl, List.map_append, HGS.out]
        rfl)
      clear hcs
      generalize l[k] = f at *
      obtain ⟨n, x⟩ := f
      dsimp only at hfo q0 q1
      have Q1 : ∀ o, (wr.alloc o).cell? ⟨g, og + k * 2 + 1, none⟩ = some x.v := fun o => (World.cell?_of_block (a := ⟨g, og + k * 2 + 1, none⟩) (heap_alloc_old wr o hglt)).trans q1
      have hgl2 : gs.length ≤ 1000000 := by have := HGL.out; omega
      have HGN : Hid ((gs ++ [plain1 ⟨n, x⟩]).length = k + 1) := Lib.hid (by rw [List.length_append, List.length_singleton, HGL.out])
      have A1 := fun W => asV_any x W
      have A2 := fun W => asE_any x W
      have A3 := fun W => asT_any x W
      have A4 := fun W => asF_any x W
      have HSZ : Hid (w.heap.size ≤ wr.heap.size) := Lib.hid HB.out.size
      cases hg
      cases x with
      | no =>
        unfold asV at A1; unfold asE at A2; unfold asT at A3; unfold asF at A4
        dsimp only at A1 A2 A3 A4
        have H1 := Lib.hid A1; have H2 := Lib.hid A2; have H3 := Lib.hid A3; have H4 := Lib.hid A4
        have hfv : fv (plain1 ⟨n, .no⟩) = .agg #[.int .i64 n, .int .u8 9, .int .u64 0, .string ⟨#[]⟩] := rfl
        have HSN := Lib.hid (fun (W : World) (v' : Value) (h : W.ownsRow w.heap.size 47 4 v' (gs.length + 1) (cells4 gs ++ [.int .i64 n, .int .u8 9, .int .u64 0, .string ⟨#[]⟩])) => (of_snoc hfv h : Of W w.heap.size v' (gs ++ [plain1 ⟨n, .no⟩])))
        clear A1 A2 A3 A4 hfv
        generalize gs ++ [plain1 ⟨n, .no⟩] = gsn at *
        generalize Vl.v _ = V at *
        clear hfo
        go_wp2_with (first
          | (go_at_call 46; refine (H1.out _).mono ?_; rintro e w' ⟨rfl, rfl⟩)
          | (go_at_call 57; refine (H2.out _).mono ?_; rintro e w' ⟨rfl, rfl⟩)
          | (go_at_call 47; refine (H3.out _).mono ?_; rintro e w' ⟨rfl, rfl⟩)
          | (go_at_call 58; refine (H4.out _).mono ?_; rintro e w' ⟨rfl, rfl⟩)
          | (at_builtin; refine wpList_append_own_at _ rfl (.tmp 76) (.tmp 78) 23 rfl w.heap.size 47 i0 _ 4 40 Try.underlying23 hi hz0 hz1 hz2 (by rfl) (by decide) (.slice ua gs.length uc) gs.length (cells4 gs) rfl (World.ownsRow.alloc (World.ownsRow.alloc HO.out _) _) ⟨wr.heap.size + 1, 0, none⟩ 1 1 [.int .i64 n, .int .u8 9, .int .u64 0, .string ⟨#[]⟩] rfl rfl (cells_new41 _ _ _ _ _ _ _) one4 (by unfold maxLen; omega) (by omega) (by have := HSZ.out; simp; omega) ?_; intro v' w6 hown' hgrow hnil hloc; have HON := Lib.hid (HSN.out _ _ hown'); have HB6 := Lib.hid (((HB.out.alloc HB.out.size (.cells #[.int .i64 n, .int .u8 9, .int .u64 0, .string ⟨#[]⟩] 47)).alloc (by have := HSZ.out; simp; omega) (.cells #[.int .i64 n, .int .u8 9, .int .u64 0, .string ⟨#[]⟩] 47)).grown hgrow (by have := HSZ.out; simp; omega) (fun g hg => (own_lt HO.out g hg).1)); clear hown' hgrow hnil hloc))
        go_roundw
        case rel => exact ⟨k + 1, gsn, by go_num, by omega, HGN.out, HMF, HON, HB6⟩
        case measure => simp [intOf]; omega
      | va m =>
        unfold asV at A1; unfold asE at A2; unfold asT at A3; unfold asF at A4
        dsimp only at A1 A2 A3 A4
        have H1 := Lib.hid A1; have H2 := Lib.hid A2; have H3 := Lib.hid A3; have H4 := Lib.hid A4
        have hfv : fv (plain1 ⟨n, .va m⟩) = .agg #[.int .i64 n, .int .u8 0, .int .u64 (m : Int), .string ⟨#[]⟩] := rfl
        have HSN := Lib.hid (fun (W : World) (v' : Value) (h : W.ownsRow w.heap.size 47 4 v' (gs.length + 1) (cells4 gs ++ [.int .i64 n, .int .u8 0, .int .u64 (m : Int), .string ⟨#[]⟩])) => (of_snoc hfv h : Of W w.heap.size v' (gs ++ [plain1 ⟨n, .va m⟩])))
        clear A1 A2 A3 A4 hfv
        generalize gs ++ [plain1 ⟨n, .va m⟩] = gsn at *
        generalize Vl.v _ = V at *
        have hm : m < 18446744073709551616 := hfo
        have hm1 : (m : Int) < 18446744073709551616 := by omega
        have hm0 : 0 ≤ (m : Int) := by omega
        clear hm hfo
        generalize (m : Int) = M at *
        go_wp2_with (first
          | (go_at_call 46; refine (H1.out _).mono ?_; rintro e w' ⟨rfl, rfl⟩)
          | (go_at_call 57; refine (H2.out _).mono ?_; rintro e w' ⟨rfl, rfl⟩)
          | (go_at_call 47; refine (H3.out _).mono ?_; rintro e w' ⟨rfl, rfl⟩)
          | (go_at_call 58; refine (H4.out _).mono ?_; rintro e w' ⟨rfl, rfl⟩)
          | (at_builtin; refine wpList_append_own_at _ rfl (.tmp 76) (.tmp 78) 23 rfl w.heap.size 47 i0 _ 4 40 Try.underlying23 hi hz0 hz1 hz2 (by rfl) (by decide) (.slice ua gs.length uc) gs.length (cells4 gs) rfl (World.ownsRow.alloc (World.ownsRow.alloc HO.out _) _) ⟨wr.heap.size + 1, 0, none⟩ 1 1 [.int .i64 n, .int .u8 0, .int .u64 M, .string ⟨#[]⟩] rfl rfl (cells_new41 _ _ _ _ _ _ _) one4 (by unfold maxLen; omega) (by omega) (by have := HSZ.out; simp; omega) ?_; intro v' w6 hown' hgrow hnil hloc; have HON := Lib.hid (HSN.out _ _ hown'); have HB6 := Lib.hid (((HB.out.alloc HB.out.size (.cells #[.int .i64 n, .int .u8 0, .int .u64 M, .string ⟨#[]⟩] 47)).alloc (by have := HSZ.out; simp; omega) (.cells #[.int .i64 n, .int .u8 0, .int .u64 M, .string ⟨#[]⟩] 47)).grown hgrow (by have := HSZ.out; simp; omega) (fun g hg => (own_lt HO.out g hg).1)); clear hown' hgrow hnil hloc))
        go_roundw
        case rel => exact ⟨k + 1, gsn, by go_num, by omega, HGN.out, HMF, HON, HB6⟩
        case measure => simp [intOf]; omega
      | ei m =>
        unfold asV at A1; unfold asE at A2; unfold asT at A3; unfold asF at A4
        dsimp only at A1 A2 A3 A4
        have H1 := Lib.hid A1; have H2 := Lib.hid A2; have H3 := Lib.hid A3; have H4 := Lib.hid A4
        have hfv : fv (plain1 ⟨n, .ei m⟩) = .agg #[.int .i64 n, .int .u8 1, .int .u64 (m : Int), .string ⟨#[]⟩] := rfl
        have HSN := Lib.hid (fun (W : World) (v' : Value) (h : W.ownsRow w.heap.size 47 4 v' (gs.length + 1) (cells4 gs ++ [.int .i64 n, .int .u8 1, .int .u64 (m : Int), .string ⟨#[]⟩])) => (of_snoc hfv h : Of W w.heap.size v' (gs ++ [plain1 ⟨n, .ei m⟩])))
        clear A1 A2 A3 A4 hfv
        generalize gs ++ [plain1 ⟨n, .ei m⟩] = gsn at *
        generalize Vl.v _ = V at *
        have hm : m < 18446744073709551616 := hfo
        have hm1 : (m : Int) < 18446744073709551616 := by omega
        have hm0 : 0 ≤ (m : Int) := by omega
        clear hm hfo
        generalize (m : Int) = M at *
        go_wp2_with (first
          | (go_at_call 46; refine (H1.out _).mono ?_; rintro e w' ⟨rfl, rfl⟩)
          | (go_at_call 57; refine (H2.out _).mono ?_; rintro e w' ⟨rfl, rfl⟩)
          | (go_at_call 47; refine (H3.out _).mono ?_; rintro e w' ⟨rfl, rfl⟩)
          | (go_at_call 58; refine (H4.out _).mono ?_; rintro e w' ⟨rfl, rfl⟩)
          | (at_builtin; refine wpList_append_own_at _ rfl (.tmp 76) (.tmp 78) 23 rfl w.heap.size 47 i0 _ 4 40 Try.underlying23 hi hz0 hz1 hz2 (by rfl) (by decide) (.slice ua gs.length uc) gs.length (cells4 gs) rfl (World.ownsRow.alloc (World.ownsRow.alloc HO.out _) _) ⟨wr.heap.size + 1, 0, none⟩ 1 1 [.int .i64 n, .int .u8 1, .int .u64 M, .string ⟨#[]⟩] rfl rfl (cells_new41 _ _ _ _ _ _ _) one4 (by unfold maxLen; omega) (by omega) (by have := HSZ.out; simp; omega) ?_; intro v' w6 hown' hgrow hnil hloc; have HON := Lib.hid (HSN.out _ _ hown'); have HB6 := Lib.hid (((HB.out.alloc HB.out.size (.cells #[.int .i64 n, .int .u8 1, .int .u64 M, .string ⟨#[]⟩] 47)).alloc (by have := HSZ.out; simp; omega) (.cells #[.int .i64 n, .int .u8 1, .int .u64 M, .string ⟨#[]⟩] 47)).grown hgrow (by have := HSZ.out; simp; omega) (fun g hg => (own_lt HO.out g hg).1)); clear hown' hgrow hnil hloc))
        go_roundw
        case rel => exact ⟨k + 1, gsn, by go_num, by omega, HGN.out, HMF, HON, HB6⟩
        case measure => simp [intOf]; omega
      | tx s =>
        unfold asV at A1; unfold asE at A2; unfold asT at A3; unfold asF at A4
        dsimp only at A1 A2 A3 A4
        have H1 := Lib.hid A1; have H2 := Lib.hid A2; have H3 := Lib.hid A3; have H4 := Lib.hid A4
        have hfv : fv (plain1 ⟨n, .tx s⟩) = .agg #[.int .i64 n, .int .u8 2, .int .u64 0, .string s] := rfl
        have HSN := Lib.hid (fun (W : World) (v' : Value) (h : W.ownsRow w.heap.size 47 4 v' (gs.length + 1) (cells4 gs ++ [.int .i64 n, .int .u8 2, .int .u64 0, .string s])) => (of_snoc hfv h : Of W w.heap.size v' (gs ++ [plain1 ⟨n, .tx s⟩])))
        clear A1 A2 A3 A4 hfv
        generalize gs ++ [plain1 ⟨n, .tx s⟩] = gsn at *
        generalize Vl.v _ = V at *
        clear hfo
        go_wp2_with (first
          | (go_at_call 46; refine (H1.out _).mono ?_; rintro e w' ⟨rfl, rfl⟩)
          | (go_at_call 57; refine (H2.out _).mono ?_; rintro e w' ⟨rfl, rfl⟩)
          | (go_at_call 47; refine (H3.out _).mono ?_; rintro e w' ⟨rfl, rfl⟩)
          | (go_at_call 58; refine (H4.out _).mono ?_; rintro e w' ⟨rfl, rfl⟩)
          | (at_builtin; refine wpList_append_own_at _ rfl (.tmp 76) (.tmp 78) 23 rfl w.heap.size 47 i0 _ 4 40 Try.underlying23 hi hz0 hz1 hz2 (by rfl) (by decide) (.slice ua gs.length uc) gs.length (cells4 gs) rfl (World.ownsRow.alloc (World.ownsRow.alloc HO.out _) _) ⟨wr.heap.size + 1, 0, none⟩ 1 1 [.int .i64 n, .int .u8 2, .int .u64 0, .string s] rfl rfl (cells_new41 _ _ _ _ _ _ _) one4 (by unfold maxLen; omega) (by omega) (by have := HSZ.out; simp; omega) ?_; intro v' w6 hown' hgrow hnil hloc; have HON := Lib.hid (HSN.out _ _ hown'); have HB6 := Lib.hid (((HB.out.alloc HB.out.size (.cells #[.int .i64 n, .int .u8 2, .int .u64 0, .string s] 47)).alloc (by have := HSZ.out; simp; omega) (.cells #[.int .i64 n, .int .u8 2, .int .u64 0, .string s] 47)).grown hgrow (by have := HSZ.out; simp; omega) (fun g hg => (own_lt HO.out g hg).1)); clear hown' hgrow hnil hloc))
        go_roundw
        case rel => exact ⟨k + 1, gsn, by go_num, by omega, HGN.out, HMF, HON, HB6⟩
        case measure => simp [intOf]; omega
      | fo m =>
        unfold asV at A1; unfold asE at A2; unfold asT at A3; unfold asF at A4
        dsimp only at A1 A2 A3 A4
        have H1 := Lib.hid A1; have H2 := Lib.hid A2; have H3 := Lib.hid A3; have H4 := Lib.hid A4
        have hfv : fv (plain1 ⟨n, .fo m⟩) = .agg #[.int .i64 n, .int .u8 5, .int .u64 (m : Int), .string ⟨#[]⟩] := rfl
        have HSN := Lib.hid (fun (W : World) (v' : Value) (h : W.ownsRow w.heap.size 47 4 v' (gs.length + 1) (cells4 gs ++ [.int .i64 n, .int .u8 5, .int .u64 (m : Int), .string ⟨#[]⟩])) => (of_snoc hfv h : Of W w.heap.size v' (gs ++ [plain1 ⟨n, .fo m⟩])))
        clear A1 A2 A3 A4 hfv
        generalize gs ++ [plain1 ⟨n, .fo m⟩] = gsn at *
        generalize Vl.v _ = V at *
        have hm : m < 4294967296 := hfo
        have hm1 : (m : Int) < 4294967296 := by omega
        have hm0 : 0 ≤ (m : Int) := by omega
        clear hm hfo
        generalize (m : Int) = M at *
        go_wp2_with (first
          | (go_at_call 46; refine (H1.out _).mono ?_; rintro e w' ⟨rfl, rfl⟩)
          | (go_at_call 57; refine (H2.out _).mono ?_; rintro e w' ⟨rfl, rfl⟩)
          | (go_at_call 47; refine (H3.out _).mono ?_; rintro e w' ⟨rfl, rfl⟩)
          | (go_at_call 58; refine (H4.out _).mono ?_; rintro e w' ⟨rfl, rfl⟩)
          | (at_builtin; refine wpList_append_own_at _ rfl (.tmp 76) (.tmp 78) 23 rfl w.heap.size 47 i0 _ 4 40 Try.underlying23 hi hz0 hz1 hz2 (by rfl) (by decide) (.slice ua gs.length uc) gs.length (cells4 gs) rfl (World.ownsRow.alloc (World.ownsRow.alloc HO.out _) _) ⟨wr.heap.size + 1, 0, none⟩ 1 1 [.int .i64 n, .int .u8 5, .int .u64 M, .string ⟨#[]⟩] rfl rfl (cells_new41 _ _ _ _ _ _ _) one4 (by unfold maxLen; omega) (by omega) (by have := HSZ.out; simp; omega) ?_; intro v' w6 hown' hgrow hnil hloc; have HON := Lib.hid (HSN.out _ _ hown'); have HB6 := Lib.hid (((HB.out.alloc HB.out.size (.cells #[.int .i64 n, .int .u8 5, .int .u64 M, .string ⟨#[]⟩] 47)).alloc (by have := HSZ.out; simp; omega) (.cells #[.int .i64 n, .int .u8 5, .int .u64 M, .string ⟨#[]⟩] 47)).grown hgrow (by have := HSZ.out; simp; omega) (fun g hg => (own_lt HO.out g hg).1)); clear hown' hgrow hnil hloc))
        go_roundw
        case rel => exact ⟨k + 1, gsn, by go_num, by omega, HGN.out, HMF, HON, HB6⟩
        case measure => simp [intOf]; omega
      | an m =>
        unfold asV at A1; unfold asE at A2; unfold asT at A3; unfold asF at A4
        dsimp only at A1 A2 A3 A4
        have H1 := Lib.hid A1; have H2 := Lib.hid A2; have H3 := Lib.hid A3; have H4 := Lib.hid A4
        have hfv : fv (plain1 ⟨n, .an m⟩) = .agg #[.int .i64 n, .int .u8 9, .int .u64 0, .string ⟨#[]⟩] := rfl
        have HSN := Lib.hid (fun (W : World) (v' : Value) (h : W.ownsRow w.heap.size 47 4 v' (gs.length + 1) (cells4 gs ++ [.int .i64 n, .int .u8 9, .int .u64 0, .string ⟨#[]⟩])) => (of_snoc hfv h : Of W w.heap.size v' (gs ++ [plain1 ⟨n, .an m⟩])))
        clear A1 A2 A3 A4 hfv
        generalize gs ++ [plain1 ⟨n, .an m⟩] = gsn at *
        generalize Vl.v _ = V at *
        clear hfo
        go_wp2_with (first
          | (go_at_call 46; refine (H1.out _).mono ?_; rintro e w' ⟨rfl, rfl⟩)
          | (go_at_call 57; refine (H2.out _).mono ?_; rintro e w' ⟨rfl, rfl⟩)
          | (go_at_call 47; refine (H3.out _).mono ?_; rintro e w' ⟨rfl, rfl⟩)
          | (go_at_call 58; refine (H4.out _).mono ?_; rintro e w' ⟨rfl, rfl⟩)
          | (at_builtin; refine wpList_append_own_at _ rfl (.tmp 76) (.tmp 78) 23 rfl w.heap.size 47 i0 _ 4 40 Try.underlying23 hi hz0 hz1 hz2 (by rfl) (by decide) (.slice ua gs.length uc) gs.length (cells4 gs) rfl (World.ownsRow.alloc (World.ownsRow.alloc HO.out _) _) ⟨wr.heap.size + 1, 0, none⟩ 1 1 [.int .i64 n, .int .u8 9, .int .u64 0, .string ⟨#[]⟩] rfl rfl (cells_new41 _ _ _ _ _ _ _) one4 (by unfold maxLen; omega) (by omega) (by have := HSZ.out; simp; omega) ?_; intro v' w6 hown' hgrow hnil hloc; have HON := Lib.hid (HSN.out _ _ hown'); have HB6 := Lib.hid (((HB.out.alloc HB.out.size (.cells #[.int .i64 n, .int .u8 9, .int .u64 0, .string ⟨#[]⟩] 47)).alloc (by have := HSZ.out; simp; omega) (.cells #[.int .i64 n, .int .u8 9, .int .u64 0, .string ⟨#[]⟩] 47)).grown hgrow (by have := HSZ.out; simp; omega) (fun g hg => (own_lt HO.out g hg).1)); clear hown' hgrow hnil hloc))
        go_roundw
        case rel => exact ⟨k + 1, gsn, by go_num, by omega, HGN.out, HMF, HON, HB6⟩
        case measure => simp [intOf]; omega
    · obtain rfl : k = L := by omega
      have hr : Hid (l.map plain1 = gs) := Lib.hid (by
        have := HGS.out
        rw [List.take_of_length_le (by have := HL.out; omega)] at this
        exact this)
      go_wp2
      go_ret
      refine ⟨_, rfl, ?_, HB.out⟩
      rw [hr.out]
      exact HO.out
end Go.Proofs.Ytbckkfoenembmaa
