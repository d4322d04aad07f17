/- The document's writing: write, part, Label, Sample. -/
/- The document's Label and Sample. -/
import Derived.Test.YtioflicmpnkfeaaGreatQf
import Derived.Test.YtioflicmpnkfeaaGreatDr
import Derived.Maps.AppendAt
namespace Go.Proofs.YtioflicmpnkfeaaGreat
open Go Go.RowKit
set_option maxRecDepth 100000
theorem ffd_by {f : Fd} (h : f.ok) (ht : f.t.length ≤ 1000000) : (ffd f).may = true ∧ (ffd f).ok ∧ (ffd f).by = fby f ∧ (ffd f).t.size ≤ 1000000 := by
  obtain ⟨h1, h2, h3⟩ := mayk_w h.may
  have h0 := h.v0
  have h5 := h.v5
  have h6 := h.v2
  have h7 := h.t2
  obtain ⟨n, w, v, t⟩ := f
  dsimp only at *
  have hn : ((n : Int)).toNat = n := by omega
  refine ⟨Ff.may_iff.2 ⟨⟨?_, ?_⟩, h3⟩, ⟨?_, ?_, ?_, ?_, ?_⟩, ?_, ?_⟩
  · unfold ffd; dsimp only; omega
  · unfold ffd; dsimp only; omega
  · unfold ffd; dsimp only; omega
  · unfold ffd; dsimp only; omega
  · show w < 256; omega
  · show v < _
    rcases h3 with h3 | h3 | h3 | h3
    · exact h0 (.inl h3)
    · exact h0 (.inr h3)
    · have := (h6 h3).1; omega
    · have := h5 h3; omega
  · show (bs t).size ≤ _; rw [bs_size]; omega
  · unfold Ff.by ffd fby
    dsimp only
    rw [hn]
    congr 1
  · show (bs t).size ≤ _; rw [bs_size]; exact ht
theorem rwk_ffd : ∀ (fs : List Fd) (b : List UInt8), (∀ f ∈ fs, f.ok ∧ f.t.length ≤ 1000000) → rwk (fs.map ffd) b = (b ++ eM fs, 0)
  | [], b, _ => by simp [rwk, eM]
  | f :: r, b, h => by
    obtain ⟨h1, h2⟩ := h f (by simp)
    obtain ⟨g1, -, g3, -⟩ := ffd_by h1 h2
    rw [List.map_cons, rwk, if_pos g1, rwk_ffd r _ (fun x hx => h x (by simp [hx])), g3, eM_cons, List.append_assoc]
set_option maxHeartbeats 2000000 in
theorem rw_any (fs : List Fd) (hok : ∀ f ∈ fs, f.ok) (hlen : (eM fs).length ≤ 1000000) (v : Value) (w : World) (hv : FAt w v (fs.map ffd)) : Calls Tryz.prog 20 #[v] w (Ret w (.string (bs (eM fs)))) := by
  have ht : ∀ f ∈ fs, f.ok ∧ f.t.length ≤ 1000000 := fun f hf => ⟨hok f hf, by have := f_len hok f hf; omega⟩
  have hw := rwrite_any (fs.map ffd) (by rw [List.length_map]; have := eM_cnt fs; omega) (fun g hg => by obtain ⟨f, hf, rfl⟩ := List.mem_map.1 hg; exact (ffd_by (ht f hf).1 (ht f hf).2).2.1) (fun g hg => by obtain ⟨f, hf, rfl⟩ := List.mem_map.1 hg; exact (ffd_by (ht f hf).1 (ht f hf).2).2.2.2) v w hv
  rw [rwk_ffd fs [] ht, List.nil_append] at hw
  have hw : Calls Tryz.prog 32 #[v] w (Ret w (.tuple #[.string (bs (eM fs)), .int .i64 0])) := hw
  obtain ⟨a, c, hv2⟩ := hv.slice
  generalize (fs.map ffd).length = L at hv2
  subst hv2
  have HW := Lib.hid hw
  clear hw hv ht hok hlen
  generalize bs (eM fs) = B at *
  go_enter Tryz.func20, Tryz.ntmps20
  go_wp2_with fail
  refine HW.out.mono ?_
  rintro e w1 ⟨rfl, hb1⟩
  have HB1 := Lib.hid hb1
  clear hb1
  go_wp2
  go_ret
  exact ⟨rfl, HB1.out⟩
set_option maxHeartbeats 2000000 in
theorem part18_any (num : Int) (t : ByteArray) (w : World) : Calls Tryz.prog 18 #[.int .i64 num, .string t] w (Ret w (.agg #[.int .i64 num, .int .u8 2, .int .u64 0, .string t])) := by
  go_enter Tryz.func18, Tryz.ntmps18
  go_wp2
  exact bodyPost_ret (by
    have hl := run_loadVar_row (P := Tryz.prog) _ w.heap.size 47 47 #[.int .i64 num, .int .u8 2, .int .u64 0, .string t] (0, 0) _ (heap_alloc_new w _) Tryz.underlying47 rfl (by kernel_rfl)
    simp [results, Tryz.results18, asAddr, hl]) rfl ⟨rfl, (Below.refl _ _).alloc (Nat.le_refl _) _⟩
end Go.Proofs.YtioflicmpnkfeaaGreat

namespace Go.Proofs.YtioflicmpnkfeaaGreat
open Go Go.RowKit
set_option maxRecDepth 100000
theorem below_more {w w1 : World} (o : Obj) (h : Below w.heap.size w w1) : Below w.heap.size w (w1.alloc o) := h.alloc h.size _
theorem below_chain {w a b : World} (h : Below w.heap.size w a) (k : Below a.heap.size a b) : Below w.heap.size w b := h.trans (k.mono h.size)
theorem ffd_part (k : Nat) (t : ByteArray) : ffd (part k t.data.toList) = ⟨(k : Int), 2, 0, t⟩ := rfl
theorem lb_fok (n v : ByteArray) (hlen : (eLb ⟨n, v⟩).length ≤ 1000000) : ∀ f ∈ fLb ⟨n, v⟩, f.ok := by
  have hs : ∀ (k : Nat) (s : ByteArray), part k s.data.toList ∈ fLb ⟨n, v⟩ → s.size ≤ 1000000 := fun k s hm => by
    have h := f_by (fs := fLb ⟨n, v⟩) _ hm
    have h2 : (vby (part k s.data.toList)).length ≤ (eLb ⟨n, v⟩).length := h
    have h3 : vby (part k s.data.toList) = Bt.vint s.data.toList.length ++ s.data.toList := rfl
    rw [h3, List.length_append] at h2
    have h4 : s.data.toList.length = s.size := by simp
    omega
  have hn : n.size ≤ 1000000 := by
    by_cases h : n.data.toList = []
    · have h4 : n.data.toList.length = n.size := by simp
      rw [h] at h4; simp at h4; omega
    · exact hs 1 n (by unfold fLb; simp [h])
  have hv : v.size ≤ 1000000 := by
    by_cases h : v.data.toList = []
    · have h4 : v.data.toList.length = v.size := by simp
      rw [h] at h4; simp at h4; omega
    · exact hs 2 v (by unfold fLb; simp [h])
  exact fLb_ok ⟨by show n.data.toList.length < _; simp; omega, by show v.data.toList.length < _; simp; omega⟩
theorem of_one {w : World} {base : Nat} {v : Value} {l : List Ff} {f : Ff} (h : w.ownsRow base 47 4 v (l.length + 1) (cells4 l ++ [.int .i64 f.n, .int .u8 f.w, .int .u64 f.v, .string f.t])) : Of w base v (l ++ [f]) := of_snoc rfl h
set_option maxHeartbeats 1000000 in
theorem lab30_11 (n v : ByteArray) (hn : n.data.toList ≠ []) (hv : v.data.toList ≠ []) (hlen : (eLb ⟨n, v⟩).length ≤ 1000000) (w : World) : Calls Tryz.prog 30 #[.agg #[.string n, .string v]] w (Ret w (.string (bs (eLb ⟨n, v⟩)))) := by
  obtain ⟨i0, hi, hz0, hz1, hz2⟩ := info_parts Tryz.info47
  have hf : fLb ⟨n, v⟩ = [part 1 n.data.toList, part 2 v.data.toList] := by unfold fLb; simp [hn, hv]
  have hW := fun (u : Value) (W : World) (h : FAt W u [⟨1, 2, 0, n⟩, ⟨2, 2, 0, v⟩]) => rw_any (fLb ⟨n, v⟩) (lb_fok n v hlen) hlen u W (by rw [hf]; exact h)
  have hqn : (n.toList == []) = false := by rw [beq_eq_false_iff_ne, toList_eq]; exact hn
  have hqv : (v.toList == []) = false := by rw [beq_eq_false_iff_ne, toList_eq]; exact hv
  have HW := Lib.hid hW
  rw [show bs (eM (fLb ⟨n, v⟩)) = bs (eLb ⟨n, v⟩) from rfl] at hW
  generalize bs (eLb ⟨n, v⟩) = R at *
  have HW := Lib.hid hW
  have HY0 : Hid (Box2 (w.alloc (.cells #[.string n, .string v] 35)) w.heap.size 35 (.string n) (.string v)) := Lib.hid (Box2.new _ _ _ _)
  have HB0 : Hid (Below w.heap.size w (w.alloc (.cells #[.string n, .string v] 35))) := Lib.hid ((Below.refl _ _).alloc (Nat.le_refl _) _)
  have HO0 : Hid (Of (w.alloc (.cells #[.string n, .string v] 35)) (w.heap.size + 1) (.slice none 0 0) []) := Lib.hid ⟨rfl, .inl ⟨rfl, rfl⟩⟩
  clear hW hf hn hv hlen
  go_enter Tryz.func30, Tryz.ntmps30
  go_wp2_with fail
  refine (part18_any 1 n _).mono ?_
  rintro e w1 ⟨rfl, hb1⟩
  have HA1 := Lib.hid (((HO0.out.below hb1 (Nat.le_refl _)) : Of w1 (w.heap.size + 1) (.slice none 0 0) []).alloc (.cells #[.int .i64 1, .int .u8 2, .int .u64 0, .string n] 47))
  have HC1 := Lib.hid (cells_new4 w1 (.int .i64 1) (.int .u8 2) (.int .u64 0) (.string n) 47)
  have HD1 := Lib.hid (below_more (.cells #[.int .i64 1, .int .u8 2, .int .u64 0, .string n] 47) (below_chain HB0.out hb1))
  have HE1 : Hid (w.heap.size + 1 ≤ (w1.alloc (.cells #[.int .i64 1, .int .u8 2, .int .u64 0, .string n] 47)).heap.size) := Lib.hid (by have := HY0.out.lt; have := hb1.size; rw [World.size_alloc]; omega)
  have HX1 : Hid (Box2 (w1.alloc (.cells #[.int .i64 1, .int .u8 2, .int .u64 0, .string n] 47)) w.heap.size 35 (.string n) (.string v)) := Lib.hid ((HY0.out.below hb1 HY0.out.lt).alloc _)
  clear hb1
  go_wp2_with (at_builtin; refine wpList_append_own_at _ rfl (.tmp 7) (.tmp 11) 44 rfl (w.heap.size + 1) 47 i0 _ 4 40 Tryz.underlying44 hi hz0 hz1 hz2 (by rfl) (by decide) (.slice none 0 0) 0 (cells4 []) rfl HA1.out ⟨w1.heap.size, 0, none⟩ 1 1 [.int .i64 1, .int .u8 2, .int .u64 0, .string n] rfl rfl HC1.out one4 (by unfold maxLen; omega) (by omega) HE1.out ?_; intro v1 u1 hown hgrow hnil hloc; have HO1 : Hid (Of u1 (w.heap.size + 1) v1 ([] ++ [⟨1, 2, 0, n⟩])) := Lib.hid (of_one hown); have HB1 := Lib.hid (HD1.out.grown hgrow HD1.out.size (fun k e => by have := (own_lt HA1.out k e).1; omega)); have HY1 : Hid (Box2 u1 w.heap.size 35 (.string n) (.string v)) := Lib.hid (HX1.out.kept hgrow (fun e => by have := (own_lt HA1.out _ e.symm).1; omega)); have q0 := HY1.out.c0; have q1 := HY1.out.c1; obtain ⟨a1, c1, hv1⟩ := ownsRow_shape hown; subst hv1; clear hown hgrow hnil hloc)
  go_wp2_with fail
  refine (part18_any 2 v _).mono ?_
  rintro e w2 ⟨rfl, hb2⟩
  have HA2 := Lib.hid (((HO1.out.below hb2 (Nat.le_refl _)) : Of w2 (w.heap.size + 1) (.slice a1 1 c1) [⟨1, 2, 0, n⟩]).alloc (.cells #[.int .i64 2, .int .u8 2, .int .u64 0, .string v] 47))
  have HC2 := Lib.hid (cells_new4 w2 (.int .i64 2) (.int .u8 2) (.int .u64 0) (.string v) 47)
  have HD2 := Lib.hid (below_more (.cells #[.int .i64 2, .int .u8 2, .int .u64 0, .string v] 47) (below_chain HB1.out hb2))
  have HE2 : Hid (w.heap.size + 1 ≤ (w2.alloc (.cells #[.int .i64 2, .int .u8 2, .int .u64 0, .string v] 47)).heap.size) := Lib.hid (by have := HY1.out.lt; have := hb2.size; rw [World.size_alloc]; omega)
  have HX2 : Hid (Box2 (w2.alloc (.cells #[.int .i64 2, .int .u8 2, .int .u64 0, .string v] 47)) w.heap.size 35 (.string n) (.string v)) := Lib.hid ((HY1.out.below hb2 HY1.out.lt).alloc _)
  clear hb2
  go_wp2_with (at_builtin; refine wpList_append_own_at _ rfl (.tmp 16) (.tmp 20) 44 rfl (w.heap.size + 1) 47 i0 _ 4 40 Tryz.underlying44 hi hz0 hz1 hz2 (by rfl) (by decide) (.slice a1 1 c1) 1 (cells4 [⟨1, 2, 0, n⟩]) rfl HA2.out ⟨w2.heap.size, 0, none⟩ 1 1 [.int .i64 2, .int .u8 2, .int .u64 0, .string v] rfl rfl HC2.out one4 (by unfold maxLen; omega) (by omega) HE2.out ?_; intro v2 u2 hown hgrow hnil hloc; have HO2 : Hid (Of u2 (w.heap.size + 1) v2 ([⟨1, 2, 0, n⟩] ++ [⟨2, 2, 0, v⟩])) := Lib.hid (of_one hown); have HB2 := Lib.hid (HD2.out.grown hgrow HD2.out.size (fun k e => by have := (own_lt HA2.out k e).1; omega)); have HY2 : Hid (Box2 u2 w.heap.size 35 (.string n) (.string v)) := Lib.hid (HX2.out.kept hgrow (fun e => by have := (own_lt HA2.out _ e.symm).1; omega)); have q0 := HY2.out.c0; have q1 := HY2.out.c1; obtain ⟨a2, c2, hv2⟩ := ownsRow_shape hown; subst hv2; clear hown hgrow hnil hloc)
  refine (HW.out _ _ HO2.out.at).mono ?_
  rintro e w9 ⟨rfl, hb9⟩
  have HB9 := Lib.hid (below_chain HB2.out hb9)
  clear hb9
  go_wp2
  go_ret
  exact ⟨rfl, HB9.out⟩
set_option maxHeartbeats 1000000 in
theorem lab30_10 (n v : ByteArray) (hn : n.data.toList ≠ []) (hv : v.data.toList = []) (hlen : (eLb ⟨n, v⟩).length ≤ 1000000) (w : World) : Calls Tryz.prog 30 #[.agg #[.string n, .string v]] w (Ret w (.string (bs (eLb ⟨n, v⟩)))) := by
  obtain ⟨i0, hi, hz0, hz1, hz2⟩ := info_parts Tryz.info47
  have hf : fLb ⟨n, v⟩ = [part 1 n.data.toList] := by unfold fLb; simp [hn, hv]
  have hW := fun (u : Value) (W : World) (h : FAt W u [⟨1, 2, 0, n⟩]) => rw_any (fLb ⟨n, v⟩) (lb_fok n v hlen) hlen u W (by rw [hf]; exact h)
  have hqn : (n.toList == []) = false := by rw [beq_eq_false_iff_ne, toList_eq]; exact hn
  have hqv : (v.toList == []) = true := by rw [beq_iff_eq, toList_eq]; exact hv
  have HW := Lib.hid hW
  rw [show bs (eM (fLb ⟨n, v⟩)) = bs (eLb ⟨n, v⟩) from rfl] at hW
  generalize bs (eLb ⟨n, v⟩) = R at *
  have HW := Lib.hid hW
  have HY0 : Hid (Box2 (w.alloc (.cells #[.string n, .string v] 35)) w.heap.size 35 (.string n) (.string v)) := Lib.hid (Box2.new _ _ _ _)
  have HB0 : Hid (Below w.heap.size w (w.alloc (.cells #[.string n, .string v] 35))) := Lib.hid ((Below.refl _ _).alloc (Nat.le_refl _) _)
  have HO0 : Hid (Of (w.alloc (.cells #[.string n, .string v] 35)) (w.heap.size + 1) (.slice none 0 0) []) := Lib.hid ⟨rfl, .inl ⟨rfl, rfl⟩⟩
  clear hW hf hn hv hlen
  go_enter Tryz.func30, Tryz.ntmps30
  go_wp2_with fail
  refine (part18_any 1 n _).mono ?_
  rintro e w1 ⟨rfl, hb1⟩
  have HA1 := Lib.hid (((HO0.out.below hb1 (Nat.le_refl _)) : Of w1 (w.heap.size + 1) (.slice none 0 0) []).alloc (.cells #[.int .i64 1, .int .u8 2, .int .u64 0, .string n] 47))
  have HC1 := Lib.hid (cells_new4 w1 (.int .i64 1) (.int .u8 2) (.int .u64 0) (.string n) 47)
  have HD1 := Lib.hid (below_more (.cells #[.int .i64 1, .int .u8 2, .int .u64 0, .string n] 47) (below_chain HB0.out hb1))
  have HE1 : Hid (w.heap.size + 1 ≤ (w1.alloc (.cells #[.int .i64 1, .int .u8 2, .int .u64 0, .string n] 47)).heap.size) := Lib.hid (by have := HY0.out.lt; have := hb1.size; rw [World.size_alloc]; omega)
  have HX1 : Hid (Box2 (w1.alloc (.cells #[.int .i64 1, .int .u8 2, .int .u64 0, .string n] 47)) w.heap.size 35 (.string n) (.string v)) := Lib.hid ((HY0.out.below hb1 HY0.out.lt).alloc _)
  clear hb1
  go_wp2_with (at_builtin; refine wpList_append_own_at _ rfl (.tmp 7) (.tmp 11) 44 rfl (w.heap.size + 1) 47 i0 _ 4 40 Tryz.underlying44 hi hz0 hz1 hz2 (by rfl) (by decide) (.slice none 0 0) 0 (cells4 []) rfl HA1.out ⟨w1.heap.size, 0, none⟩ 1 1 [.int .i64 1, .int .u8 2, .int .u64 0, .string n] rfl rfl HC1.out one4 (by unfold maxLen; omega) (by omega) HE1.out ?_; intro v1 u1 hown hgrow hnil hloc; have HO1 : Hid (Of u1 (w.heap.size + 1) v1 ([] ++ [⟨1, 2, 0, n⟩])) := Lib.hid (of_one hown); have HB1 := Lib.hid (HD1.out.grown hgrow HD1.out.size (fun k e => by have := (own_lt HA1.out k e).1; omega)); have HY1 : Hid (Box2 u1 w.heap.size 35 (.string n) (.string v)) := Lib.hid (HX1.out.kept hgrow (fun e => by have := (own_lt HA1.out _ e.symm).1; omega)); have q0 := HY1.out.c0; have q1 := HY1.out.c1; obtain ⟨a1, c1, hv1⟩ := ownsRow_shape hown; subst hv1; clear hown hgrow hnil hloc)
  refine (HW.out _ _ HO1.out.at).mono ?_
  rintro e w9 ⟨rfl, hb9⟩
  have HB9 := Lib.hid (below_chain HB1.out hb9)
  clear hb9
  go_wp2
  go_ret
  exact ⟨rfl, HB9.out⟩
set_option maxHeartbeats 1000000 in
theorem lab30_01 (n v : ByteArray) (hn : n.data.toList = []) (hv : v.data.toList ≠ []) (hlen : (eLb ⟨n, v⟩).length ≤ 1000000) (w : World) : Calls Tryz.prog 30 #[.agg #[.string n, .string v]] w (Ret w (.string (bs (eLb ⟨n, v⟩)))) := by
  obtain ⟨i0, hi, hz0, hz1, hz2⟩ := info_parts Tryz.info47
  have hf : fLb ⟨n, v⟩ = [part 2 v.data.toList] := by unfold fLb; simp [hn, hv]
  have hW := fun (u : Value) (W : World) (h : FAt W u [⟨2, 2, 0, v⟩]) => rw_any (fLb ⟨n, v⟩) (lb_fok n v hlen) hlen u W (by rw [hf]; exact h)
  have hqn : (n.toList == []) = true := by rw [beq_iff_eq, toList_eq]; exact hn
  have hqv : (v.toList == []) = false := by rw [beq_eq_false_iff_ne, toList_eq]; exact hv
  have HW := Lib.hid hW
  rw [show bs (eM (fLb ⟨n, v⟩)) = bs (eLb ⟨n, v⟩) from rfl] at hW
  generalize bs (eLb ⟨n, v⟩) = R at *
  have HW := Lib.hid hW
  have HY0 : Hid (Box2 (w.alloc (.cells #[.string n, .string v] 35)) w.heap.size 35 (.string n) (.string v)) := Lib.hid (Box2.new _ _ _ _)
  have HB0 : Hid (Below w.heap.size w (w.alloc (.cells #[.string n, .string v] 35))) := Lib.hid ((Below.refl _ _).alloc (Nat.le_refl _) _)
  have HO0 : Hid (Of (w.alloc (.cells #[.string n, .string v] 35)) (w.heap.size + 1) (.slice none 0 0) []) := Lib.hid ⟨rfl, .inl ⟨rfl, rfl⟩⟩
  clear hW hf hn hv hlen
  go_enter Tryz.func30, Tryz.ntmps30
  go_wp2_with fail
  refine (part18_any 2 v _).mono ?_
  rintro e w1 ⟨rfl, hb1⟩
  have HA1 := Lib.hid (((HO0.out.below hb1 (Nat.le_refl _)) : Of w1 (w.heap.size + 1) (.slice none 0 0) []).alloc (.cells #[.int .i64 2, .int .u8 2, .int .u64 0, .string v] 47))
  have HC1 := Lib.hid (cells_new4 w1 (.int .i64 2) (.int .u8 2) (.int .u64 0) (.string v) 47)
  have HD1 := Lib.hid (below_more (.cells #[.int .i64 2, .int .u8 2, .int .u64 0, .string v] 47) (below_chain HB0.out hb1))
  have HE1 : Hid (w.heap.size + 1 ≤ (w1.alloc (.cells #[.int .i64 2, .int .u8 2, .int .u64 0, .string v] 47)).heap.size) := Lib.hid (by have := HY0.out.lt; have := hb1.size; rw [World.size_alloc]; omega)
  have HX1 : Hid (Box2 (w1.alloc (.cells #[.int .i64 2, .int .u8 2, .int .u64 0, .string v] 47)) w.heap.size 35 (.string n) (.string v)) := Lib.hid ((HY0.out.below hb1 HY0.out.lt).alloc _)
  clear hb1
  go_wp2_with (at_builtin; refine wpList_append_own_at _ rfl (.tmp 16) (.tmp 20) 44 rfl (w.heap.size + 1) 47 i0 _ 4 40 Tryz.underlying44 hi hz0 hz1 hz2 (by rfl) (by decide) (.slice none 0 0) 0 (cells4 []) rfl HA1.out ⟨w1.heap.size, 0, none⟩ 1 1 [.int .i64 2, .int .u8 2, .int .u64 0, .string v] rfl rfl HC1.out one4 (by unfold maxLen; omega) (by omega) HE1.out ?_; intro v1 u1 hown hgrow hnil hloc; have HO1 : Hid (Of u1 (w.heap.size + 1) v1 ([] ++ [⟨2, 2, 0, v⟩])) := Lib.hid (of_one hown); have HB1 := Lib.hid (HD1.out.grown hgrow HD1.out.size (fun k e => by have := (own_lt HA1.out k e).1; omega)); have HY1 : Hid (Box2 u1 w.heap.size 35 (.string n) (.string v)) := Lib.hid (HX1.out.kept hgrow (fun e => by have := (own_lt HA1.out _ e.symm).1; omega)); have q0 := HY1.out.c0; have q1 := HY1.out.c1; obtain ⟨a1, c1, hv1⟩ := ownsRow_shape hown; subst hv1; clear hown hgrow hnil hloc)
  refine (HW.out _ _ HO1.out.at).mono ?_
  rintro e w9 ⟨rfl, hb9⟩
  have HB9 := Lib.hid (below_chain HB1.out hb9)
  clear hb9
  go_wp2
  go_ret
  exact ⟨rfl, HB9.out⟩
set_option maxHeartbeats 1000000 in
theorem lab30_00 (n v : ByteArray) (hn : n.data.toList = []) (hv : v.data.toList = []) (hlen : (eLb ⟨n, v⟩).length ≤ 1000000) (w : World) : Calls Tryz.prog 30 #[.agg #[.string n, .string v]] w (Ret w (.string (bs (eLb ⟨n, v⟩)))) := by
  obtain ⟨i0, hi, hz0, hz1, hz2⟩ := info_parts Tryz.info47
  have hf : fLb ⟨n, v⟩ = [] := by unfold fLb; simp [hn, hv]
  have hW := fun (u : Value) (W : World) (h : FAt W u []) => rw_any (fLb ⟨n, v⟩) (lb_fok n v hlen) hlen u W (by rw [hf]; exact h)
  have hqn : (n.toList == []) = true := by rw [beq_iff_eq, toList_eq]; exact hn
  have hqv : (v.toList == []) = true := by rw [beq_iff_eq, toList_eq]; exact hv
  have HW := Lib.hid hW
  rw [show bs (eM (fLb ⟨n, v⟩)) = bs (eLb ⟨n, v⟩) from rfl] at hW
  generalize bs (eLb ⟨n, v⟩) = R at *
  have HW := Lib.hid hW
  have HY0 : Hid (Box2 (w.alloc (.cells #[.string n, .string v] 35)) w.heap.size 35 (.string n) (.string v)) := Lib.hid (Box2.new _ _ _ _)
  have HB0 : Hid (Below w.heap.size w (w.alloc (.cells #[.string n, .string v] 35))) := Lib.hid ((Below.refl _ _).alloc (Nat.le_refl _) _)
  have HO0 : Hid (Of (w.alloc (.cells #[.string n, .string v] 35)) (w.heap.size + 1) (.slice none 0 0) []) := Lib.hid ⟨rfl, .inl ⟨rfl, rfl⟩⟩
  clear hW hf hn hv hlen
  go_enter Tryz.func30, Tryz.ntmps30
  go_wp2_with fail
  refine (HW.out _ _ (FAt.nil _)).mono ?_
  rintro e w9 ⟨rfl, hb9⟩
  have HB9 := Lib.hid (below_chain HB0.out hb9)
  clear hb9
  go_wp2
  go_ret
  exact ⟨rfl, HB9.out⟩
theorem lab30_any (x : Lb) (hlen : (eLb x).length ≤ 1000000) (w : World) : Calls Tryz.prog 30 #[.agg #[.string x.n, .string x.v]] w (Ret w (.string (bs (eLb x)))) := by
  obtain ⟨n, v⟩ := x
  by_cases hn : n.data.toList = [] <;> by_cases hv : v.data.toList = []
  · exact lab30_00 n v hn hv hlen w
  · exact lab30_01 n v hn hv hlen w
  · exact lab30_10 n v hn hv hlen w
  · exact lab30_11 n v hn hv hlen w
end Go.Proofs.YtioflicmpnkfeaaGreat
