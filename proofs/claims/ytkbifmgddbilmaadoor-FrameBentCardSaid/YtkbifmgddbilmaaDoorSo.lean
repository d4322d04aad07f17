/- The document's Scan. -/
import Derived.Test.YtkbifmgddbilmaaDoorOh
namespace Go.Proofs.YtkbifmgddbilmaaDoor
open Go Go.RowKit
set_option maxRecDepth 100000
/-- What is scanned of bytes from a place on. -/
def scq (s : ByteArray) (a : Nat) : List Fq := (Fr.scn (bh s a) a).1.map qf
def sce (s : ByteArray) (a : Nat) : Nat := (Fr.scn (bh s a) a).2
theorem scq_bad (s : ByteArray) (a : Nat) (h : Fr.er (bh s a) ≠ 0) : scq s a = [] ∧ sce s a = a := by
  unfold scq sce
  rw [Fr.scn_bad _ h]
  exact ⟨rfl, rfl⟩
theorem scq_good (s : ByteArray) (a : Nat) (h : Fr.er (bh s a) = 0) : scq s a = qf ⟨Fr.kd (bh s a), Fr.pl (bh s a), a⟩ :: scq s (a + 9 + Fr.ln (bh s a)) ∧ sce s a = sce s (a + 9 + Fr.ln (bh s a)) := by
  unfold scq sce
  rw [Fr.scn_good a h, List.drop_drop, ← Nat.add_assoc]
  exact ⟨rfl, rfl⟩
theorem scq_len (s : ByteArray) : ∀ (n a : Nat), s.size - a ≤ n → (scq s a).length ≤ s.size - a
  | 0, a, h => by
    have hb : Fr.er (bh s a) ≠ 0 := fun e => by have := (Fr.er_good.1 e).nine; rw [bh_length] at this; omega
    rw [(scq_bad s a hb).1]; simp
  | n + 1, a, h => by
    by_cases hb : Fr.er (bh s a) = 0
    · have hn := (Fr.er_good.1 hb).nine
      rw [bh_length] at hn
      rw [(scq_good s a hb).1, List.length_cons]
      have := scq_len s n (a + 9 + Fr.ln (bh s a)) (by omega)
      omega
    · rw [(scq_bad s a hb).1]; simp
/-- What a call tells that scans. -/
def Scans (E : TypeId) (w : World) (xs : List Fq) (k : Nat) (e : Ending) (w' : World) : Prop := ∃ v, e = .returned (.tuple #[v, .int .i64 (k : Int)]) ∧ O3 E w' w.heap.size v xs ∧ Below w.heap.size w w'
theorem rscan_arg (s : ByteArray) (at' : Int) (w : World) (hs : s.size ≤ 140737488351232) (h : at' < 0 ∨ (s.size : Int) < at') : Calls Tryd.prog 15 #[.string s, .int .i64 at'] w (Scans 28 w [] 0) := by
  by_cases h0 : at' < 0
  · go_enter Tryd.func15, Tryd.ntmps15
    go_wp2
    go_ret2
    exact ⟨_, rfl, O3.nil _ _ _, Below.refl _ _⟩
  · have h1 : (s.size : Int) < at' := by omega
    clear h
    go_enter Tryd.func15, Tryd.ntmps15
    go_wp2
    go_ret2
    exact ⟨_, rfl, O3.nil _ _ _, Below.refl _ _⟩
theorem below_chain {w a b : World} (h : Below w.heap.size w a) (k : Below a.heap.size a b) : Below w.heap.size w b := h.trans (k.mono h.size)
set_option maxHeartbeats 2000000 in
theorem rscan_any (s : ByteArray) (a : Nat) (ha : a ≤ s.size) (w : World) (hs : s.size ≤ 1000000) : Calls Tryd.prog 15 #[.string s, .int .i64 (a : Int)] w (Scans 28 w (scq s a) (sce s a)) := by
  obtain ⟨i0, hi, hz0, hz1, hz2⟩ := info_parts Tryd.info28
  have hcap : (scq s a).length ≤ 1000000 := by have := scq_len s _ a (Nat.le_refl _); omega
  have hg0 : decide ((a : Int) < 0) = false := decide_eq_false (by omega)
  have hg1 : decide (s.size < a) = false := decide_eq_false (by omega)
  go_enter Tryd.func15, Tryd.ntmps15
  go_wp2
  go_loopw [1, 6] (fun x v wr => ∃ (c : Nat) (acc : List Fq), c ≤ s.size ∧ x = .int .i64 (c : Int) ∧ Hid (O3 28 wr w.heap.size v acc) ∧ Hid (acc ++ scq s c = scq s a) ∧ Hid (sce s c = sce s a) ∧ Hid (Below w.heap.size w wr)) (fun x _ _ => s.size - (intOf x).toNat)
  case atStart => exact ⟨a, [], ha, rfl, Lib.hid (O3.nil _ _ _), Lib.hid rfl, Lib.hid rfl, Lib.hid (Below.refl _ _)⟩
  case round =>
    obtain ⟨c, acc, hc, rfl, HO, HA, HE, HB⟩ := hrel
    by_cases hg : Fr.er (bh s c) = 0
    · have hgd := Fr.er_good.1 hg
      obtain ⟨q1, q2⟩ := scq_good s c hg
      have hR := rread_ok s c hgd wr (by omega)
      have hw := hgd.whole
      rw [bh_length] at hw
      have hn := hgd.nine
      rw [bh_length] at hn
      have H1 := Lib.hid q1; have H2 := Lib.hid q2
      clear q1 q2 hg hgd
      have hx : c + 9 + Fr.ln (bh s c) ≤ s.size := by omega
      have hx2 : c < c + 9 + Fr.ln (bh s c) := by omega
      generalize c + 9 + Fr.ln (bh s c) = X at *
      clear hw hn
      unfold qf at H1
      dsimp only at H1
      generalize ((Fr.kd (bh s c)).toNat : Int) = K at *
      generalize bs (Fr.pl (bh s c)) = T at *
      have HR := Lib.hid hR
      clear hR
      have hal : acc.length ≤ 1000000 := by have := congrArg List.length HA.out; rw [List.length_append] at this; omega
      go_wp2_with fail
      refine HR.out.mono ?_
      rintro e w1 ⟨rfl, hb1⟩
      have HO1 := Lib.hid (((HO.out.below hb1 (Nat.le_refl _)).below (below_one w1 (.cells #[.int .u8 K, .string T, .int .i64 (c : Int)] 28)) (Nat.le_refl _)).below (below_one _ (.cells #[.int .u8 K, .string T, .int .i64 (c : Int)] 28)) (Nat.le_refl _))
      have HB1 := Lib.hid (below_chain (below_chain (below_chain HB.out hb1) (below_one w1 (.cells #[.int .u8 K, .string T, .int .i64 (c : Int)] 28))) (below_one _ (.cells #[.int .u8 K, .string T, .int .i64 (c : Int)] 28)))
      have HCN := Lib.hid (cells_new3 (w1.alloc (.cells #[.int .u8 K, .string T, .int .i64 (c : Int)] 28)) (.int .u8 K) (.string T) (.int .i64 (c : Int)) 28)
      rw [World.size_alloc] at HCN
      obtain ⟨va, vc, hv⟩ := HO.out.shape
      subst hv
      clear hb1
      go_wp2_with (at_builtin; refine wpList_append_own_at _ rfl (.tmp 29) (.tmp 31) 32 rfl w.heap.size 28 i0 _ 3 32 Tryd.underlying32 hi hz0 hz1 hz2 (by rfl) (by decide) (.slice va acc.length vc) acc.length (fls acc) rfl HO1.out ⟨w1.heap.size + 1, 0, none⟩ 1 1 [.int .u8 K, .string T, .int .i64 (c : Int)] rfl rfl HCN.out (one3 _ _ _) (by unfold maxLen; omega) (by omega) HB1.out.size ?_; intro v' w4 hown' hgrow hnil hloc; have HON := Lib.hid hown'; have HGR := Lib.hid hgrow; clear hown' hgrow hnil hloc)
      have HB2 : Hid (Below w.heap.size w w4) := Lib.hid (HB1.out.grown HGR.out HB1.out.size (fun k e => (HO1.out.lt k e).1))
      have HO2 : Hid (O3 28 w4 w.heap.size v' (acc ++ [⟨K, T, (c : Int)⟩])) := Lib.hid (by unfold O3; rw [fls_append, List.length_append]; exact HON.out)
      go_roundw
      case rel => exact ⟨X, acc ++ [⟨K, T, (c : Int)⟩], hx, rfl, HO2, Lib.hid (by rw [← HA.out, H1.out]; simp), Lib.hid (by rw [← HE.out, H2.out]), HB2⟩
      case measure => simp [intOf]; omega
    · obtain ⟨q1, q2⟩ := scq_bad s c hg
      have hR := rread_bad s c _ (er1_at s c hc) hg wr (by omega)
      have he : ((Fr.er (bh s c) : Int) != 0) = true := by rw [bne_iff_ne]; omega
      rw [q1, List.append_nil] at HA
      rw [q2] at HE
      generalize Fr.er (bh s c) = E at *
      have HR := Lib.hid hR
      clear hR q1 q2 hg
      go_wp2_with fail
      refine HR.out.mono ?_
      rintro e w1 ⟨rfl, hb1⟩
      have HO1 := Lib.hid ((HO.out.below hb1 (Nat.le_refl _)).below (below_one w1 (.cells #[.int .u8 0, .string ⟨#[]⟩, .int .i64 0] 28)) (Nat.le_refl _))
      have HB1 := Lib.hid (below_chain (below_chain HB.out hb1) (below_one w1 (.cells #[.int .u8 0, .string ⟨#[]⟩, .int .i64 0] 28)))
      clear hb1
      go_wp2
      go_ret2
      exact ⟨_, by rw [HE.out]; rfl, by rw [← HA.out]; exact HO1.out, HB1.out⟩
end Go.Proofs.YtkbifmgddbilmaaDoor
