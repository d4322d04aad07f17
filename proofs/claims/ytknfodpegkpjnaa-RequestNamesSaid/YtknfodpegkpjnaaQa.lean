/- The contracts of putValue, labelFields, sampleFields, write. -/
import Derived.Test.YtknfodpegkpjnaaPi
import Derived.Deep.RegionWith
namespace Go.Proofs.Ytknfodpegkpjnaa
open Go Go.RowKit
set_option maxRecDepth 100000
def PutR (base : Nat) (l : List Gf) (w : World) (e : Ending) (w' : World) : Prop := ∃ v', e = .returned v' ∧ Og w' base v' l ∧ Below base w w'
set_option maxHeartbeats 1000000 in
theorem putT_any (t : ByteArray) (num : Int) (base : Nat) (v : Value) (l : List Gf) (w : World) (ho : Og w base v l) (hb : base ≤ w.heap.size) (hl : l.length ≤ 100000000) :
    Calls Try.prog 74 #[v, .int .i64 num, .string t] w (PutR base (if t.data.toList = [] then l else l ++ [⟨num, .tx t⟩]) w) := by
  obtain ⟨i0, hi, hz0, hz1, hz2⟩ := info_parts Try.info99
  obtain ⟨va, vc, hv⟩ := ho.shape
  subst hv
  have HO := Lib.hid ho
  by_cases hz : t.data.toList = []
  · rw [if_pos hz]
    have hq : (t.toList == []) = true := by rw [beq_iff_eq, toList_eq]; exact hz
    clear ho hz
    go_enter Try.func74, Try.ntmps74
    go_wp2
    go_ret
    exact ⟨_, rfl, HO.out, Below.refl _ _⟩
  · rw [if_neg hz]
    have hq : (t.toList == []) = false := by rw [beq_eq_false_iff_ne, toList_eq]; exact hz
    have HSN := Lib.hid (fun (W : World) (v' : Value) (h : W.ownsRow base 99 2 v' (l.length + 1) (cells2 l ++ [.int .i64 num, .iface 82 (.string t)])) => (og_snoc (f := ⟨num, .tx t⟩) h : Og W base v' (l ++ [⟨num, .tx t⟩])))
    clear ho hz
    go_enter Try.func74, Try.ntmps74
    go_wp2_with (at_builtin; refine wpList_append_own_at _ rfl (.tmp 12) (.tmp 17) 69 rfl base 99 i0 _ 2 24 Try.underlying69 hi hz0 hz1 hz2 (by rfl) (by decide) (.slice va l.length vc) l.length (cells2 l) rfl (World.ownsRow.alloc HO.out _) ⟨w.heap.size, 0, none⟩ 1 1 [.int .i64 num, .iface 82 (.string t)] rfl rfl (cells_new2 _ _ _ _) (one2 rfl) (by unfold maxLen; omega) (by omega) (by rw [World.size_alloc]; omega) ?_; intro v' w6 hown' hgrow hnil hloc; obtain ⟨a6, c6, hv6⟩ := ownsRow_shape hown'; subst hv6; have HON := Lib.hid (HSN.out _ _ hown'); have HB6 := Lib.hid ((((Below.refl w.heap.size w).mono hb).alloc hb (.cells #[.int .i64 num, .iface 82 (.string t)] 99)).grown hgrow (by simp; omega) (fun g hg => (own_lt HO.out g hg).1)); clear hown' hgrow hnil hloc)
    go_ret
    exact ⟨_, rfl, HON.out, HB6.out⟩
set_option maxHeartbeats 1000000 in
theorem putV_any (t : Nat) (num : Int) (base : Nat) (v : Value) (l : List Gf) (w : World) (ho : Og w base v l) (hb : base ≤ w.heap.size) (hl : l.length ≤ 100000000) :
    Calls Try.prog 75 #[v, .int .i64 num, .int .u64 (t : Int)] w (PutR base (if t = 0 then l else l ++ [⟨num, .va t⟩]) w) := by
  obtain ⟨i0, hi, hz0, hz1, hz2⟩ := info_parts Try.info99
  obtain ⟨va, vc, hv⟩ := ho.shape
  subst hv
  have HO := Lib.hid ho
  by_cases hz : t = 0
  · rw [if_pos hz]
    have hq : ((t : Int) == 0) = true := by rw [beq_iff_eq]; omega
    generalize (t : Int) = T at *
    clear ho hz
    go_enter Try.func75, Try.ntmps75
    go_wp2
    go_ret
    exact ⟨_, rfl, HO.out, Below.refl _ _⟩
  · rw [if_neg hz]
    have hq : ((t : Int) == 0) = false := by rw [beq_eq_false_iff_ne]; omega
    have HSN := Lib.hid (fun (W : World) (v' : Value) (h : W.ownsRow base 99 2 v' (l.length + 1) (cells2 l ++ [.int .i64 num, .iface 128 (.int .u64 (t : Int))])) => (og_snoc (f := ⟨num, .va t⟩) h : Og W base v' (l ++ [⟨num, .va t⟩])))
    generalize (t : Int) = T at *
    clear ho hz
    go_enter Try.func75, Try.ntmps75
    go_wp2_with (at_builtin; refine wpList_append_own_at _ rfl (.tmp 12) (.tmp 17) 69 rfl base 99 i0 _ 2 24 Try.underlying69 hi hz0 hz1 hz2 (by rfl) (by decide) (.slice va l.length vc) l.length (cells2 l) rfl (World.ownsRow.alloc HO.out _) ⟨w.heap.size, 0, none⟩ 1 1 [.int .i64 num, .iface 128 (.int .u64 T)] rfl rfl (cells_new2 _ _ _ _) (one2 rfl) (by unfold maxLen; omega) (by omega) (by rw [World.size_alloc]; omega) ?_; intro v' w6 hown' hgrow hnil hloc; obtain ⟨a6, c6, hv6⟩ := ownsRow_shape hown'; subst hv6; have HON := Lib.hid (HSN.out _ _ hown'); have HB6 := Lib.hid ((((Below.refl w.heap.size w).mono hb).alloc hb (.cells #[.int .i64 num, .iface 128 (.int .u64 T)] 99)).grown hgrow (by simp; omega) (fun g hg => (own_lt HO.out g hg).1)); clear hown' hgrow hnil hloc)
    go_ret
    exact ⟨_, rfl, HON.out, HB6.out⟩
set_option maxHeartbeats 1000000 in
theorem putE_any (t : Nat) (num : Int) (base : Nat) (v : Value) (l : List Gf) (w : World) (ho : Og w base v l) (hb : base ≤ w.heap.size) (hl : l.length ≤ 100000000) :
    Calls Try.prog 76 #[v, .int .i64 num, .int .u64 (t : Int)] w (PutR base (if t = 0 then l else l ++ [⟨num, .ei t⟩]) w) := by
  obtain ⟨i0, hi, hz0, hz1, hz2⟩ := info_parts Try.info99
  obtain ⟨va, vc, hv⟩ := ho.shape
  subst hv
  have HO := Lib.hid ho
  by_cases hz : t = 0
  · rw [if_pos hz]
    have hq : ((t : Int) == 0) = true := by rw [beq_iff_eq]; omega
    generalize (t : Int) = T at *
    clear ho hz
    go_enter Try.func76, Try.ntmps76
    go_wp2
    go_ret
    exact ⟨_, rfl, HO.out, Below.refl _ _⟩
  · rw [if_neg hz]
    have hq : ((t : Int) == 0) = false := by rw [beq_eq_false_iff_ne]; omega
    have HSN := Lib.hid (fun (W : World) (v' : Value) (h : W.ownsRow base 99 2 v' (l.length + 1) (cells2 l ++ [.int .i64 num, .iface 127 (.int .u64 (t : Int))])) => (og_snoc (f := ⟨num, .ei t⟩) h : Og W base v' (l ++ [⟨num, .ei t⟩])))
    generalize (t : Int) = T at *
    clear ho hz
    go_enter Try.func76, Try.ntmps76
    go_wp2_with (at_builtin; refine wpList_append_own_at _ rfl (.tmp 12) (.tmp 17) 69 rfl base 99 i0 _ 2 24 Try.underlying69 hi hz0 hz1 hz2 (by rfl) (by decide) (.slice va l.length vc) l.length (cells2 l) rfl (World.ownsRow.alloc HO.out _) ⟨w.heap.size, 0, none⟩ 1 1 [.int .i64 num, .iface 127 (.int .u64 T)] rfl rfl (cells_new2 _ _ _ _) (one2 rfl) (by unfold maxLen; omega) (by omega) (by rw [World.size_alloc]; omega) ?_; intro v' w6 hown' hgrow hnil hloc; obtain ⟨a6, c6, hv6⟩ := ownsRow_shape hown'; subst hv6; have HON := Lib.hid (HSN.out _ _ hown'); have HB6 := Lib.hid ((((Below.refl w.heap.size w).mono hb).alloc hb (.cells #[.int .i64 num, .iface 127 (.int .u64 T)] 99)).grown hgrow (by simp; omega) (fun g hg => (own_lt HO.out g hg).1)); clear hown' hgrow hnil hloc)
    go_ret
    exact ⟨_, rfl, HON.out, HB6.out⟩
end Go.Proofs.Ytknfodpegkpjnaa
