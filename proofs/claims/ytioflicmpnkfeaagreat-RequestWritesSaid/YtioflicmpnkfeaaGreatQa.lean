/- The contracts of putValue, labelFields, sampleFields, write. -/
/- The contracts of labelFields, sampleFields. -/
/- The contract of write. -/
import Derived.Test.YtioflicmpnkfeaaGreatPh
import Derived.Deep.RegionWith
import Derived.Deep.RegionHeld3
namespace Go.Proofs.YtioflicmpnkfeaaGreat
open Go Go.RowKit
set_option maxRecDepth 100000
def PutR (base : Nat) (l : List Gf) (w : World) (e : Ending) (w' : World) : Prop := ∃ v', e = .returned v' ∧ Og w' base v' l ∧ Below base w w'
set_option maxHeartbeats 1000000 in
theorem putT_any (t : ByteArray) (num : Int) (base : Nat) (v : Value) (l : List Gf) (w : World) (ho : Og w base v l) (hb : base ≤ w.heap.size) (hl : l.length ≤ 100000000) :
    Calls Tryz.prog 41 #[v, .int .i64 num, .string t] w (PutR base (if t.data.toList = [] then l else l ++ [⟨num, .tx t⟩]) w) := by
  obtain ⟨i0, hi, hz0, hz1, hz2⟩ := info_parts Tryz.info63
  obtain ⟨va, vc, hv⟩ := ho.shape
  subst hv
  have HO := Lib.hid ho
  by_cases hz : t.data.toList = []
  · rw [if_pos hz]
    have hq : (t.toList == []) = true := by rw [beq_iff_eq, toList_eq]; exact hz
    clear ho hz
    go_enter Tryz.func41, Tryz.ntmps41
    go_wp2
    go_ret
    exact ⟨_, rfl, HO.out, Below.refl _ _⟩
  · rw [if_neg hz]
    have hq : (t.toList == []) = false := by rw [beq_eq_false_iff_ne, toList_eq]; exact hz
    have HSN := Lib.hid (fun (W : World) (v' : Value) (h : W.ownsRow base 63 2 v' (l.length + 1) (cells2 l ++ [.int .i64 num, .iface 59 (.string t)])) => (og_snoc (f := ⟨num, .tx t⟩) h : Og W base v' (l ++ [⟨num, .tx t⟩])))
    clear ho hz
    go_enter Tryz.func41, Tryz.ntmps41
    go_wp2_with (at_builtin; refine wpList_append_own_at _ rfl (.tmp 12) (.tmp 17) 41 rfl base 63 i0 _ 2 24 Tryz.underlying41 hi hz0 hz1 hz2 (by rfl) (by decide) (.slice va l.length vc) l.length (cells2 l) rfl (World.ownsRow.alloc HO.out _) ⟨w.heap.size, 0, none⟩ 1 1 [.int .i64 num, .iface 59 (.string t)] rfl rfl (cells_new2 _ _ _ _) (one2 rfl) (by unfold maxLen; omega) (by omega) (by rw [World.size_alloc]; omega) ?_; intro v' w6 hown' hgrow hnil hloc; obtain ⟨a6, c6, hv6⟩ := ownsRow_shape hown'; subst hv6; have HON := Lib.hid (HSN.out _ _ hown'); have HB6 := Lib.hid ((((Below.refl w.heap.size w).mono hb).alloc hb (.cells #[.int .i64 num, .iface 59 (.string t)] 63)).grown hgrow (by simp; omega) (fun g hg => (own_lt HO.out g hg).1)); clear hown' hgrow hnil hloc)
    go_ret
    exact ⟨_, rfl, HON.out, HB6.out⟩
set_option maxHeartbeats 1000000 in
theorem putV_any (t : Nat) (num : Int) (base : Nat) (v : Value) (l : List Gf) (w : World) (ho : Og w base v l) (hb : base ≤ w.heap.size) (hl : l.length ≤ 100000000) :
    Calls Tryz.prog 42 #[v, .int .i64 num, .int .u64 (t : Int)] w (PutR base (if t = 0 then l else l ++ [⟨num, .va t⟩]) w) := by
  obtain ⟨i0, hi, hz0, hz1, hz2⟩ := info_parts Tryz.info63
  obtain ⟨va, vc, hv⟩ := ho.shape
  subst hv
  have HO := Lib.hid ho
  by_cases hz : t = 0
  · rw [if_pos hz]
    have hq : ((t : Int) == 0) = true := by rw [beq_iff_eq]; omega
    generalize (t : Int) = T at *
    clear ho hz
    go_enter Tryz.func42, Tryz.ntmps42
    go_wp2
    go_ret
    exact ⟨_, rfl, HO.out, Below.refl _ _⟩
  · rw [if_neg hz]
    have hq : ((t : Int) == 0) = false := by rw [beq_eq_false_iff_ne]; omega
    have HSN := Lib.hid (fun (W : World) (v' : Value) (h : W.ownsRow base 63 2 v' (l.length + 1) (cells2 l ++ [.int .i64 num, .iface 84 (.int .u64 (t : Int))])) => (og_snoc (f := ⟨num, .va t⟩) h : Og W base v' (l ++ [⟨num, .va t⟩])))
    generalize (t : Int) = T at *
    clear ho hz
    go_enter Tryz.func42, Tryz.ntmps42
    go_wp2_with (at_builtin; refine wpList_append_own_at _ rfl (.tmp 12) (.tmp 17) 41 rfl base 63 i0 _ 2 24 Tryz.underlying41 hi hz0 hz1 hz2 (by rfl) (by decide) (.slice va l.length vc) l.length (cells2 l) rfl (World.ownsRow.alloc HO.out _) ⟨w.heap.size, 0, none⟩ 1 1 [.int .i64 num, .iface 84 (.int .u64 T)] rfl rfl (cells_new2 _ _ _ _) (one2 rfl) (by unfold maxLen; omega) (by omega) (by rw [World.size_alloc]; omega) ?_; intro v' w6 hown' hgrow hnil hloc; obtain ⟨a6, c6, hv6⟩ := ownsRow_shape hown'; subst hv6; have HON := Lib.hid (HSN.out _ _ hown'); have HB6 := Lib.hid ((((Below.refl w.heap.size w).mono hb).alloc hb (.cells #[.int .i64 num, .iface 84 (.int .u64 T)] 63)).grown hgrow (by simp; omega) (fun g hg => (own_lt HO.out g hg).1)); clear hown' hgrow hnil hloc)
    go_ret
    exact ⟨_, rfl, HON.out, HB6.out⟩
set_option maxHeartbeats 1000000 in
theorem putE_any (t : Nat) (num : Int) (base : Nat) (v : Value) (l : List Gf) (w : World) (ho : Og w base v l) (hb : base ≤ w.heap.size) (hl : l.length ≤ 100000000) :
    Calls Tryz.prog 43 #[v, .int .i64 num, .int .u64 (t : Int)] w (PutR base (if t = 0 then l else l ++ [⟨num, .ei t⟩]) w) := by
  obtain ⟨i0, hi, hz0, hz1, hz2⟩ := info_parts Tryz.info63
  obtain ⟨va, vc, hv⟩ := ho.shape
  subst hv
  have HO := Lib.hid ho
  by_cases hz : t = 0
  · rw [if_pos hz]
    have hq : ((t : Int) == 0) = true := by rw [beq_iff_eq]; omega
    generalize (t : Int) = T at *
    clear ho hz
    go_enter Tryz.func43, Tryz.ntmps43
    go_wp2
    go_ret
    exact ⟨_, rfl, HO.out, Below.refl _ _⟩
  · rw [if_neg hz]
    have hq : ((t : Int) == 0) = false := by rw [beq_eq_false_iff_ne]; omega
    have HSN := Lib.hid (fun (W : World) (v' : Value) (h : W.ownsRow base 63 2 v' (l.length + 1) (cells2 l ++ [.int .i64 num, .iface 86 (.int .u64 (t : Int))])) => (og_snoc (f := ⟨num, .ei t⟩) h : Og W base v' (l ++ [⟨num, .ei t⟩])))
    generalize (t : Int) = T at *
    clear ho hz
    go_enter Tryz.func43, Tryz.ntmps43
    go_wp2_with (at_builtin; refine wpList_append_own_at _ rfl (.tmp 12) (.tmp 17) 41 rfl base 63 i0 _ 2 24 Tryz.underlying41 hi hz0 hz1 hz2 (by rfl) (by decide) (.slice va l.length vc) l.length (cells2 l) rfl (World.ownsRow.alloc HO.out _) ⟨w.heap.size, 0, none⟩ 1 1 [.int .i64 num, .iface 86 (.int .u64 T)] rfl rfl (cells_new2 _ _ _ _) (one2 rfl) (by unfold maxLen; omega) (by omega) (by rw [World.size_alloc]; omega) ?_; intro v' w6 hown' hgrow hnil hloc; obtain ⟨a6, c6, hv6⟩ := ownsRow_shape hown'; subst hv6; have HON := Lib.hid (HSN.out _ _ hown'); have HB6 := Lib.hid ((((Below.refl w.heap.size w).mono hb).alloc hb (.cells #[.int .i64 num, .iface 86 (.int .u64 T)] 63)).grown hgrow (by simp; omega) (fun g hg => (own_lt HO.out g hg).1)); clear hown' hgrow hnil hloc)
    go_ret
    exact ⟨_, rfl, HON.out, HB6.out⟩
end Go.Proofs.YtioflicmpnkfeaaGreat

namespace Go.Proofs.YtioflicmpnkfeaaGreat
open Go Go.RowKit
set_option maxRecDepth 100000
theorem fLb_map (x : Lb) : (fLb x).map gfd = (if x.v.data.toList = [] then (if x.n.data.toList = [] then [] else [⟨1, .tx x.n⟩]) else (if x.n.data.toList = [] then [] else [⟨1, .tx x.n⟩]) ++ [⟨2, .tx x.v⟩]) := by
  have g : ∀ (k : Nat) (t : ByteArray), gfd (part k t.data.toList) = ⟨(k : Int), .tx t⟩ := fun k t => rfl
  unfold fLb
  by_cases h1 : x.n.data.toList = [] <;> by_cases h2 : x.v.data.toList = []
  · simp only [h1, h2, if_true]; rfl
  · simp only [h1, h2, if_true, if_false, List.nil_append, List.map_cons, List.map_nil, g]; rfl
  · simp only [h1, h2, if_true, if_false, List.append_nil, List.map_cons, List.map_nil, g]; rfl
  · simp only [h1, h2, if_false, List.cons_append, List.nil_append, List.map_cons, List.map_nil, g]; rfl
set_option maxHeartbeats 1000000 in
theorem labF_any (x : Lb) (w : World) : Calls Tryz.prog 28 #[.agg #[.string x.n, .string x.v]] w (PutR w.heap.size ((fLb x).map gfd) w) := by
  rw [fLb_map]
  have H1 := Lib.hid (fun base v l W ho hb hl => putT_any x.n 1 base v l W ho hb hl)
  have H2 := Lib.hid (fun base v l W ho hb hl => putT_any x.v 2 base v l W ho hb hl)
  have e1 : (if x.n.data.toList = [] then ([] : List Gf) else [] ++ [⟨1, .tx x.n⟩]) = (if x.n.data.toList = [] then [] else [⟨1, .tx x.n⟩]) := by simp
  have hl1 : (if x.n.data.toList = [] then ([] : List Gf) else [⟨1, .tx x.n⟩]).length ≤ 100000000 := by split <;> simp
  have H1' : Hid (∀ W, w.heap.size + 1 ≤ W.heap.size → Calls Tryz.prog 41 #[.slice none 0 0, .int .i64 1, .string x.n] W (PutR (w.heap.size + 1) (if x.n.data.toList = [] then [] else [⟨1, .tx x.n⟩]) W)) := Lib.hid fun W hW => by
    have := H1.out (w.heap.size + 1) (.slice none 0 0) [] W (World.ownsRow_nil _ _ _ _) hW (by simp)
    rw [e1] at this
    exact this
  have hc0 : (w.alloc (.cells #[.string x.n, .string x.v] 35)).cell? ⟨w.heap.size, 0, none⟩ = some (.string x.n) := by rw [World.cell?_alloc_mark]; rfl
  have hc1 : (w.alloc (.cells #[.string x.n, .string x.v] 35)).cell? ⟨w.heap.size, 1, none⟩ = some (.string x.v) := by rw [World.cell?_alloc_mark]; rfl
  clear H1 e1
  obtain ⟨n, v⟩ := x
  dsimp only at *
  generalize hX : (if n.data.toList = [] then ([] : List Gf) else [⟨1, .tx n⟩]) = X at *
  generalize hY : (if v.data.toList = [] then X else X ++ [⟨2, .tx v⟩]) = Y at *
  have H2' : Hid (∀ W u, Og W (w.heap.size + 1) u X → w.heap.size + 1 ≤ W.heap.size → Calls Tryz.prog 41 #[u, .int .i64 2, .string v] W (PutR (w.heap.size + 1) Y W)) := Lib.hid fun W u ho hW => by
    have := H2.out (w.heap.size + 1) u X W ho hW hl1
    rw [hY] at this
    exact this
  clear H2 hX hY hl1
  go_enter Tryz.func28, Tryz.ntmps28
  go_wp2_with fail
  have k0 := And.intro hc0 hc1
  go_region_held3 (fun w' => w'.cell? ⟨w.heap.size, 0, none⟩ = some (.string n) ∧ w'.cell? ⟨w.heap.size, 1, none⟩ = some (.string v)) (first | exact k0 | exact k1 | exact k2) (first
    | (have hx := HO2; go_at_call 41; refine (H2'.out _ _ HO2.out HS2.out).mono ?_; rintro e w3 ⟨u3, rfl, ho3, hb3⟩; have HB3 : Hid (Below (w.heap.size + 1) w2 w3) := Lib.hid ⟨hb3.os, hb3.tape, hb3.output, hb3.size, hb3.block⟩; have HO3 := Lib.hid ho3; have k2 := And.intro ((HB3.out.cell (p := ⟨w.heap.size, 0, none⟩) (Nat.lt_succ_self _)).trans k1.1) ((HB3.out.cell (p := ⟨w.heap.size, 1, none⟩) (Nat.lt_succ_self _)).trans k1.2); obtain ⟨a3, c3, hu3⟩ := ho3.shape; subst hu3; clear ho3 hb3)
    | (go_at_call 41; refine (H1'.out _ (by simp)).mono ?_; rintro e w2 ⟨u2, rfl, ho2, hb2⟩; have HB2 : Hid (Below (w.heap.size + 1) (w.alloc (.cells #[.string n, .string v] 35)) w2) := Lib.hid ⟨hb2.os, hb2.tape, hb2.output, hb2.size, hb2.block⟩; have HO2 := Lib.hid ho2; have k1 := And.intro ((HB2.out.cell (p := ⟨w.heap.size, 0, none⟩) (Nat.lt_succ_self _)).trans hc0) ((HB2.out.cell (p := ⟨w.heap.size, 1, none⟩) (Nat.lt_succ_self _)).trans hc1); obtain ⟨a2, c2, hu2⟩ := ho2.shape; subst hu2; have HS2 : Hid (w.heap.size + 1 ≤ w2.heap.size) := Lib.hid (by have := HB2.out.size; simpa using this); clear ho2 hb2))
  go_wp2
  go_ret
  refine ⟨_, rfl, HO3.out.mono (Nat.le_succ _), ?_⟩
  have hb := (HB2.out.trans HB3.out).mono (Nat.le_succ _)
  exact ((Below.refl w.heap.size w).alloc (Nat.le_refl _) (.cells #[.string n, .string v] 35)).trans hb
theorem fSm_map (x : Sm) (hx : x.ok) : (fSm x).map gfd = (if tn x.t = 0 then (if x.b = 0 then [] else [⟨1, .ei x.b⟩]) else (if x.b = 0 then [] else [⟨1, .ei x.b⟩]) ++ [⟨2, .va (tn x.t)⟩]) := by
  have hz := tn_zero hx.lo hx.hi
  unfold fSm
  by_cases h1 : x.b = 0 <;> by_cases h2 : x.t = 0
  · rw [if_pos h1, if_pos h2, if_pos (hz.2 h2), if_pos h1]; rfl
  · rw [if_pos h1, if_neg h2, if_neg (fun e => h2 (hz.1 e)), if_pos h1]; rfl
  · rw [if_neg h1, if_pos h2, if_pos (hz.2 h2), if_neg h1]; rfl
  · rw [if_neg h1, if_neg h2, if_neg (fun e => h2 (hz.1 e)), if_neg h1]; rfl
theorem tn_wrap {t : Int} (h1 : -9223372036854775808 ≤ t) (h2 : t ≤ 9223372036854775807) : IntKind.u64.wrap t = (tn t : Int) := by
  unfold tn
  rw [IntKind.wrap_u64]
  omega
set_option maxHeartbeats 1000000 in
theorem smpF_any (x : Sm) (hx : x.ok) (w : World) : Calls Tryz.prog 29 #[.agg #[.int .i64 x.t, .int .u64 (x.b : Int)]] w (PutR w.heap.size ((fSm x).map gfd) w) := by
  rw [fSm_map x hx]
  have H1 := Lib.hid (fun base v l W ho hb hl => putE_any x.b 1 base v l W ho hb hl)
  have H2 := Lib.hid (fun base v l W ho hb hl => putV_any (tn x.t) 2 base v l W ho hb hl)
  have e1 : (if x.b = 0 then ([] : List Gf) else [] ++ [⟨1, .ei x.b⟩]) = (if x.b = 0 then [] else [⟨1, .ei x.b⟩]) := by simp
  have hl1 : (if x.b = 0 then ([] : List Gf) else [⟨1, .ei x.b⟩]).length ≤ 100000000 := by split <;> simp
  have H1' : Hid (∀ W, w.heap.size + 1 ≤ W.heap.size → Calls Tryz.prog 43 #[.slice none 0 0, .int .i64 1, .int .u64 (x.b : Int)] W (PutR (w.heap.size + 1) (if x.b = 0 then [] else [⟨1, .ei x.b⟩]) W)) := Lib.hid fun W hW => by
    have := H1.out (w.heap.size + 1) (.slice none 0 0) [] W (World.ownsRow_nil _ _ _ _) hW (by simp)
    rw [e1] at this
    exact this
  have hwr := tn_wrap hx.lo hx.hi
  have ht1 := hx.lo
  have ht2 := hx.hi
  clear H1 e1 hx
  obtain ⟨t, b⟩ := x
  dsimp only at *
  have hc0 : (w.alloc (.cells #[.int .i64 t, .int .u64 (b : Int)] 54)).cell? ⟨w.heap.size, 0, none⟩ = some (.int .i64 t) := by rw [World.cell?_alloc_mark]; rfl
  have hc1 : (w.alloc (.cells #[.int .i64 t, .int .u64 (b : Int)] 54)).cell? ⟨w.heap.size, 1, none⟩ = some (.int .u64 (b : Int)) := by rw [World.cell?_alloc_mark]; rfl
  generalize hX : (if b = 0 then ([] : List Gf) else [⟨1, .ei b⟩]) = X at *
  generalize hY : (if tn t = 0 then X else X ++ [⟨2, .va (tn t)⟩]) = Y at *
  have H2' : Hid (∀ W u, Og W (w.heap.size + 1) u X → w.heap.size + 1 ≤ W.heap.size → Calls Tryz.prog 42 #[u, .int .i64 2, .int .u64 (tn t : Int)] W (PutR (w.heap.size + 1) Y W)) := Lib.hid fun W u ho hW => by
    have := H2.out (w.heap.size + 1) u X W ho hW hl1
    rw [hY] at this
    exact this
  clear H2 hX hY hl1
  generalize (b : Int) = b at *
  generalize (tn t : Int) = T at *
  go_enter Tryz.func29, Tryz.ntmps29
  go_wp2_with fail
  have k0 := And.intro hc0 hc1
  go_region_held3 (fun w' => w'.cell? ⟨w.heap.size, 0, none⟩ = some (.int .i64 t) ∧ w'.cell? ⟨w.heap.size, 1, none⟩ = some (.int .u64 b)) (first | exact k0 | exact k1 | exact k2) (first
    | (have hx := HO2; go_at_call 42; refine (H2'.out _ _ HO2.out HS2.out).mono ?_; rintro e w3 ⟨u3, rfl, ho3, hb3⟩; have HB3 : Hid (Below (w.heap.size + 1) w2 w3) := Lib.hid ⟨hb3.os, hb3.tape, hb3.output, hb3.size, hb3.block⟩; have HO3 := Lib.hid ho3; have k2 := And.intro ((HB3.out.cell (p := ⟨w.heap.size, 0, none⟩) (Nat.lt_succ_self _)).trans k1.1) ((HB3.out.cell (p := ⟨w.heap.size, 1, none⟩) (Nat.lt_succ_self _)).trans k1.2); obtain ⟨a3, c3, hu3⟩ := ho3.shape; subst hu3; clear ho3 hb3)
    | (go_at_call 43; refine (H1'.out _ (by simp)).mono ?_; rintro e w2 ⟨u2, rfl, ho2, hb2⟩; have HB2 : Hid (Below (w.heap.size + 1) (w.alloc (.cells #[.int .i64 t, .int .u64 b] 54)) w2) := Lib.hid ⟨hb2.os, hb2.tape, hb2.output, hb2.size, hb2.block⟩; have HO2 := Lib.hid ho2; have k1 := And.intro ((HB2.out.cell (p := ⟨w.heap.size, 0, none⟩) (Nat.lt_succ_self _)).trans hc0) ((HB2.out.cell (p := ⟨w.heap.size, 1, none⟩) (Nat.lt_succ_self _)).trans hc1); obtain ⟨a2, c2, hu2⟩ := ho2.shape; subst hu2; have HS2 : Hid (w.heap.size + 1 ≤ w2.heap.size) := Lib.hid (by have := HB2.out.size; simpa using this); clear ho2 hb2))
  go_wp2
  go_ret
  refine ⟨_, rfl, HO3.out.mono (Nat.le_succ _), ?_⟩
  have hb := (HB2.out.trans HB3.out).mono (Nat.le_succ _)
  exact ((Below.refl w.heap.size w).alloc (Nat.le_refl _) (.cells #[.int .i64 t, .int .u64 b] 54)).trans hb
end Go.Proofs.YtioflicmpnkfeaaGreat

namespace Go.Proofs.YtioflicmpnkfeaaGreat
open Go Go.RowKit
set_option maxRecDepth 100000
theorem gfd_by {f : Fd} (h : f.ok) (ht : f.t.length ≤ 1000000) : (gfd f).may = true ∧ (gfd f).ok ∧ Gf.by (gfd f) = fby f ∧ (gfd f).v.by = vby f := by
  obtain ⟨h1, h2, h3⟩ := mayk_w h.may
  have h0 := h.v0
  have h5 := h.v5
  have h6 := h.v2
  obtain ⟨n, w, v, t⟩ := f
  dsimp only at *
  have hn : ((n : Int)).toNat = n := by omega
  rcases h3 with rfl | rfl | rfl | rfl
  · refine ⟨Gf.may_iff.2 ⟨⟨?_, ?_⟩, rfl⟩, ⟨?_, ?_, h0 (.inl rfl)⟩, ?_, rfl⟩ <;> first | (unfold gfd; dsimp only; omega) | (show Bt.vint ((n : Int).toNat * 8 + 0) ++ Bt.vint v = _; rw [hn]; rfl)
  · refine ⟨Gf.may_iff.2 ⟨⟨?_, ?_⟩, rfl⟩, ⟨?_, ?_, h0 (.inr rfl)⟩, ?_, rfl⟩ <;> first | (unfold gfd; dsimp only; omega) | (show Bt.vint ((n : Int).toNat * 8 + 1) ++ Bt.fx 8 v = _; rw [hn]; rfl)
  · refine ⟨Gf.may_iff.2 ⟨⟨?_, ?_⟩, rfl⟩, ⟨?_, ?_, ?_⟩, ?_, ?_⟩
    · unfold gfd; dsimp only; omega
    · unfold gfd; dsimp only; omega
    · unfold gfd; dsimp only; omega
    · unfold gfd; dsimp only; omega
    · show (bs t).size ≤ _; rw [bs_size]; omega
    · show Bt.vint ((n : Int).toNat * 8 + 2) ++ (Bt.vint (bs t).size ++ (bs t).data.toList) = _
      rw [hn, bs_size, bs_data]; rfl
    · show Bt.vint (bs t).size ++ (bs t).data.toList = _
      rw [bs_size, bs_data]; rfl
  · refine ⟨Gf.may_iff.2 ⟨⟨?_, ?_⟩, rfl⟩, ⟨?_, ?_, h5 rfl⟩, ?_, rfl⟩ <;> first | (unfold gfd; dsimp only; omega) | (show Bt.vint ((n : Int).toNat * 8 + 5) ++ Bt.fx 4 v = _; rw [hn]; rfl)
theorem wrk_gfd : ∀ (fs : List Fd) (b : List UInt8), (∀ f ∈ fs, f.ok ∧ f.t.length ≤ 1000000) → wrk (fs.map gfd) b = (b ++ eM fs, 0)
  | [], b, _ => by simp [wrk, eM]
  | f :: r, b, h => by
    obtain ⟨h1, h2⟩ := h f (by simp)
    obtain ⟨g1, -, g3, -⟩ := gfd_by h1 h2
    rw [List.map_cons, wrk, if_pos g1, wrk_gfd r _ (fun x hx => h x (by simp [hx])), g3, eM_cons, List.append_assoc]
theorem f_by {fs : List Fd} : ∀ f ∈ fs, (vby f).length ≤ (eM fs).length := by
  induction fs with
  | nil => intro f hf; cases hf
  | cons g r ih =>
    intro f hf
    rw [eM_cons, List.length_append]
    rcases List.mem_cons.1 hf with rfl | hf
    · unfold fby; rw [List.length_append]; omega
    · have := ih f hf; omega
theorem wr_any (fs : List Fd) (hok : ∀ f ∈ fs, f.ok) (hlen : (eM fs).length ≤ 1000000) (v : Value) (w : World) (hv : GAt w v (fs.map gfd)) : Calls Tryz.prog 15 #[v] w (Ret w (.string (bs (eM fs)))) := by
  have ht : ∀ f ∈ fs, f.ok ∧ f.t.length ≤ 1000000 := fun f hf => ⟨hok f hf, by have := f_len hok f hf; omega⟩
  have HW := Lib.hid (write_any (fs.map gfd) (by rw [List.length_map]; have := eM_cnt fs; omega) (fun g hg => by obtain ⟨f, hf, rfl⟩ := List.mem_map.1 hg; exact (gfd_by (ht f hf).1 (ht f hf).2).2.1) (fun g hg => by obtain ⟨f, hf, rfl⟩ := List.mem_map.1 hg; rw [(gfd_by (ht f hf).1 (ht f hf).2).2.2.2]; have := f_by f hf; omega) v w hv)
  rw [wrk_gfd fs [] ht, List.nil_append] at HW
  obtain ⟨a, c, hv2⟩ := hv.slice
  generalize (fs.map gfd).length = L at hv2
  subst hv2
  clear ht hok hlen hv
  go_enter Tryz.func15, Tryz.ntmps15
  go_wp2_with fail
  refine HW.out.mono ?_
  rintro e w1 ⟨rfl, hb1⟩
  have HB1 := Lib.hid hb1
  clear hb1
  go_wp2
  go_ret
  exact ⟨rfl, HB1.out⟩
end Go.Proofs.YtioflicmpnkfeaaGreat
