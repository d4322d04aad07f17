/- The contracts of labelFields, sampleFields. -/
import Derived.Test.YtknfodpegkpjnaaQa
import Derived.Deep.RegionHeld3
namespace Go.Proofs.Ytknfodpegkpjnaa
open Go Go.RowKit
set_option maxRecDepth 100000
theorem fLb_map (x : Lb) : (fLb x).map gfd = (if x.v.data.toList = [] then (if x.n.data.toList = [] then [] else [⟨1, .tx x.n⟩]) else (if x.n.data.toList = [] then [] else [⟨1, .tx x.n⟩]) ++ [⟨2, .tx x.v⟩]) := by
  have g : ∀ (k : Nat) (t : ByteArray), gfd (part k t.data.toList) = ⟨(k : Int), .tx t⟩ := fun k t => rfl
  unfold fLb
  by_cases h1 : x.n.data.toList = [] <;> by_cases h2 : x.v.data.toList = []
  · simp only [h1, h2, if_true]; rfl
  · simp only [h1, h2, if_true, if_false, List.nil_append, List.map_cons, List.map_nil, g]; rfl
  · simp only [h1, h2, if_true, if_false, List.append_nil, List.map_cons, List.map_nil, g]; rfl
  · simp only [h1, h2, if_false, List.cons_append, List.nil_append, List.map_cons, List.map_nil, g]; rfl
set_option maxHeartbeats 1000000 in
theorem labF_any (x : Lb) (w : World) : Calls Try.prog 51 #[.agg #[.string x.n, .string x.v]] w (PutR w.heap.size ((fLb x).map gfd) w) := by
  rw [fLb_map]
  have H1 := Lib.hid (fun base v l W ho hb hl => putT_any x.n 1 base v l W ho hb hl)
  have H2 := Lib.hid (fun base v l W ho hb hl => putT_any x.v 2 base v l W ho hb hl)
  have e1 : (if x.n.data.toList = [] then ([] : List Gf) else [] ++ [⟨1, .tx x.n⟩]) = (if x.n.data.toList = [] then [] else [⟨1, .tx x.n⟩]) := by simp
  have hl1 : (if x.n.data.toList = [] then ([] : List Gf) else [⟨1, .tx x.n⟩]).length ≤ 100000000 := by split <;> simp
  have H1' : Hid (∀ W, w.heap.size + 1 ≤ W.heap.size → Calls Try.prog 74 #[.slice none 0 0, .int .i64 1, .string x.n] W (PutR (w.heap.size + 1) (if x.n.data.toList = [] then [] else [⟨1, .tx x.n⟩]) W)) := Lib.hid fun W hW => by
    have := H1.out (w.heap.size + 1) (.slice none 0 0) [] W (World.ownsRow_nil _ _ _ _) hW (by simp)
    rw [e1] at this
    exact this
  have hc0 : (w.alloc (.cells #[.string x.n, .string x.v] 33)).cell? ⟨w.heap.size, 0, none⟩ = some (.string x.n) := by rw [World.cell?_alloc_mark]; rfl
  have hc1 : (w.alloc (.cells #[.string x.n, .string x.v] 33)).cell? ⟨w.heap.size, 1, none⟩ = some (.string x.v) := by rw [World.cell?_alloc_mark]; rfl
  clear H1 e1
  obtain ⟨n, v⟩ := x
  dsimp only at *
  generalize hX : (if n.data.toList = [] then ([] : List Gf) else [⟨1, .tx n⟩]) = X at *
  generalize hY : (if v.data.toList = [] then X else X ++ [⟨2, .tx v⟩]) = Y at *
  have H2' : Hid (∀ W u, Og W (w.heap.size + 1) u X → w.heap.size + 1 ≤ W.heap.size → Calls Try.prog 74 #[u, .int .i64 2, .string v] W (PutR (w.heap.size + 1) Y W)) := Lib.hid fun W u ho hW => by
    have := H2.out (w.heap.size + 1) u X W ho hW hl1
    rw [hY] at this
    exact this
  clear H2 hX hY hl1
  go_enter Try.func51, Try.ntmps51
  go_wp2_with fail
  have k0 := And.intro hc0 hc1
  go_region_held3 (fun w' => w'.cell? ⟨w.heap.size, 0, none⟩ = some (.string n) ∧ w'.cell? ⟨w.heap.size, 1, none⟩ = some (.string v)) (first | exact k0 | exact k1 | exact k2) (first
    | (have hx := HO2; go_at_call 74; refine (H2'.out _ _ HO2.out HS2.out).mono ?_; rintro e w3 ⟨u3, rfl, ho3, hb3⟩; have HB3 : Hid (Below (w.heap.size + 1) w2 w3) := Lib.hid ⟨hb3.os, hb3.tape, hb3.output, hb3.size, hb3.block⟩; have HO3 := Lib.hid ho3; have k2 := And.intro ((HB3.out.cell (p := ⟨w.heap.size, 0, none⟩) (Nat.lt_succ_self _)).trans k1.1) ((HB3.out.cell (p := ⟨w.heap.size, 1, none⟩) (Nat.lt_succ_self _)).trans k1.2); obtain ⟨a3, c3, hu3⟩ := ho3.shape; subst hu3; clear ho3 hb3)
    | (go_at_call 74; refine (H1'.out _ (by simp)).mono ?_; rintro e w2 ⟨u2, rfl, ho2, hb2⟩; have HB2 : Hid (Below (w.heap.size + 1) (w.alloc (.cells #[.string n, .string v] 33)) w2) := Lib.hid ⟨hb2.os, hb2.tape, hb2.output, hb2.size, hb2.block⟩; have HO2 := Lib.hid ho2; have k1 := And.intro ((HB2.out.cell (p := ⟨w.heap.size, 0, none⟩) (Nat.lt_succ_self _)).trans hc0) ((HB2.out.cell (p := ⟨w.heap.size, 1, none⟩) (Nat.lt_succ_self _)).trans hc1); obtain ⟨a2, c2, hu2⟩ := ho2.shape; subst hu2; have HS2 : Hid (w.heap.size + 1 ≤ w2.heap.size) := Lib.hid (by have := HB2.out.size; simpa using this); clear ho2 hb2))
  go_wp2
  go_ret
  refine ⟨_, rfl, HO3.out.mono (Nat.le_succ _), ?_⟩
  have hb := (HB2.out.trans HB3.out).mono (Nat.le_succ _)
  exact ((Below.refl w.heap.size w).alloc (Nat.le_refl _) (.cells #[.string n, .string v] 33)).trans hb
theorem fSm_map (x : Sm) (hx : x.ok) : (fSm x).map gfd = (if tn x.t = 0 then (if x.b = 0 then [] else [⟨1, .ei x.b⟩]) else (if x.b = 0 then [] else [⟨1, .ei x.b⟩]) ++ [⟨2, .va (tn x.t)⟩]) := by
  have hz := tn_zero hx.lo hx.hi
  unfold fSm
  by_cases h1 : x.b = 0 <;> by_cases h2 : x.t = 0
  · rw [if_pos h1, if_pos h2, if_pos (hz.2 h2), if_pos h1]; rfl
  · rw [if_pos h1, if_neg h2, if_neg (fun e => h2 (hz.1 e)), if_pos h1]; rfl
  · rw [if_neg h1, if_pos h2, if_pos (hz.2 h2), if_neg h1]; rfl
  · rw [if_neg h1, if_neg h2, if_neg (fun e => h2 (hz.1 e)), if_neg h1]; rfl
theorem tn_wrap {t : Int} (h1 : -9223372036854775808 ≤ t) (h2 : t ≤ 9223372036854775807) : IntKind.u64.wrap t = (tn t : Int) := by
  unfold tn
  rw [IntKind.wrap_u64]
  omega
set_option maxHeartbeats 1000000 in
theorem smpF_any (x : Sm) (hx : x.ok) (w : World) : Calls Try.prog 52 #[.agg #[.int .i64 x.t, .int .u64 (x.b : Int)]] w (PutR w.heap.size ((fSm x).map gfd) w) := by
  rw [fSm_map x hx]
  have H1 := Lib.hid (fun base v l W ho hb hl => putE_any x.b 1 base v l W ho hb hl)
  have H2 := Lib.hid (fun base v l W ho hb hl => putV_any (tn x.t) 2 base v l W ho hb hl)
  have e1 : (if x.b = 0 then ([] : List Gf) else [] ++ [⟨1, .ei x.b⟩]) = (if x.b = 0 then [] else [⟨1, .ei x.b⟩]) := by simp
  have hl1 : (if x.b = 0 then ([] : List Gf) else [⟨1, .ei x.b⟩]).length ≤ 100000000 := by split <;> simp
  have H1' : Hid (∀ W, w.heap.size + 1 ≤ W.heap.size → Calls Try.prog 76 #[.slice none 0 0, .int .i64 1, .int .u64 (x.b : Int)] W (PutR (w.heap.size + 1) (if x.b = 0 then [] else [⟨1, .ei x.b⟩]) W)) := Lib.hid fun W hW => by
    have := H1.out (w.heap.size + 1) (.slice none 0 0) [] W (World.ownsRow_nil _ _ _ _) hW (by simp)
    rw [e1] at this
    exact this
  have hwr := tn_wrap hx.lo hx.hi
  have ht1 := hx.lo
  have ht2 := hx.hi
  clear H1 e1 hx
  obtain ⟨t, b⟩ := x
  dsimp only at *
  have hc0 : (w.alloc (.cells #[.int .i64 t, .int .u64 (b : Int)] 37)).cell? ⟨w.heap.size, 0, none⟩ = some (.int .i64 t) := by rw [World.cell?_alloc_mark]; rfl
  have hc1 : (w.alloc (.cells #[.int .i64 t, .int .u64 (b : Int)] 37)).cell? ⟨w.heap.size, 1, none⟩ = some (.int .u64 (b : Int)) := by rw [World.cell?_alloc_mark]; rfl
  generalize hX : (if b = 0 then ([] : List Gf) else [⟨1, .ei b⟩]) = X at *
  generalize hY : (if tn t = 0 then X else X ++ [⟨2, .va (tn t)⟩]) = Y at *
  have H2' : Hid (∀ W u, Og W (w.heap.size + 1) u X → w.heap.size + 1 ≤ W.heap.size → Calls Try.prog 75 #[u, .int .i64 2, .int .u64 (tn t : Int)] W (PutR (w.heap.size + 1) Y W)) := Lib.hid fun W u ho hW => by
    have := H2.out (w.heap.size + 1) u X W ho hW hl1
    rw [hY] at this
    exact this
  clear H2 hX hY hl1
  generalize (b : Int) = b at *
  generalize (tn t : Int) = T at *
  go_enter Try.func52, Try.ntmps52
  go_wp2_with fail
  have k0 := And.intro hc0 hc1
  go_region_held3 (fun w' => w'.cell? ⟨w.heap.size, 0, none⟩ = some (.int .i64 t) ∧ w'.cell? ⟨w.heap.size, 1, none⟩ = some (.int .u64 b)) (first | exact k0 | exact k1 | exact k2) (first
    | (have hx := HO2; go_at_call 75; refine (H2'.out _ _ HO2.out HS2.out).mono ?_; rintro e w3 ⟨u3, rfl, ho3, hb3⟩; have HB3 : Hid (Below (w.heap.size + 1) w2 w3) := Lib.hid ⟨hb3.os, hb3.tape, hb3.output, hb3.size, hb3.block⟩; have HO3 := Lib.hid ho3; have k2 := And.intro ((HB3.out.cell (p := ⟨w.heap.size, 0, none⟩) (Nat.lt_succ_self _)).trans k1.1) ((HB3.out.cell (p := ⟨w.heap.size, 1, none⟩) (Nat.lt_succ_self _)).trans k1.2); obtain ⟨a3, c3, hu3⟩ := ho3.shape; subst hu3; clear ho3 hb3)
    | (go_at_call 76; refine (H1'.out _ (by simp)).mono ?_; rintro e w2 ⟨u2, rfl, ho2, hb2⟩; have HB2 : Hid (Below (w.heap.size + 1) (w.alloc (.cells #[.int .i64 t, .int .u64 b] 37)) w2) := Lib.hid ⟨hb2.os, hb2.tape, hb2.output, hb2.size, hb2.block⟩; have HO2 := Lib.hid ho2; have k1 := And.intro ((HB2.out.cell (p := ⟨w.heap.size, 0, none⟩) (Nat.lt_succ_self _)).trans hc0) ((HB2.out.cell (p := ⟨w.heap.size, 1, none⟩) (Nat.lt_succ_self _)).trans hc1); obtain ⟨a2, c2, hu2⟩ := ho2.shape; subst hu2; have HS2 : Hid (w.heap.size + 1 ≤ w2.heap.size) := Lib.hid (by have := HB2.out.size; simpa using this); clear ho2 hb2))
  go_wp2
  go_ret
  refine ⟨_, rfl, HO3.out.mono (Nat.le_succ _), ?_⟩
  have hb := (HB2.out.trans HB3.out).mono (Nat.le_succ _)
  exact ((Below.refl w.heap.size w).alloc (Nat.le_refl _) (.cells #[.int .i64 t, .int .u64 b] 37)).trans hb
end Go.Proofs.Ytknfodpegkpjnaa
