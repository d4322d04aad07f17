/- The contracts of seriesFields, Encode. -/
import Derived.Test.YtioflicmpnkfeaaGreatQd
namespace Go.Proofs.YtioflicmpnkfeaaGreat
open Go Go.RowKit
set_option maxRecDepth 100000
theorem gpt_parts (n : Nat) (Fs : List (List Fd)) : gpt (n : Int) Fs = (Fs.map fun F => part n (eM F)).map gfd := by
  unfold gpt
  rw [List.map_map]
  rfl
theorem fSr_gpt (x : Sr) : (fSr x).map gfd = gpt 1 (x.ls.map fLb) ++ gpt 2 (x.ss.map fSm) := by
  rw [show (1 : Int) = ((1 : Nat) : Int) from rfl, show (2 : Int) = ((2 : Nat) : Int) from rfl, gpt_parts, gpt_parts]
  unfold fSr
  rw [List.map_append, List.map_map, List.map_map, List.map_map, List.map_map, List.map_map, List.map_map]
  rfl
/-- A series whose bytes are not many. -/
structure Siz (x : Sr) : Prop where
  ss : ∀ y ∈ x.ss, y.ok
  len : (eSr x).length ≤ 1000000
theorem part_le {fs : List Fd} {n : Nat} {t : List UInt8} (h : part n t ∈ fs) : t.length + 1 ≤ (eM fs).length := by
  induction fs with
  | nil => cases h
  | cons g r ih =>
    rw [eM_cons, List.length_append]
    rcases List.mem_cons.1 h with h | h
    · rw [← h, part_len]
      have := Bt.vlen_pos (n * 8 + 2)
      omega
    · have := ih h; omega
theorem Siz.l {x : Sr} (h : Siz x) : ∀ y ∈ x.ls, (∀ f ∈ fLb y, f.ok) ∧ (eM (fLb y)).length ≤ 1000000 := by
  intro y hy
  have h1 : part 1 (eLb y) ∈ fSr x := List.mem_append_left _ (List.mem_map_of_mem (f := fun y => part 1 (eLb y)) hy)
  have h2 := part_le h1
  have h3 := h.len
  have e : (eM (fSr x)).length = (eSr x).length := rfl
  have e2 : (eM (fLb y)).length = (eLb y).length := rfl
  have h4 := eLb_len y
  have h5 : y.n.data.toList.length ≤ nLen y := by
    unfold nLen
    split
    · rename_i e; rw [e]; exact Nat.zero_le _
    · rw [part_len]; omega
  have h6 : y.v.data.toList.length ≤ vLen y := by
    unfold vLen
    split
    · rename_i e; rw [e]; exact Nat.zero_le _
    · rw [part_len]; omega
  exact ⟨fLb_ok ⟨by omega, by omega⟩, by omega⟩
theorem Siz.s {x : Sr} (h : Siz x) : ∀ y ∈ x.ss, (∀ f ∈ fSm y, f.ok) ∧ (eM (fSm y)).length ≤ 1000000 := by
  intro y hy
  have h1 : part 2 (eSm y) ∈ fSr x := List.mem_append_right _ (List.mem_map_of_mem (f := fun y => part 2 (eSm y)) hy)
  have h2 := part_le h1
  have h3 := h.len
  have e : (eM (fSr x)).length = (eSr x).length := rfl
  have e2 : (eM (fSm y)).length = (eSm y).length := rfl
  exact ⟨fSm_ok (h.ss y hy), by omega⟩
theorem Siz.cnt {x : Sr} (h : Siz x) : x.ls.length + x.ss.length ≤ 1000000 := by
  have h1 := eM_cnt (fSr x)
  have e : (eM (fSr x)).length = (eSr x).length := rfl
  have h3 := h.len
  have h4 : (fSr x).length = x.ls.length + x.ss.length := by unfold fSr; simp
  omega
theorem parts_l {x : Sr} (h : Siz x) (base : Nat) (w : World) (hb : base ≤ w.heap.size) : Parts 28 base w (x.ls.map lp) (x.ls.map fLb) := by
  refine ⟨by simp, fun p hp => ?_, fun j h1 h2 W hW => ?_, fun F hF => ?_⟩
  · obtain ⟨y, _, rfl⟩ := List.mem_map.1 hp; exact ⟨rfl, rfl⟩
  · rw [List.getElem_map, List.getElem_map]
    refine (labF_any _ W).mono ?_
    rintro e w' ⟨v', he, ho, hb⟩
    exact ⟨v', he, ho.at, hb⟩
  · obtain ⟨y, hy, rfl⟩ := List.mem_map.1 hF; exact h.l y hy
theorem parts_s {x : Sr} (h : Siz x) (base : Nat) (w : World) (hb : base ≤ w.heap.size) : Parts 29 base w (x.ss.map sp) (x.ss.map fSm) := by
  refine ⟨by simp, fun p hp => ?_, fun j h1 h2 W hW => ?_, fun F hF => ?_⟩
  · obtain ⟨y, _, rfl⟩ := List.mem_map.1 hp; exact ⟨rfl, rfl⟩
  · rw [List.getElem_map, List.getElem_map]
    refine (smpF_any _ (h.ss _ (List.getElem_mem _)) W).mono ?_
    rintro e w' ⟨v', he, ho, hb⟩
    exact ⟨v', he, ho.at, hb⟩
  · obtain ⟨y, hy, rfl⟩ := List.mem_map.1 hF; exact h.s y hy
theorem gpt_len (n : Int) (Fs : List (List Fd)) : (gpt n Fs).length = Fs.length := by simp [gpt]
set_option maxHeartbeats 1000000 in
theorem serF_any (x : Sr) (hx : Siz x) (a b : Value) (w : World) (hA : LAt w a x.ls) (hB : MAt w b x.ss) : Calls Tryz.prog 17 #[.agg #[a, b]] w (PutR w.heap.size ((fSr x).map gfd) w) := by
  rw [fSr_gpt]
  have hcn := hx.cnt
  obtain ⟨a1, c1, ha⟩ := At2.slice hA
  obtain ⟨a2, c2, hb⟩ := At2.slice hB
  have hA0 : Below w.heap.size w (w.alloc (.cells #[a, b] 29)) := (Below.refl _ _).alloc (Nat.le_refl _) _
  have hsz : (w.alloc (.cells #[a, b] 29)).heap.size = w.heap.size + 1 := by simp
  have up : ∀ {W0 W : World}, Below (w.heap.size + 1) (w.alloc (.cells #[a, b] 29)) W0 → Below (w.heap.size + 1) W0 W → Below w.heap.size w W := fun h1 h2 => hA0.trans ((h1.trans h2).mono (Nat.le_succ _))
  have H1 : Hid (∀ W0, Below (w.heap.size + 1) (w.alloc (.cells #[a, b] 29)) W0 → Calls Tryz.prog 27 #[.slice none 0 0, .int .i64 1, a, .func (.func 28) #[] #[]] W0 (PutR (w.heap.size + 1) (gpt 1 (x.ls.map fLb)) W0)) := Lib.hid fun W0 h0 => by
    have hs0 : w.heap.size + 1 ≤ W0.heap.size := by have := h0.size; rw [hsz] at this; exact this
    have := parts50_any 1 (w.heap.size + 1) (.slice none 0 0) [] a (x.ls.map lp) (x.ls.map fLb) W0 (World.ownsRow_nil _ _ _ _) hs0 (fun W hW => At2.below hA (up h0 hW) (Nat.le_refl _)) (parts_l hx _ _ hs0) (by simp; omega)
    rwa [List.nil_append] at this
  have H2 : Hid (∀ W0 u, Below (w.heap.size + 1) (w.alloc (.cells #[a, b] 29)) W0 → Og W0 (w.heap.size + 1) u (gpt 1 (x.ls.map fLb)) → Calls Tryz.prog 26 #[u, .int .i64 2, b, .func (.func 29) #[] #[]] W0 (PutR (w.heap.size + 1) (gpt 1 (x.ls.map fLb) ++ gpt 2 (x.ss.map fSm)) W0)) := Lib.hid fun W0 u h0 hu => by
    have hs0 : w.heap.size + 1 ≤ W0.heap.size := by have := h0.size; rw [hsz] at this; exact this
    exact parts49_any 2 (w.heap.size + 1) u _ b (x.ss.map sp) (x.ss.map fSm) W0 hu hs0 (fun W hW => At2.below hB (up h0 hW) (Nat.le_refl _)) (parts_s hx _ _ hs0) (by rw [gpt_len, List.length_map, List.length_map]; omega)
  have HA0 := Lib.hid hA0
  have HR : Hid (∀ m, Below (w.heap.size + 1) (w.alloc (.cells #[a, b] 29)) ((w.alloc (.cells #[a, b] 29)).drewN m)) := Lib.hid fun m => below_drewN (Below.refl _ _) m
  clear hA hB hx hcn hA0 up hsz
  generalize (x.ls.map lp).length = n1 at ha
  generalize (x.ss.map sp).length = n2 at hb
  generalize gpt 1 (x.ls.map fLb) = X at *
  generalize X ++ gpt 2 (x.ss.map fSm) = Y at *
  subst ha hb
  have hc0 : (w.alloc (.cells #[.slice a1 n1 c1, .slice a2 n2 c2] 29)).cell? ⟨w.heap.size, 0, none⟩ = some (.slice a1 n1 c1) := by rw [World.cell?_alloc_mark]; rfl
  have hc1 : (w.alloc (.cells #[.slice a1 n1 c1, .slice a2 n2 c2] 29)).cell? ⟨w.heap.size, 1, none⟩ = some (.slice a2 n2 c2) := by rw [World.cell?_alloc_mark]; rfl
  go_enter Tryz.func17, Tryz.ntmps17
  go_wp2_with fail
  have k0 := And.intro hc0 hc1
  go_region_held3 (fun w' => w'.cell? ⟨w.heap.size, 0, none⟩ = some (.slice a1 n1 c1) ∧ w'.cell? ⟨w.heap.size, 1, none⟩ = some (.slice a2 n2 c2)) (first | exact k0 | exact k1 | exact k2) (first
    | (have hx := HO2; go_at_call 26; refine (H2.out _ _ HB2.out HO2.out).mono ?_; rintro e w3 ⟨u3, rfl, ho3, hb3⟩; have HB3 : Hid (Below (w.heap.size + 1) w2 w3) := Lib.hid ⟨hb3.os, hb3.tape, hb3.output, hb3.size, hb3.block⟩; have HO3 := Lib.hid ho3; have k2 := And.intro ((HB3.out.cell (p := ⟨w.heap.size, 0, none⟩) (Nat.lt_succ_self _)).trans k1.1) ((HB3.out.cell (p := ⟨w.heap.size, 1, none⟩) (Nat.lt_succ_self _)).trans k1.2); obtain ⟨a3, c3, hu3⟩ := ho3.shape; subst hu3; clear ho3 hb3)
    | (go_at_call 27; refine (H1.out _ (HR.out _)).mono ?_; rintro e w2 ⟨u2, rfl, ho2, hb2⟩; have HB2 : Hid (Below (w.heap.size + 1) (w.alloc (.cells #[.slice a1 n1 c1, .slice a2 n2 c2] 29)) w2) := Lib.hid ⟨hb2.os, hb2.tape, hb2.output, hb2.size, hb2.block⟩; have HO2 := Lib.hid ho2; have k1 := And.intro ((HB2.out.cell (p := ⟨w.heap.size, 0, none⟩) (Nat.lt_succ_self _)).trans hc0) ((HB2.out.cell (p := ⟨w.heap.size, 1, none⟩) (Nat.lt_succ_self _)).trans hc1); obtain ⟨a4, c4, hu2⟩ := ho2.shape; subst hu2; clear ho2 hb2))
  go_wp2
  go_ret
  exact ⟨_, rfl, HO3.out.mono (Nat.le_succ _), HA0.out.trans ((HB2.out.trans HB3.out).mono (Nat.le_succ _))⟩
end Go.Proofs.YtioflicmpnkfeaaGreat
