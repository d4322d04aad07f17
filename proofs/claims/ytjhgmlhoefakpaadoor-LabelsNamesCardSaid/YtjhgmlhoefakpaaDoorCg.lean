/- The contracts of Same, the program's and the document's; how long labels are; labels in new memory; whether they are the labels. -/
import Derived.Test.YtjhgmlhoefakpaaDoorCf
import Derived.Laws.StructEq
import Derived.Lib.Strings
namespace Go.Proofs.YtjhgmlhoefakpaaDoor
open Go.RowKit Go.Sort
set_option maxRecDepth 100000
set_option maxHeartbeats 1000000
theorem eq28 (a b c d : ByteArray) (w : World) : (Op.equalIn 10000 28 (.agg #[.string a, .string b]) (.agg #[.string c, .string d])).run Tryd.prog w = .ok (a.toList == c.toList && b.toList == d.toList) w := by
  have hU : Tryd.prog.underlying 28 = some (.struct (Tryd.prog.fieldsOf 28)) := by rw [Tryd.underlying28]; kernel_rfl
  have hH : Tryd.prog.stoodInHeld 28 = false := by kernel_rfl
  rw [run_equalIn_agg w 9999 28 _ _ hU hH]
  have hF : (Tryd.prog.fieldsOf 28).toList = [{ name := "Name", type := 9, offset := 0, embedded := false, tag := "", pkgPath := "", byteOffset := 0 }, { name := "Value", type := 9, offset := 1, embedded := false, tag := "", pkgPath := "", byteOffset := 16 }] := by kernel_rfl
  rw [hF]
  have u9 := Tryd.underlying9
  have a9 := Tryd.isAgg9
  have z9 := Tryd.sizeOf9
  go_simp
  by_cases h1 : a.toList = c.toList <;> by_cases h2 : b.toList = d.toList <;> simp [h1, h2]
theorem bytes_eq (a b : ByteArray) : (a.toList == b.toList) = decide (a = b) := by
  rw [Lib.toList_data, Lib.toList_data]
  by_cases h : a = b
  · subst h; simp
  · rw [decide_eq_false h, beq_eq_false_iff_ne]
    intro e
    apply h
    cases a; cases b
    simp at e
    rw [e]
instance : DecidableEq Lb := fun a b => if h : a.n = b.n ∧ a.v = b.v then isTrue (Lb.eq h.1 h.2) else isFalse (fun e => h (by subst e; exact ⟨rfl, rfl⟩))
def sameL (a b : List Lb) : Bool := decide (a = b)
theorem sameL_len {a b : List Lb} (h : a.length ≠ b.length) : sameL a b = false := decide_eq_false (fun e => h (by rw [e]))
theorem sameL_at {a b : List Lb} (k : Nat) (h : k < a.length) (h2 : k < b.length) (hd : a[k] ≠ b[k]) : sameL a b = false := decide_eq_false (fun e => hd (by subst e; rfl))
theorem sameL_all {a b : List Lb} (hl : a.length = b.length) (h : ∀ j (h : j < a.length) (h2 : j < b.length), a[j] = b[j]) : sameL a b = true := decide_eq_true (List.ext_getElem hl h)
theorem Lb.ne_of {a b : Lb} (h : ¬ (a.n = b.n ∧ a.v = b.v)) : a ≠ b := fun e => h (by subst e; exact ⟨rfl, rfl⟩)
theorem seq_any (a b : List Lb) (ha : a.length ≤ 9223372036854775807) (hb : b.length ≤ 9223372036854775807) (v u : Value) (w : World) (hv : LAt w v a) (hu : LAt w u b) : Calls Tryd.prog 51 #[v, u] w (Ret w (.bool (sameL a b))) := by
  have HV := Lib.hid hv
  have HU := Lib.hid hu
  obtain ⟨va, vc, hv2⟩ := hv.slice
  obtain ⟨ua, uc, hu2⟩ := hu.slice
  clear hv hu
  by_cases hab : a.length = b.length
  · have HAB := Lib.hid hab
    rw [← hab] at hu2
    generalize hL : a.length = L at *
    have HL := Lib.hid hL
    clear hL hab hb
    subst hv2
    subst hu2
    go_enter Tryd.func51, Tryd.ntmps51
    go_wp2
    go_loopw [13] (fun i wr => ∃ k : Nat, i = .int .i64 (k : Int) ∧ k ≤ L ∧ Hid (∀ j (h : j < a.length) (h2 : j < b.length), j < k → a[j] = b[j]) ∧ Hid (Below w.heap.size w wr)) (fun i _ => L - (intOf i).toNat)
    case atStart => exact ⟨0, rfl, by omega, Lib.hid fun j _ _ h => by omega, Lib.hid (Below.refl _ _)⟩
    case round =>
      obtain ⟨k, rfl, hk, HE, HB⟩ := hrel
      by_cases hlt : k < L
      · have hkl : k < a.length := by have := HL.out; omega
        have hkb : k < b.length := by have := HL.out; have := HAB.out; omega
        rcases (HV.out.below HB.out (Nat.le_refl _)) with ⟨h0, _⟩ | ⟨g, o, c, hg, hcs⟩
        · have := HL.out; rw [h0] at this; simp at this; omega
        rcases (HU.out.below HB.out (Nat.le_refl _)) with ⟨h0, _⟩ | ⟨g2, o2, c2, hg2, hcs2⟩
        · have := HAB.out; rw [h0] at this; simp at this; omega
        obtain ⟨q0, q1⟩ := hcs k hkl
        obtain ⟨r0, r1⟩ := hcs2 k hkb
        clear hcs hcs2
        have HX := Lib.hid (sameL_at (a := a) (b := b) k hkl hkb)
        have HEn := Lib.hid (show a[k] = b[k] → ∀ j (h : j < a.length) (h2 : j < b.length), j < k + 1 → a[j] = b[j] from fun e j h h2 hj => by
          rcases Nat.lt_or_ge j k with h3 | h3
          · exact HE.out j h h2 h3
          · obtain rfl : j = k := by omega
            exact e)
        generalize a[k] = x at *
        generalize b[k] = y at *
        obtain ⟨xn, xv⟩ := x
        obtain ⟨yn, yv⟩ := y
        dsimp only at q0 q1 r0 r1
        have hn := bytes_eq xn yn
        have hvv := bytes_eq xv yv
        have HQ := Lib.hid (show (⟨xn, xv⟩ : Lb) = ⟨yn, yv⟩ ↔ xn = yn ∧ xv = yv from ⟨fun e => by cases e; exact ⟨rfl, rfl⟩, fun e => Lb.eq e.1 e.2⟩)
        have he := fun W => eq28 xn xv yn yv W
        have hbl : b.length = L := HAB.out.symm.trans (by first | exact HL.out | rfl)
        rw [hbl] at hg2
        clear hbl
        cases hg
        cases hg2
        by_cases d1 : xn = yn
        · rw [decide_eq_true d1] at hn
          by_cases d2 : xv = yv
          · rw [decide_eq_true d2] at hvv
            have HD := Lib.hid (HEn.out (HQ.out.2 ⟨d1, d2⟩))
            clear d1 d2
            go_wp2
            go_big_quiet (fail)
            go_wp2
            go_roundw
            case rel => exact ⟨k + 1, by go_num, by omega, HD, Lib.hid (below_drewN HB.out _)⟩
            case measure => (try simp [intOf]); (try omega)
          · rw [decide_eq_false d2] at hvv
            have HD := Lib.hid (HX.out (fun e => d2 (HQ.out.1 e).2))
            clear d1 d2
            go_wp2
            go_big_quiet (fail)
            go_wp2
            go_ret
            exact ⟨ret_b HD.out.symm, below_drewN HB.out _⟩
        · rw [decide_eq_false d1] at hn
          have HD := Lib.hid (HX.out (fun e => d1 (HQ.out.1 e).1))
          clear d1
          go_wp2
          go_big_quiet (fail)
          go_wp2
          go_ret
          exact ⟨ret_b HD.out.symm, below_drewN HB.out _⟩
      · obtain rfl : k = L := by omega
        go_wp2
        go_ret
        exact ⟨ret_b (sameL_all (by have := HL.out; have := HAB.out; omega) fun j h h2 => HE.out j h h2 (by have := HL.out; omega)).symm, HB.out⟩
  · rw [sameL_len hab]
    have h1 : ((a.length : Int) != (b.length : Int)) = true := by simp; omega
    generalize a.length = L at *
    generalize b.length = M at *
    subst hv2
    subst hu2
    clear hab
    go_enter Tryd.func51, Tryd.ntmps51
    go_wp2
    go_ret
    exact ⟨rfl, Below.refl _ _⟩
theorem rsame_any (a b : List Lb) (ha : a.length ≤ 9223372036854775807) (hb : b.length ≤ 9223372036854775807) (v u : Value) (w : World) (hv : LAt w v a) (hu : LAt w u b) : Calls Tryd.prog 26 #[v, u] w (Ret w (.bool (sameL a b))) := by
  have HV := Lib.hid hv
  have HU := Lib.hid hu
  obtain ⟨va, vc, hv2⟩ := hv.slice
  obtain ⟨ua, uc, hu2⟩ := hu.slice
  clear hv hu
  by_cases hab : a.length = b.length
  · have HAB := Lib.hid hab
    rw [← hab] at hu2
    generalize hL : a.length = L at *
    have HL := Lib.hid hL
    clear hL hab hb
    subst hv2
    subst hu2
    go_enter Tryd.func26, Tryd.ntmps26
    go_wp2
    go_loopw [5] (fun i wr => ∃ k : Nat, i = .int .i64 (k : Int) ∧ k ≤ L ∧ Hid (∀ j (h : j < a.length) (h2 : j < b.length), j < k → a[j] = b[j]) ∧ Hid (Below w.heap.size w wr)) (fun i _ => L - (intOf i).toNat)
    case atStart => exact ⟨0, rfl, by omega, Lib.hid fun j _ _ h => by omega, Lib.hid (Below.refl _ _)⟩
    case round =>
      obtain ⟨k, rfl, hk, HE, HB⟩ := hrel
      by_cases hlt : k < L
      · have hkl : k < a.length := by have := HL.out; omega
        have hkb : k < b.length := by have := HL.out; have := HAB.out; omega
        rcases (HV.out.below HB.out (Nat.le_refl _)) with ⟨h0, _⟩ | ⟨g, o, c, hg, hcs⟩
        · have := HL.out; rw [h0] at this; simp at this; omega
        rcases (HU.out.below HB.out (Nat.le_refl _)) with ⟨h0, _⟩ | ⟨g2, o2, c2, hg2, hcs2⟩
        · have := HAB.out; rw [h0] at this; simp at this; omega
        obtain ⟨q0, q1⟩ := hcs k hkl
        obtain ⟨r0, r1⟩ := hcs2 k hkb
        clear hcs hcs2
        have HX := Lib.hid (sameL_at (a := a) (b := b) k hkl hkb)
        have HEn := Lib.hid (show a[k] = b[k] → ∀ j (h : j < a.length) (h2 : j < b.length), j < k + 1 → a[j] = b[j] from fun e j h h2 hj => by
          rcases Nat.lt_or_ge j k with h3 | h3
          · exact HE.out j h h2 h3
          · obtain rfl : j = k := by omega
            exact e)
        generalize a[k] = x at *
        generalize b[k] = y at *
        obtain ⟨xn, xv⟩ := x
        obtain ⟨yn, yv⟩ := y
        dsimp only at q0 q1 r0 r1
        have hn := bytes_eq xn yn
        have hvv := bytes_eq xv yv
        have HQ := Lib.hid (show (⟨xn, xv⟩ : Lb) = ⟨yn, yv⟩ ↔ xn = yn ∧ xv = yv from ⟨fun e => by cases e; exact ⟨rfl, rfl⟩, fun e => Lb.eq e.1 e.2⟩)
        have hbl : b.length = L := HAB.out.symm.trans (by first | exact HL.out | rfl)
        rw [hbl] at hg2
        clear hbl
        cases hg
        cases hg2
        by_cases d1 : xn = yn
        · rw [decide_eq_true d1] at hn
          by_cases d2 : xv = yv
          · rw [decide_eq_true d2] at hvv
            have HD := Lib.hid (HEn.out (HQ.out.2 ⟨d1, d2⟩))
            clear d1 d2
            go_wp2
            go_big_quiet (fail)
            go_wp2
            go_roundw
            case rel => exact ⟨k + 1, by go_num, by omega, HD, Lib.hid (below_drewN HB.out _)⟩
            case measure => (try simp [intOf]); (try omega)
          · rw [decide_eq_false d2] at hvv
            have HD := Lib.hid (HX.out (fun e => d2 (HQ.out.1 e).2))
            clear d1 d2
            go_wp2
            go_big_quiet (fail)
            go_wp2
            go_ret
            exact ⟨ret_b HD.out.symm, below_drewN HB.out _⟩
        · rw [decide_eq_false d1] at hn
          have HD := Lib.hid (HX.out (fun e => d1 (HQ.out.1 e).1))
          clear d1
          go_wp2
          go_big_quiet (fail)
          go_wp2
          go_ret
          exact ⟨ret_b HD.out.symm, below_drewN HB.out _⟩
      · obtain rfl : k = L := by omega
        go_wp2
        go_ret
        exact ⟨ret_b (sameL_all (by have := HL.out; have := HAB.out; omega) fun j h h2 => HE.out j h h2 (by have := HL.out; omega)).symm, HB.out⟩
  · rw [sameL_len hab]
    have h1 : ((a.length : Int) != (b.length : Int)) = true := by simp; omega
    generalize a.length = L at *
    generalize b.length = M at *
    subst hv2
    subst hu2
    clear hab
    go_enter Tryd.func26, Tryd.ntmps26
    go_wp2
    go_ret
    exact ⟨rfl, Below.refl _ _⟩
theorem same_any (a b : List Lb) (ha : a.length ≤ 9223372036854775807) (hb : b.length ≤ 9223372036854775807) (v u : Value) (w : World) (hv : LAt w v a) (hu : LAt w u b) : Calls Tryd.prog 25 #[v, u] w (Ret w (.bool (sameL a b))) := by
  have H := Lib.hid (seq_any a b ha hb v u w hv hu)
  clear hv hu
  generalize sameL a b = s at *
  go_enter Tryd.func25, Tryd.ntmps25
  go_wp2_with (go_at_call 51; refine H.out.mono ?_; rintro e w' ⟨rfl, hb⟩)
  go_ret
  exact ⟨rfl, hb⟩
end Go.Proofs.YtjhgmlhoefakpaaDoor
