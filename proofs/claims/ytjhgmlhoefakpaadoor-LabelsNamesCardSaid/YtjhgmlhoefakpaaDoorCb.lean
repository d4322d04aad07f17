/- The contract of the program's MayValue. -/
import Derived.Test.YtjhgmlhoefakpaaDoorCa
import Derived.Lib.OthersKept
namespace Go.Proofs.YtjhgmlhoefakpaaDoor
open Go.RowKit
set_option maxRecDepth 100000
set_option maxHeartbeats 400000
/-- The library's tables lie where the program lays them. -/
structure Tab (w : World) : Prop where
  utf : Lib.Utf8Tabs 0 1 w
  bru : w.cell? ⟨5, 15, none⟩ = some (.int .u8 4)
theorem Tab.lt {w : World} (h : Tab w) : 5 < w.heap.size := World.block_lt_of_cell? w ⟨5, 15, none⟩ h.bru
theorem utf_lt {w : World} (h : Lib.Utf8Tabs 0 1 w) : 1 < w.heap.size := World.block_lt_of_cell? w ⟨1, 2 * 0, none⟩ (h.2 0 (by omega)).1
theorem Tab.same {w w' : World} (h : Tab w) (hb : ∀ g, g ≤ 5 → w'.heap[g]? = w.heap[g]?) : Tab w' := by
  refine ⟨⟨fun c hc => ?_, fun i hi => ⟨?_, ?_⟩⟩, ?_⟩
  · exact (World.cell?_of_block (a := ⟨0, c, none⟩) (hb 0 (by omega))).trans (h.utf.1 c hc)
  · exact (World.cell?_of_block (a := ⟨1, 2 * i, none⟩) (hb 1 (by omega))).trans (h.utf.2 i hi).1
  · exact (World.cell?_of_block (a := ⟨1, 2 * i + 1, none⟩) (hb 1 (by omega))).trans (h.utf.2 i hi).2
  · exact (World.cell?_of_block (a := ⟨5, 15, none⟩) (hb 5 (by omega))).trans h.bru
theorem Tab.below {w w' : World} {n : Nat} (h : Tab w) (hb : Below n w w') (hn : w.heap.size ≤ n) : Tab w' :=
  h.same fun g hg => hb.block g (by have := h.lt; omega)
theorem Tab.grown {w w' : World} {r : Option Nat} (h : Tab w) (hb : w.grownBy w' r) (hr : ∀ g, r = some g → 5 < g) : Tab w' :=
  h.same fun g hg => hb.block g (by have := h.lt; omega) (fun e => by have := hr g e.symm; omega)
theorem valid_any (s : ByteArray) (w : World) (hs : s.size ≤ 9223372036854775807) (hT : Tab w) :
    Calls Tryd.prog 42 #[.string s] w fun e w' => e = .returned (.bool (Lib.validD s.data.toList)) ∧ Below w.heap.size w w' :=
  Any.utf8_ValidString Tryd.lays196 s w hs hT.utf
/-- What the range over a text finds. -/
theorem decode_flat {s : ByteArray} {pos c : Nat} {t : List UInt8} (h : s.data.toList.drop pos = enc c ++ t) (hc : OkR c) : Utf8.decode s pos = (c, (enc c).length) := by
  have h1 := rn_enc hc t
  rw [← h] at h1
  unfold rn at h1
  have h2 := enc_length c
  split at h1
  · have := congrArg Prod.snd h1; simp at this; omega
  · split at h1
    · have := congrArg Prod.snd h1; simp at this; omega
    · rw [← Lib.decodeL_drop]; exact h1
theorem mayV_bad {pre suf : List Nat} {c : Nat} (ha : AllR (pre ++ c :: suf)) (hc : OkV c = false) : mayV (flat (pre ++ c :: suf)) = false := by
  unfold mayV
  rw [runes_flat ha]
  simp only [List.all_append, List.all_cons, hc]
  simp
theorem mayV_flat {rs : List Nat} (ha : AllR rs) (hv : ∀ c ∈ rs, OkV c = true) (h : 1 ≤ rs.length) : mayV (flat rs) = decide (rs.length ≤ 64) := by
  unfold mayV
  rw [runes_flat ha]
  simp only
  have : rs.all OkV = true := List.all_eq_true.2 hv
  rw [this, Bool.true_and]
  congr 1
  simp [h]
theorem mayV_any (s : ByteArray) (w : World) (hs : s.size ≤ 9223372036854775807) (hT : Tab w) :
    Calls Tryd.prog 15 #[.string s] w fun e w' => e = .returned (.bool (mayV s.data.toList)) ∧ Below w.heap.size w w' := by
  have hsz := Lib.size_eq s
  by_cases h0 : s.size = 0
  · have he := emp_t h0
    have hv : mayV s.data.toList = false := by
      cases h : mayV s.data.toList with
      | false => rfl
      | true => have := mayV_len h; omega
    rw [hv]
    clear hsz h0 hv
    go_enter Tryd.func15, Tryd.ntmps15
    go_wp2
    go_ret
    exact ⟨rfl, Below.refl _ _⟩
  have he := emp_f h0
  by_cases h1 : 256 < s.size
  · have hv : mayV s.data.toList = false := by
      cases h : mayV s.data.toList with
      | false => rfl
      | true => have := mayV_len h; omega
    rw [hv]
    have h1' : decide ((256 : Int) < (s.size : Int)) = true := decide_eq_true (by omega)
    clear hsz h0 hv
    go_enter Tryd.func15, Tryd.ntmps15
    go_wp2
    go_ret
    exact ⟨rfl, Below.refl _ _⟩
  have hV := valid_any s w hs hT
  have hr := valid_runes _ s.data.toList (Nat.le_refl _)
  cases hru : runes s.data.toList with
  | none =>
    rw [hru] at hr
    rw [hr] at hV
    have hv : mayV s.data.toList = false := by unfold mayV; rw [hru]
    rw [hv]
    clear hsz h0 hv hr hru hT
    go_enter Tryd.func15, Tryd.ntmps15
    go_wp2_with (go_at_call 42; refine hV.mono ?_; rintro e w' ⟨rfl, hb⟩)
    go_ret
    exact ⟨rfl, hb⟩
  | some rs =>
    rw [hru] at hr
    rw [hr] at hV
    obtain ⟨hfl, hall⟩ := runes_inv hru
    have HF := Lib.hid hfl
    have HA := Lib.hid hall
    have HS := Lib.hid hsz
    have HN := Lib.hid h0
    simp only [Option.isSome_some] at hV
    clear hsz h0 hr hru hfl hall hT
    go_enter Tryd.func15, Tryd.ntmps15
    go_wp2_with (go_at_call 42; refine hV.mono ?_; rintro e w1 ⟨rfl, hb⟩)
    have HB := Lib.hid hb
    clear hV hb
    go_loopw [3] (fun r wr => ∃ (pre suf : List Nat), r = .int .i64 pre.length ∧ Hid (rs = pre ++ suf ∧ wr.heap[w1.heap.size]? = some (.stringIter s (flat pre).length) ∧ Below w.heap.size w wr ∧ ∀ c ∈ pre, OkV c = true)) (fun _ wr => s.size - wr.iterPos w1.heap.size)
    case atStart =>
      refine ⟨[], rs, rfl, Lib.hid ⟨rfl, ?_, ?_, fun c hc => by cases hc⟩⟩
      · show _ = some (Obj.stringIter s 0)
        exact World.iter_heap w1 s 0
      · exact HB.out.trans (((Below.refl _ w1).alloc (by exact Nat.le_refl _) _).mono HB.out.size)
    case round =>
      obtain ⟨pre, suf, rfl, H⟩ := hrel
      have hit := H.out.2.1
      have hsz : w1.heap.size < wr.heap.size := (Array.getElem?_eq_some_iff.1 hit).1
      have hle := HB.out.size
      cases suf with
      | cons c suf =>
        have hall := HA.out
        have hrs := H.out.1
        have hd : s.data.toList.drop (flat pre).length = enc c ++ flat suf := by
          rw [HF.out, hrs, flat_app, List.drop_left, flat_cons]
        have hc : OkR c := hall c (by rw [hrs]; simp)
        have hde := decode_flat hd hc
        have hel := enc_length c
        have hp : (flat pre).length < s.size := by
          have := congrArg List.length hd
          rw [List.length_drop, List.length_append, ← HS.out] at this
          omega
        have hnx : ∀ ty, (Instr.next (.pointer (some ⟨w1.heap.size, 0, none⟩)) true ty).run Tryd.prog wr = _ := fun ty => Lib.run_next_any_at wr w1.heap.size s _ ty hit hp
        rw [hde] at hnx
        have hit2 := Lib.iterAt_heap wr w1.heap.size s _ ((flat pre).length + (enc c).length) hit
        have hb2 := Lib.below_iterAt H.out.2.2.1 (k := w1.heap.size) hle s ((flat pre).length + (enc c).length)
        have H2 := Lib.hid (show _ ∧ _ from ⟨hit2, hb2⟩)
        have hrr : (pre ++ [c]).length = pre.length + 1 := by simp
        have hfr : (flat (pre ++ [c])).length = (flat pre).length + (enc c).length := by rw [flat_app, List.length_append]; simp [flat]
        have HE := Lib.hid (show _ ∧ _ ∧ _ ∧ _ ∧ _ from ⟨hrs, hc, hel, hrr, hfr⟩)
        have HI := Lib.hid hit
        have HP := Lib.hid hp
        clear hit2 hb2 hall hrs hd hc hde hel hit hle hrr hfr
        by_cases hlo : c < 32
        · have hov : OkV c = false := by unfold OkV; rw [decide_eq_false (by omega)]; rfl
          go_wp2
          go_ret
          refine ⟨ret_b ?_, H2.out.2⟩
          rw [HF.out, HE.out.1]
          exact (mayV_bad (HE.out.1 ▸ HA.out) hov).symm
        · by_cases h7 : c = 127
          · have hov : OkV c = false := by unfold OkV; rw [h7]; rfl
            subst h7
            go_wp2
            go_ret
            refine ⟨ret_b ?_, H2.out.2⟩
            rw [HF.out, HE.out.1]
            exact (mayV_bad (HE.out.1 ▸ HA.out) hov).symm
          · have hov := Lib.hid (show OkV c = true by unfold OkV; rw [decide_eq_true (by omega), decide_eq_true h7]; rfl)
            have h7z : ((c : Int) == 127) = false := beq_eq_false_iff_ne.2 (by omega)
            have hlz : decide ((c : Int) < 32) = false := decide_eq_false (by omega)
            clear h7 hlo
            have hpl : Hid (pre.length < 9223372036854775000) := Lib.hid (by
              have := flat_len pre
              have := HP.out
              omega)
            have hpl2 := hpl.out
            go_wp2
            go_roundw
            case rel =>
              refine ⟨pre ++ [c], suf, ?_, Lib.hid ⟨?_, ?_, H2.out.2, ?_⟩⟩
              · rw [HE.out.2.2.2.1]; simp
              · rw [HE.out.1]; simp
              · rw [HE.out.2.2.2.2]; exact H2.out.1
              · intro x hx
                rcases List.mem_append.1 hx with hx | hx
                · exact H.out.2.2.2 x hx
                · simp only [List.mem_singleton] at hx; subst hx; exact hov.out
            case measure =>
              simp only [World.iterPos, H2.out.1, HI.out]
              have := HP.out
              have := HE.out.2.2.1
              omega
      | nil =>
        have hrs := H.out.1
        rw [List.append_nil] at hrs
        have hp : ¬ (flat pre).length < s.size := by rw [HS.out, HF.out, hrs]; omega
        have hnx : ∀ ty, (Instr.next (.pointer (some ⟨w1.heap.size, 0, none⟩)) true ty).run Tryd.prog wr = _ := fun ty => Lib.run_next_end_at wr w1.heap.size s _ ty hit hp
        have HR := Lib.hid hrs
        clear hrs hp hit hle
        go_wp2
        go_ret
        refine ⟨ret_b ?_, H.out.2.2.1⟩
        rw [HF.out, HR.out, mayV_flat (HR.out ▸ HA.out) H.out.2.2.2 (by
          have h1 := HN.out
          rw [HS.out, HF.out, HR.out] at h1
          have := flat_len pre
          omega)]
        congr 1
        simp
        try omega
end Go.Proofs.YtjhgmlhoefakpaaDoor
