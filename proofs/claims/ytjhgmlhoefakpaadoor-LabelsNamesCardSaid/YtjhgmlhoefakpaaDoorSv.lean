/- The contract of the program's showValue. -/
import Derived.Test.YtjhgmlhoefakpaaDoorDg
import Derived.Test.YtjhgmlhoefakpaaDoorBu
namespace Go.Proofs.YtjhgmlhoefakpaaDoor
open Go.RowKit
set_option maxRecDepth 100000
set_option maxHeartbeats 1000000
/-- What a writer leaves. -/
def BuRet (w : World) (B b : Nat) (l : List UInt8) (v : Value) (e : Ending) (w' : World) : Prop := e = .returned v ∧ Bu B b l w' ∧ Below B w w' ∧ Lib.OthersKept 5 (some b) w w'
theorem wstr_any (B b : Nat) (acc : List UInt8) (s : ByteArray) (w : World) (h : Bu B b acc w) (hlen : acc.length + s.size ≤ 140737488355328) (hBw : B ≤ w.heap.size) :
    Calls Tryd.prog 45 #[.pointer (some ⟨b, 0, none⟩), .string s] w (BuRet w B b (acc ++ s.data.toList) (.tuple #[.int .i64 s.size, .nilIface])) := by
  refine (writeString_k B b (Lib.byteCells acc) s w h (by rw [Lib.byteCells_length]; exact hlen) hBw).mono ?_
  rintro e w' ⟨h1, h2, h3, h4⟩
  refine ⟨h1, ?_, h3, h4⟩
  unfold Bu
  rw [Lib.byteCells_append, ← Lib.strCells_eq]
  exact .inr h2
theorem wrune_any (B b : Nat) (acc : List UInt8) (c : Nat) (hc : OkR c) (w : World) (h : Bu B b acc w) (hlen : acc.length + 4 ≤ 140737488355328) (hBw : B ≤ w.heap.size) :
    Calls Tryd.prog 64 #[.pointer (some ⟨b, 0, none⟩), .int .i32 c] w (BuRet w B b (acc ++ enc c) (.tuple #[.int .i64 (enc c).length, .nilIface])) := by
  have hb : c ≤ 1114111 := by unfold OkR at hc; omega
  refine (writeRune_k B b (Lib.byteCells acc) c (by omega) (by omega) w h (by rw [Lib.byteCells_length]; exact hlen) hBw).mono ?_
  rintro e w' ⟨h1, h2, h3, h4⟩
  have he : Lib.runeCells (c : Int) = Lib.byteCells (enc c) := by rw [← enc_rune hc, Lib.byteCells_encodeRune]
  rw [he, Lib.byteCells_length] at h1
  rw [he] at h2
  refine ⟨h1, ?_, h3, h4⟩
  unfold Bu
  rw [Lib.byteCells_append]
  exact .inr h2
theorem str_any (B b : Nat) (l : List UInt8) (w : World) (h : Bu B b l w) (hB : B ≤ w.heap.size) :
    Calls Tryd.prog 47 #[.pointer (some ⟨b, 0, none⟩)] w (BuRet w B b l (.string (bs l))) := Tryd.Builder_String_any_k B b l w h hB
theorem bu_below {B b : Nat} {l : List UInt8} {w w' : World} (h : Bu B b l w) (hb : Below w.heap.size w w') : Bu B b l w' := by
  have key : ∀ p, Lib.BuilderAtF 54 5 B b p (Lib.byteCells l) w → Lib.BuilderAtF 54 5 B b p (Lib.byteCells l) w' := by
    rintro p ⟨hB, v, hv, hown, hne⟩
    have hlt : b < w.heap.size := (Array.getElem?_eq_some_iff.1 hv).1
    refine ⟨hB, v, (hb.block b hlt).trans hv, ⟨hown.1, ?_⟩, hne⟩
    rcases hown.2 with hn | ⟨g, cap, cur, fz, hv2, hbg, hg, rest⟩
    · exact .inl hn
    · exact .inr ⟨g, cap, cur, fz, hv2, hbg, (hb.block g (Array.getElem?_eq_some_iff.1 hg).1).trans hg, rest⟩
  exact h.elim (fun x => .inl (key _ x)) (fun x => .inr (key _ x))
theorem showR_len (c : Nat) : 1 ≤ (showR c).length ∧ (showR c).length ≤ 10 := by
  unfold showR
  split
  · simp
  · split
    · have := digF_len 5 c
      simp [hexs]
      omega
    · simp
theorem showR_flat_len : ∀ rs : List Nat, (rs.flatMap showR).length ≤ 10 * rs.length
  | [] => by simp
  | c :: r => by
    have := showR_flat_len r
    have h := showR_len c
    rw [List.flatMap_cons, List.length_append, List.length_cons]
    omega
theorem showv_any (B b : Nat) (acc : List UInt8) (s : ByteArray) (rs : List Nat) (hs : s.data.toList = flat rs) (ha : AllR rs) (hr : rs.length ≤ 1000000) (hacc : acc.length ≤ 1000000000000) (w : World) (h : Bu B b acc w) (hB : B ≤ w.heap.size) (hbw : b < w.heap.size) (hT : ∀ w', Below B w w' → Tab w') :
    Calls Tryd.prog 46 #[.pointer (some ⟨b, 0, none⟩), .string s] w (BuRet w B b (acc ++ rs.flatMap showR) (.tuple #[])) := by
  have HF := Lib.hid hs
  have HA := Lib.hid ha
  have HI := Lib.hid h
  have HT := Lib.hid hT
  have HS := Lib.hid (Lib.size_eq s)
  have HL := Lib.hid (show rs.length ≤ 1000000 ∧ acc.length ≤ 1000000000000 from ⟨hr, hacc⟩)
  clear hs ha h hT hr hacc
  go_enter Tryd.func46, Tryd.ntmps46
  go_wp2
  go_loopw [] (fun wr => ∃ (pre suf : List Nat), Hid (rs = pre ++ suf) ∧ Hid (wr.heap[w.heap.size]? = some (.stringIter s (flat pre).length)) ∧ Hid (Bu B b (acc ++ pre.flatMap showR) wr) ∧ Hid (Below B w wr ∧ Lib.OthersKept 5 (some b) w wr)) (fun wr => s.size - wr.iterPos w.heap.size)
  case atStart =>
    refine ⟨[], rs, Lib.hid rfl, Lib.hid ?_, Lib.hid ?_, Lib.hid ⟨?_, ?_⟩⟩
    · show _ = some (Obj.stringIter s 0)
      exact World.iter_heap w s 0
    · have := HI.out.alloc (.stringIter s 0)
      simp only [List.flatMap_nil, List.append_nil]
      exact this
    · exact (Below.refl B w).alloc hB _
    · exact (Lib.OthersKept.refl 5 (some b) w).alloc _
  case round =>
    obtain ⟨pre, suf, H1, Hi, Hb, Hk⟩ := hrel
    have hit := Hi.out
    have hsz : w.heap.size < wr.heap.size := (Array.getElem?_eq_some_iff.1 hit).1
    cases suf with
    | cons c suf =>
      have hrs := H1.out
      have hd : s.data.toList.drop (flat pre).length = enc c ++ flat suf := by
        rw [HF.out, hrs, flat_app, List.drop_left, flat_cons]
      have hc : OkR c := HA.out c (by rw [hrs]; simp)
      have hde := decode_flat hd hc
      have hel := enc_length c
      have hp : (flat pre).length < s.size := by
        have := congrArg List.length hd
        rw [List.length_drop, List.length_append, ← HS.out] at this
        omega
      have hnx : ∀ ty, (Instr.next (.pointer (some ⟨w.heap.size, 0, none⟩)) true ty).run Tryd.prog wr = _ := fun ty => Lib.run_next_any_at wr w.heap.size s _ ty hit hp
      rw [hde] at hnx
      have hit2 := Lib.iterAt_heap wr w.heap.size s _ ((flat pre).length + (enc c).length) hit
      have hbu2 := Hb.out.iterAt hit ((flat pre).length + (enc c).length)
      have hbe2 := Lib.below_iterAt Hk.out.1 (k := w.heap.size) hB s ((flat pre).length + (enc c).length)
      have hok2 : Lib.OthersKept 5 (some b) w (wr.iterAt w.heap.size s ((flat pre).length + (enc c).length)) := fun k o hk hkb ho => by
        have hlt : k < w.heap.size := (Array.getElem?_eq_some_iff.1 hk).1
        rw [Lib.iterAt_other _ _ _ _ _ (by omega)]
        exact Hk.out.2 k o hk hkb ho
      have hsz2 : w.heap.size < (wr.iterAt w.heap.size s ((flat pre).length + (enc c).length)).heap.size := by rw [Lib.iterAt_size]; exact hsz
      have hfr : (flat (pre ++ [c])).length = (flat pre).length + (enc c).length := by rw [flat_app, List.length_append]; simp [flat]
      have hsr : acc ++ (pre ++ [c]).flatMap showR = (acc ++ pre.flatMap showR) ++ showR c := by simp [List.append_assoc]
      have hlen : (acc ++ pre.flatMap showR).length ≤ 2000000000000 := by
        have h1 := showR_flat_len pre
        have h2 : pre.length ≤ rs.length := by rw [hrs]; simp
        have h3 := HL.out
        rw [List.length_append]; omega
      have HPc : Hid (rs = (pre ++ [c]) ++ suf) := Lib.hid (by rw [hrs]; simp)
      have HIt := Lib.hid hit2
      have HFr := Lib.hid hfr
      have HMz : Hid (s.size - (flat (pre ++ [c])).length < s.size - (flat pre).length) := Lib.hid (by rw [hfr]; omega)
      have HI0 := Lib.hid hit
      have HB2 := Lib.hid hbu2
      have HK2 := Lib.hid (show _ ∧ _ from ⟨hbe2, hok2⟩)
      have HSz := Lib.hid (show B ≤ _ ∧ _ from ⟨Nat.le_trans hB (Nat.le_of_lt hsz2), hsz2⟩)
      have HSR := Lib.hid hsr
      have HLn := Lib.hid hlen
      have hTt := HT.out _ hbe2
      have HTt := Lib.hid hTt
      have HC := Lib.hid hc
      have hcb : c ≤ 1114111 := by unfold OkR at hc; omega
      have HWs := fun t => Lib.hid (fun (ht : t.size ≤ 1000000) => wstr_any B b _ t _ HB2.out (by have := HLn.out; omega) HSz.out.1)
      have HWr := Lib.hid (wrune_any B b _ c hc _ HB2.out (by have := HLn.out; omega) HSz.out.1)
      clear hit hrs hd hc hde hel hp hit2 hbu2 hbe2 hok2 hsz2 hfr hsr hlen hTt
      generalize wr.iterAt w.heap.size s ((flat pre).length + (enc c).length) = W at *
      by_cases h92 : c = 92
      · subst h92
        have HSh : Hid ((({ data := #[92] } : ByteArray) ++ Utf8.encode 92).data.toList = showR 92) := Lib.hid (by rfl)
        have hw := (HWs (({ data := #[92] } : ByteArray) ++ Utf8.encode 92)).out (by show (2 : Nat) ≤ 1000000; omega)
        have HW := Lib.hid hw
        clear HWs HWr hw
        go_wp2_with (go_at_call 45; refine HW.out.mono ?_; rintro e W1 ⟨rfl, hb1, hB1, hk1⟩)
        have HB1 := Lib.hid hb1
        have HK1 := Lib.hid (show _ ∧ _ from ⟨hB1, hk1⟩)
        clear hb1 hB1 hk1
        go_roundw
        case rel =>
          refine ⟨pre ++ [92], suf, HPc, Lib.hid ?_, Lib.hid ?_, Lib.hid ⟨HK2.out.1.trans HK1.out.1, HK2.out.2.trans HK1.out.2⟩⟩
          · rw [HFr.out]; exact HK1.out.2.iter HIt.out (by omega)
          · rw [HSR.out, ← HSh.out]; exact HB1.out
        case measure =>
          have h3 := HK1.out.2.iter HIt.out (by omega)
          have h4 := HMz.out
          rw [HFr.out] at h4
          simp only [World.iterPos, h3, HI0.out]
          exact h4
      by_cases h34 : c = 34
      · subst h34
        have HSh : Hid ((({ data := #[92] } : ByteArray) ++ Utf8.encode 34).data.toList = showR 34) := Lib.hid (by rfl)
        have hw := (HWs (({ data := #[92] } : ByteArray) ++ Utf8.encode 34)).out (by show (2 : Nat) ≤ 1000000; omega)
        have HW := Lib.hid hw
        clear HWs HWr hw
        go_wp2_with (go_at_call 45; refine HW.out.mono ?_; rintro e W1 ⟨rfl, hb1, hB1, hk1⟩)
        have HB1 := Lib.hid hb1
        have HK1 := Lib.hid (show _ ∧ _ from ⟨hB1, hk1⟩)
        clear hb1 hB1 hk1
        go_roundw
        case rel =>
          refine ⟨pre ++ [34], suf, HPc, Lib.hid ?_, Lib.hid ?_, Lib.hid ⟨HK2.out.1.trans HK1.out.1, HK2.out.2.trans HK1.out.2⟩⟩
          · rw [HFr.out]; exact HK1.out.2.iter HIt.out (by omega)
          · rw [HSR.out, ← HSh.out]; exact HB1.out
        case measure =>
          have h3 := HK1.out.2.iter HIt.out (by omega)
          have h4 := HMz.out
          rw [HFr.out] at h4
          simp only [World.iterPos, h3, HI0.out]
          exact h4
      have e92 : ((c : Int) == 92) = false := beq_eq_false_iff_ne.2 (by omega)
      have e34 : ((c : Int) == 34) = false := beq_eq_false_iff_ne.2 (by omega)
      by_cases h126 : 126 < c
      · have g126 : decide ((126 : Int) < (c : Int)) = true := decide_eq_true (by omega)
        have HFi := Lib.hid (fint_any c hcb W HTt.out)
        have hz : (bs (hexs c)).size ≤ 6 := by
          have := digF_len 5 c
          rw [bs_size]; unfold hexs; rw [List.length_map]; omega
        have HSh : Hid ((({ data := #[92, 117, 123] } : ByteArray) ++ bs (hexs c) ++ { data := #[125] }).data.toList = showR c) := Lib.hid (by
          unfold showR
          rw [if_neg (by omega), if_pos h126]
          simp [bs])
        generalize bs (hexs c) = T at *
        clear h92 h34 h126 HWr
        go_wp2_with (go_at_call 63; refine HFi.out.mono ?_; rintro e W0 ⟨rfl, hb0⟩)
        have HB0 := Lib.hid hb0
        clear hb0
        have hit3 : W0.heap[w.heap.size]? = some (.stringIter s ((flat pre).length + (enc c).length)) := by rw [HB0.out.block _ HSz.out.2]; exact HIt.out
        have HIt3 := Lib.hid hit3
        have HBu3 : Hid (Bu B b (acc ++ List.flatMap showR pre) W0) := Lib.hid (bu_below HB2.out HB0.out)
        have hw := wstr_any B b _ (({ data := #[92, 117, 123] } : ByteArray) ++ T ++ { data := #[125] }) W0 HBu3.out (by
          have h1 := HLn.out
          have h2 : (({ data := #[92, 117, 123] } : ByteArray) ++ T ++ { data := #[125] }).size = 3 + T.size + 1 := by rw [ByteArray.size_append, ByteArray.size_append]; rfl
          omega) (Nat.le_trans HSz.out.1 HB0.out.size)
        have HW := Lib.hid hw
        have HK0 : Hid (Lib.OthersKept 5 (some b) W W0) := Lib.hid (fun k o hk _ _ => by
          have hlt : k < W.heap.size := (Array.getElem?_eq_some_iff.1 hk).1
          rw [HB0.out.block k hlt]; exact hk)
        clear HWs hw hit3
        go_wp2_with (go_at_call 45; refine HW.out.mono ?_; rintro e W1 ⟨rfl, hb1, hB1, hk1⟩)
        have HB1 := Lib.hid hb1
        have HK1 := Lib.hid (show Below B W W1 ∧ Lib.OthersKept 5 (some b) W W1 from ⟨(HB0.out.mono HSz.out.1).trans hB1, HK0.out.trans hk1⟩)
        clear hb1 hB1 hk1
        go_roundw
        case rel =>
          refine ⟨pre ++ [c], suf, HPc, Lib.hid ?_, Lib.hid ?_, Lib.hid ⟨HK2.out.1.trans HK1.out.1, HK2.out.2.trans HK1.out.2⟩⟩
          · rw [HFr.out]; exact HK1.out.2.iter HIt.out (by omega)
          · rw [HSR.out, ← HSh.out]; exact HB1.out
        case measure =>
          have h3 := HK1.out.2.iter HIt.out (by omega)
          have h4 := HMz.out
          rw [HFr.out] at h4
          simp only [World.iterPos, h3, HI0.out]
          exact h4
      · have g126 : decide ((126 : Int) < (c : Int)) = false := decide_eq_false (by omega)
        have HSh : Hid (enc c = showR c) := Lib.hid (by
          unfold showR
          rw [if_neg (by omega), if_neg h126, enc_ascii (by omega)])
        clear h92 h34 h126 HWs
        go_wp2_with (go_at_call 64; refine HWr.out.mono ?_; rintro e W1 ⟨rfl, hb1, hB1, hk1⟩)
        have HB1 := Lib.hid hb1
        have HK1 := Lib.hid (show _ ∧ _ from ⟨hB1, hk1⟩)
        clear hb1 hB1 hk1
        go_roundw
        case rel =>
          refine ⟨pre ++ [c], suf, HPc, Lib.hid ?_, Lib.hid ?_, Lib.hid ⟨HK2.out.1.trans HK1.out.1, HK2.out.2.trans HK1.out.2⟩⟩
          · rw [HFr.out]; exact HK1.out.2.iter HIt.out (by omega)
          · rw [HSR.out, ← HSh.out]; exact HB1.out
        case measure =>
          have h3 := HK1.out.2.iter HIt.out (by omega)
          have h4 := HMz.out
          rw [HFr.out] at h4
          simp only [World.iterPos, h3, HI0.out]
          exact h4
    | nil =>
      have hrs := H1.out
      rw [List.append_nil] at hrs
      have hp : ¬ (flat pre).length < s.size := by rw [HS.out, HF.out, hrs]; omega
      have hnx : ∀ ty, (Instr.next (.pointer (some ⟨w.heap.size, 0, none⟩)) true ty).run Tryd.prog wr = _ := fun ty => Lib.run_next_end_at wr w.heap.size s _ ty hit hp
      have HR := Lib.hid hrs
      clear hrs hp hit
      go_wp2
      go_end0
      refine ⟨rfl, ?_, Hk.out.1, Hk.out.2⟩
      rw [HR.out]
      exact Hb.out
end Go.Proofs.YtjhgmlhoefakpaaDoor
