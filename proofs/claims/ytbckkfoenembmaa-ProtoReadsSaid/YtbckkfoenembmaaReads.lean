/- ProtoReads: for any text the law answers true. No condition. -/
import Derived.Test.YtbckkfoenembmaaRows
import Derived.Test.YtbckkfoenembmaaAw
import Derived.WalkKit
import Derived.ProofKit
import Derived.OpenShut
import Derived.ShutString
namespace Go.Proofs.Ytbckkfoenembmaa.protoReads
open Go.ChangeShapes Go.WideShapes Go.ChangeAt Go.RowKit
open Go.ChangeMaps (open_string shut_string)
set_option linter.unusedVariables false
/-- So many cells are there, and may be written. -/
def Room (w : World) (g m : Nat) : Prop := ∀ j, j < m → (∃ u, w.cell? ⟨g, j, none⟩ = some u) ∧ w.frozen? ⟨g, j, none⟩ = false
theorem Room.set {w : World} {g m : Nat} (h : Room w g m) (j : Nat) (u : Value) : Room (w.setCell ⟨g, j, none⟩ u) g m := by
  intro k hk
  obtain ⟨⟨x, hx⟩, hf⟩ := h k hk
  refine ⟨?_, by rw [World.frozen?_setCell]; exact hf⟩
  by_cases hkj : k = j
  · subst hkj
    exact ⟨u, World.cell?_setCell_same _ _ _ hx⟩
  · exact ⟨x, by rw [World.cell?_setCell_other _ _ _ _ (fun e => hkj (by cases e; rfl))]; exact hx⟩
theorem room_of {w : World} {base : Nat} {v : Value} {l : List Gf} (h : Og w base v l) (hl : 0 < l.length) : ∃ g cap, v = .slice (some ⟨g, 0, none⟩) l.length cap ∧ base ≤ g ∧ g < w.heap.size ∧ Room w g (l.length * 2) := by
  have h0 := h
  unfold Og at h0
  rcases h0.2 with ⟨rfl, hn⟩ | ⟨g, cap, cur, rfl, hb, hh, _⟩
  · omega
  · refine ⟨g, cap, rfl, hb, (Array.getElem?_eq_some_iff.1 hh).1, fun j hj => ⟨?_, ?_⟩⟩
    · have hc := h0.cellAt j (by omega)
      have hlen := h0.1
      rw [List.getElem?_eq_getElem (by omega)] at hc
      exact ⟨_, hc⟩
    · exact h0.frozenAt j
theorem mok {s : ByteArray} (hs : s.size ≤ 1000000) : ∀ f ∈ (msg s.data.toList []).1.map gfd, f.v.ok := by
  have hl : s.data.toList.length = s.size := by simp
  obtain ⟨M, E, hME⟩ : ∃ M E, msg s.data.toList [] = (M, E) := ⟨_, _, rfl⟩
  rw [hME]
  intro f hf
  obtain ⟨d, hd, rfl⟩ := List.mem_map.1 hf
  have hE := msg_err s.data.toList.length s.data.toList [] (Nat.le_refl _) (by omega)
  rw [hME] at hE
  rcases hE with h | h | h
  · dsimp only at h
    subst h
    obtain ⟨gs, h1, h2, h3⟩ := msg_facts _ _ _ _ (Nat.le_refl _) (by omega) hME
    rw [List.nil_append] at h1
    subst h1
    have hdo := h2 d hd
    obtain ⟨h4, h5, h6, h7, h8⟩ := hdo
    have hby : (fby d).length ≤ s.size := by
      have : (fby d).length ≤ (M.flatMap fby).length := by
        obtain ⟨a, b, rfl⟩ := List.append_of_mem hd
        rw [List.flatMap_append, List.flatMap_cons, List.length_append, List.length_append]
        omega
      omega
    unfold gfd vlOf
    dsimp only
    by_cases h0 : d.w = 0
    · rw [if_pos h0]; exact h5 (.inl h0)
    · rw [if_neg h0]
      by_cases h1 : d.w = 1
      · rw [if_pos h1]; exact h5 (.inr h1)
      · rw [if_neg h1]
        by_cases h2 : d.w = 2
        · rw [if_pos h2]
          show d.t.length ≤ _
          unfold fby vby at hby
          rw [if_neg h0, if_neg h1, if_pos h2, List.length_append, List.length_append] at hby
          omega
        · rw [if_neg h2]
          obtain ⟨-, -, hw⟩ := mayk_w h4
          exact h6 (by omega)
  · cases h; cases hd
  · cases h; cases hd
theorem mplain : ∀ (l : List Fd), (∀ f ∈ l, f.ok) → (l.map gfd).map plain1 = l.map ffd
  | [], _ => rfl
  | f :: r, h => by
    rw [List.map_cons, List.map_cons, List.map_cons, mplain r (fun g hg => h g (by simp [hg]))]
    congr 1
    obtain ⟨h4, h5, h6, h7, h8⟩ := h f (by simp)
    obtain ⟨-, -, hw⟩ := mayk_w h4
    obtain ⟨n, w, v, t⟩ := f
    dsimp only at *
    rcases hw with rfl | rfl | rfl | rfl
    · rw [h8 (by decide)]; rfl
    · rw [h8 (by decide)]; rfl
    · rw [(h7 rfl).1]; rfl
    · rw [h8 (by decide)]; rfl
theorem mall {s : ByteArray} (hs : s.size ≤ 1000000) : ∀ f ∈ (msg s.data.toList []).1, f.ok := by
  have hl : s.data.toList.length = s.size := by simp
  obtain ⟨M, E, hME⟩ : ∃ M E, msg s.data.toList [] = (M, E) := ⟨_, _, rfl⟩
  rw [hME]
  intro f hf
  have hE := msg_err s.data.toList.length s.data.toList [] (Nat.le_refl _) (by omega)
  rw [hME] at hE
  rcases hE with h | h | h
  · dsimp only at h
    subst h
    obtain ⟨gs, h1, h2, h3⟩ := msg_facts _ _ _ _ (Nat.le_refl _) (by omega) hME
    rw [List.nil_append] at h1
    subst h1
    exact h2 f hf
  · cases h; cases hf
  · cases h; cases hf
theorem mlen {s : ByteArray} (hs : s.size ≤ 1000000) : (msg s.data.toList []).1.length ≤ s.size := by
  have hl : s.data.toList.length = s.size := by simp
  obtain ⟨M, E, hME⟩ : ∃ M E, msg s.data.toList [] = (M, E) := ⟨_, _, rfl⟩
  rw [hME]
  have hE := msg_err s.data.toList.length s.data.toList [] (Nat.le_refl _) (by omega)
  rw [hME] at hE
  rcases hE with h | h | h
  · dsimp only at h
    subst h
    obtain ⟨gs, h1, h2, h3⟩ := msg_facts _ _ _ _ (Nat.le_refl _) (by omega) hME
    rw [List.nil_append] at h1
    subst h1
    have : ∀ l : List Fd, l.length ≤ (l.flatMap fby).length := fun l => by
      induction l with
      | nil => simp
      | cons f r ih => rw [List.flatMap_cons, List.length_append, List.length_cons]; have := fby_pos f; omega
    have := this M
    show M.length ≤ s.size
    omega
  · cases h; simp
  · cases h; simp
set_option maxRecDepth 100000 in
set_option maxHeartbeats 4000000 in
theorem core (s : ByteArray) (ws : s.size ≤ maxLen) (w : World) :
    Calls Try.prog 3 #[.string s] w fun e w' => e = .returned (.bool true) ∧ Below w.heap.size w w' := by
  have hs63 : (s.size : Int) ≤ 9223372036854775807 := by unfold maxLen at ws; omega
  by_cases hbig : 20000 < s.size
  · go_enter Try.func3, Try.ntmps3
    go_wp2_with fail
    refine (awake_any _).mono ?_
    rintro e w1 ⟨rfl, hb1⟩
    have HB1 := Lib.hid hb1
    clear hb1
    go_wp2
    go_ret
    exact ⟨rfl, HB1.out⟩
  · have hs : s.size ≤ 1000000 := by omega
    have HR := Lib.hid (fun W => pread_any s hs W)
    have HD := Lib.hid (fun W => rread_any s hs W)
    have hmp := mplain (msg s.data.toList []).1 (mall hs)
    have hok := mok hs
    have hln := mlen hs
    obtain ⟨M, E, hME⟩ : ∃ M E, msg s.data.toList [] = (M, E) := ⟨_, _, rfl⟩
    rw [hME] at HR HD hmp hok hln
    dsimp only at HR HD hmp hok hln
    have hlen2 : (M.map gfd).length = (M.map ffd).length := by simp
    have hlen3 : (M.map ffd).length ≤ 20000 := by rw [List.length_map]; omega
    generalize M.map gfd = gs at *
    generalize M.map ffd = fs at *
    have HP := Lib.hid (fun v W hv => plain_any gs (by omega) hok v W hv)
    rw [hmp] at HP
    have HSM := Lib.hid (fun v u W h1 h2 => same_any fs (by omega) v u W h1 h2)
    have hEE : ((E : Int) != (E : Int)) = false := by simp
    have HL2 := Lib.hid hlen2
    have HL3 := Lib.hid hlen3
    clear hME hok hmp hlen2 hlen3 hln
    go_enter Try.func3, Try.ntmps3
    go_wp2_with fail
    refine (HD.out _).mono ?_
    rintro e w1 ⟨v1, rfl, ho1, hb1⟩
    have HF1 := Lib.hid ho1.at
    have HB1 := Lib.hid hb1
    clear ho1 hb1
    go_wp2
    go_loopw [5] (fun i wr => ∃ k : Nat, i = .int .i64 (k : Int) ∧ k ≤ 2 ∧ Hid (FAt wr v1 fs) ∧ Hid (Below w.heap.size w wr)) (fun i _ => 2 - (intOf i).toNat)
    case atStart => exact ⟨0, rfl, by omega, HF1, HB1⟩
    case round =>
      obtain ⟨wo, hwo⟩ : ∃ wo, wo = wr := ⟨_, rfl⟩
      subst hwo
      obtain ⟨k, rfl, hk, HF, HB⟩ := hrel
      by_cases hlt : k < 2
      · go_wp2_with fail
        refine (HR.out _).mono ?_
        rintro e w2 ⟨v2, rfl, ho2, hb2⟩
        have HO2 := Lib.hid ho2
        have HG2 := Lib.hid ho2.at
        have HF2 := Lib.hid (HF.out.below hb2 (Nat.le_refl _))
        have HB2 := Lib.hid (below_trans' HB.out hb2)
        have HZ2 : Hid (wo.heap.size ≤ w2.heap.size) := Lib.hid hb2.size
        have HX2 : Hid (∀ g, v1.ownBlock = some g → FAt wo v1 fs → fs ≠ [] → g < wo.heap.size) := Lib.hid (fun g hg hf hne => by
          rcases hf with ⟨h0, _⟩ | ⟨g', o, c, rfl, hcs⟩
          · exact absurd h0 hne
          · have h1 := World.block_lt_of_cell? wo ⟨g', _, none⟩ (hcs 0 (List.length_pos_iff.2 hne)).1
            simp [Value.ownBlock] at hg
            subst hg
            exact h1)
        obtain ⟨a2, c2, hv2⟩ := ho2.shape
        clear ho2 hb2
        subst hv2
        go_wp2_with fail
        refine (HP.out _ _ HG2.out).mono ?_
        rintro e w3 ⟨v3, rfl, ho3, hb3⟩
        have HF3 := Lib.hid ho3.at
        have HO3 := Lib.hid (HO2.out.below hb3 (Nat.le_refl _))
        have HW3 := Lib.hid (HF2.out.below hb3 (Nat.le_refl _))
        have HB3 := Lib.hid (below_trans' HB2.out hb3)
        clear ho3 hb3
        go_wp2_with fail
        refine (HSM.out _ _ _ HF3.out HW3.out).mono ?_
        rintro e w4 ⟨rfl, hb4⟩
        have HO4 := Lib.hid (HO3.out.below hb4 (Nat.le_refl _))
        have HW4 := Lib.hid (HW3.out.below hb4 (Nat.le_refl _))
        have HB4 := Lib.hid (below_trans' HB3.out hb4)
        clear hb4
        go_wp2
        go_loopw [8] (fun i wq => ∃ q : Nat, i = .int .i64 (q : Int) ∧ q ≤ gs.length ∧ Hid (∀ g, a2 = some ⟨g, 0, none⟩ → 0 < gs.length → wo.heap.size ≤ g ∧ Room wq g (gs.length * 2)) ∧ Hid (0 < gs.length → ∃ g, a2 = some ⟨g, 0, none⟩) ∧ Hid (FAt wq v1 fs) ∧ Hid (Below w.heap.size w wq)) (fun i _ => gs.length - (intOf i).toNat)
        case atStart =>
          refine ⟨0, rfl, by omega, Lib.hid ?_, Lib.hid ?_, HW4, HB4⟩
          · intro g hg hp
            obtain ⟨g', cap, he, hb, _, hr⟩ := room_of HO4.out hp
            rw [hg] at he
            cases he
            exact ⟨hb, hr⟩
          · intro hp
            obtain ⟨g', cap, he, _⟩ := room_of HO4.out hp
            cases he
            exact ⟨g', rfl⟩
        case round =>
          obtain ⟨q, rfl, hq, HRM, HEX, HFq, HBq⟩ := hrel
          by_cases hqlt : q < gs.length
          · obtain ⟨g, rfl⟩ := HEX.out (by omega)
            obtain ⟨hgb, hrm⟩ := HRM.out g rfl (by omega)
            obtain ⟨⟨x0, hx0⟩, hf0⟩ := hrm (q * 2) (by omega)
            obtain ⟨⟨x1, hx1⟩, hf1⟩ := hrm (q * 2 + 1) (by omega)
            have HRM2 : Hid (Room ((wr.setCell ⟨g, q * 2, none⟩ (.int .i64 (-1))).setCell ⟨g, q * 2 + 1, none⟩ .nilIface) g (gs.length * 2)) := Lib.hid ((hrm.set _ _).set _ _)
            have HGB := Lib.hid hgb
            have HFS : Hid (FAt ((wr.setCell ⟨g, q * 2, none⟩ (.int .i64 (-1))).setCell ⟨g, q * 2 + 1, none⟩ .nilIface) v1 fs) := Lib.hid (HFq.out.same fun g' hg' hv => by
              have hne : g' ≠ g := by
                intro e
                have := HX2.out g' hv HF.out (by intro e; have := HL2.out; rw [e] at this; simp at this; rw [this] at hqlt; simp at hqlt)
                omega
              rw [Below.heap_setCell _ _ _ _ hne, Below.heap_setCell _ _ _ _ hne])
            have HBS : Hid (Below w.heap.size w ((wr.setCell ⟨g, q * 2, none⟩ (.int .i64 (-1))).setCell ⟨g, q * 2 + 1, none⟩ .nilIface)) := Lib.hid (HBq.out.grown (grownBy_setCells g (q * 2) [.int .i64 (-1), .nilIface] wr) HBq.out.size (fun g' hg' => by cases hg'; have := HB.out.size; omega))
            have hqi : (q : Int) < 20000 := by have := HL3.out; have := HL2.out; omega
            clear hgb hrm
            go_wp2
            go_roundw
            case rel => exact ⟨q + 1, by go_num, by omega, Lib.hid (fun g' he hp => by cases he; exact ⟨HGB.out, HRM2.out⟩), HEX, HFS, HBS⟩
            case measure => simp [intOf]; omega
          · obtain rfl : q = gs.length := by omega
            go_wp2
            go_roundw
            case rel => exact ⟨k + 1, by go_num, by omega, HFq, HBq⟩
            case measure => simp [intOf]; omega
      · obtain rfl : k = 2 := by omega
        go_wp2_with fail
        refine (awake_any _).mono ?_
        rintro e w2 ⟨rfl, hb2⟩
        have HB2 := Lib.hid (below_trans' HB.out hb2)
        clear hb2
        go_wp2
        go_ret
        exact ⟨rfl, HB2.out⟩
theorem own : ownKnob Try.prog.godebug = none := by kernel_rfl
theorem laidOut : laidOutB Try.prog = true := by kernel_rfl
set_option maxRecDepth 100000 in
theorem lifted (os : Os) (started : os.Started) (H : Type) (enc : TypeId × Value → H) :
    ReturnsInHanded {} Try.checked os 3 .any (Rows.protoReadsSpec.pre6 enc Try.prog Try.f3 Rows.protoReadsRow.domain false) (Rows.protoReadsSpec.post enc Try.prog Try.f3 false true false false) := by
  refine returnsInHanded_of_change (C := Try.checked) own started (by kernel_rfl) Try.func3
    (ChangeSpec.witness6 (enc := enc) (C := Try.checked) false ⟨#[], #[.string ByteArray.empty], []⟩ 8 (by kernel_rfl) (by kernel_rfl) (by kernel_rfl) (by kernel_rfl)) ?_
  intro W base args ds gs before hval0 hW hcnd _
  have hval : ∀ (j : Nat) t v, Try.f3.params[j]? = some t → args[j]? = some v → Value.okWide Try.prog W .any base t v := hval0
  have hW' := hW
  obtain ⟨p, q, hA0, hV, rfl, hfz, hnd⟩ := hW
  have hA : DataW.TrodAll enc Try.prog W 0 (fun _ => true) true Try.f3.params.toList args.toList ds p := hA0
  rw [Try.params3] at hA hval
  obtain ⟨v0, vs0, d0, ds0, p0, q0, hargs, rfl, rfl, h0, r0⟩ := trodAll_cons hA
  obtain ⟨rfl, rfl, rfl⟩ := trodAll_nil r0
  obtain rfl : args = #[v0] := by cases args; simp_all
  obtain ⟨rfl, rfl⟩ := trodVars_none hV
  have k0 := h0
  have lt0 : ∀ x ∈ p0, x.block < W.heap.size := by obtain ⟨m, hm⟩ := k0; exact DataW.trod_lt m _ _ _ hm
  obtain ⟨a0, rfl, rfl, rfl, w0⟩ := open_string Try.underlying9 (hval 0 9 v0 rfl rfl) h0
  clear hA0 hval0
  refine (core a0 w0 W ).mono fun e W' ⟨he, bel⟩ => ?_
  subst he
  exact ⟨_, rfl, _, _, _, [], _, [], hW', trodAll_mk1 (shut_bool Try.underlying4 _), (trodAll_cons_mk (Below.trod laidOut (by kernel_rfl) (of_decide_eq_true (by kernel_rfl)) k0 bel lt0) trodAll_mk0), rfl, bel.frame _, fun h => by cases h⟩
theorem over : Rows.protoReadsRow.holds Try.pinned (OpenSpec.ofChange Rows.protoReadsSpec) :=
  OpenClaim.holds_of_wide 3 Try.f3 rfl rfl rfl rfl rfl rfl rfl ⟨rfl, rfl, rfl, rfl, rfl⟩ rfl rfl rfl rfl rfl (by kernel_rfl) Try.func3 (by kernel_rfl)
    (of_decide_eq_true (by kernel_rfl)) (by unfold Func.isWrapper; first | (rw [if_pos (by decide +kernel)]; kernel_rfl) | (rw [if_neg (by decide +kernel)]; exact ⟨rfl, rfl⟩))
    (fun os started H enc _ => lifted os started H enc)
theorem proved : Rows.ProtoReadsSaid := over
end Go.Proofs.Ytbckkfoenembmaa.protoReads
