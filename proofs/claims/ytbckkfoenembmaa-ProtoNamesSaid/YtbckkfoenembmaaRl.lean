/- The contracts of the document's All and Others. -/
import Derived.Test.YtbckkfoenembmaaOt
namespace Go.Proofs.Ytbckkfoenembmaa
open Go.RowKit
/-- What the document's All comes to, behind others. -/
def rall (num : Int) (wi : Int) : List Ff → List Ff → List Ff × Nat
  | [], acc => (acc, 0)
  | f :: r, acc => if f.n = num then (if (f.w : Int) = wi then rall num wi r (acc ++ [f]) else ([], 4)) else rall num wi r acc
theorem rall_len (num wi : Int) : ∀ (l acc : List Ff), (rall num wi l acc).1.length ≤ acc.length + l.length
  | [], acc => by simp [rall]
  | f :: r, acc => by
    rw [rall]
    split
    · split
      · have := rall_len num wi r (acc ++ [f])
        rw [List.length_append, List.length_singleton] at this
        rw [List.length_cons]
        omega
      · simp
    · have := rall_len num wi r acc
      rw [List.length_cons]
      omega
set_option maxRecDepth 100000 in
set_option maxHeartbeats 1000000 in
theorem rall_any (l : List Ff) (hl : l.length ≤ 1000000) (num wi : Int) (v : Value) (w : World) (hv : FAt w v l) :
    Calls Try.prog 29 #[v, .int .i64 num, .int .u8 wi] w (TellsFf w (rall num wi l [])) := by
  obtain ⟨i0, hi, hz0, hz1, hz2⟩ := info_parts Try.info47
  have HV := Lib.hid hv
  obtain ⟨va, vc, hv2⟩ := hv.slice
  clear hv
  generalize hL : l.length = L at *
  have HL := Lib.hid hL
  clear hL
  subst hv2
  obtain ⟨M, K, hMK⟩ : ∃ M K, rall num wi l [] = (M, K) := ⟨_, _, rfl⟩
  rw [hMK]
  have HMK := Lib.hid hMK
  clear hMK
  go_enter Try.func29, Try.ntmps29
  go_wp2
  go_loopw [8, 9] (fun u i wr => ∃ (k : Nat) (acc : List Ff), i = .int .i64 (k : Int) ∧ k ≤ L ∧ acc.length ≤ k ∧ Hid (rall num wi (l.drop k) acc = (M, K)) ∧ Hid (Of wr w.heap.size u acc) ∧ Hid (Below w.heap.size w wr)) (fun _ i _ => L - (intOf i).toNat)
  case atStart => exact ⟨0, [], rfl, by omega, by simp, HMK, Lib.hid (World.ownsRow_nil _ _ _ _), Lib.hid (Below.refl _ _)⟩
  case round =>
    obtain ⟨k, acc, rfl, hk, hcl, HE, HO, HB⟩ := hrel
    obtain ⟨ua, uc, hu⟩ := HO.out.shape
    subst hu
    have HSZ : Hid (w.heap.size ≤ wr.heap.size) := Lib.hid HB.out.size
    by_cases hlt : k < L
    · have hkl : k < l.length := by have := HL.out; omega
      rcases (HV.out.below HB.out (Nat.le_refl _)) with ⟨h0, _⟩ | ⟨g, og, cg, hg, hcs⟩
      · have := HL.out; rw [h0] at this; simp at this; omega
      obtain ⟨q0, q1, q2, q3⟩ := hcs k hkl
      clear hcs
      have hrun := HE.out
      rw [List.drop_eq_getElem_cons hkl, rall] at hrun
      generalize l[k] = f at *
      cases hg
      by_cases hn : f.n = num
      · rw [if_pos hn] at hrun
        by_cases hw : (f.w : Int) = wi
        · rw [if_pos hw] at hrun
          have HRN := Lib.hid hrun
          have hnn : (f.n == num) = true := by rw [hn]; simp
          have hww : ((f.w : Int) != wi) = false := by rw [hw]; simp
          have HSN := Lib.hid (fun (W : World) (v' : Value) (x0 x1 x2 : Int) (x3 : ByteArray) (h0 : fv f = .agg #[.int .i64 x0, .int .u8 x1, .int .u64 x2, .string x3]) (h : W.ownsRow w.heap.size 47 4 v' (acc.length + 1) (cells4 acc ++ [.int .i64 x0, .int .u8 x1, .int .u64 x2, .string x3])) => (of_snoc h0 h : Of W w.heap.size v' (acc ++ [f])))
          have HLN : Hid ((acc ++ [f]).length = acc.length + 1) := Lib.hid (by simp)
          have hf0 : fv f = .agg #[.int .i64 f.n, .int .u8 (f.w : Int), .int .u64 (f.v : Int), .string f.t] := rfl
          have HF0 := Lib.hid hf0
          clear hrun hn hw hf0
          generalize acc ++ [f] = accn at *
          generalize f.n = n at *
          generalize (f.w : Int) = i at *
          generalize (f.v : Int) = m at *
          generalize f.t = s at *
          go_wp2_with (at_builtin; refine wpList_append_own_at _ rfl (.tmp 39) (.tmp 44) 23 rfl w.heap.size 47 i0 _ 4 40 Try.underlying23 hi hz0 hz1 hz2 (by rfl) (by decide) (.slice ua acc.length uc) acc.length (cells4 acc) rfl (World.ownsRow.alloc HO.out _) ⟨wr.heap.size, 0, none⟩ 1 1 [.int .i64 n, .int .u8 i, .int .u64 m, .string s] rfl rfl (cells_new4 _ _ _ _ _ _) one4 (by unfold maxLen; omega) (by omega) (by have := HSZ.out; simp; omega) ?_; intro v' w6 hown' hgrow hnil hloc; have HON := Lib.hid (HSN.out _ _ _ _ _ _ HF0.out hown'); have HB6 := Lib.hid ((HB.out.alloc HB.out.size (.cells #[.int .i64 n, .int .u8 i, .int .u64 m, .string s] 47)).grown hgrow (by have := HSZ.out; simp; omega) (fun g hg => (own_lt HO.out g hg).1)); clear hown' hgrow hnil hloc)
          go_roundw
          case rel => exact ⟨k + 1, accn, by go_num, by omega, by have := HLN.out; omega, HRN, HON, HB6⟩
          case measure => simp [intOf]; omega
        · rw [if_neg hw] at hrun
          simp only [Prod.mk.injEq] at hrun
          obtain ⟨rfl, rfl⟩ := hrun
          have hnn : (f.n == num) = true := by rw [hn]; simp
          have hww : ((f.w : Int) != wi) = true := by rw [bne_iff_ne]; exact hw
          clear hn hw
          generalize f.n = n at *
          generalize (f.w : Int) = i at *
          go_wp2
          go_ret2
          exact ⟨_, rfl, World.ownsRow_nil _ _ _ _, HB.out⟩
      · rw [if_neg hn] at hrun
        have HRN := Lib.hid hrun
        have hnn : (f.n == num) = false := by rw [beq_eq_false_iff_ne]; exact hn
        clear hrun hn
        generalize f.n = n at *
        generalize (f.w : Int) = i at *
        go_wp2
        go_roundw
        case rel => exact ⟨k + 1, acc, by go_num, by omega, by omega, HRN, HO, HB⟩
        case measure => simp [intOf]; omega
    · obtain rfl : k = L := by omega
      have hr := HE.out
      rw [List.drop_of_length_le (by have := HL.out; omega), rall] at hr
      simp only [Prod.mk.injEq] at hr
      obtain ⟨rfl, rfl⟩ := hr
      go_wp2
      go_ret2
      exact ⟨_, rfl, HO.out, HB.out⟩
/-- The document's fields of other numbers. -/
def roth (known : List Int) (l : List Ff) : List Ff := l.filter fun f => !known.contains f.n
set_option maxRecDepth 100000 in
set_option maxHeartbeats 1000000 in
theorem roth_any (l : List Ff) (hl : l.length ≤ 1000000) (kn : List Int) (hkl : kn.length ≤ 1000000) (v u : Value) (w : World) (hv : FAt w v l) (hu : IAt w u kn) :
    Calls Try.prog 37 #[v, u] w (fun e w' => ∃ v', e = .returned v' ∧ Of w' w.heap.size v' (roth kn l) ∧ Below w.heap.size w w') := by
  obtain ⟨i0, hi, hz0, hz1, hz2⟩ := info_parts Try.info47
  have HV := Lib.hid hv
  have HU := Lib.hid hu
  obtain ⟨va, vc, hv2⟩ := hv.slice
  obtain ⟨ka, kc, hu2⟩ := hu.slice
  clear hv hu
  generalize hL : l.length = L at *
  have HL := Lib.hid hL
  generalize hJ : kn.length = J at *
  have HJ := Lib.hid hJ
  clear hL hJ
  subst hv2
  subst hu2
  go_enter Try.func37, Try.ntmps37
  go_wp2
  go_loopw [5, 6] (fun u i wr => ∃ (k : Nat) (gs : List Ff), i = .int .i64 (k : Int) ∧ k ≤ L ∧ gs.length ≤ k ∧ Hid (roth kn (l.take k) = gs) ∧ Hid (Of wr w.heap.size u gs) ∧ Hid (Below w.heap.size w wr)) (fun _ i _ => L - (intOf i).toNat)
  case atStart => exact ⟨0, [], rfl, by omega, by simp, Lib.hid (by simp [roth]), Lib.hid (World.ownsRow_nil _ _ _ _), Lib.hid (Below.refl _ _)⟩
  case round =>
    obtain ⟨k, gs, rfl, hk, hcl, HGS, HO, HB⟩ := hrel
    obtain ⟨ua, uc, hu⟩ := HO.out.shape
    subst hu
    by_cases hlt : k < L
    · have hkl : k < l.length := by have := HL.out; omega
      have HGN : Hid (roth kn (l.take (k + 1)) = if kn.contains l[k].n = true then gs else gs ++ [l[k]]) := Lib.hid (by
        rw [List.take_succ_eq_append_getElem hkl]
        unfold roth
        rw [List.filter_append]
        have := HGS.out
        unfold roth at this
        rw [this]
        by_cases hc : kn.contains l[k].n = true
        · rw [if_pos hc, List.filter_cons_of_neg (by simp only [hc]; decide), List.filter_nil, List.append_nil]
        · rw [if_neg hc, List.filter_cons_of_pos (by simpa using hc), List.filter_nil])
      have HFA : Hid (∀ W, FAt W (.slice va L vc) l → ∃ g o, va = some ⟨g, o, none⟩ ∧ W.cell? ⟨g, o + k * 4, none⟩ = some (.int .i64 l[k].n) ∧ W.cell? ⟨g, o + k * 4 + 1, none⟩ = some (.int .u8 (l[k].w : Int)) ∧ W.cell? ⟨g, o + k * 4 + 2, none⟩ = some (.int .u64 (l[k].v : Int)) ∧ W.cell? ⟨g, o + k * 4 + 3, none⟩ = some (.string l[k].t)) := Lib.hid (fun W hW => by
        rcases hW with ⟨h0, _⟩ | ⟨g, og, cg, hg, hcs⟩
        · rw [h0] at hkl; simp at hkl
        · cases hg
          exact ⟨g, og, rfl, hcs k hkl⟩)
      generalize l[k] = f at *
      go_wp2
      go_loopw [7, 8] (fun x y wq => ∃ (b : Bool) (j : Nat), x = .bool b ∧ y = .int .i64 (j : Int) ∧ j ≤ J ∧ Hid ((kn.take j).contains f.n = b) ∧ Hid (Of wq w.heap.size (.slice ua gs.length uc) gs) ∧ Hid (Below w.heap.size w wq)) (fun _ y _ => J - (intOf y).toNat)
      case atStart => exact ⟨false, 0, rfl, rfl, by omega, Lib.hid (by simp), HO, HB⟩
      case round =>
        obtain ⟨b, j, rfl, rfl, hj, HCN, HO, HB⟩ := hrel
        by_cases hjlt : j < J
        · have hjl : j < kn.length := by have := HJ.out; omega
          obtain ⟨g, og, rfl, q0, -, -, -⟩ := HFA.out wr (HV.out.below HB.out (Nat.le_refl _))
          rcases (HU.out.below HB.out (Nat.le_refl _)) with ⟨h0, _⟩ | ⟨g2, o2, c2, hg2, hcs2⟩
          · have := HJ.out; rw [h0] at this; simp at this; omega
          have r0 := hcs2 j hjl
          have HCN2 : Hid ((kn.take (j + 1)).contains f.n = (b || kn[j] == f.n)) := Lib.hid (by
            rw [List.take_succ_eq_append_getElem hjl, ← HCN.out, Bool.eq_iff_iff]
            simp only [List.contains_iff_mem, List.mem_append, List.mem_singleton, Bool.or_eq_true, beq_iff_eq]
            constructor
            · rintro (h | h)
              · exact .inl h
              · exact .inr h.symm
            · rintro (h | h)
              · exact .inl h
              · exact .inr h.symm)
          clear hcs2
          generalize kn[j] = x at *
          generalize f.n = n at *
          cases hg2
          cases b with
          | true =>
            go_wp2
            go_big_quiet (fail)
            go_wp2
            go_roundw
            case rel => exact ⟨true, j + 1, rfl, by go_num, by omega, HCN2, Lib.hid HO.out, Lib.hid (below_drewN HB.out _)⟩
            case measure => simp [intOf]; omega
          | false =>
            go_wp2
            go_big_quiet (fail)
            go_wp2
            go_roundw
            case rel => exact ⟨x == n, j + 1, rfl, by go_num, by omega, HCN2, Lib.hid HO.out, Lib.hid (below_drewN HB.out _)⟩
            case measure => simp [intOf]; omega
        · obtain rfl : j = J := by omega
          have hcn := HCN.out
          rw [List.take_of_length_le (by have := HJ.out; omega)] at hcn
          have HSZ : Hid (w.heap.size ≤ wr.heap.size) := Lib.hid HB.out.size
          obtain ⟨g, og, rfl, q0, q1, q2, q3⟩ := HFA.out wr (HV.out.below HB.out (Nat.le_refl _))
          cases b with
          | true =>
            rw [hcn, if_pos rfl] at HGN
            clear hcn
            go_wp2
            go_roundw
            case rel => exact ⟨k + 1, gs, by go_num, by omega, by omega, HGN, HO, HB⟩
            case measure => simp [intOf]; omega
          | false =>
            rw [hcn, if_neg (by simp)] at HGN
            have HSN := Lib.hid (fun (W : World) (v' : Value) (x0 x1 x2 : Int) (x3 : ByteArray) (h0 : fv f = .agg #[.int .i64 x0, .int .u8 x1, .int .u64 x2, .string x3]) (h : W.ownsRow w.heap.size 47 4 v' (gs.length + 1) (cells4 gs ++ [.int .i64 x0, .int .u8 x1, .int .u64 x2, .string x3])) => (of_snoc h0 h : Of W w.heap.size v' (gs ++ [f])))
            have HLN : Hid ((gs ++ [f]).length = gs.length + 1) := Lib.hid (by simp)
            have hf0 : fv f = .agg #[.int .i64 f.n, .int .u8 (f.w : Int), .int .u64 (f.v : Int), .string f.t] := rfl
            have HF0 := Lib.hid hf0
            clear hcn hf0
            generalize gs ++ [f] = gsn at *
            generalize f.n = n at *
            generalize (f.w : Int) = i at *
            generalize (f.v : Int) = m at *
            generalize f.t = s at *
            go_wp2_with (at_builtin; refine wpList_append_own_at _ rfl (.tmp 36) (.tmp 41) 23 rfl w.heap.size 47 i0 _ 4 40 Try.underlying23 hi hz0 hz1 hz2 (by rfl) (by decide) (.slice ua gs.length uc) gs.length (cells4 gs) rfl (World.ownsRow.alloc HO.out _) ⟨wr.heap.size, 0, none⟩ 1 1 [.int .i64 n, .int .u8 i, .int .u64 m, .string s] rfl rfl (cells_new4 _ _ _ _ _ _) one4 (by unfold maxLen; omega) (by omega) (by have := HSZ.out; simp; omega) ?_; intro v' w6 hown' hgrow hnil hloc; have HON := Lib.hid (HSN.out _ _ _ _ _ _ HF0.out hown'); have HB6 := Lib.hid ((HB.out.alloc HB.out.size (.cells #[.int .i64 n, .int .u8 i, .int .u64 m, .string s] 47)).grown hgrow (by have := HSZ.out; simp; omega) (fun g hg => (own_lt HO.out g hg).1)); clear hown' hgrow hnil hloc)
            go_roundw
            case rel => exact ⟨k + 1, gsn, by go_num, by omega, by have := HLN.out; omega, HGN, HON, HB6⟩
            case measure => simp [intOf]; omega
    · obtain rfl : k = L := by omega
      have hr : Hid (roth kn l = gs) := Lib.hid (by
        have := HGS.out
        rw [List.take_of_length_le (by have := HL.out; omega)] at this
        exact this)
      go_wp2
      go_ret
      refine ⟨_, rfl, ?_, HB.out⟩
      rw [hr.out]
      exact HO.out
end Go.Proofs.Ytbckkfoenembmaa
