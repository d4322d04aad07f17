/- The law's helpers: put, has, does. -/
import Derived.Test.YtbfkgbickjfcjaaUb
import Derived.Test.YtbfkgbickjfcjaaTr
import Derived.Test.YtbfkgbickjfcjaaTz
namespace Go.Proofs.Ytbfkgbickjfcjaa
set_option linter.unusedVariables false
set_option linter.unusedSimpArgs false
open Go Go.RowKit
set_option maxRecDepth 100000
theorem put_any (k v : ByteArray) (vc : Value) (w : World) (a : Option Addr) (n c : Nat) (hv : vc = .slice a n c) :
    Calls Try.prog 40 #[.string k, .string v, vc] w fun e w' => ∃ vo, e = .returned (.agg #[vc, vo]) ∧ (∀ cs, RAt encC w vc cs → TxV w' vc vo ⟨cs, [⟨false, k, v⟩]⟩) ∧ Below w.heap.size w w' := by
  subst hv
  go_enter Try.func40, Try.ntmps40
  go_wp2
  have hbw1 : Below w.heap.size w (w.alloc (.cells #[.slice a n c, .slice (some ⟨w.heap.size + 1, 0, none⟩) 1 1] 35)) := (Below.refl _ w).alloc (Nat.le_refl _) _
  have hs1 := World.size_alloc w (.cells #[.slice a n c, .slice (some ⟨w.heap.size + 1, 0, none⟩) 1 1] 35)
  have hk1 := World.alloc_heap_new w (.cells #[.slice a n c, .slice (some ⟨w.heap.size + 1, 0, none⟩) 1 1] 35)
  generalize w.alloc (.cells #[.slice a n c, .slice (some ⟨w.heap.size + 1, 0, none⟩) 1 1] 35) = w1 at *
  have hbw2 : Below w1.heap.size w1 (w1.alloc (.cells #[.bool false, .string k, .string v] 72)) := (Below.refl _ w1).alloc (Nat.le_refl _) _
  have h72 := World.alloc_heap_new w1 (.cells #[.bool false, .string k, .string v] 72)
  rw [hs1] at h72
  have h35 := (hbw2.block w.heap.size (by omega)).trans hk1
  have hs2 := World.size_alloc w1 (.cells #[.bool false, .string k, .string v] 72)
  have hbw := hbw1.trans (hbw2.mono hbw1.size)
  refine bodyPost_ret (results_cell_row Try.results40 _ _ w.heap.size 35 #[.slice a n c, .slice (some ⟨w.heap.size + 1, 0, none⟩) 1 1] (0, 0) _ rfl h35 Try.underlying35 rfl (by kernel_rfl)) rfl ?_
  refine ⟨_, rfl, fun cs hc => ⟨hc.below hbw, .inr ⟨w.heap.size + 1, 0, 1, rfl, by omega, fun j u hj => ?_⟩, fun a' n' c' e => by cases e; exact Nat.le_refl _⟩, hbw⟩
  simp only [World.cell?, h72]
  simpa [cz, encO] using hj
theorem has_any (p : Option Addr) (k v : ByteArray) (x y : Int) (s : St) (w : World) (h : Asks w p s) :
    Calls Try.prog 42 #[.pointer p, .string k, .string v, .int .i64 x, .int .i64 y] w fun e w' => e = .returned (.bool ((getE k s).isSome && eqE (oE (getE k s)) ⟨k, v, x, y⟩)) ∧ Below w.heap.size w w' := by
  have HG := Lib.hid (get_any p k s w h)
  obtain ⟨o, ho⟩ : ∃ o, getE k s = o := ⟨_, rfl⟩
  rw [ho] at HG ⊢
  clear h ho
  cases o with
  | none =>
    go_enter Try.func42, Try.ntmps42
    go_wp2_with fail
    refine HG.out.mono ?_
    rintro e w' ⟨rfl, hb⟩
    have HB := Lib.hid hb
    clear hb
    unfold agE oE zE
    go_wp2
    go_ret
    exact ⟨rfl, HB.out.alloc HB.out.size _⟩
  | some e0 =>
    have he := fun W => eq57 e0 ⟨k, v, x, y⟩ W
    dsimp only at he
    obtain ⟨r, hr⟩ : ∃ r, eqE e0 ⟨k, v, x, y⟩ = r := ⟨_, rfl⟩
    have HR := Lib.hid hr
    rw [hr] at he
    clear hr
    go_enter Try.func42, Try.ntmps42
    go_wp2_with fail
    refine HG.out.mono ?_
    rintro e w' ⟨rfl, hb⟩
    have HB := Lib.hid hb
    clear hb
    unfold agE oE
    go_wp2
    go_ret
    exact ⟨by rw [← HR.out]; rfl, HB.out.alloc HB.out.size _⟩
/-- A step that is to answer so many events, and to come to such a revision. -/
def doesB (s : St) (x : Tx) (n r : Int) : Bool := (doS s x).1.2.2 == 0 && ((doS s x).1.2.1 && ((((doS s x).1.1.length : Nat) : Int) == n && (doS s x).2.rev == r))
set_option maxHeartbeats 1000000 in
theorem does_any (b : Nat) (s : St) (x : Tx) (vc vo : Value) (n r : Int) (w : World) (h : TrAt w b s) (hx : TxV w vc vo x) (hlc : x.cs.length ≤ 9223372036854775807) (hlo : x.os.length ≤ 9223372036854775807) (hr0 : 0 ≤ s.rev) (hr1 : s.rev ≤ 1099511627776) (hL : s.L.length ≤ 100000) (hH : s.H.length ≤ 100000) :
    Calls Try.prog 41 #[.pointer (some ⟨b, 0, none⟩), .agg #[vc, vo], .int .i64 n, .int .i64 r] w fun e w' => (e = .returned (.bool (doesB s x n r)) ∧ TrAt w' b (doS s x).2) ∧ w.grownBy w' (some b) := by
  have hbl : Below w.heap.size w (w.alloc (.cells #[vc, vo] 35)) := (Below.refl _ w).alloc (Nat.le_refl _) _
  have HD := Lib.hid (do_any b s x vc vo _ (h.below hbl) (hx.below hbl) hlc hlo hr0 hr1 hL hH)
  have HBL := Lib.hid hbl
  have hbk : (w.alloc (.cells #[vc, vo] 35)).heap[w.heap.size]? = some (.cells #[vc, vo] 35 (0, 0)) := World.alloc_heap_new _ _
  obtain ⟨ca, cc, rfl⟩ := hx.1.slice
  obtain ⟨oa, oc, rfl⟩ := hx.2.1.slice
  obtain ⟨NC, hNC⟩ : ∃ n, x.cs.length = n := ⟨_, rfl⟩
  obtain ⟨NO, hNO⟩ : ∃ n, x.os.length = n := ⟨_, rfl⟩
  rw [hNC, hNO] at HD HBL hbk
  rw [hNC, hNO]
  obtain ⟨⟨⟨es, ok, er⟩, s'⟩, hd⟩ : ∃ q, doS s x = q := ⟨_, rfl⟩
  unfold doesB
  rw [hd] at HD ⊢
  dsimp only
  clear h hx hlc hlo hr0 hr1 hL hH hbl hNC hNO hd
  obtain ⟨N, hN⟩ : ∃ n, es.length = n := ⟨_, rfl⟩
  have HN := Lib.hid hN
  rw [hN]
  clear hN
  have hen : (⟨w, 0⟩ : World × Nat).2 = 0 := rfl
  clear hen
  go_enter Try.func41, Try.ntmps41
  go_wp2_with fail
  refine HD.out.mono ?_
  rintro e w' ⟨v, rfl, hv, hT, hg⟩
  obtain ⟨va, vc', hve⟩ := hv.shape
  subst hve
  have HR := Lib.hid (fun W (hW : Below w'.heap.size w' W) => rev_any (some ⟨b, 0, none⟩) s' W (.inl ⟨b, rfl, hT.at.below hW⟩))
  have HT := Lib.hid hT
  have HG := Lib.hid (grown_trans (grown_below HBL.out (some b)) hg)
  clear hv hT hg
  dsimp only
  rw [HN.out]
  go_wp2_with (go_at_call 36; refine (HR.out _ (Below.refl _ _)).mono ?_; rintro e w2 ⟨rfl, hb2⟩; have HB2 := Lib.hid hb2; clear hb2)
  all_goals
    try go_wp2
    go_ret
    first
    | exact ⟨⟨rfl, HT.out.at⟩, HG.out⟩
    | exact ⟨⟨by simp_all, HT.out.at⟩, HG.out⟩
    | exact ⟨⟨rfl, (HT.out.at).below HB2.out⟩, grown_trans HG.out (grown_below HB2.out _)⟩
    | exact ⟨⟨by simp_all, (HT.out.at).below HB2.out⟩, grown_trans HG.out (grown_below HB2.out _)⟩
end Go.Proofs.Ytbfkgbickjfcjaa
