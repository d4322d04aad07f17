/- Put. -/
import Derived.Test.YtpcpbdcdapmlnaaDoorHm
namespace Go.Proofs.YtpcpbdcdapmlnaaDoor
open Go Go.RowKit
set_option maxRecDepth 100000
/-- What a Put leaves, and what it tells. -/
def putR (d : Dk) (h : He) : Dk × Nat := if mayB h = true then (if (ldR d).2.2.2 ≠ 0 then (d, (ldR d).2.2.2) else stP d (ptT d) (whl h)) else (d, 4)
theorem putR_ok {d : Dk} (hd : d.ok) (h : He) : (putR d h).1.ok := by
  unfold putR
  split
  · split
    · exact hd
    · exact stP_ok hd _ _
  · exact hd
set_option maxHeartbeats 2000000 in
theorem put_any (B : Nat) (d : Dk) (h : He) (v : Value) (w : World) (hB : DAt w B d) (hd : d.ok) (hk : KAt w v h.log) (hl : h.log.length ≤ 9223372036854775807) (hT : Hid (Tab w)) :
    Calls Tryd.prog 14 #[.pointer (some ⟨B, 0, none⟩), hval h v] w (DRet w B (.int .i64 ((putR d h).2 : Int)) (putR d h).1) := by
  have HA : Hid (Below w.heap.size w ((w.alloc (.cells #[.pointer (some ⟨B, 0, none⟩)] 31)).alloc (.cells #[.int .i64 h.gen, .int .i64 h.base, .int .i64 h.snap, v] 26))) := Lib.hid (below_two _ _ _)
  have HW := Lib.hid (whole_any h v _ (hk.below HA.out (Nat.le_refl _)) hl (Lib.hid (hT.out.below HA.out)))
  have hwz : (whR h).1.size ≤ 9223372036854775807 := by
    unfold whR
    cases hm : mayB h
    · rw [if_neg (by simp)]; show (0 : Nat) ≤ _; omega
    · rw [if_pos rfl]; show (whl h).size ≤ _; rw [whl_size]; have := enc_len (mayB_ok hm); omega
  have HN := Lib.hid (fun W (hW : DAt W B d) (hT' : Tab W) => next_any B d W hW hd (Lib.hid hT'))
  have HI := Lib.hid (fun g b1 b2 b3 W h1 h2 h3 => inTurn_any g b1 b2 b3 B d (ptT d) (whR h).1 W h1 h2 h3 hd hwz)
  have G : Hid (putR d h = if mayB h = true then (if (ldR d).2.2.2 ≠ 0 then (d, (ldR d).2.2.2) else stP d (ptT d) (whl h)) else (d, 4)) := Lib.hid rfl
  have G2 : Hid (whR h = if mayB h = true then (whl h, 0) else (⟨#[]⟩, 4)) := Lib.hid rfl
  have HD := Lib.hid hB
  have hlt := hB.lt
  have X0 : Hid (((w.alloc (.cells #[.pointer (some ⟨B, 0, none⟩)] 31)).alloc (.cells #[.int .i64 h.gen, .int .i64 h.base, .int .i64 h.snap, v] 26)).heap[w.heap.size]? = some (.cells #[.pointer (some ⟨B, 0, none⟩)] 31 (0, 0))) := Lib.hid ((Below.heap_alloc _ _ _ (by simp)).trans (heap_alloc_new _ _))
  clear hk hB
  generalize putR d h = P at *
  generalize hWh : whR h = Wh at *
  clear hWh
  obtain ⟨S, E⟩ := Wh
  dsimp only at *
  unfold hval at *
  cases hm : mayB h
  · have hE : E = 4 := by have := congrArg Prod.snd G2.out; rw [hm, if_neg (by simp)] at this; exact this
    have HP : Hid (P = (d, 4)) := Lib.hid (by rw [G.out, hm, if_neg (by simp)])
    subst hE
    clear HN HI G G2 hwz
    go_enter Tryd.func14, Tryd.ntmps14
    go_wp2_with fail
    refine HW.out.mono ?_
    rintro e w1 ⟨rfl, hb⟩
    have HB := Lib.hid (below_trans' HA.out hb)
    clear hb
    go_wp2
    go_ret
    exact ⟨by rw [HP.out]; rfl, by rw [HP.out]; exact (HD.out.below HB.out hlt).alloc _, grown_below (HB.out.alloc HB.out.size _) _⟩
  · have hS : S = whl h ∧ E = 0 := by have := G2.out; rw [hm, if_pos rfl] at this; exact ⟨congrArg Prod.fst this, congrArg Prod.snd this⟩
    obtain ⟨rfl, rfl⟩ := hS
    have HP : Hid (P = if (ldR d).2.2.2 ≠ 0 then (d, (ldR d).2.2.2) else stP d (ptT d) (whl h)) := Lib.hid (by rw [G.out, hm, if_pos rfl])
    clear G G2
    generalize (ldR d).2.2.2 = R at *
    generalize ptT d = T at *
    generalize stP d T (whl h) = SP at *
    generalize whl h = F at *
    by_cases hR : R ≠ 0
    · have hR2 := ne0 hR
      have HP2 : Hid (P = (d, R)) := Lib.hid (by rw [HP.out, if_pos hR])
      clear HI HP
      go_enter Tryd.func14, Tryd.ntmps14
      go_wp2_with fail
      refine HW.out.mono ?_
      rintro e w1 ⟨rfl, hb⟩
      have HB := Lib.hid (below_trans' HA.out hb)
      have X1 := Lib.hid ((hb.block w.heap.size (by simp; omega)).trans X0.out)
      have hz1 : w.heap.size < w1.heap.size := by have := hb.size; simp at this; omega
      have hne1 : w.heap.size ≠ w1.heap.size := by omega
      have b0 := one_cell X1.out
      have HB2 := Lib.hid (HB.out.alloc HB.out.size (.cells #[.string F] 9))
      have X2 := Lib.hid ((Below.heap_alloc w1 (.cells #[.string F] 9) w.heap.size hz1).trans X1.out)
      have F2 : Hid ((w1.alloc (.cells #[.string F] 9)).heap[w1.heap.size]? = some (.cells #[.string F] 9 (0, 0))) := Lib.hid (heap_alloc_new _ _)
      clear hb
      go_wp2_with fail
      refine (HN.out _ (HD.out.below HB2.out hlt) (hT.out.below HB2.out)).mono ?_
      rintro e w2 ⟨rfl, hb⟩
      have HB3 := Lib.hid (below_trans' HB2.out hb)
      clear hb
      go_wp2
      go_ret
      exact ⟨by rw [HP2.out]; rfl, by rw [HP2.out]; exact (HD.out.below HB3.out hlt).alloc _, grown_below (HB3.out.alloc HB3.out.size _) _⟩
    · have HP2 : Hid (P = SP) := Lib.hid (by rw [HP.out, if_neg hR])
      obtain rfl : R = 0 := by omega
      have e1 := enters43'
      have e2 := enters45'
      have e3 := enters47'
      have hmf : ∀ (fn : Fn) (first cap : Array Value) (w : World), (Instr.makeFunc fn first cap).run Tryd.prog w = .ok (.func fn first cap) w := fun _ _ _ _ => rfl
      go_enter Tryd.func14, Tryd.ntmps14
      go_wp2_with fail
      refine HW.out.mono ?_
      rintro e w1 ⟨rfl, hb⟩
      have HB := Lib.hid (below_trans' HA.out hb)
      have X1 := Lib.hid ((hb.block w.heap.size (by simp; omega)).trans X0.out)
      have hz1 : w.heap.size < w1.heap.size := by have := hb.size; simp at this; omega
      have hne1 : w.heap.size ≠ w1.heap.size := by omega
      have b0 := one_cell X1.out
      have HB2 := Lib.hid (HB.out.alloc HB.out.size (.cells #[.string F] 9))
      have X2 := Lib.hid ((Below.heap_alloc w1 (.cells #[.string F] 9) w.heap.size hz1).trans X1.out)
      have F2 : Hid ((w1.alloc (.cells #[.string F] 9)).heap[w1.heap.size]? = some (.cells #[.string F] 9 (0, 0))) := Lib.hid (heap_alloc_new _ _)
      clear hb
      go_wp2_with fail
      refine (HN.out _ (HD.out.below HB2.out hlt) (hT.out.below HB2.out)).mono ?_
      rintro e w2 ⟨rfl, hb⟩
      have HB3 := Lib.hid (below_trans' HB2.out hb)
      have X3 := Lib.hid ((hb.block w.heap.size (by simp; omega)).trans X2.out)
      have F3 := Lib.hid ((hb.block w1.heap.size (by simp)).trans F2.out)
      have hz2 : w1.heap.size < w2.heap.size := by have := hb.size; simp at this; omega
      have hne2 : w1.heap.size ≠ w2.heap.size := by omega
      have hne3 : w.heap.size ≠ w2.heap.size := by omega
      have b2 := one_cell X3.out
      clear hb b0
      go_wp2_with fail
      have HB4 := Lib.hid (HB3.out.alloc HB3.out.size (.cells #[.int .i64 (T : Int)] 3))
      have HB5 := Lib.hid (HB4.out.alloc HB4.out.size (.cells #[.func (.func 43) #[] #[.pointer (some ⟨w.heap.size, 0, none⟩), .pointer (some ⟨w2.heap.size, 0, none⟩)], .func (.func 45) #[] #[.pointer (some ⟨w.heap.size, 0, none⟩), .pointer (some ⟨w2.heap.size, 0, none⟩), .pointer (some ⟨w1.heap.size, 0, none⟩)], .func (.func 47) #[] #[.pointer (some ⟨w.heap.size, 0, none⟩), .pointer (some ⟨w2.heap.size, 0, none⟩)]] 71))
      generalize hV : Obj.cells #[.func (.func 43) #[] #[.pointer (some ⟨w.heap.size, 0, none⟩), .pointer (some ⟨w2.heap.size, 0, none⟩)], .func (.func 45) #[] #[.pointer (some ⟨w.heap.size, 0, none⟩), .pointer (some ⟨w2.heap.size, 0, none⟩), .pointer (some ⟨w1.heap.size, 0, none⟩)], .func (.func 47) #[] #[.pointer (some ⟨w.heap.size, 0, none⟩), .pointer (some ⟨w2.heap.size, 0, none⟩)]] 71 = OV at *
      have hfs : Fs ((w2.alloc (.cells #[.int .i64 (T : Int)] 3)).alloc OV) (w2.heap.size + 1) w.heap.size w2.heap.size w1.heap.size := by
        have hb : ((w2.alloc (.cells #[.int .i64 (T : Int)] 3)).alloc OV).heap[w2.heap.size + 1]? = some OV := by
          have := heap_alloc_new (w2.alloc (.cells #[.int .i64 (T : Int)] 3)) OV
          rw [World.size_alloc] at this; exact this
        rw [← hV] at hb ⊢
        exact ⟨by simp only [World.cell?, hb]; rfl, by simp only [World.cell?, hb]; rfl, by simp only [World.cell?, hb]; rfl⟩
      have hkp : Kp ((w2.alloc (.cells #[.int .i64 (T : Int)] 3)).alloc OV) w.heap.size w2.heap.size w1.heap.size B T F := by
        refine ⟨one_cell (t := 31) ?_, one_cell (t := 3) ?_, one_cell (t := 9) ?_⟩
        · exact (Below.heap_alloc _ _ _ (by simp; omega)).trans ((Below.heap_alloc _ _ _ (by omega)).trans X3.out)
        · exact (Below.heap_alloc _ _ _ (by simp)).trans (heap_alloc_new _ _)
        · exact (Below.heap_alloc _ _ _ (by simp; omega)).trans ((Below.heap_alloc _ _ _ (by omega)).trans F3.out)
      refine (HI.out _ _ _ _ _ hfs hkp (HD.out.below HB5.out hlt) (by omega) (by omega) (by omega) (by omega)).mono ?_
      rintro e w3 ⟨rfl, hd2, hg⟩
      have HD2 := Lib.hid hd2
      have HG := Lib.hid (grown_trans (grown_below HB5.out (some B)) hg)
      clear hd2 hg hfs hkp
      go_wp2
      go_ret
      exact ⟨by rw [HP2.out]; rfl, by rw [HP2.out]; exact HD2.out, HG.out⟩
end Go.Proofs.YtpcpbdcdapmlnaaDoor
