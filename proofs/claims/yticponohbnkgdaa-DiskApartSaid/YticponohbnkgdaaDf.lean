/- The disk's calls: Write, Sync, Trim, Wipe, Read, Fail, Up. -/
import Derived.Test.YticponohbnkgdaaDe
namespace Go.Proofs.Yticponohbnkgdaa
open Go Go.RowKit
set_option maxRecDepth 100000
theorem enters41 (args : Array Value) (W : World) : (callFunc 41 args).run Try.prog W = .ok (.enter 41 args) W := by kernel_rfl
theorem enters42 (args : Array Value) (W : World) : (callFunc 42 args).run Try.prog W = .ok (.enter 42 args) W := by kernel_rfl
theorem enters43 (args : Array Value) (W : World) : (callFunc 43 args).run Try.prog W = .ok (.enter 43 args) W := by kernel_rfl
/-- do, of whatever tape. -/
theorem do_any (B : Nat) (d : Dk) (t : Int) (torn : Bool) (F : FuncId) (cap : Array Value) (g : Tp → Tp × Nat) (w : World) (h : DAt w B d) (hd : d.ok) (hcf : ∀ args W, (callFunc F args).run Try.prog W = .ok (.enter F args) W)
    (HF : ∀ u : Tp, u.ok → ∀ W, Below w.heap.size w W → Calls Try.prog F (#[.agg #[.string u.s, .int .i64 (u.f : Int)]] ++ cap) W (Ret W (.tuple #[.agg #[.string (g u).1.s, .int .i64 ((g u).1.f : Int)], .int .i64 ((g u).2 : Int)]))) :
    Calls Try.prog 39 #[.pointer (some ⟨B, 0, none⟩), .int .i64 t, .bool torn, .func (.func F) #[] cap] w (DRet w B (.int .i64 ((doD d t torn g).2 : Int)) (doD d t torn g).1) := by
  cases hdn : d.dn
  · by_cases ht : 0 ≤ t ∧ t < 32
    · obtain ⟨k, rfl⟩ := Int.eq_ofNat_of_zero_le ht.1
      have hk : k < 32 := by omega
      exact do_in B d k torn F cap g w h hd.left hdn hk hcf (Lib.hid (HF _ (hd.t k hk)))
    · exact do_out B d t torn _ g w h hdn ht
  · unfold doD
    rw [hdn, if_pos rfl]
    exact do_dn B d t torn _ w h hdn
theorem enters40 (args : Array Value) (W : World) : (callFunc 40 args).run Try.prog W = .ok (.enter 40 args) W := by kernel_rfl
theorem DRet.from {w w1 w' : World} {B : Nat} {v : Value} {d : Dk} {e : Ending} (h : DRet w1 B v d e w') (hb : Below w.heap.size w w1) : DRet w B v d e w' := ⟨h.1, h.2.1, grown_trans (grown_below hb _) h.2.2⟩
set_option maxHeartbeats 400000 in
theorem sync_any (B : Nat) (d : Dk) (t : Int) (w : World) (h : DAt w B d) (hd : d.ok) : Calls Try.prog 16 #[.pointer (some ⟨B, 0, none⟩), .int .i64 t] w (DRet w B (.int .i64 ((doD d t false sy).2 : Int)) (doD d t false sy).1) := by
  have H := Lib.hid (do_any B d t false 41 #[] sy w h hd enters41 (fun u hu W _ => by have := synced_any u W; simpa using this))
  generalize doD d t false sy = X at *
  go_enter Try.func16, Try.ntmps16
  go_wp2_with fail
  refine H.out.mono ?_
  rintro e w' ⟨rfl, hd2, hg⟩
  go_wp2
  go_ret
  exact ⟨rfl, hd2, hg⟩
set_option maxHeartbeats 400000 in
theorem wipe_any (B : Nat) (d : Dk) (t : Int) (w : World) (h : DAt w B d) (hd : d.ok) : Calls Try.prog 17 #[.pointer (some ⟨B, 0, none⟩), .int .i64 t] w (DRet w B (.int .i64 ((doD d t false wi).2 : Int)) (doD d t false wi).1) := by
  have H := Lib.hid (do_any B d t false 42 #[] wi w h hd enters42 (fun u hu W _ => by have := wiped_any u W; simpa using this))
  generalize doD d t false wi = X at *
  go_enter Try.func17, Try.ntmps17
  go_wp2_with fail
  refine H.out.mono ?_
  rintro e w' ⟨rfl, hd2, hg⟩
  go_wp2
  go_ret
  exact ⟨rfl, hd2, hg⟩
set_option maxHeartbeats 400000 in
theorem trim_any (B : Nat) (d : Dk) (t n : Int) (w : World) (h : DAt w B d) (hd : d.ok) : Calls Try.prog 18 #[.pointer (some ⟨B, 0, none⟩), .int .i64 t, .int .i64 n] w (DRet w B (.int .i64 ((doD d t false (tr n)).2 : Int)) (doD d t false (tr n)).1) := by
  have hmf : ∀ (fn : Fn) (first cap : Array Value) (w : World), (Instr.makeFunc fn first cap).run Try.prog w = .ok (.func fn first cap) w := fun _ _ _ _ => rfl
  have hb : Below w.heap.size w (w.alloc (.cells #[.int .i64 n] 3)) := (Below.refl _ _).alloc (Nat.le_refl _) _
  have hc : (w.alloc (.cells #[.int .i64 n] 3)).cell? ⟨w.heap.size, 0, none⟩ = some (.int .i64 n) := cell_of_one (heap_alloc_new _ _)
  have H := Lib.hid (do_any B d t false 43 #[.pointer (some ⟨w.heap.size, 0, none⟩)] (tr n) _ (h.alloc (.cells #[.int .i64 n] 3)) hd enters43 (fun u hu W hW => by have := trimf_any w.heap.size u n W hu ((hW.cell (by simp)).trans hc); simpa using this))
  have HB := Lib.hid hb
  clear hb hc
  generalize doD d t false (tr n) = X at *
  go_enter Try.func18, Try.ntmps18
  go_wp2_with fail
  refine H.out.mono ?_
  rintro e w' hr
  have HR := Lib.hid (hr.from HB.out)
  obtain ⟨rfl, hd2, hg⟩ := hr
  clear hd2 hg
  go_wp2
  go_ret
  exact HR.out
set_option maxHeartbeats 400000 in
theorem write_any (B : Nat) (d : Dk) (t : Int) (x : ByteArray) (w : World) (h : DAt w B d) (hd : d.ok) (hx : x.size ≤ 9223372036854775807) : Calls Try.prog 13 #[.pointer (some ⟨B, 0, none⟩), .int .i64 t, .string x] w (DRet w B (.int .i64 ((doD d t true (wf d x)).2 : Int)) (doD d t true (wf d x)).1) := by
  have hmf : ∀ (fn : Fn) (first cap : Array Value) (w : World), (Instr.makeFunc fn first cap).run Try.prog w = .ok (.func fn first cap) w := fun _ _ _ _ => rfl
  have hb : Below w.heap.size w ((w.alloc (.cells #[.pointer (some ⟨B, 0, none⟩)] 23)).alloc (.cells #[.string x] 9)) := below_two _ _ _
  have hc1 : ((w.alloc (.cells #[.pointer (some ⟨B, 0, none⟩)] 23)).alloc (.cells #[.string x] 9)).cell? ⟨w.heap.size, 0, none⟩ = some (.pointer (some ⟨B, 0, none⟩)) := cell_of_one ((Below.heap_alloc _ _ _ (by simp)).trans (heap_alloc_new _ _))
  have hc2 : ((w.alloc (.cells #[.pointer (some ⟨B, 0, none⟩)] 23)).alloc (.cells #[.string x] 9)).cell? ⟨w.heap.size + 1, 0, none⟩ = some (.string x) := cell_of_one (heap_two _ _ _)
  have hda := (h.alloc (.cells #[.pointer (some ⟨B, 0, none⟩)] 23)).alloc (.cells #[.string x] 9)
  have hlt : B < ((w.alloc (.cells #[.pointer (some ⟨B, 0, none⟩)] 23)).alloc (.cells #[.string x] 9)).heap.size := hda.lt
  have H := Lib.hid (do_any B d t true 40 #[.pointer (some ⟨w.heap.size + 1, 0, none⟩), .pointer (some ⟨w.heap.size, 0, none⟩)] (wf d x) _ hda hd enters40 (fun u hu W hW => by have := writef_any (w.heap.size + 1) w.heap.size B d u x W hu hx hd ((hW.cell (by simp)).trans hc2) ((hW.cell (by simp; omega)).trans hc1) (hda.below hW hlt); simpa using this))
  have HB := Lib.hid hb
  clear hb hc1 hc2 hda hlt
  generalize doD d t true (wf d x) = X at *
  go_enter Try.func13, Try.ntmps13
  go_wp2_with fail
  refine H.out.mono ?_
  rintro e w' hr
  have HR := Lib.hid (hr.from HB.out)
  obtain ⟨rfl, hd2, hg⟩ := hr
  clear hd2 hg
  go_wp2
  go_ret
  exact HR.out
def failD (d : Dk) (n : Int) : Dk × Nat := if d.dn = true then (d, 45) else if n < 0 then (d, 1) else ({ d with dm := true, left := n.toNat }, 0)
set_option maxHeartbeats 400000 in
theorem fail_any (B : Nat) (d : Dk) (n : Int) (w : World) (h : DAt w B d) : Calls Try.prog 19 #[.pointer (some ⟨B, 0, none⟩), .int .i64 n] w (DRet w B (.int .i64 ((failD d n).2 : Int)) (failD d n).1) := by
  have HR := Lib.hid (ready_any B d w h.dn)
  unfold failD
  have c66 := h.dm
  have c67 := h.left
  have f66 := h.fz 66
  have f67 := h.fz 67
  have l := h.lt
  cases hdn : d.dn
  · rw [if_neg (by simp)]
    rw [hdn, if_neg (by simp)] at HR
    by_cases hn : n < 0
    · rw [if_pos hn]
      go_enter Try.func19, Try.ntmps19
      go_wp2_with fail
      refine HR.out.mono ?_
      rintro e w' ⟨rfl, rfl⟩
      go_wp2
      go_ret
      exact ⟨rfl, h, World.grownBy.refl _ _⟩
    · rw [if_neg hn]
      obtain ⟨m, rfl⟩ := Int.eq_ofNat_of_zero_le (show 0 ≤ n by omega)
      rw [Int.toNat_natCast]
      go_enter Try.func19, Try.ntmps19
      go_wp2_with fail
      refine HR.out.mono ?_
      rintro e w' ⟨rfl, rfl⟩
      go_wp2
      go_ret
      exact ⟨rfl, by rw [← hdn]; exact (h.setDm true).setLeft m, grown_set2 _ _ _ _ _ _⟩
  · rw [if_pos rfl]
    rw [hdn, if_pos rfl] at HR
    go_enter Try.func19, Try.ntmps19
    go_wp2_with fail
    refine HR.out.mono ?_
    rintro e w' ⟨rfl, rfl⟩
    go_wp2
    go_ret
    exact ⟨rfl, h, World.grownBy.refl _ _⟩
set_option maxHeartbeats 400000 in
theorem up_any (B : Nat) (d : Dk) (w : World) (h : DAt w B d) : Calls Try.prog 20 #[.pointer (some ⟨B, 0, none⟩)] w fun e w' => e = .returned (.bool (!d.dn)) ∧ w = w' := by
  have HR := Lib.hid (ready_any B d w h.dn)
  cases hdn : d.dn
  · rw [hdn, if_neg (by simp)] at HR
    go_enter Try.func20, Try.ntmps20
    go_wp2_with fail
    refine HR.out.mono ?_
    rintro e w' ⟨rfl, rfl⟩
    go_wp2
    go_ret
    exact ⟨rfl, rfl⟩
  · rw [hdn, if_pos rfl] at HR
    go_enter Try.func20, Try.ntmps20
    go_wp2_with fail
    refine HR.out.mono ?_
    rintro e w' ⟨rfl, rfl⟩
    go_wp2
    go_ret
    exact ⟨rfl, rfl⟩
def readD (d : Dk) (t : Int) : ByteArray × Nat := if d.dn = true then (⟨#[]⟩, 45) else if 0 ≤ t ∧ t < 32 then ((d.T t.toNat).s, 0) else (⟨#[]⟩, 1)
set_option maxHeartbeats 400000 in
theorem read_any (B : Nat) (d : Dk) (t : Int) (w : World) (h : DAt w B d) : Calls Try.prog 22 #[.pointer (some ⟨B, 0, none⟩), .int .i64 t] w fun e w' => e = .returned (.tuple #[.string (readD d t).1, .int .i64 ((readD d t).2 : Int)]) ∧ w = w' := by
  unfold readD
  cases hdn : d.dn
  · rw [if_neg (by simp)]
    by_cases ht : 0 ≤ t ∧ t < 32
    · rw [if_pos ht]
      obtain ⟨k, rfl⟩ := Int.eq_ofNat_of_zero_le ht.1
      have hk : k < 32 := by omega
      rw [Int.toNat_natCast]
      have HA := Lib.hid (at_in B d k w h hdn hk)
      have hs := h.s k hk
      clear ht
      go_enter Try.func22, Try.ntmps22
      go_wp2_with fail
      refine HA.out.mono ?_
      rintro e w' ⟨rfl, rfl⟩
      go_wp2
      go_ret2
      exact ⟨rfl, rfl⟩
    · rw [if_neg ht]
      have HA := Lib.hid (at_out B d t w h hdn ht)
      clear ht
      go_enter Try.func22, Try.ntmps22
      go_wp2_with fail
      refine HA.out.mono ?_
      rintro e w' ⟨rfl, rfl⟩
      go_wp2
      go_ret2
      exact ⟨rfl, rfl⟩
  · rw [if_pos rfl]
    have HA := Lib.hid (at_dn B d t w h hdn)
    go_enter Try.func22, Try.ntmps22
    go_wp2_with fail
    refine HA.out.mono ?_
    rintro e w' ⟨rfl, rfl⟩
    go_wp2
    go_ret2
    exact ⟨rfl, rfl⟩
end Go.Proofs.Yticponohbnkgdaa
