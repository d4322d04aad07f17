/- do of an act; what may not be loaded; New; what is kept of a disk that may be. -/
import Derived.Test.YticponohbnkgdaaDl
namespace Go.Proofs.Yticponohbnkgdaa
open Go Go.RowKit
set_option maxRecDepth 100000
/-- What comes of an act: what is told, its error, the disk. -/
def actD (d : Dk) (a : Ac) : (ByteArray × Nat) × Dk :=
  if a.what = 0 then ((⟨#[]⟩, (doD d a.t true (wf d a.s)).2), (doD d a.t true (wf d a.s)).1)
  else if a.what = 1 then ((⟨#[]⟩, (doD d a.t false sy).2), (doD d a.t false sy).1)
  else if a.what = 2 then ((⟨#[]⟩, (doD d a.t false (tr a.n)).2), (doD d a.t false (tr a.n)).1)
  else if a.what = 3 then ((⟨#[]⟩, (doD d a.t false wi).2), (doD d a.t false wi).1)
  else if a.what = 4 then (readD d a.t, d)
  else if a.what = 5 then ((⟨#[]⟩, (failD d a.n).2), (failD d a.n).1)
  else ((⟨#[]⟩, 0), backD d a.ks)
theorem box5 (w : World) (x0 x1 x2 x3 x4 : Value) (t : TypeId) : (w.alloc (.cells #[x0, x1, x2, x3, x4] t)).heap[w.heap.size]? = some (.cells #[x0, x1, x2, x3, x4] t) := heap_alloc_new w _
set_option maxHeartbeats 1000000 in
theorem act_any (B : Nat) (d : Dk) (a : Ac) (w : World) (h : DAt w B d) (hd : d.ok) (ha : a.fit w) (hne : a.ks ≠ [] → a.v.ownBlock ≠ some B) :
    Calls Try.prog 29 #[.pointer (some ⟨B, 0, none⟩), acV a] w (DRet w B (.tuple #[.string (actD d a).1.1, .int .i64 ((actD d a).1.2 : Int)]) (actD d a).2) := by
  have HB : ∀ o : Obj, Hid (Below w.heap.size w (w.alloc o)) := fun o => Lib.hid ((Below.refl _ _).alloc (Nat.le_refl _) _)
  have hda : ∀ o : Obj, DAt (w.alloc o) B d := fun o => h.alloc o
  obtain ⟨hw, ht, hn, hs, hl, hk⟩ := ha
  have C0 := Lib.hid (fun o => write_any B d a.t a.s _ (hda o) hd hs)
  have C1 := Lib.hid (fun o => sync_any B d a.t _ (hda o) hd)
  have C2 := Lib.hid (fun o => trim_any B d a.t a.n _ (hda o) hd)
  have C3 := Lib.hid (fun o => wipe_any B d a.t _ (hda o) hd)
  have C4 := Lib.hid (fun o => read_any B d a.t _ (hda o))
  have C5 := Lib.hid (fun o => fail_any B d a.n _ (hda o))
  have C6 := Lib.hid (fun o => back_disk B d a.ks a.v _ (hda o) hd.t (hk.same (fun g hg _ => Below.heap_alloc w o g hg)) hne hl)
  have HA := Lib.hid hda
  obtain ⟨what, t, n, s, ks, v⟩ := a
  unfold acV actD
  dsimp only at *
  obtain ⟨kv, kc, hv⟩ := hk.slice
  subst hv
  clear h hd hk hne hda
  by_cases h0 : what = 0
  · subst h0
    rw [if_pos rfl]
    dsimp only
    generalize doD d t true (wf d s) = X at *
    clear C1 C2 C3 C4 C5 C6
    go_enter Try.func29, Try.ntmps29
    go_wp2_with fail
    refine (C0.out _).mono ?_
    rintro e w' hr
    have HR := Lib.hid (hr.from (HB _).out)
    obtain ⟨rfl, hd2, hg⟩ := hr
    clear hd2 hg
    go_wp2
    go_ret2
    exact ⟨rfl, HR.out.2.1, HR.out.2.2⟩
  · have q0 : ((what : Int) == 0) = false := by rw [beq_eq_false_iff_ne]; omega
    by_cases h1 : what = 1
    · subst h1
      rw [if_neg (show ¬ (1 : Nat) = 0 by decide)]
      rw [if_pos rfl]
      dsimp only
      generalize doD d t false sy = X at *
      clear C0 C2 C3 C4 C5 C6
      go_enter Try.func29, Try.ntmps29
      go_wp2_with fail
      refine (C1.out _).mono ?_
      rintro e w' hr
      have HR := Lib.hid (hr.from (HB _).out)
      obtain ⟨rfl, hd2, hg⟩ := hr
      clear hd2 hg
      go_wp2
      go_ret2
      exact ⟨rfl, HR.out.2.1, HR.out.2.2⟩
    · have q1 : ((what : Int) == 1) = false := by rw [beq_eq_false_iff_ne]; omega
      by_cases h2 : what = 2
      · subst h2
        rw [if_neg (show ¬ (2 : Nat) = 0 by decide)]
        rw [if_neg (show ¬ (2 : Nat) = 1 by decide)]
        rw [if_pos rfl]
        dsimp only
        generalize doD d t false (tr n) = X at *
        clear C0 C1 C3 C4 C5 C6
        go_enter Try.func29, Try.ntmps29
        go_wp2_with fail
        refine (C2.out _).mono ?_
        rintro e w' hr
        have HR := Lib.hid (hr.from (HB _).out)
        obtain ⟨rfl, hd2, hg⟩ := hr
        clear hd2 hg
        go_wp2
        go_ret2
        exact ⟨rfl, HR.out.2.1, HR.out.2.2⟩
      · have q2 : ((what : Int) == 2) = false := by rw [beq_eq_false_iff_ne]; omega
        by_cases h3 : what = 3
        · subst h3
          rw [if_neg (show ¬ (3 : Nat) = 0 by decide)]
          rw [if_neg (show ¬ (3 : Nat) = 1 by decide)]
          rw [if_neg (show ¬ (3 : Nat) = 2 by decide)]
          rw [if_pos rfl]
          dsimp only
          generalize doD d t false wi = X at *
          clear C0 C1 C2 C4 C5 C6
          go_enter Try.func29, Try.ntmps29
          go_wp2_with fail
          refine (C3.out _).mono ?_
          rintro e w' hr
          have HR := Lib.hid (hr.from (HB _).out)
          obtain ⟨rfl, hd2, hg⟩ := hr
          clear hd2 hg
          go_wp2
          go_ret2
          exact ⟨rfl, HR.out.2.1, HR.out.2.2⟩
        · have q3 : ((what : Int) == 3) = false := by rw [beq_eq_false_iff_ne]; omega
          by_cases h4 : what = 4
          · subst h4
            rw [if_neg (show ¬ (4 : Nat) = 0 by decide)]
            rw [if_neg (show ¬ (4 : Nat) = 1 by decide)]
            rw [if_neg (show ¬ (4 : Nat) = 2 by decide)]
            rw [if_neg (show ¬ (4 : Nat) = 3 by decide)]
            rw [if_pos rfl]
            dsimp only
            generalize readD d t = X at *
            clear C0 C1 C2 C3 C5 C6
            go_enter Try.func29, Try.ntmps29
            go_wp2_with fail
            refine (C4.out _).mono ?_
            rintro e w' ⟨rfl, rfl⟩
            go_wp2
            go_ret2
            exact ⟨rfl, HA.out _, grown_below (HB _).out _⟩
          · have q4 : ((what : Int) == 4) = false := by rw [beq_eq_false_iff_ne]; omega
            by_cases h5 : what = 5
            · subst h5
              rw [if_neg (show ¬ (5 : Nat) = 0 by decide)]
              rw [if_neg (show ¬ (5 : Nat) = 1 by decide)]
              rw [if_neg (show ¬ (5 : Nat) = 2 by decide)]
              rw [if_neg (show ¬ (5 : Nat) = 3 by decide)]
              rw [if_neg (show ¬ (5 : Nat) = 4 by decide)]
              rw [if_pos rfl]
              dsimp only
              generalize failD d n = X at *
              clear C0 C1 C2 C3 C4 C6
              go_enter Try.func29, Try.ntmps29
              go_wp2_with fail
              refine (C5.out _).mono ?_
              rintro e w' hr
              have HR := Lib.hid (hr.from (HB _).out)
              obtain ⟨rfl, hd2, hg⟩ := hr
              clear hd2 hg
              go_wp2
              go_ret2
              exact ⟨rfl, HR.out.2.1, HR.out.2.2⟩
            · have q5 : ((what : Int) == 5) = false := by rw [beq_eq_false_iff_ne]; omega
              rw [if_neg h0, if_neg h1, if_neg h2, if_neg h3, if_neg h4, if_neg h5]
              clear C0 C1 C2 C3 C4 C5 h0 h1 h2 h3 h4 h5
              generalize backD d ks = X at *
              go_enter Try.func29, Try.ntmps29
              go_wp2_with fail
              refine (C6.out _).mono ?_
              rintro e w' hr
              have HR := Lib.hid (hr.from (HB _).out)
              obtain ⟨rfl, hd2, hg⟩ := hr
              clear hd2 hg
              go_wp2
              go_ret2
              exact ⟨rfl, HR.out.2.1, HR.out.2.2⟩
end Go.Proofs.Yticponohbnkgdaa
