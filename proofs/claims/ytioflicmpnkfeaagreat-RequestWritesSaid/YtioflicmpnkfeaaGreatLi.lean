/- The contracts of list, at labels, samples and series: whatever the iterator tells, gathered. -/
import Derived.Test.YtioflicmpnkfeaaGreatLj
import Derived.Maps.OwnIn
namespace Go.Proofs.YtioflicmpnkfeaaGreat
open Go Go.RowKit Go.Shelf
attribute [local go_sem] Oper.semAt_some
set_option maxRecDepth 100000
theorem agg34 (w : World) : (isAgg 26).run Tryz.prog w = .ok false w := by
  first | exact Tryz.isAgg26 w | exact Tryz.isAgg26 | (simp [go_sem, Tryz.underlying26]) | kernel_rfl
set_option maxHeartbeats 1000000 in
theorem list60_any {α : Type} (Q : α → Pv → World → Prop) (gf : Nat) (lb : Array Value) (eg : ∀ args w, (callFunc gf args).run Tryz.prog w = .ok (.enter gf args) w) (XS : List (α × Nat)) (hlen : XS.length ≤ 1000000) (w : World) (hQ : QOk (w.heap.size + 5) 35 Q)
    (hseq : ∀ n W, 1 ≤ n → W.heap.size = w.heap.size + 5 → Below w.heap.size w W → Gives n Tryz.prog gf lb (En2 Q) XS (fun j => j < w.heap.size) W) :
    Calls Tryz.prog 62 #[.func (.func gf) #[] lb] w (TellsQ 35 Q w (gat XS [])) := by
  have HQ := Lib.hid hQ
  have HEG := Lib.hid eg
  have HSQ := Lib.hid hseq
  have HLEN := Lib.hid hlen
  clear hQ eg hseq hlen
  obtain ⟨i0, hi, hz0, hz1, hz2⟩ := info_parts Tryz.info35
  refine (callsIn_wide (n := 5)).1 ?_
  refine callsIn_of_wp_marks Tryz.func62 rfl trivial ?_ rfl
  simp only [Tryz.ntmps62, List.size_toArray, List.length_cons, List.length_nil, Nat.reduceAdd, Nat.reduceSub, Array.replicate_succ, Array.replicate_zero, List.push_toArray, List.append_toArray, List.nil_append, List.cons_append]
  obtain ⟨w1, hw1⟩ : ∃ w1, ((w.alloc (.cells #[.slice none 0 0] 26)).alloc (.cells #[.int .i64 0] 39)).alloc (.cells #[.slice none 0 0] 26) = w1 := ⟨_, rfl⟩
  have hsz : w1.heap.size = w.heap.size + 3 := by rw [← hw1]; simp
  have hbel : Below w.heap.size w w1 := by
    rw [← hw1]
    exact (((Below.refl _ w).alloc (Nat.le_refl _) _).alloc (by simp) _).alloc (by simp; omega) _
  have hI0 : LJ 35 26 Q w (gat XS []) XS.length XS (fun j => j < w.heap.size) w1 := by
    refine ⟨.slice none 0 0, [], [], ?_, ?_, ?_, O2.nil _ _ _, trivial, rfl, by simp, hbel, fun j hj => ⟨by omega, .inl hj, fun e => by simp [Value.ownBlock] at e⟩⟩
    · rw [← hw1]; exact ((Boxed.new w 26 _).alloc _).alloc _
    · have := Boxed.new (w.alloc (.cells #[.slice none 0 0] 26)) 39 (.int .i64 0)
      rw [World.size_alloc] at this
      rw [← hw1]; exact this.alloc _
    · have := Boxed.new ((w.alloc (.cells #[.slice none 0 0] 26)).alloc (.cells #[.int .i64 0] 39)) 26 (.slice none 0 0)
      rw [World.size_alloc, World.size_alloc] at this
      rw [← hw1]; exact this
  have HI0 := Lib.hid hI0
  have HSZ := Lib.hid hsz
  have HBW := Lib.hid hbel
  have HW1 := Lib.hid hw1
  clear hw1 hI0 hsz hbel
  gi_wp2
  rw [HW1.out]
  apply wp_range2 (β := Pv) (gf := gf) (lb := lb) rfl HEG.out (En2 Q) (fun x us W h => by obtain ⟨p, h⟩ := h; rw [h.eq]; rfl) XS (fun j => j < w.heap.size) (by intro j hj; have := HSZ.out; omega) ?seq
    (LJ 35 26 Q w (gat XS []) XS.length) (LX 26 w (gat XS [])) (by rw [HSZ.out]; exact LJ.ab HQ.out) (by rw [HSZ.out]; exact fun c => LX.ab c) HI0.out
    (BPl 35 26 Q w) ?ax _ ?assign ?body ?done ?stop
  case seq =>
    intro W hW hb
    exact HSQ.out _ W (by omega) (by rw [hW, HSZ.out]) (HBW.out.trans (hb.mono HBW.out.size))
  case ax =>
    rw [HSZ.out]
    exact BPl.ab HQ.out
  case assign =>
    rintro l x rest us F W K hI ⟨p, hp⟩ hB hK
    rw [HSZ.out] at hB
    have hbp := BPl.new (T := 26) HQ.out hI hp hB
    have HBP := Lib.hid hbp
    have hs1 : ∀ (w : World) (a : Addr), (store a p.1).run Tryz.prog w = stored Tryz.prog w a p.1 .plain := fun w a => run_store Tryz.prog w a _ .plain hp.o1
    have hs2 : ∀ (w : World) (a : Addr), (store a p.2).run Tryz.prog w = stored Tryz.prog w a p.2 .plain := fun w a => run_store Tryz.prog w a _ .plain hp.o2
    have hI2 : LJ 35 26 Q w (gat XS []) XS.length (x :: rest) F (W.alloc (.cells #[p.1, p.2] 35)) := by
      have := LJ.ab (T := 26) (R := gat XS []) (N := XS.length) HQ.out _ F F _ _ none hI (World.grownBy_alloc W (.cells #[p.1, p.2] 35) none) (fun r e => by cases e) (fun j h => .inl h)
      exact this
    have HI2 := Lib.hid hI2
    have he := hp.eq
    subst he
    clear hbp hI2 hp hI
    gi_wp2
    obtain ⟨Bx, hBx⟩ : ∃ Bx, W.heap.size = Bx := ⟨_, rfl⟩
    rw [hBx] at HBP ⊢
    exact hK Bx p _ (Kept.grown (World.grownBy_alloc W _ none) (fun r e => by cases e)) HI2.out HBP.out
  case body =>
    rintro l x rest F Bx p W ⟨v, acc, ps, hI⟩ hbx hB
    rw [HSZ.out] at hB
    have hs1 : ∀ (w : World) (a : Addr), (store a p.1).run Tryz.prog w = stored Tryz.prog w a p.1 .plain := fun w a => run_store Tryz.prog w a _ .plain hbx.o1
    have hs2 : ∀ (w : World) (a : Addr), (store a p.2).run Tryz.prog w = stored Tryz.prog w a p.2 .plain := fun w a => run_store Tryz.prog w a _ .plain hbx.o2
    have HI := Lib.hid hI
    have HBX := Lib.hid hbx
    have hlen : acc.length + (rest.length + 1) ≤ XS.length := by have := hI.len; rw [List.length_cons] at this; exact this
    have hpl : ps.length = acc.length := hI.qs.len
    have hps : ps.length ≤ 1000000 := by have := HLEN.out; omega
    obtain ⟨x, e⟩ := x
    clear hI hbx hlen hpl
    by_cases he : e = 0
    · subst he
      have p0 := HBX.out.box.c0
      have p1 := HBX.out.box.c1
      have z0 := HI.out.b2.cell
      have z1 := HI.out.b2.frozen
      obtain ⟨va, vc, hv⟩ := HI.out.own.shape
      subst hv
      have hone : ∀ u ∈ [p.1, p.2], u.oneCell' = true := by
        intro u hu
        rcases List.mem_cons.1 hu with rfl | hu
        · exact HBX.out.o1
        · rcases List.mem_singleton.1 hu with rfl
          exact HBX.out.o2
      have HONE := Lib.hid hone
      have HCN := Lib.hid (cells_new2 W p.1 p.2 35)
      have HGA := Lib.hid (World.grownBy_alloc W (.cells #[p.1, p.2] 35) none)
      have HOA := Lib.hid (World.ownsRow.alloc HI.out.own (.cells #[p.1, p.2] 35))
      clear hone
      gi_wp2_with (gi_at_builtin; refine wpListIn_append_own_at _ rfl (.tmp 13) (.tmp 15) 26 rfl (w.heap.size + 5) 35 i0 _ 2 32 Tryz.underlying26 hi hz0 hz1 hz2 (by rfl) (by decide) (.slice va ps.length vc) ps.length (prs ps) rfl HOA.out ⟨W.heap.size, 0, none⟩ 1 1 [p.1, p.2] rfl rfl HCN.out HONE.out (by unfold maxLen; omega) (by omega) (by rw [World.size_alloc]; omega) ?_; intro v' w4 hown' hgrow hnil hloc; have HON := Lib.hid hown'; have HGR := Lib.hid hgrow; have HLO := Lib.hid hloc; have z2 := (HI.out.b2.kept HGA.out (by simp)).kept HGR.out (fun e => by have := (HI.out.own.lt _ e.symm).1; omega); have z3 := z2.cell; have z4 := z2.frozen; obtain ⟨a2, c2, hv2⟩ := ownsRow_shape hown'; subst hv2; clear hown' hgrow hnil hloc z2)
      have hl := HI.out.goes HQ.out (x := (x, 0)) rfl HBX.out.q hB HGA.out HGR.out (by have h := HON.out; unfold O2; rw [prs_append, List.length_append]; exact h) HLO.out
      rw [← HSZ.out] at hl
      exact hl
    · have he1 : ((e : Int) != 0) = true := by rw [bne_iff_ne]; omega
      have f0 := HI.out.b0.frozen
      have f1 := HI.out.b1.frozen
      have c0 := HI.out.b0.cell
      have c1 := HI.out.b1.cell
      gi_wp2
      have hR := HI.out.run
      rw [gat, if_pos he] at hR
      have hl := HI.out.leave e hR
      rw [← HSZ.out] at hl
      exact hl
  case done =>
    rintro F W ⟨v, acc, ps, hI⟩ hD
    have HI := Lib.hid hI
    clear hI
    obtain ⟨va, vc, hv⟩ := HI.out.own.shape
    subst hv
    have hcv := HI.out.b2.cell
    have f0 := HI.out.b0.frozen
    have f1 := HI.out.b1.frozen
    have c0 := HI.out.b0.cell
    have c1 := HI.out.b1.cell
    gi_wp2
    exact fin_list HQ.out Tryz.results62 agg34 HI.out hD HSZ.out rfl rfl rfl
  case stop =>
    rintro c W hX hD
    obtain rfl := hX.1
    gi_wp2
    exact fin_stop Tryz.results62 agg34 hX hD HSZ.out rfl rfl rfl
theorem agg38 (w : World) : (isAgg 27).run Tryz.prog w = .ok false w := by
  first | exact Tryz.isAgg27 w | exact Tryz.isAgg27 | (simp [go_sem, Tryz.underlying27]) | kernel_rfl
set_option maxHeartbeats 1000000 in
theorem list64_any {α : Type} (Q : α → Pv → World → Prop) (gf : Nat) (lb : Array Value) (eg : ∀ args w, (callFunc gf args).run Tryz.prog w = .ok (.enter gf args) w) (XS : List (α × Nat)) (hlen : XS.length ≤ 1000000) (w : World) (hQ : QOk (w.heap.size + 5) 54 Q)
    (hseq : ∀ n W, 1 ≤ n → W.heap.size = w.heap.size + 5 → Below w.heap.size w W → Gives n Tryz.prog gf lb (En2 Q) XS (fun j => j < w.heap.size) W) :
    Calls Tryz.prog 66 #[.func (.func gf) #[] lb] w (TellsQ 54 Q w (gat XS [])) := by
  have HQ := Lib.hid hQ
  have HEG := Lib.hid eg
  have HSQ := Lib.hid hseq
  have HLEN := Lib.hid hlen
  clear hQ eg hseq hlen
  obtain ⟨i0, hi, hz0, hz1, hz2⟩ := info_parts Tryz.info54
  refine (callsIn_wide (n := 5)).1 ?_
  refine callsIn_of_wp_marks Tryz.func66 rfl trivial ?_ rfl
  simp only [Tryz.ntmps66, List.size_toArray, List.length_cons, List.length_nil, Nat.reduceAdd, Nat.reduceSub, Array.replicate_succ, Array.replicate_zero, List.push_toArray, List.append_toArray, List.nil_append, List.cons_append]
  obtain ⟨w1, hw1⟩ : ∃ w1, ((w.alloc (.cells #[.slice none 0 0] 27)).alloc (.cells #[.int .i64 0] 39)).alloc (.cells #[.slice none 0 0] 27) = w1 := ⟨_, rfl⟩
  have hsz : w1.heap.size = w.heap.size + 3 := by rw [← hw1]; simp
  have hbel : Below w.heap.size w w1 := by
    rw [← hw1]
    exact (((Below.refl _ w).alloc (Nat.le_refl _) _).alloc (by simp) _).alloc (by simp; omega) _
  have hI0 : LJ 54 27 Q w (gat XS []) XS.length XS (fun j => j < w.heap.size) w1 := by
    refine ⟨.slice none 0 0, [], [], ?_, ?_, ?_, O2.nil _ _ _, trivial, rfl, by simp, hbel, fun j hj => ⟨by omega, .inl hj, fun e => by simp [Value.ownBlock] at e⟩⟩
    · rw [← hw1]; exact ((Boxed.new w 27 _).alloc _).alloc _
    · have := Boxed.new (w.alloc (.cells #[.slice none 0 0] 27)) 39 (.int .i64 0)
      rw [World.size_alloc] at this
      rw [← hw1]; exact this.alloc _
    · have := Boxed.new ((w.alloc (.cells #[.slice none 0 0] 27)).alloc (.cells #[.int .i64 0] 39)) 27 (.slice none 0 0)
      rw [World.size_alloc, World.size_alloc] at this
      rw [← hw1]; exact this
  have HI0 := Lib.hid hI0
  have HSZ := Lib.hid hsz
  have HBW := Lib.hid hbel
  have HW1 := Lib.hid hw1
  clear hw1 hI0 hsz hbel
  gi_wp2
  rw [HW1.out]
  apply wp_range2 (β := Pv) (gf := gf) (lb := lb) rfl HEG.out (En2 Q) (fun x us W h => by obtain ⟨p, h⟩ := h; rw [h.eq]; rfl) XS (fun j => j < w.heap.size) (by intro j hj; have := HSZ.out; omega) ?seq
    (LJ 54 27 Q w (gat XS []) XS.length) (LX 27 w (gat XS [])) (by rw [HSZ.out]; exact LJ.ab HQ.out) (by rw [HSZ.out]; exact fun c => LX.ab c) HI0.out
    (BPl 54 27 Q w) ?ax _ ?assign ?body ?done ?stop
  case seq =>
    intro W hW hb
    exact HSQ.out _ W (by omega) (by rw [hW, HSZ.out]) (HBW.out.trans (hb.mono HBW.out.size))
  case ax =>
    rw [HSZ.out]
    exact BPl.ab HQ.out
  case assign =>
    rintro l x rest us F W K hI ⟨p, hp⟩ hB hK
    rw [HSZ.out] at hB
    have hbp := BPl.new (T := 27) HQ.out hI hp hB
    have HBP := Lib.hid hbp
    have hs1 : ∀ (w : World) (a : Addr), (store a p.1).run Tryz.prog w = stored Tryz.prog w a p.1 .plain := fun w a => run_store Tryz.prog w a _ .plain hp.o1
    have hs2 : ∀ (w : World) (a : Addr), (store a p.2).run Tryz.prog w = stored Tryz.prog w a p.2 .plain := fun w a => run_store Tryz.prog w a _ .plain hp.o2
    have hI2 : LJ 54 27 Q w (gat XS []) XS.length (x :: rest) F (W.alloc (.cells #[p.1, p.2] 54)) := by
      have := LJ.ab (T := 27) (R := gat XS []) (N := XS.length) HQ.out _ F F _ _ none hI (World.grownBy_alloc W (.cells #[p.1, p.2] 54) none) (fun r e => by cases e) (fun j h => .inl h)
      exact this
    have HI2 := Lib.hid hI2
    have he := hp.eq
    subst he
    clear hbp hI2 hp hI
    gi_wp2
    obtain ⟨Bx, hBx⟩ : ∃ Bx, W.heap.size = Bx := ⟨_, rfl⟩
    rw [hBx] at HBP ⊢
    exact hK Bx p _ (Kept.grown (World.grownBy_alloc W _ none) (fun r e => by cases e)) HI2.out HBP.out
  case body =>
    rintro l x rest F Bx p W ⟨v, acc, ps, hI⟩ hbx hB
    rw [HSZ.out] at hB
    have hs1 : ∀ (w : World) (a : Addr), (store a p.1).run Tryz.prog w = stored Tryz.prog w a p.1 .plain := fun w a => run_store Tryz.prog w a _ .plain hbx.o1
    have hs2 : ∀ (w : World) (a : Addr), (store a p.2).run Tryz.prog w = stored Tryz.prog w a p.2 .plain := fun w a => run_store Tryz.prog w a _ .plain hbx.o2
    have HI := Lib.hid hI
    have HBX := Lib.hid hbx
    have hlen : acc.length + (rest.length + 1) ≤ XS.length := by have := hI.len; rw [List.length_cons] at this; exact this
    have hpl : ps.length = acc.length := hI.qs.len
    have hps : ps.length ≤ 1000000 := by have := HLEN.out; omega
    obtain ⟨x, e⟩ := x
    clear hI hbx hlen hpl
    by_cases he : e = 0
    · subst he
      have p0 := HBX.out.box.c0
      have p1 := HBX.out.box.c1
      have z0 := HI.out.b2.cell
      have z1 := HI.out.b2.frozen
      obtain ⟨va, vc, hv⟩ := HI.out.own.shape
      subst hv
      have hone : ∀ u ∈ [p.1, p.2], u.oneCell' = true := by
        intro u hu
        rcases List.mem_cons.1 hu with rfl | hu
        · exact HBX.out.o1
        · rcases List.mem_singleton.1 hu with rfl
          exact HBX.out.o2
      have HONE := Lib.hid hone
      have HCN := Lib.hid (cells_new2 W p.1 p.2 54)
      have HGA := Lib.hid (World.grownBy_alloc W (.cells #[p.1, p.2] 54) none)
      have HOA := Lib.hid (World.ownsRow.alloc HI.out.own (.cells #[p.1, p.2] 54))
      clear hone
      gi_wp2_with (gi_at_builtin; refine wpListIn_append_own_at _ rfl (.tmp 13) (.tmp 15) 27 rfl (w.heap.size + 5) 54 i0 _ 2 16 Tryz.underlying27 hi hz0 hz1 hz2 (by rfl) (by decide) (.slice va ps.length vc) ps.length (prs ps) rfl HOA.out ⟨W.heap.size, 0, none⟩ 1 1 [p.1, p.2] rfl rfl HCN.out HONE.out (by unfold maxLen; omega) (by omega) (by rw [World.size_alloc]; omega) ?_; intro v' w4 hown' hgrow hnil hloc; have HON := Lib.hid hown'; have HGR := Lib.hid hgrow; have HLO := Lib.hid hloc; have z2 := (HI.out.b2.kept HGA.out (by simp)).kept HGR.out (fun e => by have := (HI.out.own.lt _ e.symm).1; omega); have z3 := z2.cell; have z4 := z2.frozen; obtain ⟨a2, c2, hv2⟩ := ownsRow_shape hown'; subst hv2; clear hown' hgrow hnil hloc z2)
      have hl := HI.out.goes HQ.out (x := (x, 0)) rfl HBX.out.q hB HGA.out HGR.out (by have h := HON.out; unfold O2; rw [prs_append, List.length_append]; exact h) HLO.out
      rw [← HSZ.out] at hl
      exact hl
    · have he1 : ((e : Int) != 0) = true := by rw [bne_iff_ne]; omega
      have f0 := HI.out.b0.frozen
      have f1 := HI.out.b1.frozen
      have c0 := HI.out.b0.cell
      have c1 := HI.out.b1.cell
      gi_wp2
      have hR := HI.out.run
      rw [gat, if_pos he] at hR
      have hl := HI.out.leave e hR
      rw [← HSZ.out] at hl
      exact hl
  case done =>
    rintro F W ⟨v, acc, ps, hI⟩ hD
    have HI := Lib.hid hI
    clear hI
    obtain ⟨va, vc, hv⟩ := HI.out.own.shape
    subst hv
    have hcv := HI.out.b2.cell
    have f0 := HI.out.b0.frozen
    have f1 := HI.out.b1.frozen
    have c0 := HI.out.b0.cell
    have c1 := HI.out.b1.cell
    gi_wp2
    exact fin_list HQ.out Tryz.results66 agg38 HI.out hD HSZ.out rfl rfl rfl
  case stop =>
    rintro c W hX hD
    obtain rfl := hX.1
    gi_wp2
    exact fin_stop Tryz.results66 agg38 hX hD HSZ.out rfl rfl rfl
theorem agg23 (w : World) : (isAgg 22).run Tryz.prog w = .ok false w := by
  first | exact Tryz.isAgg22 w | exact Tryz.isAgg22 | (simp [go_sem, Tryz.underlying22]) | kernel_rfl
set_option maxHeartbeats 1000000 in
theorem list29_any {α : Type} (Q : α → Pv → World → Prop) (gf : Nat) (lb : Array Value) (eg : ∀ args w, (callFunc gf args).run Tryz.prog w = .ok (.enter gf args) w) (XS : List (α × Nat)) (hlen : XS.length ≤ 1000000) (w : World) (hQ : QOk (w.heap.size + 5) 29 Q)
    (hseq : ∀ n W, 1 ≤ n → W.heap.size = w.heap.size + 5 → Below w.heap.size w W → Gives n Tryz.prog gf lb (En2 Q) XS (fun j => j < w.heap.size) W) :
    Calls Tryz.prog 35 #[.func (.func gf) #[] lb] w (TellsQ 29 Q w (gat XS [])) := by
  have HQ := Lib.hid hQ
  have HEG := Lib.hid eg
  have HSQ := Lib.hid hseq
  have HLEN := Lib.hid hlen
  clear hQ eg hseq hlen
  obtain ⟨i0, hi, hz0, hz1, hz2⟩ := info_parts Tryz.info29
  refine (callsIn_wide (n := 5)).1 ?_
  refine callsIn_of_wp_marks Tryz.func35 rfl trivial ?_ rfl
  simp only [Tryz.ntmps35, List.size_toArray, List.length_cons, List.length_nil, Nat.reduceAdd, Nat.reduceSub, Array.replicate_succ, Array.replicate_zero, List.push_toArray, List.append_toArray, List.nil_append, List.cons_append]
  obtain ⟨w1, hw1⟩ : ∃ w1, ((w.alloc (.cells #[.slice none 0 0] 22)).alloc (.cells #[.int .i64 0] 39)).alloc (.cells #[.slice none 0 0] 22) = w1 := ⟨_, rfl⟩
  have hsz : w1.heap.size = w.heap.size + 3 := by rw [← hw1]; simp
  have hbel : Below w.heap.size w w1 := by
    rw [← hw1]
    exact (((Below.refl _ w).alloc (Nat.le_refl _) _).alloc (by simp) _).alloc (by simp; omega) _
  have hI0 : LJ 29 22 Q w (gat XS []) XS.length XS (fun j => j < w.heap.size) w1 := by
    refine ⟨.slice none 0 0, [], [], ?_, ?_, ?_, O2.nil _ _ _, trivial, rfl, by simp, hbel, fun j hj => ⟨by omega, .inl hj, fun e => by simp [Value.ownBlock] at e⟩⟩
    · rw [← hw1]; exact ((Boxed.new w 22 _).alloc _).alloc _
    · have := Boxed.new (w.alloc (.cells #[.slice none 0 0] 22)) 39 (.int .i64 0)
      rw [World.size_alloc] at this
      rw [← hw1]; exact this.alloc _
    · have := Boxed.new ((w.alloc (.cells #[.slice none 0 0] 22)).alloc (.cells #[.int .i64 0] 39)) 22 (.slice none 0 0)
      rw [World.size_alloc, World.size_alloc] at this
      rw [← hw1]; exact this
  have HI0 := Lib.hid hI0
  have HSZ := Lib.hid hsz
  have HBW := Lib.hid hbel
  have HW1 := Lib.hid hw1
  clear hw1 hI0 hsz hbel
  gi_wp2
  rw [HW1.out]
  apply wp_range2 (β := Pv) (gf := gf) (lb := lb) rfl HEG.out (En2 Q) (fun x us W h => by obtain ⟨p, h⟩ := h; rw [h.eq]; rfl) XS (fun j => j < w.heap.size) (by intro j hj; have := HSZ.out; omega) ?seq
    (LJ 29 22 Q w (gat XS []) XS.length) (LX 22 w (gat XS [])) (by rw [HSZ.out]; exact LJ.ab HQ.out) (by rw [HSZ.out]; exact fun c => LX.ab c) HI0.out
    (BPl 29 22 Q w) ?ax _ ?assign ?body ?done ?stop
  case seq =>
    intro W hW hb
    exact HSQ.out _ W (by omega) (by rw [hW, HSZ.out]) (HBW.out.trans (hb.mono HBW.out.size))
  case ax =>
    rw [HSZ.out]
    exact BPl.ab HQ.out
  case assign =>
    rintro l x rest us F W K hI ⟨p, hp⟩ hB hK
    rw [HSZ.out] at hB
    have hbp := BPl.new (T := 22) HQ.out hI hp hB
    have HBP := Lib.hid hbp
    have hs1 : ∀ (w : World) (a : Addr), (store a p.1).run Tryz.prog w = stored Tryz.prog w a p.1 .plain := fun w a => run_store Tryz.prog w a _ .plain hp.o1
    have hs2 : ∀ (w : World) (a : Addr), (store a p.2).run Tryz.prog w = stored Tryz.prog w a p.2 .plain := fun w a => run_store Tryz.prog w a _ .plain hp.o2
    have hI2 : LJ 29 22 Q w (gat XS []) XS.length (x :: rest) F (W.alloc (.cells #[p.1, p.2] 29)) := by
      have := LJ.ab (T := 22) (R := gat XS []) (N := XS.length) HQ.out _ F F _ _ none hI (World.grownBy_alloc W (.cells #[p.1, p.2] 29) none) (fun r e => by cases e) (fun j h => .inl h)
      exact this
    have HI2 := Lib.hid hI2
    have he := hp.eq
    subst he
    clear hbp hI2 hp hI
    gi_wp2
    obtain ⟨Bx, hBx⟩ : ∃ Bx, W.heap.size = Bx := ⟨_, rfl⟩
    rw [hBx] at HBP ⊢
    exact hK Bx p _ (Kept.grown (World.grownBy_alloc W _ none) (fun r e => by cases e)) HI2.out HBP.out
  case body =>
    rintro l x rest F Bx p W ⟨v, acc, ps, hI⟩ hbx hB
    rw [HSZ.out] at hB
    have hs1 : ∀ (w : World) (a : Addr), (store a p.1).run Tryz.prog w = stored Tryz.prog w a p.1 .plain := fun w a => run_store Tryz.prog w a _ .plain hbx.o1
    have hs2 : ∀ (w : World) (a : Addr), (store a p.2).run Tryz.prog w = stored Tryz.prog w a p.2 .plain := fun w a => run_store Tryz.prog w a _ .plain hbx.o2
    have HI := Lib.hid hI
    have HBX := Lib.hid hbx
    have hlen : acc.length + (rest.length + 1) ≤ XS.length := by have := hI.len; rw [List.length_cons] at this; exact this
    have hpl : ps.length = acc.length := hI.qs.len
    have hps : ps.length ≤ 1000000 := by have := HLEN.out; omega
    obtain ⟨x, e⟩ := x
    clear hI hbx hlen hpl
    by_cases he : e = 0
    · subst he
      have p0 := HBX.out.box.c0
      have p1 := HBX.out.box.c1
      have z0 := HI.out.b2.cell
      have z1 := HI.out.b2.frozen
      obtain ⟨va, vc, hv⟩ := HI.out.own.shape
      subst hv
      have hone : ∀ u ∈ [p.1, p.2], u.oneCell' = true := by
        intro u hu
        rcases List.mem_cons.1 hu with rfl | hu
        · exact HBX.out.o1
        · rcases List.mem_singleton.1 hu with rfl
          exact HBX.out.o2
      have HONE := Lib.hid hone
      have HCN := Lib.hid (cells_new2 W p.1 p.2 29)
      have HGA := Lib.hid (World.grownBy_alloc W (.cells #[p.1, p.2] 29) none)
      have HOA := Lib.hid (World.ownsRow.alloc HI.out.own (.cells #[p.1, p.2] 29))
      clear hone
      gi_wp2_with (gi_at_builtin; refine wpListIn_append_own_at _ rfl (.tmp 13) (.tmp 15) 22 rfl (w.heap.size + 5) 29 i0 _ 2 48 Tryz.underlying22 hi hz0 hz1 hz2 (by rfl) (by decide) (.slice va ps.length vc) ps.length (prs ps) rfl HOA.out ⟨W.heap.size, 0, none⟩ 1 1 [p.1, p.2] rfl rfl HCN.out HONE.out (by unfold maxLen; omega) (by omega) (by rw [World.size_alloc]; omega) ?_; intro v' w4 hown' hgrow hnil hloc; have HON := Lib.hid hown'; have HGR := Lib.hid hgrow; have HLO := Lib.hid hloc; have z2 := (HI.out.b2.kept HGA.out (by simp)).kept HGR.out (fun e => by have := (HI.out.own.lt _ e.symm).1; omega); have z3 := z2.cell; have z4 := z2.frozen; obtain ⟨a2, c2, hv2⟩ := ownsRow_shape hown'; subst hv2; clear hown' hgrow hnil hloc z2)
      have hl := HI.out.goes HQ.out (x := (x, 0)) rfl HBX.out.q hB HGA.out HGR.out (by have h := HON.out; unfold O2; rw [prs_append, List.length_append]; exact h) HLO.out
      rw [← HSZ.out] at hl
      exact hl
    · have he1 : ((e : Int) != 0) = true := by rw [bne_iff_ne]; omega
      have f0 := HI.out.b0.frozen
      have f1 := HI.out.b1.frozen
      have c0 := HI.out.b0.cell
      have c1 := HI.out.b1.cell
      gi_wp2
      have hR := HI.out.run
      rw [gat, if_pos he] at hR
      have hl := HI.out.leave e hR
      rw [← HSZ.out] at hl
      exact hl
  case done =>
    rintro F W ⟨v, acc, ps, hI⟩ hD
    have HI := Lib.hid hI
    clear hI
    obtain ⟨va, vc, hv⟩ := HI.out.own.shape
    subst hv
    have hcv := HI.out.b2.cell
    have f0 := HI.out.b0.frozen
    have f1 := HI.out.b1.frozen
    have c0 := HI.out.b0.cell
    have c1 := HI.out.b1.cell
    gi_wp2
    exact fin_list HQ.out Tryz.results35 agg23 HI.out hD HSZ.out rfl rfl rfl
  case stop =>
    rintro c W hX hD
    obtain rfl := hX.1
    gi_wp2
    exact fin_stop Tryz.results35 agg23 hX hD HSZ.out rfl rfl rfl
end Go.Proofs.YtioflicmpnkfeaaGreat
