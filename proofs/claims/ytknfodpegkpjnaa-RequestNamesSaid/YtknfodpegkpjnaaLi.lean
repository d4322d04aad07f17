/- The contracts of list, at labels, samples and series: whatever the iterator tells, gathered. -/
import Derived.Test.YtknfodpegkpjnaaLj
import Derived.Maps.OwnIn
namespace Go.Proofs.Ytknfodpegkpjnaa
open Go Go.RowKit Go.Shelf
attribute [local go_sem] Oper.semAt_some
set_option maxRecDepth 100000
theorem agg34 (w : World) : (isAgg 34).run Try.prog w = .ok false w := by
  first | exact Try.isAgg34 w | exact Try.isAgg34 | (simp [go_sem, Try.underlying34]) | kernel_rfl
set_option maxHeartbeats 1000000 in
theorem list60_any {α : Type} (Q : α → Pv → World → Prop) (gf : Nat) (lb : Array Value) (eg : ∀ args w, (callFunc gf args).run Try.prog w = .ok (.enter gf args) w) (XS : List (α × Nat)) (hlen : XS.length ≤ 1000000) (w : World) (hQ : QOk (w.heap.size + 5) 33 Q)
    (hseq : ∀ n W, 1 ≤ n → W.heap.size = w.heap.size + 5 → Below w.heap.size w W → Gives n Try.prog gf lb (En2 Q) XS (fun j => j < w.heap.size) W) :
    Calls Try.prog 60 #[.func (.func gf) #[] lb] w (TellsQ 33 Q w (gat XS [])) := by
  have HQ := Lib.hid hQ
  have HEG := Lib.hid eg
  have HSQ := Lib.hid hseq
  have HLEN := Lib.hid hlen
  clear hQ eg hseq hlen
  obtain ⟨i0, hi, hz0, hz1, hz2⟩ := info_parts Try.info33
  refine (callsIn_wide (n := 5)).1 ?_
  refine callsIn_of_wp_marks Try.func60 rfl trivial ?_ rfl
  simp only [Try.ntmps60, List.size_toArray, List.length_cons, List.length_nil, Nat.reduceAdd, Nat.reduceSub, Array.replicate_succ, Array.replicate_zero, List.push_toArray, List.append_toArray, List.nil_append, List.cons_append]
  obtain ⟨w1, hw1⟩ : ∃ w1, ((w.alloc (.cells #[.slice none 0 0] 34)).alloc (.cells #[.int .i64 0] 24)).alloc (.cells #[.slice none 0 0] 34) = w1 := ⟨_, rfl⟩
  have hsz : w1.heap.size = w.heap.size + 3 := by rw [← hw1]; simp
  have hbel : Below w.heap.size w w1 := by
    rw [← hw1]
    exact (((Below.refl _ w).alloc (Nat.le_refl _) _).alloc (by simp) _).alloc (by simp; omega) _
  have hI0 : LJ 33 34 Q w (gat XS []) XS.length XS (fun j => j < w.heap.size) w1 := by
    refine ⟨.slice none 0 0, [], [], ?_, ?_, ?_, O2.nil _ _ _, trivial, rfl, by simp, hbel, fun j hj => ⟨by omega, .inl hj, fun e => by simp [Value.ownBlock] at e⟩⟩
    · rw [← hw1]; exact ((Boxed.new w 34 _).alloc _).alloc _
    · have := Boxed.new (w.alloc (.cells #[.slice none 0 0] 34)) 24 (.int .i64 0)
      rw [World.size_alloc] at this
      rw [← hw1]; exact this.alloc _
    · have := Boxed.new ((w.alloc (.cells #[.slice none 0 0] 34)).alloc (.cells #[.int .i64 0] 24)) 34 (.slice none 0 0)
      rw [World.size_alloc, World.size_alloc] at this
      rw [← hw1]; exact this
  have HI0 := Lib.hid hI0
  have HSZ := Lib.hid hsz
  have HBW := Lib.hid hbel
  have HW1 := Lib.hid hw1
  clear hw1 hI0 hsz hbel
  gi_wp2
  rw [HW1.out]
  apply wp_range2 (β := Pv) (gf := gf) (lb := lb) rfl HEG.out (En2 Q) (fun x us W h => by obtain ⟨p, h⟩ := h; rw [h.eq]; rfl) XS (fun j => j < w.heap.size) (by intro j hj; have := HSZ.out; omega) ?seq
    (LJ 33 34 Q w (gat XS []) XS.length) (LX 34 w (gat XS [])) (by rw [HSZ.out]; exact LJ.ab HQ.out) (by rw [HSZ.out]; exact fun c => LX.ab c) HI0.out
    (BPl 33 34 Q w) ?ax _ ?assign ?body ?done ?stop
  case seq =>
    intro W hW hb
    exact HSQ.out _ W (by omega) (by rw [hW, HSZ.out]) (HBW.out.trans (hb.mono HBW.out.size))
  case ax =>
    rw [HSZ.out]
    exact BPl.ab HQ.out
  case assign =>
    rintro l x rest us F W K hI ⟨p, hp⟩ hB hK
    rw [HSZ.out] at hB
    have hbp := BPl.new (T := 34) HQ.out hI hp hB
    have HBP := Lib.hid hbp
    have hs1 : ∀ (w : World) (a : Addr), (store a p.1).run Try.prog w = stored Try.prog w a p.1 .plain := fun w a => run_store Try.prog w a _ .plain hp.o1
    have hs2 : ∀ (w : World) (a : Addr), (store a p.2).run Try.prog w = stored Try.prog w a p.2 .plain := fun w a => run_store Try.prog w a _ .plain hp.o2
    have hI2 : LJ 33 34 Q w (gat XS []) XS.length (x :: rest) F (W.alloc (.cells #[p.1, p.2] 33)) := by
      have := LJ.ab (T := 34) (R := gat XS []) (N := XS.length) HQ.out _ F F _ _ none hI (World.grownBy_alloc W (.cells #[p.1, p.2] 33) none) (fun r e => by cases e) (fun j h => .inl h)
      exact this
    have HI2 := Lib.hid hI2
    have he := hp.eq
    subst he
    clear hbp hI2 hp hI
    gi_wp2
    obtain ⟨Bx, hBx⟩ : ∃ Bx, W.heap.size = Bx := ⟨_, rfl⟩
    rw [hBx] at HBP ⊢
    exact hK Bx p _ (Kept.grown (World.grownBy_alloc W _ none) (fun r e => by cases e)) HI2.out HBP.out
  case body =>
    rintro l x rest F Bx p W ⟨v, acc, ps, hI⟩ hbx hB
    rw [HSZ.out] at hB
    have hs1 : ∀ (w : World) (a : Addr), (store a p.1).run Try.prog w = stored Try.prog w a p.1 .plain := fun w a => run_store Try.prog w a _ .plain hbx.o1
    have hs2 : ∀ (w : World) (a : Addr), (store a p.2).run Try.prog w = stored Try.prog w a p.2 .plain := fun w a => run_store Try.prog w a _ .plain hbx.o2
    have HI := Lib.hid hI
    have HBX := Lib.hid hbx
    have hlen : acc.length + (rest.length + 1) ≤ XS.length := by have := hI.len; rw [List.length_cons] at this; exact this
    have hpl : ps.length = acc.length := hI.qs.len
    have hps : ps.length ≤ 1000000 := by have := HLEN.out; omega
    obtain ⟨x, e⟩ := x
    clear hI hbx hlen hpl
    by_cases he : e = 0
    · subst he
      have p0 := HBX.out.box.c0
      have p1 := HBX.out.box.c1
      have z0 := HI.out.b2.cell
      have z1 := HI.out.b2.frozen
      obtain ⟨va, vc, hv⟩ := HI.out.own.shape
      subst hv
      have hone : ∀ u ∈ [p.1, p.2], u.oneCell' = true := by
        intro u hu
        rcases List.mem_cons.1 hu with rfl | hu
        · exact HBX.out.o1
        · rcases List.mem_singleton.1 hu with rfl
          exact HBX.out.o2
      have HONE := Lib.hid hone
      have HCN := Lib.hid (cells_new2 W p.1 p.2 33)
      have HGA := Lib.hid (World.grownBy_alloc W (.cells #[p.1, p.2] 33) none)
      have HOA := Lib.hid (World.ownsRow.alloc HI.out.own (.cells #[p.1, p.2] 33))
      clear hone
      gi_wp2_with (gi_at_builtin; refine wpListIn_append_own_at _ rfl (.tmp 13) (.tmp 15) 34 rfl (w.heap.size + 5) 33 i0 _ 2 32 Try.underlying34 hi hz0 hz1 hz2 (by rfl) (by decide) (.slice va ps.length vc) ps.length (prs ps) rfl HOA.out ⟨W.heap.size, 0, none⟩ 1 1 [p.1, p.2] rfl rfl HCN.out HONE.out (by unfold maxLen; omega) (by omega) (by rw [World.size_alloc]; omega) ?_; intro v' w4 hown' hgrow hnil hloc; have HON := Lib.hid hown'; have HGR := Lib.hid hgrow; have HLO := Lib.hid hloc; have z2 := (HI.out.b2.kept HGA.out (by simp)).kept HGR.out (fun e => by have := (HI.out.own.lt _ e.symm).1; omega); have z3 := z2.cell; have z4 := z2.frozen; obtain ⟨a2, c2, hv2⟩ := ownsRow_shape hown'; subst hv2; clear hown' hgrow hnil hloc z2)
      have hl := HI.out.goes HQ.out (x := (x, 0)) rfl HBX.out.q hB HGA.out HGR.out (by have h := HON.out; unfold O2; rw [prs_append, List.length_append]; exact h) HLO.out
      rw [← HSZ.out] at hl
      exact hl
    · have he1 : ((e : Int) != 0) = true := by rw [bne_iff_ne]; omega
      have f0 := HI.out.b0.frozen
      have f1 := HI.out.b1.frozen
      have c0 := HI.out.b0.cell
      have c1 := HI.out.b1.cell
      gi_wp2
      have hR := HI.out.run
      rw [gat, if_pos he] at hR
      have hl := HI.out.leave e hR
      rw [← HSZ.out] at hl
      exact hl
  case done =>
    rintro F W ⟨v, acc, ps, hI⟩ hD
    have HI := Lib.hid hI
    clear hI
    obtain ⟨va, vc, hv⟩ := HI.out.own.shape
    subst hv
    have hcv := HI.out.b2.cell
    have f0 := HI.out.b0.frozen
    have f1 := HI.out.b1.frozen
    have c0 := HI.out.b0.cell
    have c1 := HI.out.b1.cell
    gi_wp2
    exact fin_list HQ.out Try.results60 agg34 HI.out hD HSZ.out rfl rfl rfl
  case stop =>
    rintro c W hX hD
    obtain rfl := hX.1
    gi_wp2
    exact fin_stop Try.results60 agg34 hX hD HSZ.out rfl rfl rfl
theorem agg38 (w : World) : (isAgg 38).run Try.prog w = .ok false w := by
  first | exact Try.isAgg38 w | exact Try.isAgg38 | (simp [go_sem, Try.underlying38]) | kernel_rfl
set_option maxHeartbeats 1000000 in
theorem list64_any {α : Type} (Q : α → Pv → World → Prop) (gf : Nat) (lb : Array Value) (eg : ∀ args w, (callFunc gf args).run Try.prog w = .ok (.enter gf args) w) (XS : List (α × Nat)) (hlen : XS.length ≤ 1000000) (w : World) (hQ : QOk (w.heap.size + 5) 37 Q)
    (hseq : ∀ n W, 1 ≤ n → W.heap.size = w.heap.size + 5 → Below w.heap.size w W → Gives n Try.prog gf lb (En2 Q) XS (fun j => j < w.heap.size) W) :
    Calls Try.prog 64 #[.func (.func gf) #[] lb] w (TellsQ 37 Q w (gat XS [])) := by
  have HQ := Lib.hid hQ
  have HEG := Lib.hid eg
  have HSQ := Lib.hid hseq
  have HLEN := Lib.hid hlen
  clear hQ eg hseq hlen
  obtain ⟨i0, hi, hz0, hz1, hz2⟩ := info_parts Try.info37
  refine (callsIn_wide (n := 5)).1 ?_
  refine callsIn_of_wp_marks Try.func64 rfl trivial ?_ rfl
  simp only [Try.ntmps64, List.size_toArray, List.length_cons, List.length_nil, Nat.reduceAdd, Nat.reduceSub, Array.replicate_succ, Array.replicate_zero, List.push_toArray, List.append_toArray, List.nil_append, List.cons_append]
  obtain ⟨w1, hw1⟩ : ∃ w1, ((w.alloc (.cells #[.slice none 0 0] 38)).alloc (.cells #[.int .i64 0] 24)).alloc (.cells #[.slice none 0 0] 38) = w1 := ⟨_, rfl⟩
  have hsz : w1.heap.size = w.heap.size + 3 := by rw [← hw1]; simp
  have hbel : Below w.heap.size w w1 := by
    rw [← hw1]
    exact (((Below.refl _ w).alloc (Nat.le_refl _) _).alloc (by simp) _).alloc (by simp; omega) _
  have hI0 : LJ 37 38 Q w (gat XS []) XS.length XS (fun j => j < w.heap.size) w1 := by
    refine ⟨.slice none 0 0, [], [], ?_, ?_, ?_, O2.nil _ _ _, trivial, rfl, by simp, hbel, fun j hj => ⟨by omega, .inl hj, fun e => by simp [Value.ownBlock] at e⟩⟩
    · rw [← hw1]; exact ((Boxed.new w 38 _).alloc _).alloc _
    · have := Boxed.new (w.alloc (.cells #[.slice none 0 0] 38)) 24 (.int .i64 0)
      rw [World.size_alloc] at this
      rw [← hw1]; exact this.alloc _
    · have := Boxed.new ((w.alloc (.cells #[.slice none 0 0] 38)).alloc (.cells #[.int .i64 0] 24)) 38 (.slice none 0 0)
      rw [World.size_alloc, World.size_alloc] at this
      rw [← hw1]; exact this
  have HI0 := Lib.hid hI0
  have HSZ := Lib.hid hsz
  have HBW := Lib.hid hbel
  have HW1 := Lib.hid hw1
  clear hw1 hI0 hsz hbel
  gi_wp2
  rw [HW1.out]
  apply wp_range2 (β := Pv) (gf := gf) (lb := lb) rfl HEG.out (En2 Q) (fun x us W h => by obtain ⟨p, h⟩ := h; rw [h.eq]; rfl) XS (fun j => j < w.heap.size) (by intro j hj; have := HSZ.out; omega) ?seq
    (LJ 37 38 Q w (gat XS []) XS.length) (LX 38 w (gat XS [])) (by rw [HSZ.out]; exact LJ.ab HQ.out) (by rw [HSZ.out]; exact fun c => LX.ab c) HI0.out
    (BPl 37 38 Q w) ?ax _ ?assign ?body ?done ?stop
  case seq =>
    intro W hW hb
    exact HSQ.out _ W (by omega) (by rw [hW, HSZ.out]) (HBW.out.trans (hb.mono HBW.out.size))
  case ax =>
    rw [HSZ.out]
    exact BPl.ab HQ.out
  case assign =>
    rintro l x rest us F W K hI ⟨p, hp⟩ hB hK
    rw [HSZ.out] at hB
    have hbp := BPl.new (T := 38) HQ.out hI hp hB
    have HBP := Lib.hid hbp
    have hs1 : ∀ (w : World) (a : Addr), (store a p.1).run Try.prog w = stored Try.prog w a p.1 .plain := fun w a => run_store Try.prog w a _ .plain hp.o1
    have hs2 : ∀ (w : World) (a : Addr), (store a p.2).run Try.prog w = stored Try.prog w a p.2 .plain := fun w a => run_store Try.prog w a _ .plain hp.o2
    have hI2 : LJ 37 38 Q w (gat XS []) XS.length (x :: rest) F (W.alloc (.cells #[p.1, p.2] 37)) := by
      have := LJ.ab (T := 38) (R := gat XS []) (N := XS.length) HQ.out _ F F _ _ none hI (World.grownBy_alloc W (.cells #[p.1, p.2] 37) none) (fun r e => by cases e) (fun j h => .inl h)
      exact this
    have HI2 := Lib.hid hI2
    have he := hp.eq
    subst he
    clear hbp hI2 hp hI
    gi_wp2
    obtain ⟨Bx, hBx⟩ : ∃ Bx, W.heap.size = Bx := ⟨_, rfl⟩
    rw [hBx] at HBP ⊢
    exact hK Bx p _ (Kept.grown (World.grownBy_alloc W _ none) (fun r e => by cases e)) HI2.out HBP.out
  case body =>
    rintro l x rest F Bx p W ⟨v, acc, ps, hI⟩ hbx hB
    rw [HSZ.out] at hB
    have hs1 : ∀ (w : World) (a : Addr), (store a p.1).run Try.prog w = stored Try.prog w a p.1 .plain := fun w a => run_store Try.prog w a _ .plain hbx.o1
    have hs2 : ∀ (w : World) (a : Addr), (store a p.2).run Try.prog w = stored Try.prog w a p.2 .plain := fun w a => run_store Try.prog w a _ .plain hbx.o2
    have HI := Lib.hid hI
    have HBX := Lib.hid hbx
    have hlen : acc.length + (rest.length + 1) ≤ XS.length := by have := hI.len; rw [List.length_cons] at this; exact this
    have hpl : ps.length = acc.length := hI.qs.len
    have hps : ps.length ≤ 1000000 := by have := HLEN.out; omega
    obtain ⟨x, e⟩ := x
    clear hI hbx hlen hpl
    by_cases he : e = 0
    · subst he
      have p0 := HBX.out.box.c0
      have p1 := HBX.out.box.c1
      have z0 := HI.out.b2.cell
      have z1 := HI.out.b2.frozen
      obtain ⟨va, vc, hv⟩ := HI.out.own.shape
      subst hv
      have hone : ∀ u ∈ [p.1, p.2], u.oneCell' = true := by
        intro u hu
        rcases List.mem_cons.1 hu with rfl | hu
        · exact HBX.out.o1
        · rcases List.mem_singleton.1 hu with rfl
          exact HBX.out.o2
      have HONE := Lib.hid hone
      have HCN := Lib.hid (cells_new2 W p.1 p.2 37)
      have HGA := Lib.hid (World.grownBy_alloc W (.cells #[p.1, p.2] 37) none)
      have HOA := Lib.hid (World.ownsRow.alloc HI.out.own (.cells #[p.1, p.2] 37))
      clear hone
      gi_wp2_with (gi_at_builtin; refine wpListIn_append_own_at _ rfl (.tmp 13) (.tmp 15) 38 rfl (w.heap.size + 5) 37 i0 _ 2 16 Try.underlying38 hi hz0 hz1 hz2 (by rfl) (by decide) (.slice va ps.length vc) ps.length (prs ps) rfl HOA.out ⟨W.heap.size, 0, none⟩ 1 1 [p.1, p.2] rfl rfl HCN.out HONE.out (by unfold maxLen; omega) (by omega) (by rw [World.size_alloc]; omega) ?_; intro v' w4 hown' hgrow hnil hloc; have HON := Lib.hid hown'; have HGR := Lib.hid hgrow; have HLO := Lib.hid hloc; have z2 := (HI.out.b2.kept HGA.out (by simp)).kept HGR.out (fun e => by have := (HI.out.own.lt _ e.symm).1; omega); have z3 := z2.cell; have z4 := z2.frozen; obtain ⟨a2, c2, hv2⟩ := ownsRow_shape hown'; subst hv2; clear hown' hgrow hnil hloc z2)
      have hl := HI.out.goes HQ.out (x := (x, 0)) rfl HBX.out.q hB HGA.out HGR.out (by have h := HON.out; unfold O2; rw [prs_append, List.length_append]; exact h) HLO.out
      rw [← HSZ.out] at hl
      exact hl
    · have he1 : ((e : Int) != 0) = true := by rw [bne_iff_ne]; omega
      have f0 := HI.out.b0.frozen
      have f1 := HI.out.b1.frozen
      have c0 := HI.out.b0.cell
      have c1 := HI.out.b1.cell
      gi_wp2
      have hR := HI.out.run
      rw [gat, if_pos he] at hR
      have hl := HI.out.leave e hR
      rw [← HSZ.out] at hl
      exact hl
  case done =>
    rintro F W ⟨v, acc, ps, hI⟩ hD
    have HI := Lib.hid hI
    clear hI
    obtain ⟨va, vc, hv⟩ := HI.out.own.shape
    subst hv
    have hcv := HI.out.b2.cell
    have f0 := HI.out.b0.frozen
    have f1 := HI.out.b1.frozen
    have c0 := HI.out.b0.cell
    have c1 := HI.out.b1.cell
    gi_wp2
    exact fin_list HQ.out Try.results64 agg38 HI.out hD HSZ.out rfl rfl rfl
  case stop =>
    rintro c W hX hD
    obtain rfl := hX.1
    gi_wp2
    exact fin_stop Try.results64 agg38 hX hD HSZ.out rfl rfl rfl
theorem agg23 (w : World) : (isAgg 23).run Try.prog w = .ok false w := by
  first | exact Try.isAgg23 w | exact Try.isAgg23 | (simp [go_sem, Try.underlying23]) | kernel_rfl
set_option maxHeartbeats 1000000 in
theorem list29_any {α : Type} (Q : α → Pv → World → Prop) (gf : Nat) (lb : Array Value) (eg : ∀ args w, (callFunc gf args).run Try.prog w = .ok (.enter gf args) w) (XS : List (α × Nat)) (hlen : XS.length ≤ 1000000) (w : World) (hQ : QOk (w.heap.size + 5) 40 Q)
    (hseq : ∀ n W, 1 ≤ n → W.heap.size = w.heap.size + 5 → Below w.heap.size w W → Gives n Try.prog gf lb (En2 Q) XS (fun j => j < w.heap.size) W) :
    Calls Try.prog 29 #[.func (.func gf) #[] lb] w (TellsQ 40 Q w (gat XS [])) := by
  have HQ := Lib.hid hQ
  have HEG := Lib.hid eg
  have HSQ := Lib.hid hseq
  have HLEN := Lib.hid hlen
  clear hQ eg hseq hlen
  obtain ⟨i0, hi, hz0, hz1, hz2⟩ := info_parts Try.info40
  refine (callsIn_wide (n := 5)).1 ?_
  refine callsIn_of_wp_marks Try.func29 rfl trivial ?_ rfl
  simp only [Try.ntmps29, List.size_toArray, List.length_cons, List.length_nil, Nat.reduceAdd, Nat.reduceSub, Array.replicate_succ, Array.replicate_zero, List.push_toArray, List.append_toArray, List.nil_append, List.cons_append]
  obtain ⟨w1, hw1⟩ : ∃ w1, ((w.alloc (.cells #[.slice none 0 0] 23)).alloc (.cells #[.int .i64 0] 24)).alloc (.cells #[.slice none 0 0] 23) = w1 := ⟨_, rfl⟩
  have hsz : w1.heap.size = w.heap.size + 3 := by rw [← hw1]; simp
  have hbel : Below w.heap.size w w1 := by
    rw [← hw1]
    exact (((Below.refl _ w).alloc (Nat.le_refl _) _).alloc (by simp) _).alloc (by simp; omega) _
  have hI0 : LJ 40 23 Q w (gat XS []) XS.length XS (fun j => j < w.heap.size) w1 := by
    refine ⟨.slice none 0 0, [], [], ?_, ?_, ?_, O2.nil _ _ _, trivial, rfl, by simp, hbel, fun j hj => ⟨by omega, .inl hj, fun e => by simp [Value.ownBlock] at e⟩⟩
    · rw [← hw1]; exact ((Boxed.new w 23 _).alloc _).alloc _
    · have := Boxed.new (w.alloc (.cells #[.slice none 0 0] 23)) 24 (.int .i64 0)
      rw [World.size_alloc] at this
      rw [← hw1]; exact this.alloc _
    · have := Boxed.new ((w.alloc (.cells #[.slice none 0 0] 23)).alloc (.cells #[.int .i64 0] 24)) 23 (.slice none 0 0)
      rw [World.size_alloc, World.size_alloc] at this
      rw [← hw1]; exact this
  have HI0 := Lib.hid hI0
  have HSZ := Lib.hid hsz
  have HBW := Lib.hid hbel
  have HW1 := Lib.hid hw1
  clear hw1 hI0 hsz hbel
  gi_wp2
  rw [HW1.out]
  apply wp_range2 (β := Pv) (gf := gf) (lb := lb) rfl HEG.out (En2 Q) (fun x us W h => by obtain ⟨p, h⟩ := h; rw [h.eq]; rfl) XS (fun j => j < w.heap.size) (by intro j hj; have := HSZ.out; omega) ?seq
    (LJ 40 23 Q w (gat XS []) XS.length) (LX 23 w (gat XS [])) (by rw [HSZ.out]; exact LJ.ab HQ.out) (by rw [HSZ.out]; exact fun c => LX.ab c) HI0.out
    (BPl 40 23 Q w) ?ax _ ?assign ?body ?done ?stop
  case seq =>
    intro W hW hb
    exact HSQ.out _ W (by omega) (by rw [hW, HSZ.out]) (HBW.out.trans (hb.mono HBW.out.size))
  case ax =>
    rw [HSZ.out]
    exact BPl.ab HQ.out
  case assign =>
    rintro l x rest us F W K hI ⟨p, hp⟩ hB hK
    rw [HSZ.out] at hB
    have hbp := BPl.new (T := 23) HQ.out hI hp hB
    have HBP := Lib.hid hbp
    have hs1 : ∀ (w : World) (a : Addr), (store a p.1).run Try.prog w = stored Try.prog w a p.1 .plain := fun w a => run_store Try.prog w a _ .plain hp.o1
    have hs2 : ∀ (w : World) (a : Addr), (store a p.2).run Try.prog w = stored Try.prog w a p.2 .plain := fun w a => run_store Try.prog w a _ .plain hp.o2
    have hI2 : LJ 40 23 Q w (gat XS []) XS.length (x :: rest) F (W.alloc (.cells #[p.1, p.2] 40)) := by
      have := LJ.ab (T := 23) (R := gat XS []) (N := XS.length) HQ.out _ F F _ _ none hI (World.grownBy_alloc W (.cells #[p.1, p.2] 40) none) (fun r e => by cases e) (fun j h => .inl h)
      exact this
    have HI2 := Lib.hid hI2
    have he := hp.eq
    subst he
    clear hbp hI2 hp hI
    gi_wp2
    obtain ⟨Bx, hBx⟩ : ∃ Bx, W.heap.size = Bx := ⟨_, rfl⟩
    rw [hBx] at HBP ⊢
    exact hK Bx p _ (Kept.grown (World.grownBy_alloc W _ none) (fun r e => by cases e)) HI2.out HBP.out
  case body =>
    rintro l x rest F Bx p W ⟨v, acc, ps, hI⟩ hbx hB
    rw [HSZ.out] at hB
    have hs1 : ∀ (w : World) (a : Addr), (store a p.1).run Try.prog w = stored Try.prog w a p.1 .plain := fun w a => run_store Try.prog w a _ .plain hbx.o1
    have hs2 : ∀ (w : World) (a : Addr), (store a p.2).run Try.prog w = stored Try.prog w a p.2 .plain := fun w a => run_store Try.prog w a _ .plain hbx.o2
    have HI := Lib.hid hI
    have HBX := Lib.hid hbx
    have hlen : acc.length + (rest.length + 1) ≤ XS.length := by have := hI.len; rw [List.length_cons] at this; exact this
    have hpl : ps.length = acc.length := hI.qs.len
    have hps : ps.length ≤ 1000000 := by have := HLEN.out; omega
    obtain ⟨x, e⟩ := x
    clear hI hbx hlen hpl
    by_cases he : e = 0
    · subst he
      have p0 := HBX.out.box.c0
      have p1 := HBX.out.box.c1
      have z0 := HI.out.b2.cell
      have z1 := HI.out.b2.frozen
      obtain ⟨va, vc, hv⟩ := HI.out.own.shape
      subst hv
      have hone : ∀ u ∈ [p.1, p.2], u.oneCell' = true := by
        intro u hu
        rcases List.mem_cons.1 hu with rfl | hu
        · exact HBX.out.o1
        · rcases List.mem_singleton.1 hu with rfl
          exact HBX.out.o2
      have HONE := Lib.hid hone
      have HCN := Lib.hid (cells_new2 W p.1 p.2 40)
      have HGA := Lib.hid (World.grownBy_alloc W (.cells #[p.1, p.2] 40) none)
      have HOA := Lib.hid (World.ownsRow.alloc HI.out.own (.cells #[p.1, p.2] 40))
      clear hone
      gi_wp2_with (gi_at_builtin; refine wpListIn_append_own_at _ rfl (.tmp 13) (.tmp 15) 23 rfl (w.heap.size + 5) 40 i0 _ 2 48 Try.underlying23 hi hz0 hz1 hz2 (by rfl) (by decide) (.slice va ps.length vc) ps.length (prs ps) rfl HOA.out ⟨W.heap.size, 0, none⟩ 1 1 [p.1, p.2] rfl rfl HCN.out HONE.out (by unfold maxLen; omega) (by omega) (by rw [World.size_alloc]; omega) ?_; intro v' w4 hown' hgrow hnil hloc; have HON := Lib.hid hown'; have HGR := Lib.hid hgrow; have HLO := Lib.hid hloc; have z2 := (HI.out.b2.kept HGA.out (by simp)).kept HGR.out (fun e => by have := (HI.out.own.lt _ e.symm).1; omega); have z3 := z2.cell; have z4 := z2.frozen; obtain ⟨a2, c2, hv2⟩ := ownsRow_shape hown'; subst hv2; clear hown' hgrow hnil hloc z2)
      have hl := HI.out.goes HQ.out (x := (x, 0)) rfl HBX.out.q hB HGA.out HGR.out (by have h := HON.out; unfold O2; rw [prs_append, List.length_append]; exact h) HLO.out
      rw [← HSZ.out] at hl
      exact hl
    · have he1 : ((e : Int) != 0) = true := by rw [bne_iff_ne]; omega
      have f0 := HI.out.b0.frozen
      have f1 := HI.out.b1.frozen
      have c0 := HI.out.b0.cell
      have c1 := HI.out.b1.cell
      gi_wp2
      have hR := HI.out.run
      rw [gat, if_pos he] at hR
      have hl := HI.out.leave e hR
      rw [← HSZ.out] at hl
      exact hl
  case done =>
    rintro F W ⟨v, acc, ps, hI⟩ hD
    have HI := Lib.hid hI
    clear hI
    obtain ⟨va, vc, hv⟩ := HI.out.own.shape
    subst hv
    have hcv := HI.out.b2.cell
    have f0 := HI.out.b0.frozen
    have f1 := HI.out.b1.frozen
    have c0 := HI.out.b0.cell
    have c1 := HI.out.b1.cell
    gi_wp2
    exact fin_list HQ.out Try.results29 agg23 HI.out hD HSZ.out rfl rfl rfl
  case stop =>
    rintro c W hX hD
    obtain rfl := hX.1
    gi_wp2
    exact fin_stop Try.results29 agg23 hX hD HSZ.out rfl rfl rfl
end Go.Proofs.Ytknfodpegkpjnaa
