/- The vault, by its tapes' sizes: a snapshot, a sync, an opening; a new one. Nothing of the program. -/
import Derived.Test.YtieemdcoomilaaaGreatDoorVm
import Derived.Test.YtieemdcoomilaaaGreatDoorJe
set_option linter.unusedVariables false
set_option linter.unusedSimpArgs false
namespace Go.Proofs.YtieemdcoomilaaaGreatDoor.Vt
open Go Go.RowKit
set_option maxRecDepth 100000
theorem z32_len : z32.length = 32 := rfl
theorem replicate_at (k : Nat) : z32.getD k 0 = 0 := by
  unfold z32
  rw [List.getD_eq_getElem?_getD, List.getElem?_replicate]
  split <;> rfl
theorem layZ_ok {d : Dk} {z : Zs} {most : Nat} (i : InvZ d z most) (x : ByteArray) {z' : Zs} (hz : layZ z x x.size = (some z', 0)) :
    (layD d z.h z.L.length x).1.2 = 0 ∧ (layD d z.h z.L.length x).2 = (z'.h, 0) ∧ z'.L = [] ∧ InvZ (layD d z.h z.L.length x).1.1 z' most := by
  obtain ⟨E, B, hs, hEB⟩ := i.st
  have hm := hs.hd.may
  have k := mayB_ok hm
  have hus := i.used
  have hcap := i.cap
  have hp := ptT_le d
  have hpp := i.p
  unfold layZ at hz
  by_cases c1 : 262144 < x.size ∨ 1099511627776 < z.h.base + z.L.length
  · rw [if_pos c1] at hz; cases hz
  rw [if_neg c1] at hz
  by_cases c3 : 120 ≤ z.h.gen ∨ 120 ≤ z.h.base + z.L.length
  · rw [if_pos c3] at hz; cases hz
  rw [if_neg c3] at hz
  have hF := frL_mem z.h 32
  have hR := frL_rise z.h 32
  have hcalm := lay_calm i.c x
  unfold LayNo at hcalm
  generalize frL z.h 32 = L at hz hF hR hcalm
  rcases L with _ | ⟨a, _ | ⟨b, rest⟩⟩
  · cases hz
  · cases hz
  · dsimp only at hz
    obtain ⟨⟨a2, a3⟩, au⟩ := hF a (by simp)
    obtain ⟨⟨b2, b3⟩, bu⟩ := hF b (by simp)
    have a3' : a < 32 := a3
    have b3' : b < 32 := b3
    have hab : a < b := (List.pairwise_cons.1 hR).1 b (by simp)
    have ha32 : a.toNat < 32 := by omega
    have hb32 : b.toNat < 32 := by omega
    have hmn : mayB (lyH z.h z.L.length a b) = true := ly_may hm (by omega) (by omega) a2 a3' b2 b3' (by omega)
    have hsn : (whl (lyH z.h z.L.length a b)).size = szH (lyH z.h z.L.length a b) := szH_eq hmn (by show z.h.gen + 1 < 128; omega) (by show z.h.base + z.L.length < 128; omega)
    have hsr := siz_may hmn
    by_cases c4 : z.cap + z.at' a.toNat < sumF z.s 32 + (x.size + 9) ∨ z.cap + z.at' a.toNat + z.at' b.toNat + z.at' z.p < sumF z.s 32 + (x.size + 9) + szH (lyH z.h z.L.length a b)
    · rw [if_pos c4] at hz; cases hz
    rw [if_neg c4] at hz
    obtain rfl : _ = z' := by simpa using hz
    rcases hcalm with ⟨-, -, -, f⟩ | ⟨f1, hc, a', b', g1, -, ⟨rest', g2⟩, g3, g4, g5⟩
    · exfalso
      rcases f with c | c | c | ⟨a', b', rest', e, c⟩
      · exact c1 c
      · omega
      · simp only [List.length_cons] at c; omega
      · obtain ⟨rfl, e2⟩ := List.cons.inj e
        obtain ⟨rfl, -⟩ := List.cons.inj e2
        rw [i.sz _ ha32, i.sz _ hb32, i.sz _ (by omega), hpp] at c
        omega
    · obtain ⟨rfl, e2⟩ := List.cons.inj g2
      obtain ⟨rfl, -⟩ := List.cons.inj e2
      have g1' := Prod.ext_iff.1 g1
      rw [g1] at hc
      refine ⟨f1, g1, rfl, hc, ⟨[], [], g4, rfl⟩, g5.trans hcap, by dsimp only; rw [List.length_set, List.length_set, List.length_set, z32_len], fun j hj => ?_, ?_⟩
      · unfold Zs.at'
        dsimp only
        rw [at_set (by rw [List.length_set, List.length_set, z32_len]; exact ha32), at_set (by rw [List.length_set, z32_len]; omega), at_set (by rw [z32_len]; omega), replicate_at]
        by_cases ea : j = a.toNat
        · rw [if_pos ea, ea]
          rcases g4.snap with ⟨h0, _⟩ | ⟨s, h1, h2, h3, h4, h5⟩
          · exact absurd (show a = 0 from h0) (by omega)
          · obtain rfl : x = s := by simpa using h1
            have := congrArg List.length h4
            rw [tl_len, Fr.frm_length] at this
            have e : (lyH z.h z.L.length a b).snap.toNat = a.toNat := rfl
            rw [e] at this
            simp at this
            omega
        · rw [if_neg ea]
          by_cases h2 : j < 2
          · rw [g3 j h2, hpp]
            by_cases ep : j = z.p
            · rw [if_pos ep, if_neg (by omega), if_pos ep]; exact hsn
            · rw [if_neg ep, if_pos (by omega), i.sz j hj]
              have : j = 1 - z.p := by omega
              rw [this]; rfl
          · rw [if_neg (by omega), if_neg (by omega)]
            by_cases eb : j = b.toNat
            · have hlg := g4.lg
              obtain ⟨E0, A, hE, _, h2', -⟩ := hlg.turn (show [b].Nodup by simp)
              have hA : A = [] := (List.append_eq_nil_iff.1 hE.symm).2
              subst hA
              have := congrArg List.length h2'
              rw [tl_len] at this
              rw [eb]
              exact this
            · refine hc.emp j (by omega) hj ?_
              rw [us_ly z.h _ a b _ (by omega), Bool.or_eq_false_iff]
              exact ⟨decide_eq_false (by omega), decide_eq_false (by omega)⟩
      · show ptT _ = 1 - z.p
        rw [← hpp]
        exact pt_next i.c.dn hc.dn hs.hd hmn (show z.h.gen < z.h.gen + 1 by omega) g3
theorem layZ_no {d : Dk} {z : Zs} {most : Nat} (i : InvZ d z most) (x : ByteArray) {e : Nat} (hz : layZ z x x.size = (none, e)) (he : e ≠ 1) : layD d z.h z.L.length x = ((d, e), z.h, z.L.length) := by
  obtain ⟨E, B, hs, hEB⟩ := i.st
  have hm := hs.hd.may
  have hus := i.used
  have hcap := i.cap
  have hp := ptT_le d
  have hpp := i.p
  unfold layZ at hz
  unfold layD
  by_cases c1 : 262144 < x.size ∨ 1099511627776 < z.h.base + z.L.length
  · rw [if_pos c1] at hz ⊢; rw [(Prod.mk.inj hz).2]
  rw [if_neg c1] at hz ⊢
  rw [i.c.dn, if_neg (by simp)]
  by_cases c3 : 120 ≤ z.h.gen ∨ 120 ≤ z.h.base + z.L.length
  · rw [if_pos c3] at hz; exact absurd (Prod.mk.inj hz).2.symm he
  rw [if_neg c3] at hz
  rw [if_neg (by omega)]
  have hF := frL_mem z.h 32
  have hR := frL_rise z.h 32
  generalize frL z.h 32 = L at hz hF hR ⊢
  rcases L with _ | ⟨a, _ | ⟨b, rest⟩⟩
  · dsimp only at hz ⊢; rw [(Prod.mk.inj hz).2]
  · dsimp only at hz ⊢; rw [(Prod.mk.inj hz).2]
  · dsimp only at hz ⊢
    obtain ⟨⟨a2, a3⟩, au⟩ := hF a (by simp)
    obtain ⟨⟨b2, b3⟩, bu⟩ := hF b (by simp)
    have a3' : a < 32 := a3
    have b3' : b < 32 := b3
    have hab : a < b := (List.pairwise_cons.1 hR).1 b (by simp)
    have hmn : mayB (lyH z.h z.L.length a b) = true := ly_may hm (by omega) (by omega) a2 a3' b2 b3' (by omega)
    have hsn : (whl (lyH z.h z.L.length a b)).size = szH (lyH z.h z.L.length a b) := szH_eq hmn (by show z.h.gen + 1 < 128; omega) (by show z.h.base + z.L.length < 128; omega)
    have hsr := siz_may hmn
    by_cases c4 : z.cap + z.at' a.toNat < sumF z.s 32 + (x.size + 9) ∨ z.cap + z.at' a.toNat + z.at' b.toNat + z.at' z.p < sumF z.s 32 + (x.size + 9) + szH (lyH z.h z.L.length a b)
    · rw [if_pos c4] at hz
      rw [if_pos (by rw [i.sz _ (by omega), i.sz _ (by omega), i.sz _ (by omega), hpp]; omega), (Prod.mk.inj hz).2]
    · rw [if_neg c4] at hz; cases hz
/-- Another disk, of the same bytes, more of them firm. -/
theorem InvZ.mono {d d' : Dk} {z : Zs} {most : Nat} (i : InvZ d z most) (hc : InvC d' z.h z.L.length most) (hm : Mf d.T d'.T) (hcap : d'.cap = d.cap) (hs : ∃ E B, StdT d'.T z.h z.S E B ∧ E ++ B = z.L) : InvZ d' z most :=
  ⟨hc, hs, hcap.trans i.cap, i.len, fun j hj => by rw [hm.s hj]; exact i.sz j hj, (ptT_same i.c.dn hc.dn (hm.s (by decide)) (hm.s (by decide))).trans i.p⟩
theorem syncZ {d : Dk} {z : Zs} {most : Nat} (i : InvZ d z most) : (syD d z.h).2 = 0 ∧ InvZ (syD d z.h).1 z most := by
  obtain ⟨E, B, hs, hEB⟩ := i.st
  obtain ⟨f1, f2⟩ := sync_calm i.c
  rcases sync_std i.c.dn i.c.ok hs i.c.emp with ⟨q, g1, g2, g3⟩ | q
  · exact ⟨f1, i.mono f2 g3 q.cap ⟨E ++ B, [], g1, by rw [List.append_nil, hEB]⟩⟩
  · have := q.dm; rw [i.c.dm] at this; cases this
theorem openZ {d : Dk} {z : Zs} {most : Nat} (i : InvZ d z most) : ∃ d', opD d = ((d', 0), z.h, z.S, z.L) ∧ InvZ d' z most := by
  obtain ⟨E, B, hs, hEB⟩ := i.st
  have hm := hs.hd.may
  rcases open_std i.c.dn i.c.ok hs i.c.emp with ⟨d', e, ho, hmf⟩ | ⟨_, _, _, _, _, f⟩
  · rw [hEB] at e ho
    refine ⟨d', e, i.mono ⟨ho.u.dn, ho.u.dm i.c.dm, ho.u.ok, ho.emp, ⟨z.S, z.L, [], ho.std, by simp⟩, fun t ht => ?_⟩ hmf ho.u.cap ⟨z.L, [], ho.std, List.append_nil _⟩⟩
    obtain ⟨X, x1, x2, x3, x4⟩ := i.c.hld t ht
    have h32 := log_lt hm t ht
    exact ⟨X, x1, by rw [(hmf _ h32).1]; exact x2, by rw [hmf.s h32]; exact x3, x4⟩
  · rw [i.c.dm] at f; cases f
def newZ (c : Nat) : Zs := ⟨c, z32.set 0 14, 1, hNew, none, []⟩
theorem newZ_ok {c most : Nat} (hc : 14 ≤ c) (hok : (made0 c []).ok) : ∃ d', opD (made0 c []) = ((d', 0), hNew, none, []) ∧ InvZ d' (newZ c) most := by
  obtain ⟨d', e, ho, hT⟩ := open_new hc hok
  obtain ⟨d2, e2, hcm, hcap⟩ := new_calm (most := most) hc hok
  obtain rfl : d' = d2 := by rw [e] at e2; exact congrArg (fun x => x.1.1) e2
  have hd : ∀ j, ((made0 c []).T j).s.size = 0 := fun j => rfl
  refine ⟨d', e, hcm, ⟨[], [], ho.std, rfl⟩, hcap, rfl, fun j hj => ?_, ?_⟩
  · rw [hT]
    unfold Zs.at' newZ
    dsimp only
    rw [at_set (by rw [z32_len]; decide), replicate_at]
    by_cases e0 : j = 0
    · rw [if_pos e0, e0, upd_same]; exact whl_new
    · rw [if_neg e0, upd_other _ _ e0]
      by_cases e2 : j = 2
      · rw [e2, upd_same]; rfl
      · rw [upd_other _ _ e2]; rfl
  · show ptT d' = 1
    have hn : ptT (made0 c []) = 0 := rfl
    have hl := load_new (d := made0 c []) (d' := d') rfl ho.u.dn hNew hNew_may (fun j hj hn' => by
      rw [hn] at hn'
      have : j = 1 := by omega
      rw [this, hT]; rfl) (by rw [hn, hT]; rfl) (fun h => by cases h)
    unfold ptT
    rw [hl]
    rfl
end Go.Proofs.YtieemdcoomilaaaGreatDoor.Vt
namespace Go.Proofs.YtieemdcoomilaaaGreatDoor
open Go Go.RowKit Go.Sort
set_option maxRecDepth 100000
theorem VSt.regrow {w w' : World} {V B mo : Nat} {d d' : Dk} {hn : He × Nat} (a : VSt w V B mo (d, hn)) (hg : w.grownBy w' (some B)) (hd : DAt w' B d') (ho : d'.ok) : VSt w' V B mo (d', hn) := by
  obtain ⟨v, hv⟩ := a.v
  exact ⟨hd, ho, ⟨v, hv.grown hg a.ne⟩, a.ne, (Gv.of_B hg V).tab a.t a.b0 a.v0, a.b0, a.v0⟩
theorem below_alloc_trans {w w1 w2 : World} {o : Obj} (h : Below w.heap.size w w1) (k : Below (w1.alloc o).heap.size (w1.alloc o) w2) : Below w.heap.size w w2 :=
  (h.alloc h.size o).trans (k.mono (by simp; exact Nat.le_succ_of_le h.size))
theorem grown_below_trans {w w1 w2 : World} {r : Option Nat} (h : w.grownBy w1 r) (k : Below w1.heap.size w1 w2) : w.grownBy w2 r := grown_trans h (grown_below k r)
theorem SAt.grownE {w w' : World} {v : Value} {l : List ByteArray} {B : Nat} (h : SAt w v l) (hb : w.grownBy w' (some B)) (hn : l ≠ [] → ∀ q, v.ownBlock = some q → q ≠ B) : SAt w' v l := by
  by_cases e : l = []
  · subst e
    rcases h with ⟨-, h⟩ | ⟨g, o, c, rfl, h⟩
    · exact .inl ⟨rfl, h⟩
    · exact .inl ⟨rfl, _, _, rfl⟩
  · exact h.grown hb (hn e)
theorem found_len {w : World} {base : Nat} {v : Value} (h : Own w base v (strs [])) : ∃ a c, v = .slice a 0 c := by
  obtain ⟨a, c, e⟩ := h.shape
  exact ⟨a, c, e⟩
set_option maxHeartbeats 2000000 in
theorem on_any (c mo : Nat) (hc : 14 ≤ c) (hc2 : c ≤ 1000000000) (hm1 : 1 ≤ mo) (hm2 : mo ≤ 1048576) (w : World) (hT : Tab w) :
    Calls Tryz.prog 10 #[.int .i64 (c : Int), .int .i64 (mo : Int)] w fun e w' => ∃ B V, e = .returned (.tuple #[.pointer (some ⟨B, 0, none⟩), .pointer (some ⟨V, 0, none⟩)]) ∧ w.heap.size ≤ B ∧ w.heap.size ≤ V ∧ (made0 c []).ok ∧ VSt w' V B mo ((Vt.opD (made0 c [])).1.1, Vt.hNew, 0) ∧ Below w.heap.size w w' := by
  have HN := Lib.hid (dnew_any c hc2 w)
  have HT := Lib.hid hT
  have HO := Lib.hid (fun W B (hd : DAt W B (made0 c [])) (hok : (made0 c []).ok) (ht : Tab W) (hb : B ≠ 0) => open_any B mo (made0 c []) W hm1 hm2 hd hok ht hb)
  clear hT
  go_enter Tryz.func10, Tryz.ntmps10
  go_wp2_with fail
  refine HN.out.mono ?_
  rintro e w1 ⟨B, hB, rfl, hd, hok, hb⟩
  have HB := Lib.hid hb
  have HT1 := Lib.hid (HT.out.below hb)
  have hB0 : B ≠ 0 := by have := HT.out.1; omega
  obtain ⟨d', ho, -⟩ := Vt.open_new hc hok
  have HO1 := Lib.hid (HO.out w1 B hd hok HT1.out hB0)
  have HOK := Lib.hid hok
  have HBB := Lib.hid hB
  rw [ho] at HO1
  have HHo := Lib.hid ho
  clear hb hd hok ho hB
  go_wp2_with fail
  refine HO1.out.mono ?_
  rintro e w2 ⟨hg, hd2, hok2, ⟨h1, -⟩ | ⟨-, V, rv, rfl, hV, hx, hmay, hown, hq, hlen⟩⟩
  · exact absurd rfl h1
  dsimp only at hown hx
  obtain ⟨ra, rc, rfl⟩ := found_len hown
  have HX := Lib.hid hx
  have HV := Lib.hid hV
  have HB2 := Lib.hid (HB.out.grown hg HB.out.size (fun k hk => by cases hk; exact HBB.out))
  clear hg hd2 hok2 hx hmay hown hq hlen hV
  unfold foundV
  dsimp only [Option.isSome, Option.getD]
  go_wp2
  go_ret2
  exact ⟨B, V, rfl, HBB.out, Nat.le_trans HB.out.size HV.out, HOK.out, by rw [HHo.out]; exact HX.out.below (below_one _ _) (Nat.le_refl _), HB2.out.alloc HB2.out.size _⟩
set_option maxHeartbeats 2000000 in
theorem finds_any (B mo : Nat) (d d' : Dk) (h : He) (S : Option ByteArray) (R : List ByteArray) (v : Value) (hm1 : 1 ≤ mo) (hm2 : mo ≤ 1048576) (w : World) (ho : Vt.opD d = ((d', 0), h, S, R)) (hd : DAt w B d) (hok : d.ok) (hT : Tab w) (hB0 : B ≠ 0) (hv : SAt w v R) (hvB : R ≠ [] → ∀ q, v.ownBlock = some q → q ≠ B) (hR : R.length ≤ 1000000) :
    Calls Tryz.prog 20 #[.pointer (some ⟨B, 0, none⟩), .int .i64 (mo : Int), .bool S.isSome, .string (S.getD ⟨#[]⟩), v] w fun e w' => e = .returned (.bool true) ∧ DAt w' B d' ∧ d'.ok ∧ w.grownBy w' (some B) := by
  have HO := Lib.hid (open_any B mo d w hm1 hm2 hd hok hT hB0)
  rw [ho] at HO
  have HV := Lib.hid (fun W (hg : w.grownBy W (some B)) => hv.grownE hg hvB)
  obtain ⟨va, vc, ev⟩ := hv.slice
  have HTx := Lib.hid (fun u W (h1 : SAt W u R) (h2 : SAt W v R) => texts_any R R u v W h1 h2 (by omega) (by omega))
  rw [decide_eq_true (p := R = R) rfl] at HTx
  have HVv := Lib.hid ev
  clear ho hd hok hT hv hvB hR
  generalize R.length = L at *
  subst ev
  go_enter Tryz.func20, Tryz.ntmps20
  go_wp2_with fail
  refine HO.out.mono ?_
  rintro e w2 ⟨hg, hd2, hok2, ⟨h1, -⟩ | ⟨-, V, rv, rfl, hV, hx, hmay, hown, hq, hlen⟩⟩
  · exact absurd rfl h1
  dsimp only at hown hd2 hok2
  have HG := Lib.hid hg
  have HD := Lib.hid hd2
  have HK := Lib.hid hok2
  have HW := Lib.hid hown
  obtain ⟨ra, rc, er⟩ := hown.shape
  clear hg hd2 hok2 hx hmay hown hq hlen hV
  subst er
  unfold foundV
  dsimp only
  generalize S.getD { data := #[] } = sn at *
  have e1 : (sn.toList == sn.toList) = true := by simp
  generalize S.isSome = hb0 at *
  have e2 : (hb0 == hb0) = true := by simp
  generalize (strs R).length = M at *
  go_wp2_with fail
  refine (HTx.out _ _ ((HW.out.alloc _).sat) ((HV.out _ HG.out).below (below_one _ _))).mono ?_
  rintro e w3 ⟨rfl, hb⟩
  have HB := Lib.hid (below_alloc_trans (Below.refl _ _) hb)
  clear hb
  go_wp2
  go_ret
  exact ⟨rfl, HD.out.below HB.out HD.out.lt, HK.out, grown_below_trans HG.out HB.out⟩
end Go.Proofs.YtieemdcoomilaaaGreatDoor
