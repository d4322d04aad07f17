/- The contracts of the document's Parts and Decode. -/
import Derived.Test.YtnnogjojoeajnaaRb
import Derived.Test.YtnnogjojoeajnaaPs
import Derived.Test.YtnnogjojoeajnaaAr
namespace Go.Proofs.Ytnnogjojoeajnaa
open Go.RowKit
/-- The call owns the document's parts l. -/
def Om (w : World) (base : Nat) (v : Value) (l : List Pt) : Prop := w.ownsRow base 76 4 v l.length (cells4 l)
theorem Try.info76 : (Try.prog.info? 76).map (fun i => (i.zero, i.size, i.bytes)) = some (some (.agg #[.bool false, .string ⟨#[]⟩, .int .i64 0, .int .i64 0]), 4, 40) := by kernel_rfl
theorem Om.shape {w : World} {base : Nat} {v : Value} {l : List Pt} (h : Om w base v l) : ∃ a c, v = .slice a l.length c := by
  rcases h.2 with ⟨rfl, hn⟩ | ⟨g, cap, cur, rfl, _⟩
  · exact ⟨_, _, by rw [hn]⟩
  · exact ⟨_, _, rfl⟩
theorem Om.below {w w' : World} {base n : Nat} {v : Value} {l : List Pt} (h : Om w base v l) (hb : Below n w w') (hn : w.heap.size ≤ n) : Om w' base v l := by
  obtain ⟨h1, h2⟩ := h
  refine ⟨h1, h2.imp id ?_⟩
  rintro ⟨g, cap, cur, e, hb', hh, rest⟩
  exact ⟨g, cap, cur, e, hb', (hb.block g (Nat.lt_of_lt_of_le (Array.getElem?_eq_some_iff.1 hh).1 hn)).trans hh, rest⟩
theorem Om.mono {w : World} {base b : Nat} {v : Value} {l : List Pt} (h : Om w base v l) (hb : b ≤ base) : Om w b v l := by
  obtain ⟨h1, h2⟩ := h
  refine ⟨h1, h2.imp id ?_⟩
  rintro ⟨g, cap, cur, rfl, hg, rest⟩
  exact ⟨g, cap, cur, rfl, Nat.le_trans hb hg, rest⟩
theorem argAt_of {w : World} {base : Nat} {v : Value} {l : List Pt} (h : Om w base v l) : ArgAt w v l := by
  have h0 := h
  unfold Om at h0
  rcases h0.2 with ⟨rfl, hn⟩ | ⟨g, cap, cur, rfl, _⟩
  · exact .inl ⟨List.eq_nil_of_length_eq_zero hn, _, _, rfl⟩
  · refine .inr ⟨g, 0, cap, rfl, fun j hj => ?_⟩
    obtain ⟨c0, c1, c2, c3⟩ := cells4_at l j hj
    simp only [Nat.zero_add]
    rw [h0.cellAt _ (by omega), h0.cellAt _ (by omega), h0.cellAt _ (by omega), h0.cellAt _ (by omega)]
    exact ⟨c0, c1, c2, c3⟩
/-- Told: the document's parts, and an error. -/
def TellsM (w : World) (x : List Pt × Int) (e : Ending) (w' : World) : Prop := ∃ v, e = .returned (.tuple #[v, .int .i64 x.2]) ∧ Om w' w.heap.size v x.1 ∧ Below w.heap.size w w'
theorem drop_cons' {s : ByteArray} {A : Nat} (h : A < s.size) : ∃ c r, (s.extract A s.size).data.toList = c :: r ∧ s.data.toList.drop A = c :: r ∧ ∀ k, r.drop k = s.data.toList.drop (A + (k + 1)) := by
  have hl : s.data.toList.length = s.size := by simp
  have hd : s.data.toList.drop A = s.data.toList[A]'(by omega) :: s.data.toList.drop (A + 1) := List.drop_eq_getElem_cons (by omega)
  refine ⟨_, _, by rw [drop_extract, hd], hd, fun k => ?_⟩
  rw [List.drop_drop]
  congr 1
  omega
theorem om_snoc {w w1 : World} {l : List Pt} {P : Pt} {v' : Value} (HWN : w1.ownsRow w.heap.size 76 4 v' (l.length + 1) (cells4 l ++ [.bool P.c, .string P.t, .int .i64 P.o, .int .i64 P.l])) : Om w1 w.heap.size v' (l ++ [P]) := by
  unfold Om
  rw [cells4_append, List.length_append, List.length_singleton]
  exact HWN
theorem its_ok {c : UInt8} {r : List UInt8} {p : Pt} {k : Nat} (h : el c r = (p, k, true)) : its (c :: r) = (p, 0) :: its (r.drop k) := by rw [its, h]; rfl
theorem its_no {c : UInt8} {r : List UInt8} {p : Pt} {k : Nat} (h : el c r = (p, k, false)) : its (c :: r) = [(p, 8)] := by rw [its, h]; rfl
theorem el_fits {c : UInt8} {r : List UInt8} {p : Pt} {k : Nat} (h : el c r = (p, k, true)) : k ≤ r.length := by
  have := el_le c r
  rw [h] at this
  exact this
theorem cells_new5 (W : World) (o : Obj) (x0 x1 x2 x3 : Value) (t : TypeId) : ∀ j u, [x0, x1, x2, x3][j]? = some u → ((W.alloc o).alloc (.cells #[x0, x1, x2, x3] t)).cell? ((⟨W.heap.size + 1, 0, none⟩ : Addr).add j) = some u := by
  intro j u hj
  have := cells_new4 (W.alloc o) x0 x1 x2 x3 t j u hj
  rwa [World.size_alloc] at this
set_option maxRecDepth 100000 in
set_option maxHeartbeats 2000000 in
theorem rparts_any (s : ByteArray) (hs : s.size ≤ 1000000) (w : World) :
    Calls Try.prog 23 #[.string s] w (TellsM w (parts s.data.toList)) := by
  have hl0 : s.data.toList.length = s.size := by simp
  obtain ⟨N, C, K, hz⟩ : ∃ N C K, szs s.data.toList = (N, C, K) := ⟨_, _, _, rfl⟩
  have HS := Lib.hid (fun W => rsize_any s (by omega) W)
  rw [hz] at HS
  dsimp only at HS
  unfold parts
  rw [hz]
  dsimp only
  by_cases hK : K = 0
  · subst hK
    rw [if_neg (by simp)]
    obtain ⟨hrd, hC⟩ := szs_ok hz
    have hC2 : C ≤ s.size := by omega
    have hC10 : C ≤ 10 := by
      have hf := Bt.rd_facts s.data.toList 0 0 (by omega) (by simp)
      rw [hrd] at hf
      exact (hf.2.1 rfl).2.1
    have HU := Lib.hid (fun W => ruvarint_ok s 0 W (by omega) (by omega) N C C (by simpa using hrd) (by omega) hC10)
    obtain ⟨i0, hi, hz0, hz1, hz2⟩ := info_parts Try.info76
    have HEL := Lib.hid (fun (t : ByteArray) c r (h : t.data.toList = c :: r) (ht : t.size ≤ 1000000) W => relem_any t c r h ht W)
    clear hz hrd hC
    generalize (N : Int) = M at *
    have HL0 := Lib.hid hl0
    clear hl0
    go_enter Try.func23, Try.ntmps23
    go_wp2_with (first | (go_at_call 20; refine (HS.out _).mono ?_; rintro e w' ⟨rfl, rfl⟩) | (go_at_call 47; refine (HU.out _).mono ?_; rintro e w' ⟨rfl, rfl⟩))
    go_loopw [7, 9] (fun x u wr => ∃ (A : Nat) (ps : List Pt), x = .int .i64 (A : Int) ∧ A ≤ s.size ∧ ps.length ≤ A ∧ Hid (Om wr w.heap.size u ps) ∧ Hid (prt (its (s.data.toList.drop A)) ps = prt (its (s.data.toList.drop C)) []) ∧ Hid (Below w.heap.size w wr)) (fun x _ _ => s.size - (intOf x).toNat)
    case atStart => exact ⟨C, [], rfl, by omega, by simp, Lib.hid (World.ownsRow_nil _ _ _ _), Lib.hid rfl, Lib.hid (Below.refl _ _)⟩
    case round =>
      obtain ⟨A, ps, rfl, hA, hps, HO, HR, HB⟩ := hrel
      by_cases hlt : A < s.size
      · obtain ⟨c, r, hc, hd, hdr⟩ := drop_cons' hlt
        have hti : (s.extract A s.size).size ≤ 1000000 := by simp; omega
        have HE := Lib.hid (fun W => HEL.out _ c r hc hti W)
        obtain ⟨p, k, ok, he⟩ : ∃ p k ok, el c r = (p, k, ok) := ⟨_, _, _, rfl⟩
        rw [he] at HE
        have hrun := HR.out
        rw [hd] at hrun
        have hrl : r.length + A + 1 = s.size := by
          have := congrArg List.length hd
          rw [List.length_drop, HL0.out, List.length_cons] at this
          omega
        obtain ⟨ua, uc, hu⟩ := HO.out.shape
        subst hu
        cases ok with
        | false =>
          rw [its_no he, prt, if_pos (by decide)] at hrun
          have HRN := Lib.hid hrun
          unfold relem at HE
          simp only [Bool.false_eq_true, if_false, pv, pt0] at HE
          clear hrun hc hd hdr he hti
          go_wp2_with (go_at_call 48; refine (HE.out _).mono ?_; rintro e w5 ⟨rfl, hb5⟩; have HB5 := Lib.hid hb5; clear hb5)
          go_ret2
          rw [← HRN.out]
          refine ⟨_, rfl, World.ownsRow_nil _ _ _ _, ?_⟩
          have h5 := HB.out.trans (HB5.out.mono HB.out.size)
          exact h5.alloc h5.size _
        | true =>
          have hk := el_fits he
          rw [its_ok he, prt, if_neg (by simp), hdr] at hrun
          have HRN := Lib.hid hrun
          unfold relem at HE
          simp only [if_true, pv] at HE
          clear hrun hc hd hdr he hti
          obtain ⟨pc, pt, po, pl⟩ := p
          dsimp only at HE
          have hk0 : ¬ (((k + 1 : Nat) : Int) < 0) := by omega
          have hAk : (A : Int) + ((k + 1 : Nat) : Int) = ((A + (k + 1) : Nat) : Int) := by omega
          obtain ⟨V, hV⟩ : ∃ V, A + (k + 1) = V := ⟨_, rfl⟩
          obtain ⟨K1, hK1⟩ : ∃ K1, k + 1 = K1 := ⟨_, rfl⟩
          rw [hV] at HRN hAk
          rw [hK1] at HE hk0 hAk
          have hVs : V ≤ s.size := by omega
          have hK1s : K1 ≤ s.size := by omega
          have hAV : A < V := by omega
          have HV := Lib.hid hV
          have HK1 := Lib.hid hK1
          clear hV hK1 hk hrl
          go_wp2_with (first
            | (go_at_call 48; refine (HE.out _).mono ?_; rintro e w5 ⟨rfl, hb5⟩; have HB5 := Lib.hid (HB.out.trans (hb5.mono HB.out.size)); have HO5 := Lib.hid (HO.out.below hb5 (Nat.le_refl _)); clear hb5)
            | (at_builtin; refine wpList_append_own_at _ rfl (.tmp 39) (.tmp 41) 42 rfl w.heap.size 76 i0 _ 4 40 Try.underlying42 hi hz0 hz1 hz2 (by rfl) (by decide) (.slice ua ps.length uc) ps.length (cells4 ps) rfl (World.ownsRow.alloc (World.ownsRow.alloc HO5.out _) _) ⟨w5.heap.size + 1, 0, none⟩ 1 1 [.bool pc, .string pt, .int .i64 po, .int .i64 pl] rfl rfl (cells_new5 _ _ _ _ _ _ _) (by simp [Value.oneCell']) (by unfold maxLen; omega) (by omega) (Nat.le_trans HB5.out.size (by simp; omega)) ?_; intro v' w6 hown' hgrow hnil hloc; have HON := Lib.hid (om_snoc (P := ⟨pc, pt, po, pl⟩) hown'); have HB6 := Lib.hid (((HB5.out.alloc HB5.out.size (.cells #[.bool pc, .string pt, .int .i64 po, .int .i64 pl] 76)).alloc (Nat.le_trans HB5.out.size (by simp)) (.cells #[.bool pc, .string pt, .int .i64 po, .int .i64 pl] 76)).grown hgrow (Nat.le_trans HB5.out.size (by simp; omega)) (fun g hg => (own_lt HO5.out g hg).1)); clear hown' hgrow hnil hloc))
          go_roundw
          case rel => exact ⟨V, ps ++ [⟨pc, pt, po, pl⟩], by go_num, by omega, by rw [List.length_append, List.length_singleton]; omega, HON, HRN, HB6⟩
          case measure => simp [intOf]; omega
      · obtain rfl : A = s.size := by omega
        have hrun := HR.out
        rw [List.drop_of_length_le (by have := HL0.out; omega), its, prt] at hrun
        have HRN := Lib.hid hrun
        clear hrun
        go_wp2
        go_ret2
        rw [← HRN.out]
        exact ⟨_, rfl, HO.out, HB.out⟩
  · rw [if_pos hK]
    have hN := szs_no hz hK
    have hK1 : ((K : Int) != 0) = true := by rw [bne_iff_ne]; omega
    clear hz hN
    generalize (N : Int) = M at *
    generalize (K : Int) = k at *
    go_enter Try.func23, Try.ntmps23
    go_wp2_with (go_at_call 20; refine (HS.out _).mono ?_; rintro e w' ⟨rfl, rfl⟩)
    go_ret2
    exact ⟨_, rfl, World.ownsRow_nil _ _ _ _, Below.refl _ _⟩
end Go.Proofs.Ytnnogjojoeajnaa
