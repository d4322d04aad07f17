/- The contract of awake. -/
import Derived.Test.YtioflicmpnkfeaaGreatSc
namespace Go.Proofs.YtioflicmpnkfeaaGreat
open Go Go.RowKit
set_option maxRecDepth 100000
theorem vint8 {n : Nat} (h : n < 128) : Bt.vint n = [UInt8.ofNat n] := Bt.vint_small h
theorem fby_part (n : Nat) (t : List UInt8) : fby (part n t) = Bt.vint (n * 8 + 2) ++ (Bt.vint t.length ++ t) := by
  unfold fby vby part
  simp only
  rw [if_neg (by decide), if_neg (by decide), if_pos trivial]
theorem eM_one (f : Fd) : eM [f] = fby f := by simp [eM]
theorem e_lb : eLb ⟨⟨#[97]⟩, ⟨#[98]⟩⟩ = [10, 1, 97, 18, 1, 98] := by
  unfold eLb fLb
  rw [if_neg (by decide), if_neg (by decide), eM_app, eM_one, eM_one, fby_part, fby_part]
  show (Bt.vint 10 ++ (Bt.vint 1 ++ [97])) ++ (Bt.vint 18 ++ (Bt.vint 1 ++ [98])) = _
  rw [vint8 (by decide), vint8 (by decide), vint8 (by decide)]
  decide
theorem e_sm : eSm ⟨2, 1⟩ = [9, 1, 0, 0, 0, 0, 0, 0, 0, 16, 2] := by
  unfold eSm fSm
  rw [if_neg (by decide), if_neg (by decide), eM_app, eM_one, eM_one]
  show (Bt.vint 9 ++ Bt.fx 8 1) ++ (Bt.vint 16 ++ Bt.vint (tn 2)) = _
  rw [show tn 2 = 2 by decide, vint8 (by decide), vint8 (by decide), vint8 (by decide)]
  decide
theorem e_s1 : eRq [sr1] = [10, 21, 10, 6, 10, 1, 97, 18, 1, 98, 18, 11, 9, 1, 0, 0, 0, 0, 0, 0, 0, 16, 2] := by
  unfold eRq fRq sr1
  rw [List.map_cons, List.map_nil, eM_one, fby_part]
  unfold eSr fSr
  rw [List.map_cons, List.map_nil, List.map_cons, List.map_nil, e_lb, e_sm, eM_app, eM_one, eM_one, fby_part, fby_part]
  show Bt.vint 10 ++ (Bt.vint ((Bt.vint 10 ++ (Bt.vint 6 ++ _)) ++ (Bt.vint 18 ++ (Bt.vint 11 ++ _))).length ++ ((Bt.vint 10 ++ (Bt.vint 6 ++ _)) ++ (Bt.vint 18 ++ (Bt.vint 11 ++ _)))) = _
  rw [show Bt.vint 10 = [UInt8.ofNat 10] from vint8 (by decide), show Bt.vint 6 = [UInt8.ofNat 6] from vint8 (by decide), show Bt.vint 18 = [UInt8.ofNat 18] from vint8 (by decide), show Bt.vint 11 = [UInt8.ofNat 11] from vint8 (by decide)]
  show _ ++ (Bt.vint 21 ++ _) = _
  rw [vint8 (by decide)]
  decide
theorem e_s0 : eRq [⟨[], []⟩] = [10, 0] := by
  unfold eRq fRq
  rw [List.map_cons, List.map_nil, eM_one, fby_part]
  show Bt.vint 10 ++ (Bt.vint 0 ++ []) = _
  rw [vint8 (by decide), vint8 (by decide)]
  decide
theorem siz1 : ∀ x ∈ [sr1], Siz x := Siz.of (fun x hx y hy => by
  obtain rfl := List.mem_singleton.1 hx
  obtain rfl := List.mem_singleton.1 hy
  exact ⟨by decide, by decide, by decide⟩) (by rw [e_s1]; decide)
theorem siz0 : ∀ x ∈ [(⟨[], []⟩ : Sr)], Siz x := Siz.of (fun x hx y hy => by
  obtain rfl := List.mem_singleton.1 hx
  cases hy) (by rw [e_s0]; decide)
theorem d_s1 : dec [10, 21, 10, 6, 10, 1, 97, 18, 1, 98, 18, 11, 9, 1, 0, 0, 0, 0, 0, 0, 0, 16, 2] = ([sr1], 0) := by
  rw [← e_s1]; exact dec_of (rRq_e (Siz.rok siz1))
theorem d_s0 : dec [10, 0] = ([⟨[], []⟩], 0) := by
  rw [← e_s0]; exact dec_of (rRq_e (Siz.rok siz0))
theorem d_short : dec [10, 1] = ([], 8) := by
  have h : msg [10, 1] [] = ([], 8) := msg_no (by decide) (by kernel_rfl) (by decide) _
  unfold dec rRq
  rw [h]
  rfl
theorem d_form : dec [8, 1] = ([], 4) := by
  have h : msg [8, 1] [] = ([⟨1, 0, 1, []⟩], 0) := by
    rw [msg_ok (by decide) (by kernel_rfl : rdf [8, 1] = (⟨1, 0, 1, []⟩, 2, 0)) (by decide)]
    exact msg_nil _
  unfold dec rRq
  rw [h]
  rfl
theorem d_none : dec [16, 1] = ([], 0) := by
  have h : msg [16, 1] [] = ([⟨2, 0, 1, []⟩], 0) := by
    rw [msg_ok (by decide) (by kernel_rfl : rdf [16, 1] = (⟨2, 0, 1, []⟩, 2, 0)) (by decide)]
    exact msg_nil _
  unfold dec rRq
  rw [h]
  rfl
/-- One series in a new block. -/
theorem sat_one {W : World} {x : Sr} {a b : Value} (h1 : LAt W a x.ls) (h2 : MAt W b x.ss) : SAt (W.alloc (.cells #[a, b] 29)) (.slice (some ⟨W.heap.size, 0, none⟩) 1 1) [⟨x, a, b⟩] := by
  have hb : Below W.heap.size W (W.alloc (.cells #[a, b] 29)) := (Below.refl _ _).alloc (Nat.le_refl _) _
  refine ⟨(O2.one 29 W 0 (Nat.zero_le _) a b).at, fun z hz => ?_, fun z hz => ?_⟩
  · obtain rfl := List.mem_singleton.1 hz; exact At2.below h1 hb (Nat.le_refl _)
  · obtain rfl := List.mem_singleton.1 hz; exact At2.below h2 hb (Nat.le_refl _)
theorem fin1 (a b : Value) : Fin0 [⟨sr1, a, b⟩] := fin_of (zs := [⟨sr1, a, b⟩]) siz1 (by show (eRq [sr1]).length ≤ _; rw [e_s1]; decide)
theorem fin00 (a b : Value) : Fin0 [⟨⟨[], []⟩, a, b⟩] := fin_of (zs := [⟨⟨[], []⟩, a, b⟩]) siz0 (by show (eRq [⟨[], []⟩]).length ≤ _; rw [e_s0]; decide)
theorem fin_nil : Fin0 [] := ⟨Nat.zero_le _, fun z hz => (by cases hz)⟩
theorem enc1_any (a b : Value) (V : Value) (W : World) (h : SAt W V [⟨sr1, a, b⟩]) : Calls Tryz.prog 8 #[V] W (Ret W (.string (bs [10, 21, 10, 6, 10, 1, 97, 18, 1, 98, 18, 11, 9, 1, 0, 0, 0, 0, 0, 0, 0, 16, 2]))) := by
  have := encode_any [⟨sr1, a, b⟩] (fun z hz => by obtain rfl := List.mem_singleton.1 hz; exact (siz1 sr1 (by simp)).ss) (by show (eRq [sr1]).length ≤ _; rw [e_s1]; decide) V W h
  rw [show ([(⟨sr1, a, b⟩ : Zr)].map Zr.x) = [sr1] from rfl, e_s1] at this
  exact this
theorem enc0_any (a b : Value) (V : Value) (W : World) (h : SAt W V [⟨⟨[], []⟩, a, b⟩]) : Calls Tryz.prog 8 #[V] W (Ret W (.string (bs [10, 0]))) := by
  have := encode_any [⟨⟨[], []⟩, a, b⟩] (fun z hz => by obtain rfl := List.mem_singleton.1 hz; intro y hy; cases hy) (by show (eRq [⟨[], []⟩]).length ≤ _; rw [e_s0]; decide) V W h
  rw [show ([(⟨⟨[], []⟩, a, b⟩ : Zr)].map Zr.x) = [⟨[], []⟩] from rfl, e_s0] at this
  exact this
theorem encn_any (W : World) : Calls Tryz.prog 8 #[.slice none 0 0] W (Ret W (.string (bs []))) :=
  encode_any [] (fun z hz => by cases hz) (by decide) _ W (SAt.nil W)
theorem told1_any (s : ByteArray) (hs : s.size ≤ 1000000) (ys : List Zr) (hy : Fin0 ys) (hd : dec s.data.toList = (ys.map Zr.x, 0)) (v : Value) (w : World) (hv : SAt w v ys) : Calls Tryz.prog 13 #[.string s, v] w (Ret w (.bool true)) := by
  have := told_any s hs ys hy v w hv
  have hh : ∀ (i : Decidable (dec s.data.toList = (ys.map Zr.x, 0))), @decide _ i = true := fun i => @decide_eq_true _ i hd
  rw [hh] at this
  exact this
theorem lat_nil (W : World) : LAt W (.slice none 0 0) [] := At2.nil W
theorem mat_nil (W : World) : MAt W (.slice none 0 0) [] := At2.nil W
set_option maxHeartbeats 4000000 in
theorem awake_any (w : World) : Calls Tryz.prog 5 #[] w (Ret w (.bool true)) := by
  have b1 : ((bs [10, 21, 10, 6, 10, 1, 97, 18, 1, 98, 18, 11, 9, 1, 0, 0, 0, 0, 0, 0, 0, 16, 2]).toList == (ByteArray.mk #[10, 21, 10, 6, 10, 1, 97, 18, 1, 98, 18, 11, 9, 1, 0, 0, 0, 0, 0, 0, 0, 16, 2]).toList) = true := by rw [beq_iff_eq]; rfl
  have c1 : ((bs [10, 21, 10, 6, 10, 1, 97, 18, 1, 98, 18, 11, 9, 1, 0, 0, 0, 0, 0, 0, 0, 16, 2]).toList == [10, 21, 10, 6, 10, 1, 97, 18, 1, 98, 18, 11, 9, 1, 0, 0, 0, 0, 0, 0, 0, 16, 2]) = true := by rw [beq_iff_eq, bs_toList]
  have b2 : ((bs [10, 0]).toList == (ByteArray.mk #[10, 0]).toList) = true := by rw [beq_iff_eq]; rfl
  have c2 : ((bs [10, 0]).toList == [10, 0]) = true := by rw [beq_iff_eq, bs_toList]
  have b3 : ((bs []).toList == (ByteArray.mk #[]).toList) = true := by rw [beq_iff_eq]; rfl
  have c3 : ((bs []).toList == []) = true := by rw [beq_iff_eq, bs_toList]
  have E1 := Lib.hid (fun a b V W h => enc1_any a b V W h)
  have E0 := Lib.hid (fun a b V W h => enc0_any a b V W h)
  have EN := Lib.hid encn_any
  have T1 := Lib.hid (fun a b V W h => told1_any ⟨#[10, 21, 10, 6, 10, 1, 97, 18, 1, 98, 18, 11, 9, 1, 0, 0, 0, 0, 0, 0, 0, 16, 2]⟩ (by decide) [⟨sr1, a, b⟩] (fin1 a b) d_s1 V W h)
  have T0 := Lib.hid (fun a b V W h => told1_any ⟨#[10, 0]⟩ (by decide) [⟨⟨[], []⟩, a, b⟩] (fin00 a b) d_s0 V W h)
  have TN := Lib.hid (fun W => told1_any ⟨#[16, 1]⟩ (by decide) [] fin_nil d_none (.slice none 0 0) W (SAt.nil W))
  have R1 := Lib.hid (fun W => refused_any ⟨#[10, 1]⟩ (by decide) 8 d_short W)
  have R2 := Lib.hid (fun W => refused_any ⟨#[8, 1]⟩ (by decide) 4 d_form W)
  go_enter Tryz.func5, Tryz.ntmps5
  go_wp2_with fail
  refine (one_any _).mono ?_
  rintro e w1 ⟨a, b, rfl, hl, hm, hb1⟩
  have HS1 := Lib.hid (sat_one hl hm)
  obtain ⟨a1, a2, ha⟩ := At2.slice hl
  obtain ⟨m1, m2, hm2⟩ := At2.slice hm
  subst ha hm2
  dsimp only [sr1, List.map_cons, List.map_nil, List.length_cons, List.length_nil] at HS1 ⊢
  have HB1 := Lib.hid (hb1.alloc hb1.size (.cells #[.slice a1 1 a2, .slice m1 1 m2] 29))
  clear hl hm hb1
  go_wp2_with fail
  refine (E1.out _ _ _ _ HS1.out).mono ?_
  rintro e w2 ⟨rfl, hb2⟩
  have HB2 := Lib.hid (below_trans' HB1.out hb2)
  clear hb2
  go_wp2_with fail
  refine (one_any _).mono ?_
  rintro e w3 ⟨a, b, rfl, hl, hm, hb3⟩
  have HS3 := Lib.hid (sat_one hl hm)
  obtain ⟨d1, d2, ha⟩ := At2.slice hl
  obtain ⟨n1, n2, hm2⟩ := At2.slice hm
  subst ha hm2
  dsimp only [sr1, List.map_cons, List.map_nil, List.length_cons, List.length_nil] at HS3 ⊢
  have HB3 := Lib.hid ((below_trans' HB2.out hb3).alloc (Nat.le_trans HB2.out.size hb3.size) (.cells #[.slice d1 1 d2, .slice n1 1 n2] 29))
  clear hl hm hb3
  go_wp2_with fail
  refine (T1.out _ _ _ _ HS3.out).mono ?_
  rintro e w4 ⟨rfl, hb4⟩
  have HB4 := Lib.hid (below_trans' HB3.out hb4)
  have HS4 := Lib.hid (sat_one (x := ⟨[], []⟩) (lat_nil w4) (mat_nil w4))
  have HB4' := Lib.hid (HB4.out.alloc HB4.out.size (.cells #[.slice none 0 0, .slice none 0 0] 29))
  clear hb4
  go_wp2_with fail
  refine (E0.out _ _ _ _ HS4.out).mono ?_
  rintro e w5 ⟨rfl, hb5⟩
  have HB5 := Lib.hid (below_trans' HB4'.out hb5)
  have HS5 := Lib.hid (sat_one (x := ⟨[], []⟩) (lat_nil w5) (mat_nil w5))
  have HB5' := Lib.hid (HB5.out.alloc HB5.out.size (.cells #[.slice none 0 0, .slice none 0 0] 29))
  clear hb5
  go_wp2_with fail
  refine (T0.out _ _ _ _ HS5.out).mono ?_
  rintro e w6 ⟨rfl, hb6⟩
  have HB6 := Lib.hid (below_trans' HB5'.out hb6)
  clear hb6
  go_wp2_with fail
  refine (EN.out _).mono ?_
  rintro e w7 ⟨rfl, hb7⟩
  have HB7 := Lib.hid (below_trans' HB6.out hb7)
  clear hb7
  go_wp2_with fail
  refine (R1.out _).mono ?_
  rintro e w8 ⟨rfl, hb8⟩
  have HB8 := Lib.hid (below_trans' HB7.out hb8)
  clear hb8
  go_wp2_with fail
  refine (R2.out _).mono ?_
  rintro e w9 ⟨rfl, hb9⟩
  have HB9 := Lib.hid (below_trans' HB8.out hb9)
  clear hb9
  go_wp2_with fail
  refine (TN.out _).mono ?_
  rintro e w10 ⟨rfl, hb10⟩
  have HB10 := Lib.hid (below_trans' HB9.out hb10)
  clear hb10
  go_wp2
  go_ret
  exact ⟨rfl, HB10.out⟩
end Go.Proofs.YtioflicmpnkfeaaGreat
