/- The contracts of one, refused, awake. -/
import Derived.Test.YtbckkfoenembmaaWt
import Derived.Test.YtbckkfoenembmaaRp
import Derived.Test.YtbckkfoenembmaaPl
import Derived.Test.YtbckkfoenembmaaSm
namespace Go.Proofs.Ytbckkfoenembmaa
open Go.RowKit
/-- One field in a new block. -/
theorem gat_one (W : World) (f : Gf) : GAt (W.alloc (.cells #[.int .i64 f.n, f.v.v] 35)) (.slice (some ⟨W.heap.size, 0, none⟩) 1 1) [f] := by
  refine .inr ⟨W.heap.size, 0, 1, rfl, fun j hj => ?_⟩
  have : j = 0 := by simpa using hj
  subst this
  refine ⟨?_, ?_⟩ <;> (rw [World.cell?_alloc_mark]; rfl)
theorem fat_one (W : World) (n w v : Int) (t : ByteArray) (f : Ff) (h : fv f = .agg #[.int .i64 n, .int .u8 w, .int .u64 v, .string t]) : FAt (W.alloc (.cells #[.int .i64 n, .int .u8 w, .int .u64 v, .string t] 47)) (.slice (some ⟨W.heap.size, 0, none⟩) 1 1) [f] := by
  unfold fv at h
  simp at h
  obtain ⟨h1, h2, h3, h4⟩ := h
  refine .inr ⟨W.heap.size, 0, 1, rfl, fun j hj => ?_⟩
  have : j = 0 := by simpa using hj
  subst this
  subst h1 h2 h3 h4
  refine ⟨?_, ?_, ?_, ?_⟩ <;> (rw [World.cell?_alloc_mark]; rfl)
set_option maxRecDepth 100000 in
set_option maxHeartbeats 1000000 in
theorem one_any (n : Int) (x : Vl) (hf : Gf.ok ⟨n, x⟩) (hx : x.by.length ≤ 1000000) (w : World) :
    Calls Try.prog 44 #[.int .i64 n, x.v] w (Ret w (.string (bs (wrk [⟨n, x⟩] []).1))) := by
  have HW := Lib.hid (fun v W (hW : GAt W v [⟨n, x⟩]) => write_any [⟨n, x⟩] (by simp) (fun f hf' => by rcases List.mem_singleton.1 hf' with rfl; exact hf) (fun f hf' => by rcases List.mem_singleton.1 hf' with rfl; exact hx) v W hW)
  have HG := Lib.hid (gat_one w ⟨n, x⟩)
  have HB := Lib.hid ((Below.refl w.heap.size w).alloc (Nat.le_refl _) (.cells #[.int .i64 n, x.v] 35))
  clear hf hx
  generalize wrk [⟨n, x⟩] [] = R at *
  cases x <;>
  · dsimp only [Vl.v] at HG HB ⊢
    go_enter Try.func44, Try.ntmps44
    go_wp2_with fail
    refine (HW.out _ _ HG.out).mono ?_
    rintro e w1 ⟨rfl, hb1⟩
    have HB1 := Lib.hid (HB.out.trans (hb1.mono HB.out.size))
    clear hb1
    go_wp2
    go_ret
    exact ⟨rfl, HB1.out⟩
set_option maxRecDepth 100000 in
set_option maxHeartbeats 1000000 in
theorem refused_any (s : ByteArray) (hs : s.size ≤ 1000000) (K : Nat) (h : msg s.data.toList [] = ([], K)) (w : World) :
    Calls Try.prog 45 #[.string s, .int .i64 (K : Int)] w (Ret w (.bool true)) := by
  have HR := Lib.hid (fun W => pread_any s hs W)
  rw [h] at HR
  clear h
  have hk : ((K : Int) == (K : Int)) = true := by simp
  go_enter Try.func45, Try.ntmps45
  go_wp2_with fail
  refine (HR.out _).mono ?_
  rintro e w1 ⟨v, rfl, ho, hb1⟩
  obtain ⟨a, c, hv⟩ := ho.shape
  subst hv
  have HB1 := Lib.hid hb1
  clear hb1 ho
  go_wp2
  go_ret
  exact ⟨rfl, HB1.out⟩
theorem vint8 {n : Nat} (h : n < 128) : Bt.vint n = [UInt8.ofNat n] := Bt.vint_small h
theorem wk1 : (wrk [⟨1, .va 300⟩] []).1 = [8, 172, 2] := by
  rw [wrk, if_pos (by decide), wrk]
  show Bt.vint 8 ++ Bt.vint 300 = _
  rw [vint8 (by decide), Bt.vint_big (by decide), vint8 (by decide)]
  decide
theorem wk2 : (wrk [⟨2, .tx ⟨#[97, 98]⟩⟩] []).1 = [18, 2, 97, 98] := by
  rw [wrk, if_pos (by decide), wrk]
  show Bt.vint 18 ++ (Bt.vint 2 ++ [97, 98]) = _
  rw [vint8 (by decide), vint8 (by decide)]
  decide
theorem wk3 : (wrk [⟨3, .fo 1⟩] []).1 = [29, 1, 0, 0, 0] := by
  rw [wrk, if_pos (by decide), wrk]
  show Bt.vint 29 ++ Bt.fx 4 1 = _
  rw [vint8 (by decide)]
  decide
theorem mg0 : msg [136, 0, 172, 130, 0] [] = ([⟨1, 0, 300, []⟩], 0) := by
  rw [msg_ok (by decide) (by kernel_rfl : rdf [136, 0, 172, 130, 0] = (⟨1, 0, 300, []⟩, 5, 0)) (by decide)]
  exact msg_nil _
theorem mg1 : msg [8] [] = ([], 8) := msg_no (by decide) (by kernel_rfl) (by decide) _
theorem mg2 : msg [3] [] = ([], 4) := msg_no (by decide) (by kernel_rfl) (by decide) _
theorem mg3 : msg [0, 0] [] = ([], 4) := msg_no (by decide) (by kernel_rfl) (by decide) _
theorem mg4 : msg [18, 3, 97] [] = ([], 8) := msg_no (by decide) (by kernel_rfl) (by decide) _
set_option maxRecDepth 100000 in
set_option maxHeartbeats 2000000 in
theorem awake_any (w : World) : Calls Try.prog 12 #[] w (Ret w (.bool true)) := by
  have C0 := Lib.hid (fun W => pread_any ⟨#[136, 0, 172, 130, 0]⟩ (by decide) W)
  rw [show (ByteArray.mk #[136, 0, 172, 130, 0]).data.toList = [136, 0, 172, 130, 0] from rfl, mg0] at C0
  have D1 := Lib.hid (fun W => one_any 1 (.va 300) ⟨by decide, by decide, by show 300 < 18446744073709551616; omega⟩ (by show (Bt.vint 300).length ≤ 1000000; rw [Bt.vint_length]; have := Bt.vlen_u64 (n := 300) (by omega); omega) W)
  have D2 := Lib.hid (fun W => one_any 2 (.tx ⟨#[97, 98]⟩) ⟨by decide, by decide, by show (2 : Nat) ≤ _; omega⟩ (by show (Bt.vint 2 ++ [97, 98]).length ≤ 1000000; rw [vint8 (by decide)]; decide) W)
  have D3 := Lib.hid (fun W => one_any 3 (.fo 1) ⟨by decide, by decide, by show 1 < 4294967296; omega⟩ (by show (Bt.fx 4 1).length ≤ 1000000; decide) W)
  rw [wk1] at D1
  rw [wk2] at D2
  rw [wk3] at D3
  have E1 := Lib.hid (fun W => refused_any ⟨#[8]⟩ (by decide) 8 mg1 W)
  have E2 := Lib.hid (fun W => refused_any ⟨#[3]⟩ (by decide) 4 mg2 W)
  have E3 := Lib.hid (fun W => refused_any ⟨#[0, 0]⟩ (by decide) 4 mg3 W)
  have E4 := Lib.hid (fun W => refused_any ⟨#[18, 3, 97]⟩ (by decide) 8 mg4 W)
  have F1 := Lib.hid (fun v W (hW : GAt W v [gfd ⟨1, 0, 300, []⟩]) => plain_any [gfd ⟨1, 0, 300, []⟩] (by decide) (fun f hf => by rcases List.mem_singleton.1 hf with rfl; show 300 < 18446744073709551616; omega) v W hW)
  have F2 := Lib.hid (fun v u W h1 h2 => same_any [⟨1, 0, 300, ⟨#[]⟩⟩] (by decide) v u W h1 h2)
  have b1 : ((bs [8, 172, 2]).toList == (ByteArray.mk #[8, 172, 2]).toList) = true := by rw [beq_iff_eq]; rfl
  have b2 : ((bs [18, 2, 97, 98]).toList == (ByteArray.mk #[18, 2, 97, 98]).toList) = true := by rw [beq_iff_eq]; rfl
  have b3 : ((bs [29, 1, 0, 0, 0]).toList == (ByteArray.mk #[29, 1, 0, 0, 0]).toList) = true := by rw [beq_iff_eq]; rfl
  have c1 : ((bs [8, 172, 2]).toList == [8, 172, 2]) = true := by rw [beq_iff_eq, bs_toList]
  have c2 : ((bs [18, 2, 97, 98]).toList == [18, 2, 97, 98]) = true := by rw [beq_iff_eq, bs_toList]
  have c3 : ((bs [29, 1, 0, 0, 0]).toList == [29, 1, 0, 0, 0]) = true := by rw [beq_iff_eq, bs_toList]
  dsimp only [Vl.v] at D1 D2 D3
  go_enter Try.func12, Try.ntmps12
  go_wp2_with fail
  refine (C0.out _).mono ?_
  rintro e w0 ⟨v, rfl, ho, hb0⟩
  have HG := Lib.hid (ho.at)
  obtain ⟨a, c, hv⟩ := ho.shape
  subst hv
  have HB0 := Lib.hid hb0
  clear hb0 ho
  go_wp2_with fail
  refine (D1.out _).mono ?_
  rintro e w1 ⟨rfl, hb⟩
  have HB1 := Lib.hid (below_trans' HB0.out hb)
  have HG1 := Lib.hid (HG.out.below hb (Nat.le_refl _))
  clear hb
  go_wp2_with fail
  refine (D2.out _).mono ?_
  rintro e w2 ⟨rfl, hb⟩
  have HB2 := Lib.hid (below_trans' HB1.out hb)
  have HG2 := Lib.hid (HG1.out.below hb (Nat.le_refl _))
  clear hb
  go_wp2_with fail
  refine (D3.out _).mono ?_
  rintro e w3 ⟨rfl, hb⟩
  have HB3 := Lib.hid (below_trans' HB2.out hb)
  have HG3 := Lib.hid (HG2.out.below hb (Nat.le_refl _))
  clear hb
  go_wp2_with fail
  refine (F1.out _ _ HG3.out).mono ?_
  rintro e w4 ⟨v4, rfl, ho4, hb⟩
  have HB4 := Lib.hid (below_trans' HB3.out hb)
  have HF4 := Lib.hid (ho4.at)
  clear hb ho4
  go_wp2_with fail
  refine (F2.out _ _ _ (HF4.out.below ((Below.refl w4.heap.size w4).alloc (Nat.le_refl _) _) (Nat.le_refl _)) (fat_one w4 1 0 300 ⟨#[]⟩ _ rfl)).mono ?_
  rintro e w5 ⟨rfl, hb⟩
  have HB5 := Lib.hid (below_trans' (HB4.out.alloc HB4.out.size _) hb)
  clear hb
  go_wp2_with fail
  refine (E1.out _).mono ?_
  rintro e w6 ⟨rfl, hb⟩
  have HB6 := Lib.hid (below_trans' HB5.out hb)
  clear hb
  go_wp2_with fail
  refine (E2.out _).mono ?_
  rintro e w7 ⟨rfl, hb⟩
  have HB7 := Lib.hid (below_trans' HB6.out hb)
  clear hb
  go_wp2_with fail
  refine (E3.out _).mono ?_
  rintro e w8 ⟨rfl, hb⟩
  have HB8 := Lib.hid (below_trans' HB7.out hb)
  clear hb
  go_wp2_with fail
  refine (E4.out _).mono ?_
  rintro e w9 ⟨rfl, hb⟩
  have HB9 := Lib.hid (below_trans' HB8.out hb)
  clear hb
  go_wp2
  go_ret
  exact ⟨rfl, HB9.out⟩
end Go.Proofs.Ytbckkfoenembmaa
