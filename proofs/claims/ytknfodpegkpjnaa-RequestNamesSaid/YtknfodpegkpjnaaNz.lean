/- The names' callees: Count 19, Same 21 where lengths tell; the names' series where the law builds them; what is written, told, counted of them. -/
import Derived.Test.YtknfodpegkpjnaaNx
namespace Go.Proofs.Ytknfodpegkpjnaa
open Go Go.RowKit
set_option maxRecDepth 100000
def cnL : List Sr → Nat
  | [] => 0
  | x :: r => x.ls.length + cnL r
def cnS : List Sr → Nat
  | [] => 0
  | x :: r => x.ss.length + cnS r
set_option maxHeartbeats 1000000 in
theorem count_any (zs : List Zr) (hl : zs.length ≤ 1000) (hw : ∀ z ∈ zs, z.x.ls.length ≤ 1000 ∧ z.x.ss.length ≤ 1000) (v : Value) (w : World) (hv : SAt w v zs) :
    Calls Try.prog 19 #[v] w (Ret w (.tuple #[.int .i64 (cnL (zs.map Zr.x) : Int), .int .i64 (cnS (zs.map Zr.x) : Int)])) := by
  have HV := Lib.hid hv
  have HW := Lib.hid hw
  obtain ⟨va, vc, hv2⟩ := hv.slice
  clear hv hw
  generalize hL : zs.length = L at *
  have HL := Lib.hid hL
  clear hL
  subst hv2
  obtain ⟨P, hP⟩ : ∃ P, cnL (zs.map Zr.x) = P := ⟨_, rfl⟩
  obtain ⟨Q, hQ⟩ : ∃ Q, cnS (zs.map Zr.x) = Q := ⟨_, rfl⟩
  rw [hP, hQ]
  have HP := Lib.hid hP
  have HQ := Lib.hid hQ
  clear hP hQ
  go_enter Try.func19, Try.ntmps19
  go_wp2
  go_loopw [2, 3, 8] (fun n m i wr => ∃ (k N M : Nat), n = .int .i64 (N : Int) ∧ m = .int .i64 (M : Int) ∧ i = .int .i64 (k : Int) ∧ k ≤ L ∧ N ≤ k * 1000 ∧ M ≤ k * 1000 ∧ Hid (N + cnL ((zs.drop k).map Zr.x) = P) ∧ Hid (M + cnS ((zs.drop k).map Zr.x) = Q) ∧ Hid (Below w.heap.size w wr)) (fun _ _ i _ => L - (intOf i).toNat)
  case atStart => exact ⟨0, 0, 0, rfl, rfl, rfl, by omega, by omega, by omega, Lib.hid (by rw [List.drop_zero]; have := HP.out; omega), Lib.hid (by rw [List.drop_zero]; have := HQ.out; omega), Lib.hid (Below.refl _ _)⟩
  case round =>
    obtain ⟨k, N, M, rfl, rfl, rfl, hk, hN, hM, HE, HF, HB⟩ := hrel
    obtain ⟨wo, hwo⟩ : ∃ wo, wo = wr := ⟨_, rfl⟩
    subst hwo
    by_cases hlt : k < L
    · have hkl : k < zs.length := by have := HL.out; omega
      have HV2 := Lib.hid (HV.out.below HB.out (Nat.le_refl _))
      rcases HV2.out.row with ⟨h0, _⟩ | ⟨g, o, c, hg, hcs⟩
      · have := congrArg List.length h0; rw [List.length_map, List.length_nil] at this; omega
      obtain ⟨q0, q1⟩ := hcs k (by rw [List.length_map]; exact hkl)
      rw [List.getElem_map] at q0 q1
      rw [List.length_map, HL.out] at hg
      clear hcs
      have hdr : (zs.drop k).map Zr.x = zs[k].x :: (zs.drop (k + 1)).map Zr.x := by rw [List.drop_eq_getElem_cons hkl]; rfl
      have hE := HE.out
      have hF := HF.out
      rw [hdr] at hE hF
      rw [cnL] at hE
      rw [cnS] at hF
      have hz := HW.out zs[k] (List.getElem_mem hkl)
      have hA := HV2.out.ls zs[k] (List.getElem_mem hkl)
      have hM2 := HV2.out.ss zs[k] (List.getElem_mem hkl)
      clear hdr HV2
      generalize zs[k] = Z at *
      obtain ⟨⟨ls, ss⟩, za, zb⟩ := Z
      unfold zp at q0 q1
      dsimp only at q0 q1 hE hF hz hA hM2
      obtain ⟨a1, a2, ha⟩ := At2.slice hA
      obtain ⟨m1, m2, hm⟩ := At2.slice hM2
      rw [List.length_map] at ha hm
      subst ha hm
      clear hA hM2
      cases hg
      obtain ⟨hz1, hz2⟩ := hz
      have HE2 := Lib.hid ((Nat.add_assoc _ _ _).trans hE)
      have HF2 := Lib.hid ((Nat.add_assoc _ _ _).trans hF)
      clear hE hF
      generalize ls.length = A at *
      generalize ss.length = S at *
      go_wp2
      go_roundw
      case rel => exact ⟨k + 1, N + A, M + S, by go_num, by go_num, by go_num, by omega, by omega, by omega, HE2, HF2, Lib.hid (HB.out.alloc HB.out.size _)⟩
      case measure => simp [intOf]; omega
    · obtain rfl : k = L := by omega
      have h1 : N = P := by
        have := HE.out
        rw [List.drop_of_length_le (by have := HL.out; omega), List.map_nil, cnL] at this
        omega
      have h2 : M = Q := by
        have := HF.out
        rw [List.drop_of_length_le (by have := HL.out; omega), List.map_nil, cnS] at this
        omega
      subst h1 h2
      go_wp2
      go_ret2
      exact ⟨rfl, HB.out⟩
theorem eq53_no (a b : Option Addr) (c d : Nat) (w : World) : Calls Try.prog 53 #[.slice a 1 c, .slice b 0 d] w (Ret w (.bool false)) := by
  go_enter Try.func53, Try.ntmps53
  go_wp2
  go_ret
  exact ⟨rfl, Below.refl _ _⟩
theorem same34_no (a b p q : Option Addr) (c d n m r s : Nat) (w : World) : Calls Try.prog 34 #[.agg #[.slice a 1 c, .slice p n r], .agg #[.slice b 0 d, .slice q m s]] w (Ret w (.bool false)) := by
  have HE := Lib.hid (fun W => eq53_no a b c d W)
  have HB := Lib.hid (((Below.refl w.heap.size w).alloc (Nat.le_refl _) (.cells #[.slice a 1 c, .slice p n r] 40)).alloc (by simp) (.cells #[.slice b 0 d, .slice q m s] 40))
  go_enter Try.func34, Try.ntmps34
  go_wp2_with fail
  refine (HE.out _).mono ?_
  rintro e w1 ⟨rfl, hb⟩
  have HB1 := Lib.hid (below_trans' HB.out hb)
  clear hb
  go_wp2
  go_ret
  exact ⟨rfl, HB1.out⟩
theorem eq33_len (a b : Option Addr) (c d : Nat) (w : World) : Calls Try.prog 33 #[.slice a 0 c, .slice b 1 d, .func (.func 34) #[] #[]] w (Ret w (.bool false)) := by
  go_enter Try.func33, Try.ntmps33
  go_wp2
  go_ret
  exact ⟨rfl, Below.refl _ _⟩
theorem eq33_nil (a b : Option Addr) (c d : Nat) (w : World) : Calls Try.prog 33 #[.slice a 0 c, .slice b 0 d, .func (.func 34) #[] #[]] w (Ret w (.bool true)) := by
  go_enter Try.func33, Try.ntmps33
  go_wp2
  go_loopw [17] (fun i wr => i = .int .i64 0 ∧ Hid (Below w.heap.size w wr)) (fun _ _ => 0)
  case atStart => exact ⟨rfl, Lib.hid (Below.refl _ _)⟩
  case round =>
    obtain ⟨rfl, HB⟩ := hrel
    go_wp2
    go_ret
    exact ⟨rfl, HB.out⟩
theorem eq33_one (g h : Nat) (o1 o2 : Nat) (a b p q : Option Addr) (c d n m r s k1 k2 : Nat) (w : World) (h1 : w.cell? ⟨g, o1, none⟩ = some (.slice a 1 c)) (h2 : w.cell? ⟨g, o1 + 1, none⟩ = some (.slice p n r))
    (h3 : w.cell? ⟨h, o2, none⟩ = some (.slice b 0 d)) (h4 : w.cell? ⟨h, o2 + 1, none⟩ = some (.slice q m s)) :
    Calls Try.prog 33 #[.slice (some ⟨g, o1, none⟩) 1 k1, .slice (some ⟨h, o2, none⟩) 1 k2, .func (.func 34) #[] #[]] w (Ret w (.bool false)) := by
  have HE := Lib.hid (fun W => same34_no a b p q c d n m r s W)
  have hA : Below w.heap.size w (w.alloc (.cells #[.slice a 1 c, .slice p n r] 40)) := (Below.refl _ _).alloc (Nat.le_refl _) _
  have h5 := (hA.cell (World.block_lt_of_cell? w ⟨h, o2, none⟩ h3)).trans h3
  have h6 := (hA.cell (World.block_lt_of_cell? w ⟨h, o2 + 1, none⟩ h4)).trans h4
  have HA := Lib.hid hA
  clear hA
  go_enter Try.func33, Try.ntmps33
  go_wp2
  go_loopw [17] (fun i wr => i = .int .i64 0 ∧ wr = w) (fun _ _ => 0)
  case atStart => exact ⟨rfl, rfl⟩
  case round =>
    obtain ⟨rfl, rfl⟩ := hrel
    go_wp2_with fail
    refine (HE.out _).mono ?_
    rintro e w1 ⟨rfl, hb⟩
    have HB1 := Lib.hid (below_trans' (HA.out.alloc HA.out.size (.cells #[.slice b 0 d, .slice q m s] 40)) hb)
    clear hb
    go_wp2
    go_ret
    exact ⟨rfl, HB1.out⟩
theorem rsame_len (a b : Option Addr) (c d : Nat) (w : World) : Calls Try.prog 21 #[.slice a 0 c, .slice b 1 d] w (Ret w (.bool false)) := by
  have HE := Lib.hid (fun W => eq33_len a b c d W)
  go_enter Try.func21, Try.ntmps21
  go_wp2_with fail
  refine (HE.out _).mono ?_
  rintro e w1 ⟨rfl, hb⟩
  go_wp2
  go_ret
  exact ⟨rfl, hb⟩
theorem rsame_nil (a b : Option Addr) (c d : Nat) (w : World) : Calls Try.prog 21 #[.slice a 0 c, .slice b 0 d] w (Ret w (.bool true)) := by
  have HE := Lib.hid (fun W => eq33_nil a b c d W)
  go_enter Try.func21, Try.ntmps21
  go_wp2_with fail
  refine (HE.out _).mono ?_
  rintro e w1 ⟨rfl, hb⟩
  go_wp2
  go_ret
  exact ⟨rfl, hb⟩
theorem rsame_one (g h : Nat) (o1 o2 : Nat) (a b p q : Option Addr) (c d n m r s k1 k2 : Nat) (w : World) (h1 : w.cell? ⟨g, o1, none⟩ = some (.slice a 1 c)) (h2 : w.cell? ⟨g, o1 + 1, none⟩ = some (.slice p n r))
    (h3 : w.cell? ⟨h, o2, none⟩ = some (.slice b 0 d)) (h4 : w.cell? ⟨h, o2 + 1, none⟩ = some (.slice q m s)) :
    Calls Try.prog 21 #[.slice (some ⟨g, o1, none⟩) 1 k1, .slice (some ⟨h, o2, none⟩) 1 k2] w (Ret w (.bool false)) := by
  have HE := Lib.hid (eq33_one g h o1 o2 a b p q c d n m r s k1 k2 w h1 h2 h3 h4)
  clear h1 h2 h3 h4
  go_enter Try.func21, Try.ntmps21
  go_wp2_with fail
  refine HE.out.mono ?_
  rintro e w1 ⟨rfl, hb⟩
  go_wp2
  go_ret
  exact ⟨rfl, hb⟩
theorem at2_new (W : World) (l : List Pv) (E : TypeId) : At2 (W.alloc (.cells (prs l).toArray E)) (.slice (some ⟨W.heap.size, 0, none⟩) l.length l.length) l := by
  refine .inr ⟨W.heap.size, 0, _, rfl, fun j hj => ?_⟩
  obtain ⟨c0, c1⟩ := prs_at l j hj
  have hb := heap_alloc_new W (.cells (prs l).toArray E)
  rw [Nat.zero_add, cell_of_row _ _ _ _ _ _ hb, cell_of_row _ _ _ _ _ _ hb, List.getElem?_toArray, List.getElem?_toArray]
  exact ⟨c0, c1⟩
def x1 : Sr := ⟨[⟨⟨#[]⟩, ⟨#[]⟩⟩], [⟨0, 0⟩]⟩
def x2 : Sr := ⟨[⟨⟨#[]⟩, ⟨#[118]⟩⟩, ⟨⟨#[110]⟩, ⟨#[]⟩⟩], []⟩
def x3 : Sr := ⟨[], [⟨-1, 0⟩]⟩
def x0 : Sr := ⟨[], []⟩
theorem mk1 (W : World) : SAt (((W.alloc (.cells #[.string ⟨#[]⟩, .string ⟨#[]⟩] 33)).alloc (.cells #[.int .i64 0, .int .u64 0] 37)).alloc (.cells #[.slice (some ⟨W.heap.size, 0, none⟩) 1 1, .slice (some ⟨W.heap.size + 1, 0, none⟩) 1 1] 40)) (.slice (some ⟨W.heap.size + 1 + 1, 0, none⟩) 1 1) [⟨x1, .slice (some ⟨W.heap.size, 0, none⟩) 1 1, .slice (some ⟨W.heap.size + 1, 0, none⟩) 1 1⟩] := by
  have hl : LAt (W.alloc (.cells #[.string ⟨#[]⟩, .string ⟨#[]⟩] 33)) (.slice (some ⟨W.heap.size, 0, none⟩) 1 1) x1.ls := at2_new W [(.string ⟨#[]⟩, .string ⟨#[]⟩)] 33
  have hm : MAt ((W.alloc (.cells #[.string ⟨#[]⟩, .string ⟨#[]⟩] 33)).alloc (.cells #[.int .i64 0, .int .u64 0] 37)) (.slice (some ⟨W.heap.size + 1, 0, none⟩) 1 1) x1.ss := by
    have := at2_new (W.alloc (.cells #[.string ⟨#[]⟩, .string ⟨#[]⟩] 33)) [(.int .i64 0, .int .u64 0)] 37
    rw [World.size_alloc] at this
    exact this
  have h := sat_one (x := x1) (At2.below hl ((Below.refl _ _).alloc (Nat.le_refl _) _) (Nat.le_refl _)) hm
  rw [World.size_alloc, World.size_alloc] at h
  exact h
theorem mk2 (W : World) : SAt ((W.alloc (.cells #[.string ⟨#[]⟩, .string ⟨#[118]⟩, .string ⟨#[110]⟩, .string ⟨#[]⟩] 33)).alloc (.cells #[.slice (some ⟨W.heap.size, 0, none⟩) 2 2, .slice none 0 0] 40)) (.slice (some ⟨W.heap.size + 1, 0, none⟩) 1 1) [⟨x2, .slice (some ⟨W.heap.size, 0, none⟩) 2 2, .slice none 0 0⟩] := by
  have hl : LAt (W.alloc (.cells #[.string ⟨#[]⟩, .string ⟨#[118]⟩, .string ⟨#[110]⟩, .string ⟨#[]⟩] 33)) (.slice (some ⟨W.heap.size, 0, none⟩) 2 2) x2.ls := at2_new W [(.string ⟨#[]⟩, .string ⟨#[118]⟩), (.string ⟨#[110]⟩, .string ⟨#[]⟩)] 33
  have h := sat_one (x := x2) hl (mat_nil _)
  rw [World.size_alloc] at h
  exact h
theorem mk3 (W : World) : SAt ((W.alloc (.cells #[.int .i64 (-1), .int .u64 0] 37)).alloc (.cells #[.slice none 0 0, .slice (some ⟨W.heap.size, 0, none⟩) 1 1] 40)) (.slice (some ⟨W.heap.size + 1, 0, none⟩) 1 1) [⟨x3, .slice none 0 0, .slice (some ⟨W.heap.size, 0, none⟩) 1 1⟩] := by
  have hm : MAt (W.alloc (.cells #[.int .i64 (-1), .int .u64 0] 37)) (.slice (some ⟨W.heap.size, 0, none⟩) 1 1) x3.ss := at2_new W [(.int .i64 (-1), .int .u64 0)] 37
  have h := sat_one (x := x3) (lat_nil _) hm
  rw [World.size_alloc] at h
  exact h
theorem mk4 (W : World) : SAt (W.alloc (.cells #[.slice none 0 0, .slice none 0 0, .slice none 0 0, .slice none 0 0] 40)) (.slice (some ⟨W.heap.size, 0, none⟩) 2 2) [⟨x0, .slice none 0 0, .slice none 0 0⟩, ⟨x0, .slice none 0 0, .slice none 0 0⟩] := by
  refine ⟨at2_new W [(.slice none 0 0, .slice none 0 0), (.slice none 0 0, .slice none 0 0)] 40, fun z hz => ?_, fun z hz => ?_⟩ <;> (simp only [List.mem_cons, List.not_mem_nil, or_false, or_self] at hz; subst hz; exact At2.nil _)
theorem mk5 (W : World) (a b c d : Value) (h1 : LAt W a sr1.ls) (h2 : MAt W b sr1.ss) (h3 : LAt W c sr1.ls) (h4 : MAt W d sr1.ss) : SAt (W.alloc (.cells #[a, b, .slice none 0 0, .slice none 0 0, c, d] 40)) (.slice (some ⟨W.heap.size, 0, none⟩) 3 3) [⟨sr1, a, b⟩, ⟨x0, .slice none 0 0, .slice none 0 0⟩, ⟨sr1, c, d⟩] := by
  have hb : Below W.heap.size W (W.alloc (.cells #[a, b, .slice none 0 0, .slice none 0 0, c, d] 40)) := (Below.refl _ _).alloc (Nat.le_refl _) _
  refine ⟨at2_new W [(a, b), (.slice none 0 0, .slice none 0 0), (c, d)] 40, fun z hz => ?_, fun z hz => ?_⟩
  · simp only [List.mem_cons, List.not_mem_nil, or_false] at hz
    rcases hz with rfl | rfl | rfl
    · exact At2.below h1 hb (Nat.le_refl _)
    · exact At2.nil _
    · exact At2.below h3 hb (Nat.le_refl _)
  · simp only [List.mem_cons, List.not_mem_nil, or_false] at hz
    rcases hz with rfl | rfl | rfl
    · exact At2.below h2 hb (Nat.le_refl _)
    · exact At2.nil _
    · exact At2.below h4 hb (Nat.le_refl _)
theorem n_w4 : eRq [x0, x0] = [10, 0, 10, 0] := by rw [eRq_F]; kernel_rfl
theorem s1 : ∀ y ∈ x1.ss, y.ok := fun y hy => by obtain rfl := List.mem_singleton.1 hy; exact ⟨by decide, by decide, by decide⟩
theorem s2 : ∀ y ∈ x2.ss, y.ok := fun y hy => by cases hy
theorem s3 : ∀ y ∈ x3.ss, y.ok := fun y hy => by obtain rfl := List.mem_singleton.1 hy; exact ⟨by decide, by decide, by decide⟩
theorem wr1 (a b V : Value) (W : World) (h : SAt W V [⟨x1, a, b⟩]) : Calls Try.prog 16 #[V] W (Ret W (.string (bs [10, 4, 10, 0, 18, 0]))) := by
  have := encode_any [⟨x1, a, b⟩] (fun z hz => by obtain rfl := List.mem_singleton.1 hz; exact s1) (by show (eRq [x1]).length ≤ _; rw [show eRq [x1] = _ from n_w1]; decide) V W h
  rw [show ([(⟨x1, a, b⟩ : Zr)].map Zr.x) = [x1] from rfl, show eRq [x1] = _ from n_w1] at this
  exact this
theorem wr2 (a b V : Value) (W : World) (h : SAt W V [⟨x2, a, b⟩]) : Calls Try.prog 16 #[V] W (Ret W (.string (bs [10, 10, 10, 3, 18, 1, 118, 10, 3, 10, 1, 110]))) := by
  have := encode_any [⟨x2, a, b⟩] (fun z hz => by obtain rfl := List.mem_singleton.1 hz; exact s2) (by show (eRq [x2]).length ≤ _; rw [show eRq [x2] = _ from n_w2]; decide) V W h
  rw [show ([(⟨x2, a, b⟩ : Zr)].map Zr.x) = [x2] from rfl, show eRq [x2] = _ from n_w2] at this
  exact this
theorem wr3 (a b V : Value) (W : World) (h : SAt W V [⟨x3, a, b⟩]) : Calls Try.prog 16 #[V] W (Ret W (.string (bs [10, 13, 18, 11, 16, 255, 255, 255, 255, 255, 255, 255, 255, 255, 1]))) := by
  have := encode_any [⟨x3, a, b⟩] (fun z hz => by obtain rfl := List.mem_singleton.1 hz; exact s3) (by show (eRq [x3]).length ≤ _; rw [show eRq [x3] = _ from n_w3]; decide) V W h
  rw [show ([(⟨x3, a, b⟩ : Zr)].map Zr.x) = [x3] from rfl, show eRq [x3] = _ from n_w3] at this
  exact this
theorem td3 (a b V : Value) (W : World) (h : SAt W V [⟨x3, a, b⟩]) : Calls Try.prog 17 #[.string ⟨#[10, 13, 18, 11, 16, 255, 255, 255, 255, 255, 255, 255, 255, 255, 1]⟩, V] W (Ret W (.bool true)) :=
  told1_any _ (by decide) [⟨x3, a, b⟩] (fin_of (zs := [⟨x3, a, b⟩]) (Siz.of (fun x hx => by obtain rfl := List.mem_singleton.1 hx; exact s3) (by show (eRq [x3]).length ≤ _; rw [show eRq [x3] = _ from n_w3]; decide)) (by show (eRq [x3]).length ≤ _; rw [show eRq [x3] = _ from n_w3]; decide)) n_t1 V W h
theorem td1 (a b V : Value) (W : World) (h : SAt W V [⟨x1, a, b⟩]) : Calls Try.prog 17 #[.string ⟨#[10, 4, 18, 0, 10, 0]⟩, V] W (Ret W (.bool true)) :=
  told1_any _ (by decide) [⟨x1, a, b⟩] (fin_of (zs := [⟨x1, a, b⟩]) (Siz.of (fun x hx => by obtain rfl := List.mem_singleton.1 hx; exact s1) (by show (eRq [x1]).length ≤ _; rw [show eRq [x1] = _ from n_w1]; decide)) (by show (eRq [x1]).length ≤ _; rw [show eRq [x1] = _ from n_w1]; decide)) n_t2 V W h
theorem td4 (a b c d V : Value) (W : World) (h : SAt W V [⟨x0, a, b⟩, ⟨x0, c, d⟩]) : Calls Try.prog 17 #[.string ⟨#[10, 2, 24, 5, 10, 0]⟩, V] W (Ret W (.bool true)) :=
  told1_any _ (by decide) [⟨x0, a, b⟩, ⟨x0, c, d⟩] (fin_of (zs := [⟨x0, a, b⟩, ⟨x0, c, d⟩]) (Siz.of (l := [x0, x0]) (fun x hx => by simp only [List.mem_cons, List.not_mem_nil, or_false, or_self] at hx; subst hx; intro y hy; cases hy) (by rw [n_w4]; decide)) (by show (eRq [x0, x0]).length ≤ _; rw [n_w4]; decide)) n_t3 V W h
theorem ct5 (a b c d V : Value) (W : World) (h : SAt W V [⟨sr1, a, b⟩, ⟨x0, .slice none 0 0, .slice none 0 0⟩, ⟨sr1, c, d⟩]) : Calls Try.prog 19 #[V] W (Ret W (.tuple #[.int .i64 2, .int .i64 2])) :=
  count_any [⟨sr1, a, b⟩, ⟨x0, .slice none 0 0, .slice none 0 0⟩, ⟨sr1, c, d⟩] (show 3 ≤ 1000 by decide) (fun z hz => by
    simp only [List.mem_cons, List.not_mem_nil, or_false] at hz
    rcases hz with rfl | rfl | rfl
    · exact ⟨show sr1.ls.length ≤ 1000 by decide, show sr1.ss.length ≤ 1000 by decide⟩
    · exact ⟨show x0.ls.length ≤ 1000 by decide, show x0.ss.length ≤ 1000 by decide⟩
    · exact ⟨show sr1.ls.length ≤ 1000 by decide, show sr1.ss.length ≤ 1000 by decide⟩) V W h
theorem ea_any (s : ByteArray) (hs : s.size ≤ 1000000) (M : Nat) (hM : M ≤ 1000) (xs : List Sr) (K : Nat) (he : eat M (tS s.data.toList) [] = (xs, K)) (w : World) : Calls Try.prog 13 #[.string s, .int .i64 (M : Int)] w fun e w' => ∃ a c, e = .returned (.tuple #[.slice a xs.length c, .int .i64 (K : Int)]) ∧ Below w.heap.size w w' := by
  have h := eachl_any s hs M (by omega) w
  rw [he] at h
  refine h.mono ?_
  rintro e w' ⟨v, zs, rfl, ho, hx, hb⟩
  obtain ⟨a, c, hv⟩ := ho.at.slice
  have hx' : zs.map Zr.x = xs := hx
  have hl : zs.length = xs.length := by rw [← hx', List.length_map]
  rw [hl] at hv
  subst hv
  exact ⟨a, c, rfl, hb⟩
theorem al1 {m : Nat} {w W : World} {a : Obj} (h : Below m w W) (hm : m ≤ W.heap.size) : Below m w (W.alloc a) := h.alloc hm _
theorem al2 {m : Nat} {w W : World} {a b : Obj} (h : Below m w W) (hm : m ≤ W.heap.size) : Below m w ((W.alloc a).alloc b) := (h.alloc hm _).alloc (by rw [World.size_alloc]; omega) _
theorem al3 {m : Nat} {w W : World} {a b c : Obj} (h : Below m w W) (hm : m ≤ W.heap.size) : Below m w (((W.alloc a).alloc b).alloc c) := (al2 h hm).alloc (by rw [World.size_alloc, World.size_alloc]; omega) _
end Go.Proofs.Ytknfodpegkpjnaa
