/- Other fields wherever they may stand: plainly; the contracts of 'with' and 'mixed'. -/
import Derived.Test.YtakdplfffkadpaaTx
import Derived.Test.YtakdplfffkadpaaLg
import Derived.Deep.AppendLies
import Derived.Deep.RegionHeld3
namespace Go.Proofs.Ytakdplfffkadpaa
open Go Go.RowKit
set_option maxRecDepth 100000
def oFd (o : Ff) : Fd := ⟨o.n.toNat, o.w, if o.w = 0 ∨ o.w = 1 then o.v else if o.w = 5 then o.v % 4294967296 else 0, if o.w = 2 then o.t.data.toList else []⟩
/-- Another field. -/
structure Ot (o : Ff) : Prop where
  w : Fw o
  n : 3 ≤ o.n
  t : o.t.size ≤ 60
theorem of_mod (a b : Nat) (h : a % 256 = b % 256) : UInt8.ofNat a = UInt8.ofNat b := by
  apply UInt8.toNat_inj.1
  simpa using h
theorem fx4_mod (n : Nat) : Bt.fx 4 n = Bt.fx 4 (n % 4294967296) := by
  simp only [Bt.fx]
  rw [of_mod n (n % 4294967296) (by omega), of_mod (n / 256) (n % 4294967296 / 256) (by omega), of_mod (n / 256 / 256) (n % 4294967296 / 256 / 256) (by omega), of_mod (n / 256 / 256 / 256) (n % 4294967296 / 256 / 256 / 256) (by omega)]
theorem by_fd {o : Ff} (h : Fw o) : o.by = fby (oFd o) := by
  obtain ⟨h1, h2⟩ := Ff.may_iff.1 h.may
  obtain ⟨n, w, v, t⟩ := o
  unfold Ff.by Ff.vb fby vby oFd
  dsimp only at *
  rcases h2 with rfl | rfl | rfl | rfl
  · rfl
  · rfl
  · rw [if_neg (by decide), if_neg (by decide), if_pos rfl, if_neg (by decide), if_neg (by decide), if_pos rfl, if_pos rfl]
    simp
  · rw [if_neg (by decide), if_neg (by decide), if_neg (by decide), if_neg (by decide), if_neg (by decide), if_neg (by decide), if_neg (by decide), if_pos rfl, fx4_mod]
theorem oFd_ok {o : Ff} (h : Fw o) : (oFd o).ok := by
  obtain ⟨h1, h2⟩ := Ff.may_iff.1 h.may
  have hv := h.ok.v
  have ht := h.t
  obtain ⟨n, w, v, t⟩ := o
  unfold oFd
  dsimp only at *
  refine ⟨?_, fun e => ?_, fun e => ?_, fun e => ?_, fun e => ?_⟩
  · unfold mayk; simp; omega
  · dsimp only at e ⊢; rw [if_pos e]; exact hv
  · dsimp only at e ⊢; rw [if_neg (by omega), if_pos e]; omega
  · dsimp only at e ⊢; rw [if_neg (by omega), if_neg (by omega), if_pos e]; refine ⟨rfl, ?_⟩; simp; omega
  · dsimp only at e ⊢; rw [if_neg e]
def oL (o : Ff) (x : Lb) : List Ff := [o, ⟨2, 2, 0, x.v⟩, o, ⟨1, 2, 0, x.n⟩, o]
def oS (o : Ff) (y : Sm) : List Ff := [o, ⟨2, 0, tn y.t, ⟨#[]⟩⟩, o, ⟨1, 1, y.b, ⟨#[]⟩⟩, o]
def oW (n : Nat) (l : List ByteArray) (o : Ff) : List Ff := o :: l.flatMap fun t => [⟨(n : Int), 2, 0, t⟩, o]
def oX (o : Ff) (x : Sr) : List Ff := oW 2 (x.ss.map fun y => bs (tby (oS o y))) o ++ oW 1 (x.ls.map fun y => bs (tby (oL o y))) o
def oM (o : Ff) (l : List Sr) : List Ff := oW 1 (l.map fun x => bs (tby (oX o x))) o
theorem tby_cons (f : Ff) (r : List Ff) : tby (f :: r) = f.by ++ tby r := rfl
theorem tby_app (a b : List Ff) : tby (a ++ b) = tby a ++ tby b := by unfold tby; rw [List.flatMap_append]
theorem tby_flat (n : Nat) {o : Ff} (h : Fw o) : ∀ l : List ByteArray, tby (l.flatMap fun t => [⟨(n : Int), 2, 0, t⟩, o]) = eM ((l.map fun t => part n t.data.toList).flatMap fun f => [f, oFd o])
  | [] => rfl
  | t :: r => by
    rw [List.flatMap_cons, List.map_cons, List.flatMap_cons, List.cons_append, List.cons_append, List.nil_append, List.cons_append, List.cons_append, List.nil_append, tby_cons, tby_cons, tby_flat n h r, by_part, by_fd h]
    rfl
theorem tby_oW (n : Nat) {o : Ff} (h : Fw o) (l : List ByteArray) : tby (oW n l o) = eM (between (oFd o) (l.map fun t => part n t.data.toList)) := by
  unfold oW between
  rw [tby_cons, tby_flat n h, by_fd h]
  rfl
theorem btw_ok {o : Fd} (ho : o.ok) {fs : List Fd} (h : ∀ f ∈ fs, f.ok) : ∀ f ∈ between o fs, f.ok := by
  intro f hf
  unfold between at hf
  rcases List.mem_cons.1 hf with rfl | hf
  · exact ho
  · obtain ⟨g, hg, hf⟩ := List.mem_flatMap.1 hf
    simp only [List.mem_cons, List.not_mem_nil, or_false] at hf
    rcases hf with rfl | rfl
    · exact h _ hg
    · exact ho
theorem o_l {o : Ff} (ho : Ot o) (x : Lb) (hx : x.n.size ≤ 4000 ∧ x.v.size ≤ 4000) : rLb (tby (oL o x)) = (x, 0) := by
  have h1 : x.n.data.toList.length = x.n.size := by simp
  have h2 : x.v.data.toList.length = x.v.size := by simp
  have e : tby (oL o x) = eM [oFd o, part 2 x.v.data.toList, oFd o, part 1 x.n.data.toList, oFd o] := by
    unfold oL
    rw [tby_cons, tby_cons, tby_cons, tby_cons, tby_cons, show (1 : Int) = ((1 : Nat) : Int) from rfl, show (2 : Int) = ((2 : Nat) : Int) from rfl, by_part, by_part, by_fd ho.w, eM_cons, eM_cons, eM_cons, eM_cons, eM_cons]
    rfl
  have hm := msg_eM (fs := [oFd o, part 2 x.v.data.toList, oFd o, part 1 x.n.data.toList, oFd o]) (fun f hf => by
    simp only [List.mem_cons, List.not_mem_nil, or_false] at hf
    rcases hf with rfl | rfl | rfl | rfl | rfl
    · exact oFd_ok ho.w
    · exact part_ok (by omega) (by omega)
    · exact oFd_ok ho.w
    · exact part_ok (by omega) (by omega)
    · exact oFd_ok ho.w)
  have h3 : 2 < (oFd o).n := by have := ho.n; show 2 < o.n.toNat; omega
  rw [e]
  unfold rLb
  rw [hm, if_neg (by simp)]
  dsimp only
  rw [gLb_skip h3, gLb_val, gLb_skip h3, gLb_name, gLb_skip h3]
  show ((⟨ba x.n.data.toList, ba x.v.data.toList⟩ : Lb), 0) = _
  rw [ba_list, ba_list]
theorem onum {n w v : Nat} (h : mayk n w = true) (hw : w = 0 ∨ w = 1) (hv : v < 18446744073709551616) : (⟨n, w, v, []⟩ : Fd).ok :=
  ⟨h, fun _ => hv, fun e => by have e : w = 5 := e; omega, fun e => by have e : w = 2 := e; omega, fun _ => rfl⟩
theorem o_s {o : Ff} (ho : Ot o) (y : Sm) (hy : y.ok) : rSm (tby (oS o y)) = (y, 0) := by
  have e : tby (oS o y) = eM [oFd o, ⟨2, 0, tn y.t, []⟩, oFd o, ⟨1, 1, y.b, []⟩, oFd o] := by
    unfold oS
    rw [tby_cons, tby_cons, tby_cons, tby_cons, tby_cons, by_fd ho.w]
    rfl
  have hm := msg_eM (fs := [oFd o, ⟨2, 0, tn y.t, []⟩, oFd o, ⟨1, 1, y.b, []⟩, oFd o]) (fun f hf => by
    simp only [List.mem_cons, List.not_mem_nil, or_false] at hf
    rcases hf with rfl | rfl | rfl | rfl | rfl
    · exact oFd_ok ho.w
    · exact onum (by decide) (.inl rfl) (tn_lt _)
    · exact oFd_ok ho.w
    · exact onum (by decide) (.inr rfl) hy.b
    · exact oFd_ok ho.w)
  have h3 : 2 < (oFd o).n := by have := ho.n; show 2 < o.n.toNat; omega
  rw [e]
  unfold rSm
  rw [hm, if_neg (by simp)]
  dsimp only
  rw [gSm_skip h3, gSm_time, gSm_skip h3, gSm_bits, gSm_skip h3]
  show ((⟨nt (tn y.t), y.b⟩ : Sm), 0) = _
  rw [nt_tn hy.lo hy.hi]
/-! How many bytes. -/
theorem ot_le {o : Ff} (ho : Ot o) : o.by.length ≤ 80 := by have := Ff.by_le o ho.w.ok ho.w.may; have := ho.t; omega
theorem oL_len {o : Ff} (ho : Ot o) (x : Lb) (hx : x.n.size ≤ 4000 ∧ x.v.size ≤ 4000) : (tby (oL o x)).length ≤ 280 + x.n.size + x.v.size := by
  have h0 := ot_le ho
  have f1 := fw_part (n := 2) (t := x.v) (by omega) (by omega)
  have f2 := fw_part (n := 1) (t := x.n) (by omega) (by omega)
  have h1 := Ff.by_le _ f1.ok f1.may
  have h2 := Ff.by_le _ f2.ok f2.may
  unfold oL
  rw [tby_cons, tby_cons, tby_cons, tby_cons, tby_cons]
  simp only [List.length_append]
  have : (tby []).length = 0 := rfl
  dsimp only at h1 h2
  omega
theorem oS_len {o : Ff} (ho : Ot o) (y : Sm) (hy : y.ok) : (tby (oS o y)).length ≤ 280 := by
  have h0 := ot_le ho
  have f1 := fw_num (n := 2) (w := 0) (v := tn y.t) (by omega) (.inl rfl) (tn_lt _)
  have f2 := fw_num (n := 1) (w := 1) (v := y.b) (by omega) (.inr (.inl rfl)) hy.b
  have h1 := Ff.by_le _ f1.ok f1.may
  have h2 := Ff.by_le _ f2.ok f2.may
  unfold oS
  rw [tby_cons, tby_cons, tby_cons, tby_cons, tby_cons]
  simp only [List.length_append]
  have : (tby []).length = 0 := rfl
  have : (⟨#[]⟩ : ByteArray).size = 0 := rfl
  dsimp only at h1 h2
  omega
def wts (l : List ByteArray) : Nat := (l.map fun t => t.size + 100).sum
theorem wts_cons (t : ByteArray) (r : List ByteArray) : wts (t :: r) = t.size + 100 + wts r := by simp [wts]
theorem wts_len : ∀ l : List ByteArray, 100 * l.length ≤ wts l
  | [] => Nat.le_refl _
  | t :: r => by have := wts_len r; rw [wts_cons, List.length_cons]; omega
theorem wts_mem : ∀ (l : List ByteArray), ∀ t ∈ l, t.size ≤ wts l
  | [], t, h => by cases h
  | a :: r, t, h => by
    rw [wts_cons]
    rcases List.mem_cons.1 h with rfl | h
    · omega
    · have := wts_mem r t h; omega
theorem oW_len (n : Nat) (hn : 1 ≤ n ∧ n ≤ 2) {o : Ff} (ho : Ot o) (l : List ByteArray) (hl : wts l ≤ 900000) : (tby (oW n l o)).length ≤ 80 + wts l := by
  have h0 := ot_le ho
  have : ∀ l : List ByteArray, wts l ≤ 900000 → (tby (l.flatMap fun t => [⟨(n : Int), 2, 0, t⟩, o])).length ≤ wts l := by
    intro l
    induction l with
    | nil => intro _; exact Nat.zero_le _
    | cons t r ih =>
      intro h
      rw [wts_cons] at h ⊢
      have f1 := fw_part (n := (n : Int)) (t := t) (by omega) (by omega)
      have h1 := Ff.by_le _ f1.ok f1.may
      have h2 := ih (by omega)
      rw [List.flatMap_cons, List.cons_append, List.cons_append, List.nil_append, tby_cons, tby_cons]
      simp only [List.length_append]
      dsimp only at h1
      omega
  have h := this l hl
  unfold oW
  rw [tby_cons, List.length_append]
  omega
theorem oW_fw (n : Nat) (hn : 1 ≤ n ∧ n ≤ 2) {o : Ff} (ho : Ot o) (l : List ByteArray) (hl : wts l ≤ 900000) : (∀ f ∈ oW n l o, Fw f) ∧ (oW n l o).length ≤ 100000 := by
  constructor
  · intro f hf
    unfold oW at hf
    rcases List.mem_cons.1 hf with rfl | hf
    · exact ho.w
    · obtain ⟨t, ht, hf⟩ := List.mem_flatMap.1 hf
      simp only [List.mem_cons, List.not_mem_nil, or_false] at hf
      rcases hf with rfl | rfl
      · exact fw_part (by omega) (by have := wts_mem l t ht; omega)
      · exact ho.w
  · have h1 := wts_len l
    have : ∀ l : List ByteArray, (l.flatMap fun t => [(⟨(n : Int), 2, 0, t⟩ : Ff), o]).length = 2 * l.length := by
      intro l
      induction l with
      | nil => rfl
      | cons t r ih => rw [List.flatMap_cons, List.length_append, ih, List.length_cons]; simp; omega
    unfold oW
    rw [List.length_cons, this]
    omega
def mxL (l : List Lb) : Nat := (l.map fun y => 380 + y.n.size + y.v.size).sum
def mx (x : Sr) : Nat := mxL x.ls + 380 * x.ss.length
theorem mxL_len : ∀ l : List Lb, 380 * l.length ≤ mxL l
  | [] => Nat.le_refl _
  | y :: r => by
    have := mxL_len r
    have e : mxL (y :: r) = 380 + y.n.size + y.v.size + mxL r := by simp [mxL]
    rw [List.length_cons]; omega
theorem lgL_mx : ∀ (l : List Lb) (n : Nat), lgL l n < 4000 → (∀ y ∈ l, y.n.size ≤ 4000 ∧ y.v.size ≤ 4000) ∧ mxL l + 38 * n ≤ 38 * lgL l n
  | [], n, h => ⟨fun y hy => (by cases hy), by simp [mxL, lgL]⟩
  | x :: r, n, h => by
    rw [lgL] at h ⊢
    by_cases hn : n < 4000
    · rw [if_pos hn] at h ⊢
      obtain ⟨ih1, ih2⟩ := lgL_mx r _ h
      have hle := lgL_le r (n + 10 + min 4000 x.n.size + min 4000 x.v.size)
      have e : mxL (x :: r) = 380 + x.n.size + x.v.size + mxL r := by simp [mxL]
      refine ⟨fun y hy => ?_, by omega⟩
      rcases List.mem_cons.1 hy with rfl | hy
      · omega
      · exact ih1 y hy
    · rw [if_neg hn] at h; omega
def mxR (l : List Sr) : Nat := (l.map fun x => 260 + mx x).sum
theorem lg_mx : ∀ (l : List Sr) (n : Nat), lg l n < 4000 → (∀ x ∈ l, (∀ y ∈ x.ls, y.n.size ≤ 4000 ∧ y.v.size ≤ 4000) ∧ mx x ≤ 160000) ∧ mxR l + 38 * n ≤ 38 * lg l n
  | [], n, h => ⟨fun y hy => (by cases hy), by simp [mxR, lg]⟩
  | x :: r, n, h => by
    rw [lg] at h ⊢
    by_cases hn : n < 4000
    · rw [if_pos hn] at h ⊢
      obtain ⟨ih1, ih2⟩ := lg_mx r _ h
      have hle := lg_le r (lgL x.ls (n + 10 + min 4000 (20 * x.ss.length)))
      obtain ⟨hL1, hL2⟩ := lgL_mx x.ls (n + 10 + min 4000 (20 * x.ss.length)) (by omega)
      have hle2 := lgL_le x.ls (n + 10 + min 4000 (20 * x.ss.length))
      have e : mxR (x :: r) = 260 + mx x + mxR r := by simp [mxR]
      have e2 : mx x = mxL x.ls + 380 * x.ss.length := rfl
      refine ⟨fun y hy => ?_, by omega⟩
      rcases List.mem_cons.1 hy with rfl | hy
      · exact ⟨hL1, by omega⟩
      · exact ih1 y hy
    · rw [if_neg hn] at h; omega
theorem wts_l {o : Ff} (ho : Ot o) : ∀ (l : List Lb), (∀ y ∈ l, y.n.size ≤ 4000 ∧ y.v.size ≤ 4000) → wts (l.map fun y => bs (tby (oL o y))) ≤ mxL l
  | [], _ => Nat.le_refl _
  | y :: r, h => by
    have ih := wts_l ho r (fun z hz => h z (by simp [hz]))
    have h1 := oL_len ho y (h y (by simp))
    have e : mxL (y :: r) = 380 + y.n.size + y.v.size + mxL r := by simp [mxL]
    rw [List.map_cons, wts_cons, bs_size]
    omega
theorem wts_s {o : Ff} (ho : Ot o) : ∀ (l : List Sm), (∀ y ∈ l, y.ok) → wts (l.map fun y => bs (tby (oS o y))) ≤ 380 * l.length
  | [], _ => Nat.le_refl _
  | y :: r, h => by
    have ih := wts_s ho r (fun z hz => h z (by simp [hz]))
    have h1 := oS_len ho y (h y (by simp))
    rw [List.map_cons, wts_cons, bs_size, List.length_cons]
    omega
/-- A series that is small. -/
structure Sx (x : Sr) : Prop where
  l : ∀ y ∈ x.ls, y.n.size ≤ 4000 ∧ y.v.size ≤ 4000
  s : ∀ y ∈ x.ss, y.ok
  m : mx x ≤ 160000
theorem Sx.ws {o : Ff} (ho : Ot o) {x : Sr} (h : Sx x) : wts (x.ls.map fun y => bs (tby (oL o y))) + wts (x.ss.map fun y => bs (tby (oS o y))) ≤ mx x := by
  have h1 := wts_l ho x.ls h.l
  have h2 := wts_s ho x.ss h.s
  unfold mx; omega
theorem oX_fw {o : Ff} (ho : Ot o) {x : Sr} (h : Sx x) : (∀ f ∈ oX o x, Fw f) ∧ (oX o x).length ≤ 200000 ∧ (tby (oX o x)).length ≤ 160 + mx x := by
  have hw := h.ws ho
  have hm := h.m
  obtain ⟨a1, a2⟩ := oW_fw 2 (by omega) ho (x.ss.map fun y => bs (tby (oS o y))) (by omega)
  obtain ⟨b1, b2⟩ := oW_fw 1 (by omega) ho (x.ls.map fun y => bs (tby (oL o y))) (by omega)
  have a3 := oW_len 2 (by omega) ho (x.ss.map fun y => bs (tby (oS o y))) (by omega)
  have b3 := oW_len 1 (by omega) ho (x.ls.map fun y => bs (tby (oL o y))) (by omega)
  unfold oX
  refine ⟨fun f hf => ?_, by rw [List.length_append]; omega, by rw [tby_app, List.length_append]; omega⟩
  rcases List.mem_append.1 hf with hf | hf
  · exact a1 f hf
  · exact b1 f hf
theorem o_x {o : Ff} (ho : Ot o) {x : Sr} (h : Sx x) : rSr (tby (oX o x)) = (x, 0) := by
  have hw := h.ws ho
  have hm := h.m
  have h3 : 2 < (oFd o).n := by have := ho.n; show 2 < o.n.toNat; omega
  have eS : ((x.ss.map fun y => bs (tby (oS o y))).map fun t => part 2 t.data.toList) = x.ss.map fun y => part 2 (tby (oS o y)) := by
    rw [List.map_map]; exact List.map_congr_left fun y _ => by simp [bs_data]
  have eL : ((x.ls.map fun y => bs (tby (oL o y))).map fun t => part 1 t.data.toList) = x.ls.map fun y => part 1 (tby (oL o y)) := by
    rw [List.map_map]; exact List.map_congr_left fun y _ => by simp [bs_data]
  have e : tby (oX o x) = eM (between (oFd o) (x.ss.map fun y => part 2 (tby (oS o y))) ++ between (oFd o) (x.ls.map fun y => part 1 (tby (oL o y)))) := by
    unfold oX
    rw [tby_app, tby_oW 2 ho.w, tby_oW 1 ho.w, eS, eL, eM_app]
  have okS : ∀ f ∈ x.ss.map fun y => part 2 (tby (oS o y)), f.ok := fun f hf => by
    obtain ⟨y, hy, rfl⟩ := List.mem_map.1 hf
    exact part_ok (by omega) (by have := oS_len ho y (h.s y hy); omega)
  have okL : ∀ f ∈ x.ls.map fun y => part 1 (tby (oL o y)), f.ok := fun f hf => by
    obtain ⟨y, hy, rfl⟩ := List.mem_map.1 hf
    exact part_ok (by omega) (by have := oL_len ho y (h.l y hy); have := h.l y hy; omega)
  have hm := msg_eM (fs := between (oFd o) (x.ss.map fun y => part 2 (tby (oS o y))) ++ between (oFd o) (x.ls.map fun y => part 1 (tby (oL o y)))) (fun f hf => by
    rcases List.mem_append.1 hf with hf | hf
    · exact btw_ok (oFd_ok ho.w) okS f hf
    · exact btw_ok (oFd_ok ho.w) okL f hf)
  have bw : ∀ (n : Nat) (l : List (List UInt8)), ∀ f ∈ between (oFd o) (l.map fun t => part n t), 2 < f.n ∨ f.w = 2 := fun n l f hf => by
    unfold between at hf
    rcases List.mem_cons.1 hf with rfl | hf
    · exact .inl h3
    · obtain ⟨g, hg, hf⟩ := List.mem_flatMap.1 hf
      obtain ⟨t, _, rfl⟩ := List.mem_map.1 hg
      simp only [List.mem_cons, List.not_mem_nil, or_false] at hf
      rcases hf with rfl | rfl
      · exact .inr rfl
      · exact .inl h3
  have b2 : bad2 (between (oFd o) (x.ss.map fun y => part 2 (tby (oS o y))) ++ between (oFd o) (x.ls.map fun y => part 1 (tby (oL o y)))) = false := bad2_parts (fun f hf => by
    rcases List.mem_append.1 hf with hf | hf
    · exact bw 2 (x.ss.map fun y => tby (oS o y)) f (by rw [List.map_map]; exact hf)
    · exact bw 1 (x.ls.map fun y => tby (oL o y)) f (by rw [List.map_map]; exact hf))
  have n1 : (oFd o).n ≠ 1 := by omega
  have n2 : (oFd o).n ≠ 2 := by omega
  have p1a : pts 1 rLb (between (oFd o) (x.ss.map fun y => part 2 (tby (oS o y)))) = ([], 0) := by
    rw [pts_btw n1]
    exact pts_skip _ (fun f hf => by obtain ⟨y, _, rfl⟩ := List.mem_map.1 hf; exact (by decide : (2 : Nat) ≠ 1))
  have p1b : pts 1 rLb (between (oFd o) (x.ls.map fun y => part 1 (tby (oL o y)))) = (x.ls, 0) := by
    rw [pts_btw n1, pts_map (fun y => tby (oL o y)) (fun y => y) _ (fun y hy => o_l ho y (h.l y hy)), map_id']
  have p2a : pts 2 rSm (between (oFd o) (x.ss.map fun y => part 2 (tby (oS o y)))) = (x.ss, 0) := by
    rw [pts_btw n2, pts_map (fun y => tby (oS o y)) (fun y => y) _ (fun y hy => o_s ho y (h.s y hy)), map_id']
  have p2b : pts 2 rSm (between (oFd o) (x.ls.map fun y => part 1 (tby (oL o y)))) = ([], 0) := by
    rw [pts_btw n2]
    exact pts_skip _ (fun f hf => by obtain ⟨y, _, rfl⟩ := List.mem_map.1 hf; exact (by decide : (1 : Nat) ≠ 2))
  rw [e]
  unfold rSr
  rw [hm, if_neg (by simp)]
  unfold gSr
  dsimp only
  rw [b2, pts_app _ _ (by rw [p1a]), p1a, p1b, pts_app _ _ (by rw [p2a]), p2a, p2b, List.append_nil]
  rfl
theorem wts_r {o : Ff} (ho : Ot o) : ∀ (l : List Sr), (∀ x ∈ l, Sx x) → wts (l.map fun x => bs (tby (oX o x))) ≤ mxR l
  | [], _ => Nat.le_refl _
  | x :: r, h => by
    have ih := wts_r ho r (fun z hz => h z (by simp [hz]))
    have h1 := (oX_fw ho (h x (by simp))).2.2
    have e : mxR (x :: r) = 260 + mx x + mxR r := by simp [mxR]
    rw [List.map_cons, wts_cons, bs_size]
    omega
theorem oM_fw {o : Ff} (ho : Ot o) {l : List Sr} (h : ∀ x ∈ l, Sx x) (hl : mxR l ≤ 160000) : (∀ f ∈ oM o l, Fw f) ∧ (oM o l).length ≤ 100000 ∧ (tby (oM o l)).length ≤ 170000 := by
  have hw := wts_r ho l h
  obtain ⟨a1, a2⟩ := oW_fw 1 (by omega) ho (l.map fun x => bs (tby (oX o x))) (by omega)
  have a3 := oW_len 1 (by omega) ho (l.map fun x => bs (tby (oX o x))) (by omega)
  exact ⟨a1, a2, by unfold oM; omega⟩
theorem o_m {o : Ff} (ho : Ot o) {l : List Sr} (h : ∀ x ∈ l, Sx x) : rRq (tby (oM o l)) = (l, 0) := by
  have h3 : 2 < (oFd o).n := by have := ho.n; show 2 < o.n.toNat; omega
  have eX : ((l.map fun x => bs (tby (oX o x))).map fun t => part 1 t.data.toList) = l.map fun x => part 1 (tby (oX o x)) := by
    rw [List.map_map]; exact List.map_congr_left fun y _ => by simp [bs_data]
  have e : tby (oM o l) = eM (between (oFd o) (l.map fun x => part 1 (tby (oX o x)))) := by
    unfold oM
    rw [tby_oW 1 ho.w, eX]
  have okX : ∀ f ∈ l.map fun x => part 1 (tby (oX o x)), f.ok := fun f hf => by
    obtain ⟨x, hx, rfl⟩ := List.mem_map.1 hf
    exact part_ok (by omega) (by have := (oX_fw ho (h x hx)).2.2; have := (h x hx).m; omega)
  have hm := msg_eM (fs := between (oFd o) (l.map fun x => part 1 (tby (oX o x)))) (btw_ok (oFd_ok ho.w) okX)
  have n1 : (oFd o).n ≠ 1 := by omega
  have b1 : bad1 (between (oFd o) (l.map fun x => part 1 (tby (oX o x)))) = false := bad1_parts (fun f hf => by
    unfold between at hf
    rcases List.mem_cons.1 hf with rfl | hf
    · exact .inl n1
    · obtain ⟨g, hg, hf⟩ := List.mem_flatMap.1 hf
      obtain ⟨t, _, rfl⟩ := List.mem_map.1 hg
      simp only [List.mem_cons, List.not_mem_nil, or_false] at hf
      rcases hf with rfl | rfl
      · exact .inr rfl
      · exact .inl n1)
  rw [e]
  unfold rRq
  rw [hm, if_neg (by simp)]
  unfold gRq
  dsimp only
  rw [b1, pts_btw n1, pts_map (fun x => tby (oX o x)) (fun x => x) _ (fun x hx => o_x ho (h x hx)), map_id']
  rfl
end Go.Proofs.Ytakdplfffkadpaa
namespace Go.Proofs.Ytakdplfffkadpaa
open Go Go.RowKit
set_option maxRecDepth 100000
theorem Of.one (w : World) (base : Nat) (hb : base ≤ w.heap.size) (o : Ff) (cs : Array Value) (h : cs = #[.int .i64 o.n, .int .u8 o.w, .int .u64 o.v, .string o.t]) : Of (w.alloc (.cells cs 52)) base (.slice (some ⟨w.heap.size, 0, none⟩) 1 1) [o] := by
  subst h
  exact ⟨rfl, .inr ⟨w.heap.size, 1, _, rfl, hb, heap_alloc_new w _, by simp, by simp [maxLen], by simp, by simp [cells4]⟩⟩
theorem cells_new8 (W : World) (x0 x1 x2 x3 x4 x5 x6 x7 : Value) (t : TypeId) : ∀ j u, [x0, x1, x2, x3, x4, x5, x6, x7][j]? = some u → (W.alloc (.cells #[x0, x1, x2, x3, x4, x5, x6, x7] t)).cell? ((⟨W.heap.size, 0, none⟩ : Addr).add j) = some u := by
  intro j u h
  rw [show ((⟨W.heap.size, 0, none⟩ : Addr).add j) = ⟨W.heap.size, j, none⟩ by unfold Addr.add; split <;> simp_all, World.cell?_alloc_mark]
  simpa using h
theorem of_snoc2 {w1 : World} {base n : Nat} {l : List Ff} {f g : Ff} {v' : Value} {xs : List Value} (h : w1.ownsRow base 52 4 v' n xs) (hn : n = l.length + 2) (hx : xs = cells4 l ++ [.int .i64 f.n, .int .u8 f.w, .int .u64 f.v, .string f.t, .int .i64 g.n, .int .u8 g.w, .int .u64 g.v, .string g.t]) : Of w1 base v' (l ++ [f, g]) := by
  subst hn hx
  have e : cells4 (l ++ [f, g]) = cells4 l ++ [.int .i64 f.n, .int .u8 f.w, .int .u64 f.v, .string f.t, .int .i64 g.n, .int .u8 g.w, .int .u64 g.v, .string g.t] := by simp [cells4]
  unfold Of
  rw [e, List.length_append]
  exact h
theorem oW_take (n : Nat) (l : List ByteArray) (o : Ff) (k : Nat) (hk : k < l.length) : oW n (l.take (k + 1)) o = oW n (l.take k) o ++ [⟨(n : Int), 2, 0, l[k]⟩, o] := by
  unfold oW
  rw [List.take_succ_eq_append_getElem hk, List.flatMap_append]
  simp
set_option maxHeartbeats 1000000 in
theorem with_any (num : Nat) (hnum : num ≤ 2) (l : List ByteArray) (o : Ff) (hl : l.length ≤ 100000) (sv : Value) (w : World) (hs : VAt w sv (l.map Value.string)) :
    Calls Try.prog 35 #[.int .i64 (num : Int), sv, fv o] w fun e w' => ∃ u, e = .returned u ∧ Of w' w.heap.size u (oW num l o) ∧ Below w.heap.size w w' := by
  obtain ⟨i0, hi, hz0, hz1, hz2⟩ := info_parts Try.info52
  obtain ⟨sa, sc, hsv⟩ := hs.slice
  rw [List.length_map] at hsv
  have HS := Lib.hid hs
  generalize hL : l.length = L at *
  have HL := Lib.hid hL
  subst hsv
  clear hs hL
  obtain ⟨on, ow, ov, ot⟩ := o
  unfold fv
  dsimp only
  have HO1 : Hid (Of ((w.alloc (.cells #[.int .i64 on, .int .u8 (ow : Int), .int .u64 (ov : Int), .string ot] 52)).alloc (.cells #[.int .i64 on, .int .u8 (ow : Int), .int .u64 (ov : Int), .string ot] 52)) (w.heap.size + 1) (.slice (some ⟨w.heap.size + 1, 0, none⟩) 1 1) [⟨on, ow, ov, ot⟩]) := Lib.hid (by
    have := Of.one (w.alloc (.cells #[.int .i64 on, .int .u8 (ow : Int), .int .u64 (ov : Int), .string ot] 52)) (w.heap.size + 1) (by simp) ⟨on, ow, ov, ot⟩ _ rfl
    rwa [World.size_alloc] at this)
  have HB1 : Hid (Below (w.heap.size + 1) (w.alloc (.cells #[.int .i64 on, .int .u8 (ow : Int), .int .u64 (ov : Int), .string ot] 52)) ((w.alloc (.cells #[.int .i64 on, .int .u8 (ow : Int), .int .u64 (ov : Int), .string ot] 52)).alloc (.cells #[.int .i64 on, .int .u8 (ow : Int), .int .u64 (ov : Int), .string ot] 52))) := Lib.hid ((Below.refl _ _).alloc (by simp) _)
  have HBw : Hid (Below w.heap.size w (w.alloc (.cells #[.int .i64 on, .int .u8 (ow : Int), .int .u64 (ov : Int), .string ot] 52))) := Lib.hid ((Below.refl _ _).alloc (Nat.le_refl _) _)
  have c0 : (w.alloc (.cells #[.int .i64 on, .int .u8 (ow : Int), .int .u64 (ov : Int), .string ot] 52)).cell? ⟨w.heap.size, 0, none⟩ = some (.int .i64 on) := by rw [World.cell?_alloc_mark]; rfl
  have c1 : (w.alloc (.cells #[.int .i64 on, .int .u8 (ow : Int), .int .u64 (ov : Int), .string ot] 52)).cell? ⟨w.heap.size, 1, none⟩ = some (.int .u8 (ow : Int)) := by rw [World.cell?_alloc_mark]; rfl
  have c2 : (w.alloc (.cells #[.int .i64 on, .int .u8 (ow : Int), .int .u64 (ov : Int), .string ot] 52)).cell? ⟨w.heap.size, 2, none⟩ = some (.int .u64 (ov : Int)) := by rw [World.cell?_alloc_mark]; rfl
  have c3 : (w.alloc (.cells #[.int .i64 on, .int .u8 (ow : Int), .int .u64 (ov : Int), .string ot] 52)).cell? ⟨w.heap.size, 3, none⟩ = some (.string ot) := by rw [World.cell?_alloc_mark]; rfl
  have HC := Lib.hid (And.intro c0 (And.intro c1 (And.intro c2 c3)))
  go_enter Try.func35, Try.ntmps35
  go_wp2
  go_loopw [7, 8] (fun v i wr => ∃ (k : Nat) (acc : List Ff), i = .int .i64 (k : Int) ∧ k ≤ L ∧ Hid (acc = oW num (l.take k) ⟨on, ow, ov, ot⟩) ∧ Hid (acc.length = 1 + 2 * k) ∧ Hid (Of wr (w.heap.size + 1) v acc) ∧ Hid (Below (w.heap.size + 1) (w.alloc (.cells #[.int .i64 on, .int .u8 (ow : Int), .int .u64 (ov : Int), .string ot] 52)) wr)) (fun _ i _ => L - (intOf i).toNat)
  case atStart => exact ⟨0, [⟨on, ow, ov, ot⟩], rfl, by omega, Lib.hid (by simp [oW]), Lib.hid rfl, HO1, HB1⟩
  case round =>
    obtain ⟨k, acc, rfl, hk, HA, HAL, HO, HB⟩ := hrel
    obtain ⟨ua, uc, hu⟩ := HO.out.shape
    subst hu
    clear c0 c1 c2 c3
    by_cases hlt : k < L
    · have hkl : k < l.length := by have := HL.out; omega
      rcases HS.out with ⟨h0, _⟩ | ⟨g, of, c, hg, hcs⟩
      · have := congrArg List.length h0; rw [List.length_map, List.length_nil] at this; omega
      have q := hcs k (by rw [List.length_map]; exact hkl)
      rw [List.getElem_map] at q
      rw [List.length_map, HL.out] at hg
      clear hcs
      have hgb : g < w.heap.size := World.block_lt_of_cell? w _ q
      have q1 : (w.alloc (.cells #[.int .i64 on, .int .u8 (ow : Int), .int .u64 (ov : Int), .string ot] 52)).cell? ⟨g, of + k, none⟩ = some (.string l[k]) := (HBw.out.cell hgb).trans q
      have HAN := Lib.hid (oW_take num l ⟨on, ow, ov, ot⟩ k hkl)
      generalize l[k] = t at *
      cases hg
      have HQ := Lib.hid (And.intro HC.out.1 (And.intro HC.out.2.1 (And.intro HC.out.2.2.1 (And.intro HC.out.2.2.2 q1))))
      have HGB := Lib.hid hgb
      have HKP : Hid (∀ W : World, Below (w.heap.size + 1) (w.alloc (.cells #[.int .i64 on, .int .u8 (ow : Int), .int .u64 (ov : Int), .string ot] 52)) W → W.cell? ⟨w.heap.size, 0, none⟩ = some (.int .i64 on) ∧ W.cell? ⟨w.heap.size, 1, none⟩ = some (.int .u8 (ow : Int)) ∧ W.cell? ⟨w.heap.size, 2, none⟩ = some (.int .u64 (ov : Int)) ∧ W.cell? ⟨w.heap.size, 3, none⟩ = some (.string ot) ∧ W.cell? ⟨g, of + k, none⟩ = some (.string t)) := Lib.hid fun W hW => by
        obtain ⟨a0, a1, a2, a3, a4⟩ := HQ.out
        have hh := HGB.out
        exact ⟨(hW.cell (p := ⟨w.heap.size, 0, none⟩) (Nat.lt_succ_self _)).trans a0, (hW.cell (p := ⟨w.heap.size, 1, none⟩) (Nat.lt_succ_self _)).trans a1, (hW.cell (p := ⟨w.heap.size, 2, none⟩) (Nat.lt_succ_self _)).trans a2, (hW.cell (p := ⟨w.heap.size, 3, none⟩) (Nat.lt_succ_self _)).trans a3, (hW.cell (p := ⟨g, of + k, none⟩) (by show g < _; omega)).trans a4⟩
      have HBA : Hid (Below (w.heap.size + 1) (w.alloc (.cells #[.int .i64 on, .int .u8 (ow : Int), .int .u64 (ov : Int), .string ot] 52)) (wr.drew.alloc (.cells #[.int .i64 (num : Int), .int .u8 2, .int .u64 0, .string t, .int .i64 on, .int .u8 (ow : Int), .int .u64 (ov : Int), .string ot] 52))) := Lib.hid ((⟨HB.out.os, HB.out.tape, HB.out.output, HB.out.size, HB.out.block⟩ : Below (w.heap.size + 1) (w.alloc (.cells #[.int .i64 on, .int .u8 (ow : Int), .int .u64 (ov : Int), .string ot] 52)) wr.drew).alloc (by have := HB.out.size; simpa using this) _)
      have HOA : Hid (World.ownsRow (wr.drew.alloc (.cells #[.int .i64 (num : Int), .int .u8 2, .int .u64 0, .string t, .int .i64 on, .int .u8 (ow : Int), .int .u64 (ov : Int), .string ot] 52)) (w.heap.size + 1) 52 4 (.slice ua acc.length uc) acc.length (cells4 acc)) := Lib.hid (World.ownsRow.alloc (w := wr.drew) HO.out _)
      have k0 := HKP.out wr HB.out
      have k1 := HKP.out _ HBA.out
      have hal : acc.length ≤ 300000 := by have := HAL.out; omega
      have HSZ : Hid (w.heap.size + 1 ≤ wr.heap.size) := Lib.hid (by have := HB.out.size; simpa using this)
      clear q q1 hgb
      generalize hOW : (ow : Int) = OW at *
      generalize hOV : (ov : Int) = OV at *
      have HOW := Lib.hid hOW
      have HOV := Lib.hid hOV
      clear hOW hOV
      go_wp2_with fail
      go_region_held3 (fun w' => w'.cell? ⟨w.heap.size, 0, none⟩ = some (.int .i64 on) ∧ w'.cell? ⟨w.heap.size, 1, none⟩ = some (.int .u8 OW) ∧ w'.cell? ⟨w.heap.size, 2, none⟩ = some (.int .u64 OV) ∧ w'.cell? ⟨w.heap.size, 3, none⟩ = some (.string ot) ∧ w'.cell? ⟨g, of + k, none⟩ = some (.string t)) (first | exact k0 | exact k1 | exact k2)
        ((refine step_append_lies _ (by rfl) (.tmp 17) (.tmp 25) 56 (by rfl) (w.heap.size + 1) 52 i0 _ 4 40 Try.underlying56 hi hz0 hz1 hz2 (by rfl) (by decide) (.slice ua acc.length uc) acc.length (cells4 acc) (by rfl) HOA.out ⟨wr.heap.size, 0, none⟩ 2 2 [.int .i64 (num : Int), .int .u8 2, .int .u64 0, .string t, .int .i64 on, .int .u8 OW, .int .u64 OV, .string ot] (by rfl) rfl (cells_new8 _ _ _ _ _ _ _ _ _ _) (by simp [Value.oneCell']) (by decide) (by unfold maxLen; omega) (by omega) (by have := HSZ.out; simp; omega) (wr.heap.size + 1) (by simp) ?_; intro g2 cap w4 hown hgrow hat hlt2; have hb4 := HBA.out.grown hgrow (by have := HSZ.out; simp; omega) (fun g hg => (own_lt HOA.out g hg).1); have HB4 := Lib.hid hb4; have k2 := HKP.out _ hb4; have HON := Lib.hid hown; clear hown hgrow hat hlt2 hb4))
      go_wp2
      go_roundw
      case rel => exact ⟨k + 1, _, by go_num, by omega, Lib.hid (by rw [HAN.out, ← HA.out]), Lib.hid (by rw [List.length_append, HAL.out]; simp; omega), Lib.hid (of_snoc2 HON.out rfl (by dsimp only; rw [HOW.out, HOV.out]; rfl)), HB4⟩
      case measure => simp [intOf]; omega
    · obtain rfl : k = L := by omega
      go_wp2
      go_ret
      refine ⟨_, rfl, ?_, HBw.out.trans (HB.out.mono (Nat.le_succ _))⟩
      have := HA.out
      rw [List.take_of_length_le (by have := HL.out; omega)] at this
      rw [← this]
      exact Of.mono HO.out (Nat.le_succ _)
end Go.Proofs.Ytakdplfffkadpaa
namespace Go.Proofs.Ytakdplfffkadpaa
open Go Go.RowKit
set_option maxRecDepth 100000
theorem Try.info9 : (Try.prog.info? 9).map (fun i => (i.zero, i.size, i.bytes)) = some (some (.string ⟨#[]⟩), 1, 16) := by kernel_rfl
/-- Texts, owned. -/
def Os9 (w : World) (base : Nat) (v : Value) (ts : List ByteArray) : Prop := w.ownsRow base 9 1 v ts.length (ts.map Value.string)
theorem Os9.nil (w : World) (base : Nat) : Os9 w base (.slice none 0 0) [] := ⟨rfl, .inl ⟨rfl, rfl⟩⟩
theorem Os9.shape {w : World} {base : Nat} {v : Value} {ts : List ByteArray} (h : Os9 w base v ts) : ∃ a c, v = .slice a ts.length c := ownsRow_shape h
theorem Os9.below {w w' : World} {base m : Nat} {v : Value} {ts : List ByteArray} (h : Os9 w base v ts) (hb : Below m w w') (hn : w.heap.size ≤ m) : Os9 w' base v ts := ownsRow_below h hb hn
theorem Os9.snoc {w : World} {base n : Nat} {v : Value} {ts : List ByteArray} {t : ByteArray} {xs : List Value} (h : w.ownsRow base 9 1 v n xs) (hn : n = ts.length + 1) (hx : xs = ts.map Value.string ++ [.string t]) : Os9 w base v (ts ++ [t]) := by
  subst hn hx
  unfold Os9
  rw [List.map_append, List.length_append]
  exact h
theorem Os9.at {w : World} {base : Nat} {v : Value} {ts : List ByteArray} (h : Os9 w base v ts) : VAt w v (ts.map Value.string) := vat_of h
theorem of_src {w : World} {base : Nat} {v : Value} {l : List Ff} (h : Of w base v l) (h0 : l ≠ []) : ∃ ad c, v = .slice (some ad) l.length c ∧ ∀ j u, (cells4 l)[j]? = some u → w.cell? (ad.add j) = some u := by
  have h1 := h
  unfold Of at h1
  rcases h1.2 with ⟨rfl, hn⟩ | ⟨g, cap, cur, rfl, _⟩
  · exact absurd (List.eq_nil_of_length_eq_zero hn) h0
  · refine ⟨⟨g, 0, none⟩, cap, rfl, fun j u hj => ?_⟩
    rw [show ((⟨g, 0, none⟩ : Addr).add j) = ⟨g, j, none⟩ by unfold Addr.add; split <;> simp_all]
    have hl := (List.getElem?_eq_some_iff.1 hj).1
    have h2 := h1.1
    rw [h1.cellAt j (by omega)]
    exact hj
theorem cells4_one {l : List Ff} : ∀ u ∈ cells4 l, u.oneCell' = true := by
  intro u hu
  unfold cells4 at hu
  obtain ⟨f, _, hu⟩ := List.mem_flatMap.1 hu
  simp only [List.mem_cons, List.not_mem_nil, or_false] at hu
  rcases hu with rfl | rfl | rfl | rfl <;> rfl
theorem oW_ne (n : Nat) (l : List ByteArray) (o : Ff) : oW n l o ≠ [] := by unfold oW; simp
theorem cells4_len (l : List Ff) : (cells4 l).length = l.length * 4 := by
  induction l with
  | nil => rfl
  | cons f r ih => show (_ ++ cells4 r).length = _; rw [List.length_append, ih, List.length_cons]; simp; omega
theorem cells4_app (a b : List Ff) : cells4 (a ++ b) = cells4 a ++ cells4 b := by unfold cells4; rw [List.flatMap_append]
theorem of_app {w : World} {base n : Nat} {v : Value} {a b : List Ff} {xs : List Value} (h : w.ownsRow base 52 4 v n xs) (hn : n = a.length + b.length) (hx : xs = cells4 a ++ cells4 b) : Of w base v (a ++ b) := by
  subst hn hx
  unfold Of
  rw [cells4_app, List.length_append]
  exact h
set_option maxHeartbeats 1000000 in
theorem mixed_any (zs : List Zr) (o : Ff) (ho : Ot o) (hS : ∀ z ∈ zs, Sx z.x) (hm : mxR (zs.map Zr.x) ≤ 160000) (hzl : zs.length ≤ 1000) (v : Value) (w : World) (hv : SAt w v zs) :
    Calls Try.prog 23 #[v, fv o] w (Ret w (.string (bs (tby (oM o (zs.map Zr.x)))))) := by
  obtain ⟨i0, hi, hz0, hz1, hz2⟩ := info_parts Try.info52
  obtain ⟨i1, hj, hj0, hj1, hj2⟩ := info_parts Try.info9
  have HV := Lib.hid hv
  have HO := Lib.hid ho
  have HSX := Lib.hid hS
  have HMX := Lib.hid hm
  obtain ⟨va, vc, hv2⟩ := hv.slice
  generalize hL : zs.length = L at *
  have HL := Lib.hid hL
  subst hv2
  clear hv ho hS hm hL
  obtain ⟨on, ow, ov, ot⟩ := o
  unfold fv
  dsimp only
  obtain ⟨w1, hw1⟩ : ∃ W, w.alloc (.cells #[.int .i64 on, .int .u8 (ow : Int), .int .u64 (ov : Int), .string ot] 52) = W := ⟨_, rfl⟩
  have HBw : Hid (Below w.heap.size w w1) := Lib.hid (by rw [← hw1]; exact (Below.refl _ _).alloc (Nat.le_refl _) _)
  have HS1 : Hid (w1.heap.size = w.heap.size + 1) := Lib.hid (by rw [← hw1, World.size_alloc])
  have HKP : Hid (∀ W : World, Below (w.heap.size + 1) w1 W → W.cell? ⟨w.heap.size, 0, none⟩ = some (.int .i64 on) ∧ W.cell? ⟨w.heap.size, 1, none⟩ = some (.int .u8 (ow : Int)) ∧ W.cell? ⟨w.heap.size, 2, none⟩ = some (.int .u64 (ov : Int)) ∧ W.cell? ⟨w.heap.size, 3, none⟩ = some (.string ot)) := Lib.hid fun W hW => by
    have e : ∀ j, W.cell? ⟨w.heap.size, j, none⟩ = w1.cell? ⟨w.heap.size, j, none⟩ := fun j => hW.cell (p := ⟨w.heap.size, j, none⟩) (Nat.lt_succ_self _)
    have e1 : ∀ j, w1.cell? ⟨w.heap.size, j, none⟩ = #[Value.int .i64 on, .int .u8 (ow : Int), .int .u64 (ov : Int), .string ot][j]? := fun j => by rw [← hw1, World.cell?_alloc_mark]
    refine ⟨?_, ?_, ?_, ?_⟩ <;> rw [e, e1] <;> rfl
  have HW1 := Lib.hid hw1
  clear hw1
  go_enter Try.func23, Try.ntmps23
  go_wp2
  rw [HW1.out]
  go_loopw [5, 6] (fun u i wr => ∃ (k : Nat) (acc : List ByteArray), i = .int .i64 (k : Int) ∧ k ≤ L ∧ Hid (acc = ((zs.map Zr.x).take k).map fun x => bs (tby (oX ⟨on, ow, ov, ot⟩ x))) ∧ Hid (acc.length = k) ∧ Hid (Os9 wr (w.heap.size + 1) u acc) ∧ Hid (Below (w.heap.size + 1) w1 wr)) (fun _ i _ => L - (intOf i).toNat)
  case atStart => exact ⟨0, [], rfl, by omega, Lib.hid rfl, Lib.hid rfl, Lib.hid (Os9.nil _ _), Lib.hid (Below.refl _ _)⟩
  case round =>
    obtain ⟨wo, hwo⟩ : ∃ wo, wo = wr := ⟨_, rfl⟩
    subst hwo
    obtain ⟨k, acc, rfl, hk, HA, HAL, HOW, HB⟩ := hrel
    obtain ⟨ua, uc, hu⟩ := HOW.out.shape
    subst hu
    have HBR : Hid (Below w.heap.size w wo) := Lib.hid (HBw.out.trans (HB.out.mono (Nat.le_succ _)))
    have HZ : Hid (w.heap.size + 1 ≤ wo.heap.size) := Lib.hid (by have := HB.out.size; rw [HS1.out] at this; exact this)
    obtain ⟨c0, c1, c2, c3⟩ := HKP.out wo HB.out
    by_cases hlt : k < L
    · have hkl : k < zs.length := by have := HL.out; omega
      have hV := HV.out.below HBR.out (Nat.le_refl _)
      rcases hV.row with ⟨h0, _⟩ | ⟨g, of, c, hg, hcs⟩
      · have := congrArg List.length h0; rw [List.length_map, List.length_nil] at this; omega
      obtain ⟨q0, q1⟩ := hcs k (by rw [List.length_map]; exact hkl)
      rw [List.getElem_map] at q0 q1
      rw [List.length_map, HL.out] at hg
      have hsx := HSX.out zs[k] (List.getElem_mem hkl)
      have hA := hV.ls zs[k] (List.getElem_mem hkl)
      have hM := hV.ss zs[k] (List.getElem_mem hkl)
      have htk : ((zs.map Zr.x).take (k + 1)).map (fun x => bs (tby (oX ⟨on, ow, ov, ot⟩ x))) = acc ++ [bs (tby (oX ⟨on, ow, ov, ot⟩ zs[k].x))] := by
        rw [HA.out, List.take_succ_eq_append_getElem (by rw [List.length_map]; exact hkl), List.map_append, List.getElem_map]
        rfl
      have HTK := Lib.hid htk
      clear hcs hV htk
      generalize zs[k] = Z at *
      obtain ⟨⟨ls, ss⟩, za, zb⟩ := Z
      unfold zp at q0 q1
      dsimp only at q0 q1 hsx hA hM HTK
      obtain ⟨a1, a2, ha⟩ := At2.slice hA
      obtain ⟨m1, m2, hm⟩ := At2.slice hM
      rw [List.length_map] at ha hm
      subst ha hm
      have HX := Lib.hid hsx
      have HLA := Lib.hid hA
      have HMA := Lib.hid hM
      have hmx := hsx.m
      have hll : ls.length ≤ 1000 ∧ ss.length ≤ 1000 := by
        have e := mxL_len ls
        unfold mx at hmx
        dsimp only at hmx
        omega
      generalize hLL : ls.length = LL at *
      generalize hMM : ss.length = MM at *
      have HLL := Lib.hid hLL
      have HMM := Lib.hid hMM
      cases hg
      clear hsx hA hM hmx hLL hMM
      go_wp2
      go_loopw [7, 9] (fun u i wi => ∃ (j : Nat) (ts : List ByteArray), i = .int .i64 (j : Int) ∧ j ≤ LL ∧ Hid (ts = (ls.take j).map fun y => bs (tby (oL ⟨on, ow, ov, ot⟩ y))) ∧ Hid (ts.length = j) ∧ Hid (Os9 wi wo.heap.size u ts) ∧ Hid (Below wo.heap.size wo wi)) (fun _ i _ => LL - (intOf i).toNat)
      case atStart => exact ⟨0, [], rfl, by omega, Lib.hid rfl, Lib.hid rfl, Lib.hid (Os9.nil _ _), Lib.hid (Below.refl _ _)⟩
      case round =>
        clear c0 c1 c2 c3
        obtain ⟨j, ts, rfl, hj9, HT, HTL, HOT, HBI⟩ := hrel
        obtain ⟨ta, tc, hu⟩ := HOT.out.shape
        subst hu
        have HBT : Hid (Below (w.heap.size + 1) w1 wr) := Lib.hid (HB.out.trans (HBI.out.mono HZ.out))
        obtain ⟨c0, c1, c2, c3⟩ := HKP.out wr HBT.out
        have p0 := (HBI.out.cell (World.block_lt_of_cell? wo _ q0)).trans q0
        have p1 := (HBI.out.cell (World.block_lt_of_cell? wo _ q1)).trans q1
        by_cases hjl : j < LL
        · have hjk : j < ls.length := by have := HLL.out; omega
          rcases At2.below HLA.out HBI.out (Nat.le_refl _) with ⟨h0, _⟩ | ⟨g2, o2, d2, hg2, hcs2⟩
          · have := congrArg List.length h0; rw [List.length_map, List.length_nil] at this; omega
          obtain ⟨r0, r1⟩ := hcs2 j (by rw [List.length_map]; exact hjk)
          rw [List.getElem_map] at r0 r1
          rw [List.length_map, HLL.out] at hg2
          have hyb := HX.out.l ls[j] (List.getElem_mem hjk)
          have htk : (ls.take (j + 1)).map (fun y => bs (tby (oL ⟨on, ow, ov, ot⟩ y))) = ts ++ [bs (tby (oL ⟨on, ow, ov, ot⟩ ls[j]))] := by
            rw [HT.out, List.take_succ_eq_append_getElem hjk, List.map_append]
            rfl
          have HTJ := Lib.hid htk
          clear hcs2 htk
          generalize ls[j] = Y at *
          obtain ⟨yn, yv⟩ := Y
          unfold lp at r0 r1
          dsimp only at r0 r1 hyb
          have HTX := Lib.hid (fun V W hV => text_any (oL ⟨on, ow, ov, ot⟩ ⟨yn, yv⟩) (by simp [oL]) (fun f hf => by
            simp only [oL, List.mem_cons, List.not_mem_nil, or_false] at hf
            rcases hf with rfl | rfl | rfl | rfl | rfl
            · exact HO.out.w
            · exact fw_part (by omega) (by omega)
            · exact HO.out.w
            · exact fw_part (by omega) (by omega)
            · exact HO.out.w) V W hV)
          generalize bs (tby (oL ⟨on, ow, ov, ot⟩ ⟨yn, yv⟩)) = X at *
          unfold oL at HTX
          have hf := fat_new (wr.alloc (.cells #[.string yn, .string yv] 33)) [⟨on, ow, ov, ot⟩, ⟨2, 2, 0, yv⟩, ⟨on, ow, ov, ot⟩, ⟨1, 2, 0, yn⟩, ⟨on, ow, ov, ot⟩] _ rfl 5 rfl
          rw [World.size_alloc] at hf
          have HFN := Lib.hid hf
          have d0 := (HKP.out (wr.alloc (.cells #[.string yn, .string yv] 33)) (HBT.out.alloc (by have := HZ.out; have := HBI.out.size; omega) _))
          obtain ⟨d0, d1, d2, d3⟩ := d0
          have HB2 : Hid (Below wo.heap.size wo ((wr.alloc (.cells #[.string yn, .string yv] 33)).alloc (.cells (cells4 [⟨on, ow, ov, ot⟩, ⟨2, 2, 0, yv⟩, ⟨on, ow, ov, ot⟩, ⟨1, 2, 0, yn⟩, ⟨on, ow, ov, ot⟩]).toArray 52))) := Lib.hid ((HBI.out.alloc HBI.out.size _).alloc (by have := HBI.out.size; simp; omega) _)
          have HO2 : Hid (Os9 ((wr.alloc (.cells #[.string yn, .string yv] 33)).alloc (.cells (cells4 [⟨on, ow, ov, ot⟩, ⟨2, 2, 0, yv⟩, ⟨on, ow, ov, ot⟩, ⟨1, 2, 0, yn⟩, ⟨on, ow, ov, ot⟩]).toArray 52)) wo.heap.size (.slice ta ts.length tc) ts) := Lib.hid (World.ownsRow.alloc (World.ownsRow.alloc HOT.out _) _)
          cases hg2
          clear hf hyb
          go_wp2_with fail
          refine (HTX.out _ _ HFN.out).mono ?_
          rintro e w3 ⟨rfl, hb3⟩
          have HB3 := Lib.hid (HB2.out.trans (hb3.mono HB2.out.size))
          have HO3 := Lib.hid (HO2.out.below hb3 (Nat.le_refl _))
          have htl : ts.length ≤ 1000 := by have := HTL.out; omega
          have HZ3 := Lib.hid HB3.out.size
          clear hb3
          go_wp2_with (at_builtin; refine wpList_append_own_at _ rfl (.tmp 37) (.tmp 49) 73 rfl wo.heap.size 9 i1 _ 1 16 Try.underlying73 hj hj0 hj1 hj2 (by rfl) (by decide) (.slice ta ts.length tc) ts.length (ts.map Value.string) rfl (World.ownsRow.alloc HO3.out _) ⟨w3.heap.size, 0, none⟩ 1 1 [.string X] rfl rfl (World.news_of_block (heap_alloc_new w3 _)) (one1 rfl) (by unfold maxLen; omega) (by omega) (by have := HZ3.out; rw [World.size_alloc]; omega) ?_; intro v' w6 hown' hgrow hnil hloc; have HON := Lib.hid hown'; have HB6 := Lib.hid ((HB3.out.alloc HZ3.out _).grown hgrow (by have := HZ3.out; rw [World.size_alloc]; omega) (fun g hg => (own_lt HO3.out g hg).1)); clear hown' hgrow hnil hloc)
          go_roundw
          case rel => exact ⟨j + 1, ts ++ [X], by go_num, by omega, Lib.hid HTJ.out.symm, Lib.hid (by have := HTL.out; simp; omega), Lib.hid (Os9.snoc HON.out rfl rfl), HB6⟩
          case measure => simp [intOf]; omega
        · obtain rfl : j = LL := by omega
          have HTA : Hid (ts = ls.map fun y => bs (tby (oL ⟨on, ow, ov, ot⟩ y))) := Lib.hid (by rw [HT.out, List.take_of_length_le (by have := HLL.out; omega)])
          obtain ⟨wq, hwq⟩ : ∃ wq, wq = wr := ⟨_, rfl⟩
          subst hwq
          have HZQ : Hid (w.heap.size + 1 ≤ wq.heap.size) := Lib.hid (by have h1 := HZ.out; have h2 := HBI.out.size; omega)
          clear c0 c1 c2 c3
          go_wp2
          go_loopw [8, 11] (fun u i wi => ∃ (i2 : Nat) (us : List ByteArray), i = .int .i64 (i2 : Int) ∧ i2 ≤ MM ∧ Hid (us = (ss.take i2).map fun y => bs (tby (oS ⟨on, ow, ov, ot⟩ y))) ∧ Hid (us.length = i2) ∧ Hid (Os9 wi wq.heap.size u us) ∧ Hid (Below wq.heap.size wq wi)) (fun _ i _ => MM - (intOf i).toNat)
          case atStart => exact ⟨0, [], rfl, by omega, Lib.hid rfl, Lib.hid rfl, Lib.hid (Os9.nil _ _), Lib.hid (Below.refl _ _)⟩
          case round =>
            obtain ⟨i2, us, rfl, hi9, HU, HUL, HOU, HBQ⟩ := hrel
            obtain ⟨ya, yc, hu⟩ := HOU.out.shape
            subst hu
            have HBO : Hid (Below wo.heap.size wo wr) := Lib.hid (HBI.out.trans (HBQ.out.mono HBI.out.size))
            have HBX : Hid (Below (w.heap.size + 1) w1 wr) := Lib.hid (HB.out.trans (HBO.out.mono HZ.out))
            obtain ⟨c0, c1, c2, c3⟩ := HKP.out wr HBX.out
            have z0 := (HBQ.out.cell (World.block_lt_of_cell? wq _ p0)).trans p0
            have z1 := (HBQ.out.cell (World.block_lt_of_cell? wq _ p1)).trans p1
            by_cases hil : i2 < MM
            · have hik : i2 < ss.length := by have := HMM.out; omega
              rcases At2.below HMA.out HBO.out (Nat.le_refl _) with ⟨h0, _⟩ | ⟨g2, o2, d2, hg2, hcs2⟩
              · have := congrArg List.length h0; rw [List.length_map, List.length_nil] at this; omega
              obtain ⟨r0, r1⟩ := hcs2 i2 (by rw [List.length_map]; exact hik)
              rw [List.getElem_map] at r0 r1
              rw [List.length_map, HMM.out] at hg2
              have hyb := HX.out.s ss[i2] (List.getElem_mem hik)
              have htk : (ss.take (i2 + 1)).map (fun y => bs (tby (oS ⟨on, ow, ov, ot⟩ y))) = us ++ [bs (tby (oS ⟨on, ow, ov, ot⟩ ss[i2]))] := by
                rw [HU.out, List.take_succ_eq_append_getElem hik, List.map_append]
                rfl
              have HTJ := Lib.hid htk
              clear hcs2 htk
              generalize ss[i2] = Y at *
              obtain ⟨yt, yb⟩ := Y
              unfold sp at r0 r1
              dsimp only at r0 r1 hyb
              have hwc := tn_wrap hyb.lo hyb.hi
              have hylo := hyb.lo
              have hyhi := hyb.hi
              dsimp only at hwc hylo hyhi
              have HTX := Lib.hid (fun V W hV => text_any (oS ⟨on, ow, ov, ot⟩ ⟨yt, yb⟩) (by simp [oS]) (fun f hf => by
                simp only [oS, List.mem_cons, List.not_mem_nil, or_false] at hf
                rcases hf with rfl | rfl | rfl | rfl | rfl
                · exact HO.out.w
                · exact fw_num (by omega) (.inl rfl) (tn_lt _)
                · exact HO.out.w
                · exact fw_num (by omega) (.inr (.inl rfl)) hyb.b
                · exact HO.out.w) V W hV)
              generalize bs (tby (oS ⟨on, ow, ov, ot⟩ ⟨yt, yb⟩)) = X at *
              unfold oS at HTX
              have hf := fat_new (wr.alloc (.cells #[.int .i64 yt, .int .u64 (yb : Int)] 37)) [⟨on, ow, ov, ot⟩, ⟨2, 0, tn yt, ⟨#[]⟩⟩, ⟨on, ow, ov, ot⟩, ⟨1, 1, yb, ⟨#[]⟩⟩, ⟨on, ow, ov, ot⟩] _ rfl 5 rfl
              rw [World.size_alloc] at hf
              have HFN := Lib.hid hf
              have d0 := (HKP.out (wr.alloc (.cells #[.int .i64 yt, .int .u64 (yb : Int)] 37)) (HBX.out.alloc (by have := HZQ.out; have := HBQ.out.size; omega) _))
              obtain ⟨d0, d1, d2, d3⟩ := d0
              have HB2 : Hid (Below wq.heap.size wq ((wr.alloc (.cells #[.int .i64 yt, .int .u64 (yb : Int)] 37)).alloc (.cells (cells4 [⟨on, ow, ov, ot⟩, ⟨2, 0, tn yt, ⟨#[]⟩⟩, ⟨on, ow, ov, ot⟩, ⟨1, 1, yb, ⟨#[]⟩⟩, ⟨on, ow, ov, ot⟩]).toArray 52))) := Lib.hid ((HBQ.out.alloc HBQ.out.size _).alloc (by have := HBQ.out.size; simp; omega) _)
              have HO2 : Hid (Os9 ((wr.alloc (.cells #[.int .i64 yt, .int .u64 (yb : Int)] 37)).alloc (.cells (cells4 [⟨on, ow, ov, ot⟩, ⟨2, 0, tn yt, ⟨#[]⟩⟩, ⟨on, ow, ov, ot⟩, ⟨1, 1, yb, ⟨#[]⟩⟩, ⟨on, ow, ov, ot⟩]).toArray 52)) wq.heap.size (.slice ya us.length yc) us) := Lib.hid (World.ownsRow.alloc (World.ownsRow.alloc HOU.out _) _)
              cases hg2
              clear hf hyb
              go_wp2_with fail
              refine (HTX.out _ _ HFN.out).mono ?_
              rintro e w3 ⟨rfl, hb3⟩
              have HB3 := Lib.hid (HB2.out.trans (hb3.mono HB2.out.size))
              have HO3 := Lib.hid (HO2.out.below hb3 (Nat.le_refl _))
              have htl : us.length ≤ 1000 := by have := HUL.out; omega
              have HZ3 := Lib.hid HB3.out.size
              clear hb3
              go_wp2_with (at_builtin; refine wpList_append_own_at _ rfl (.tmp 69) (.tmp 82) 73 rfl wq.heap.size 9 i1 _ 1 16 Try.underlying73 hj hj0 hj1 hj2 (by rfl) (by decide) (.slice ya us.length yc) us.length (us.map Value.string) rfl (World.ownsRow.alloc HO3.out _) ⟨w3.heap.size, 0, none⟩ 1 1 [.string X] rfl rfl (World.news_of_block (heap_alloc_new w3 _)) (one1 rfl) (by unfold maxLen; omega) (by omega) (by have := HZ3.out; rw [World.size_alloc]; omega) ?_; intro v' w6 hown' hgrow hnil hloc; have HON := Lib.hid hown'; have HB6 := Lib.hid ((HB3.out.alloc HZ3.out _).grown hgrow (by have := HZ3.out; rw [World.size_alloc]; omega) (fun g hg => (own_lt HO3.out g hg).1)); clear hown' hgrow hnil hloc)
              go_roundw
              case rel => exact ⟨i2 + 1, us ++ [X], by go_num, by omega, Lib.hid HTJ.out.symm, Lib.hid (by have := HUL.out; simp; omega), Lib.hid (Os9.snoc HON.out rfl rfl), HB6⟩
              case measure => simp [intOf]; omega
            · obtain rfl : i2 = MM := by omega
              have hua : us = ss.map fun y => bs (tby (oS ⟨on, ow, ov, ot⟩ y)) := by rw [HU.out, List.take_of_length_le (by have := HMM.out; omega)]
              have hox : oW 2 us ⟨on, ow, ov, ot⟩ ++ oW 1 ts ⟨on, ow, ov, ot⟩ = oX ⟨on, ow, ov, ot⟩ ⟨ls, ss⟩ := by rw [hua, HTA.out]; rfl
              obtain ⟨x1, x2, x3⟩ := oX_fw HO.out HX.out
              rw [← hox] at x1 x2
              have hTX := fun V W hV => text_any (oW 2 us ⟨on, ow, ov, ot⟩ ++ oW 1 ts ⟨on, ow, ov, ot⟩) (by omega) x1 V W hV
              rw [hox] at hTX
              have HTK2 := Lib.hid HTK.out
              have HWA := Lib.hid (fun W (hW : Below wr.heap.size wr W) => with_any 2 (by omega) us ⟨on, ow, ov, ot⟩ (by have := HUL.out; omega) (.slice ya us.length yc) W (VAt.below HOU.out.at hW (Nat.le_refl _)))
              have HWB := Lib.hid (fun W (hW : Below wr.heap.size wr W) => with_any 1 (by omega) ts ⟨on, ow, ov, ot⟩ (by have := HTL.out; omega) (.slice ta ts.length tc) W (VAt.below (HOT.out.at.below HBQ.out (Nat.le_refl _)) hW (Nat.le_refl _)))
              rw [← hox] at hTX
              have hXe : bs (tby (oX ⟨on, ow, ov, ot⟩ ⟨ls, ss⟩)) = bs (tby (oW 2 us ⟨on, ow, ov, ot⟩ ++ oW 1 ts ⟨on, ow, ov, ot⟩)) := by rw [hox]
              rw [hXe] at HTK2
              have HTX := Lib.hid hTX
              have hne := oW_ne 1 ts ⟨on, ow, ov, ot⟩
              unfold fv at HWA HWB
              dsimp only at HWA HWB
              rw [List.length_append] at x2
              have HOR : Hid (Os9 wr (w.heap.size + 1) (.slice ua acc.length uc) acc) := Lib.hid (HOW.out.below HBO.out (Nat.le_refl _))
              have HKQ : Hid (∀ W, Below wr.heap.size wr W → _) := Lib.hid (fun W (hW : Below wr.heap.size wr W) => HKP.out W (HBX.out.trans (hW.mono (by have h1 := HZ.out; have h2 := HBO.out.size; omega))))
              have HZR : Hid (w.heap.size + 1 ≤ wr.heap.size) := Lib.hid (by have h1 := HZ.out; have h2 := HBO.out.size; omega)
              clear hTX hox hXe x1 x3 hua
              generalize oW 2 us ⟨on, ow, ov, ot⟩ = F1 at *
              generalize oW 1 ts ⟨on, ow, ov, ot⟩ = F2 at *
              generalize bs (tby (F1 ++ F2)) = X at *
              have HNE := Lib.hid hne
              have HPOS : Hid (0 < F2.length) := Lib.hid (by cases F2 with | nil => exact absurd rfl hne | cons a b => exact Nat.succ_pos _)
              have hacl : acc.length ≤ 1000 := by have := HAL.out; omega
              clear hne
              have k0 := HKQ.out wr (Below.refl _ _)
              go_wp2_with fail
              go_region_held3 (fun w' => w'.cell? ⟨w.heap.size, 0, none⟩ = some (.int .i64 on) ∧ w'.cell? ⟨w.heap.size, 1, none⟩ = some (.int .u8 (ow : Int)) ∧ w'.cell? ⟨w.heap.size, 2, none⟩ = some (.int .u64 (ov : Int)) ∧ w'.cell? ⟨w.heap.size, 3, none⟩ = some (.string ot)) (first | exact k0 | exact k1 | exact k2 | exact k3 | exact k4 | exact k5 | exact k6) (first
                | (have hm5 : Below (w.heap.size + 1) wr w5 := HB5.out.mono HZR.out; refine step_append_lies _ (by rfl) (.tmp 84) (.tmp 93) 73 (by rfl) (w.heap.size + 1) 9 i1 _ 1 16 Try.underlying73 hj hj0 hj1 hj2 (by rfl) (by decide) (.slice ua acc.length uc) acc.length (acc.map Value.string) (by rfl) (World.ownsRow.alloc (Os9.below HOR.out HB5.out (Nat.le_refl _)) _) ⟨w5.heap.size, 0, none⟩ 1 1 [.string X] (by rfl) rfl (World.news_of_block (heap_alloc_new w5 _)) (one1 rfl) (by decide) (by unfold maxLen; omega) (by omega) (by have h1 := HB5.out.size; have h2 := HZR.out; rw [World.size_alloc]; omega) (w5.heap.size + 1) (by simp) ?_; intro g5 cap5 w6 hown hgrow hat hlt5; have hb6 := (hm5.alloc (by have h1 := HB5.out.size; have h2 := HZR.out; omega) (.cells #[.string X] 9)).grown hgrow (by have h1 := HB5.out.size; have h2 := HZR.out; rw [World.size_alloc]; omega) (fun g hg => (own_lt HOR.out g hg).1); have HB6 := Lib.hid (HBX.out.trans hb6); clear hm5; have HON := Lib.hid hown; have k6 := HKP.out w6 HB6.out; clear hown hgrow hat hlt5 hb6)
                | (have hx := HFA; go_at_call 24; refine (HTX.out _ _ HFA.out).mono ?_; rintro e w5 ⟨rfl, hb5⟩; have HB5 := Lib.hid (HB4.out.trans (hb5.mono HB4.out.size)); have k4 := HKQ.out w5 HB5.out; have k5 := HKQ.out _ (HB5.out.alloc HB5.out.size (.cells #[.string X] 9)); clear hb5)
                | (have hx := HB3; refine step_append_lies _ (by rfl) (.tmp 87) (.tmp 90) 56 (by rfl) wr.heap.size 52 i0 _ 4 40 Try.underlying56 hi hz0 hz1 hz2 (by rfl) (by decide) (.slice fa F1.length fc) F1.length (cells4 F1) (by rfl) HO1'.out ad F2.length d2 (cells4 F2) (by rfl) (cells4_len _) HSRC.out cells4_one HPOS.out (by unfold maxLen; omega) (by omega) HB3.out.size w3.heap.size rfl ?_; intro g3 cap3 w4 hown hgrow hat hlt3; have hb4 := HB3.out.grown hgrow HB3.out.size (fun g hg => (own_lt HO1'.out g hg).1); have HB4 := Lib.hid hb4; have HFA := Lib.hid (Of.at (of_app hown rfl rfl)); have k3 := HKQ.out w4 hb4; clear hown hgrow hat hlt3 hb4)
                | (have hx := HB2; go_at_call 35; refine (HWB.out _ HB2.out).mono ?_; rintro e w3 ⟨u2, rfl, ho2, hb3⟩; have HB3 := Lib.hid (HB2.out.trans (hb3.mono HB2.out.size)); have HO1' := Lib.hid (Of.below HO1.out hb3 (Nat.le_refl _)); obtain ⟨ad, d2, hu2, hsrc⟩ := of_src ho2 HNE.out; subst hu2; have HSRC := Lib.hid hsrc; have k2 := HKQ.out w3 HB3.out; clear ho2 hb3 hsrc)
                | (go_at_call 35; refine (HWA.out _ (below_drewN (Below.refl _ _) _)).mono ?_; rintro e w2 ⟨u1, rfl, ho1, hb2⟩; have HB2 : Hid (Below wr.heap.size wr w2) := Lib.hid ⟨hb2.os, hb2.tape, hb2.output, hb2.size, hb2.block⟩; have HO1 : Hid (Of w2 wr.heap.size u1 F1) := Lib.hid ho1; obtain ⟨fa, fc, hf1⟩ := ho1.shape; subst hf1; have k1 := HKQ.out w2 HB2.out; clear ho1 hb2))
              go_wp2
              go_roundw
              case rel => exact ⟨k + 1, acc ++ [X], by go_num, by omega, Lib.hid HTK2.out.symm, Lib.hid (by have := HAL.out; simp; omega), Lib.hid (Os9.snoc HON.out rfl rfl), HB6⟩
              case measure => simp [intOf]; omega
    · obtain rfl : k = L := by omega
      have HWF := Lib.hid (fun W hW => with_any 1 (by omega) acc ⟨on, ow, ov, ot⟩ (by have := HAL.out; omega) (.slice ua acc.length uc) W hW)
      unfold fv at HWF
      have HAT := Lib.hid HOW.out.at
      have HTX := Lib.hid (fun V W hV => text_any (oM ⟨on, ow, ov, ot⟩ (zs.map Zr.x)) (by have := (oM_fw HO.out (l := zs.map Zr.x) (fun x hx => by obtain ⟨z, hz, rfl⟩ := List.mem_map.1 hx; exact HSX.out z hz) HMX.out).2.1; omega) (oM_fw HO.out (l := zs.map Zr.x) (fun x hx => by obtain ⟨z, hz, rfl⟩ := List.mem_map.1 hx; exact HSX.out z hz) HMX.out).1 V W hV)
      have hacc : oW 1 acc ⟨on, ow, ov, ot⟩ = oM ⟨on, ow, ov, ot⟩ (zs.map Zr.x) := by
        unfold oM
        rw [HA.out, List.take_of_length_le (by rw [List.length_map, HL.out]; omega)]
      rw [hacc] at HWF
      clear hacc
      dsimp only at HWF
      generalize oM ⟨on, ow, ov, ot⟩ (zs.map Zr.x) = OM at *
      generalize bs (tby OM) = X at *
      go_wp2_with fail
      refine (HWF.out _ HAT.out).mono ?_
      rintro e w2 ⟨u2, rfl, ho2, hb2⟩
      have HFA := Lib.hid ho2.at
      obtain ⟨fa, fc, hf2⟩ := ho2.shape
      have HB2 := Lib.hid (HBR.out.trans (hb2.mono HBR.out.size))
      generalize OM.length = OL at *
      subst hf2
      clear ho2 hb2 c0 c1 c2 c3
      go_wp2_with fail
      refine (HTX.out _ _ HFA.out).mono ?_
      rintro e w3 ⟨rfl, hb3⟩
      have HB3 := Lib.hid (HB2.out.trans (hb3.mono HB2.out.size))
      clear hb3
      go_wp2
      go_ret
      exact ⟨rfl, HB3.out⟩
end Go.Proofs.Ytakdplfffkadpaa
