/- The contracts of the document's value, Write and Read. -/
import Derived.Test.YtknfodpegkpjnaaDa
import Derived.Test.YtknfodpegkpjnaaRx
namespace Go.Proofs.Ytknfodpegkpjnaa
open Go.RowKit
theorem results_cell_two {fn : Func} {p u v : Tmp} {ty : TypeId} (h : fn.results = #[.cell p ty, .tmp u, .tmp v]) (tmps : Array Value) (P : Program) (w : World) :
    (results fn tmps).run P w =
      ((asAddr (tmps.getD p undef)).run P w).andThen fun a w₁ => ((loadVar ty a).run P w₁).andThen fun x w₂ => .ok (.tuple #[x, tmps.getD u undef, tmps.getD v undef]) w₂ := by
  simp only [results, h]
  simp [Sem.run_bind, Result.andThen]
theorem ret53 {R : Ending → World → Prop} {a : Act} {w : World} {n i v : Int} {t : ByteArray} {x k : Int} (B : Nat) (h2 : a.tmps.getD 6 undef = .pointer (some ⟨B, 0, none⟩)) (h3 : a.tmps.getD 7 undef = .int .i64 x) (h4 : a.tmps.getD 8 undef = .int .i64 k) (hd : a.defers = [])
    (hB : w.heap[B]? = some (.cells #[.int .i64 n, .int .u8 i, .int .u64 v, .string t] 52 (0, 0))) (hR : R (.returned (.tuple #[.agg #[.int .i64 n, .int .u8 i, .int .u64 v, .string t], .int .i64 x, .int .i64 k])) w) : bodyPost Try.prog Try.f45 R .ret a w :=
  bodyPost_ret (by
    have hl := run_loadVar_row (P := Try.prog) w B 52 52 #[.int .i64 n, .int .u8 i, .int .u64 v, .string t] (0, 0) _ hB Try.underlying52 rfl (by kernel_rfl)
    rw [results_cell_two Try.results45, h2, h3, h4]
    simp [asAddr, hl, Result.andThen]) hd hR
def TellsF (f : Nat) (args : Array Value) (n x k : Int) : Prop := ∀ w : World, Calls Try.prog f args w fun e w' => e = .returned (.tuple #[.int .u64 n, .int .i64 x, .int .i64 k]) ∧ w = w'
theorem below_two (w : World) (o1 o2 : Obj) : Below w.heap.size w ((w.alloc o1).alloc o2) := ((Below.refl _ w).alloc (Nat.le_refl _) _).alloc (by simp) _
theorem two_at (w : World) (o1 o2 : Obj) : ((w.alloc o1).alloc o2).heap[w.heap.size + 1]? = some o2 := by
  have := heap_alloc_new (w.alloc o1) o2
  simpa using this
set_option maxRecDepth 100000 in
set_option maxHeartbeats 1000000 in
theorem rval0 (s t : ByteArray) (a n v N X K : Int) (hT : TellsF 43 #[.string s, .int .i64 a] N X K) (w : World) :
    Calls Try.prog 45 #[.string s, .int .i64 a, .agg #[.int .i64 n, .int .u8 0, .int .u64 v, .string t]] w (Ret w (.tuple #[.agg #[.int .i64 n, .int .u8 0, .int .u64 N, .string t], .int .i64 X, .int .i64 K])) := by
  have HT := Lib.hid hT
  clear hT
  go_enter Try.func45, Try.ntmps45
  go_wp2_with (go_at_call 43; refine (HT.out _).mono ?_; rintro e w' ⟨rfl, rfl⟩)
  exact ret53 (w.heap.size + 1) rfl rfl rfl rfl (two_at _ _ _) ⟨rfl, below_two _ _ _⟩
set_option maxRecDepth 100000 in
set_option maxHeartbeats 1000000 in
theorem rval1 (s t : ByteArray) (a n v N X K : Int) (hT : TellsF 69 #[.string s, .int .i64 a, .int .i64 8] N X K) (w : World) :
    Calls Try.prog 45 #[.string s, .int .i64 a, .agg #[.int .i64 n, .int .u8 1, .int .u64 v, .string t]] w (Ret w (.tuple #[.agg #[.int .i64 n, .int .u8 1, .int .u64 N, .string t], .int .i64 X, .int .i64 K])) := by
  have HT := Lib.hid hT
  clear hT
  go_enter Try.func45, Try.ntmps45
  go_wp2_with (go_at_call 69; refine (HT.out _).mono ?_; rintro e w' ⟨rfl, rfl⟩)
  exact ret53 (w.heap.size + 1) rfl rfl rfl rfl (two_at _ _ _) ⟨rfl, below_two _ _ _⟩
set_option maxRecDepth 100000 in
set_option maxHeartbeats 1000000 in
theorem rval5 (s t : ByteArray) (a n v N X K : Int) (hT : TellsF 69 #[.string s, .int .i64 a, .int .i64 4] N X K) (w : World) :
    Calls Try.prog 45 #[.string s, .int .i64 a, .agg #[.int .i64 n, .int .u8 5, .int .u64 v, .string t]] w (Ret w (.tuple #[.agg #[.int .i64 n, .int .u8 5, .int .u64 N, .string t], .int .i64 X, .int .i64 K])) := by
  have HT := Lib.hid hT
  clear hT
  go_enter Try.func45, Try.ntmps45
  go_wp2_with (go_at_call 69; refine (HT.out _).mono ?_; rintro e w' ⟨rfl, rfl⟩)
  exact ret53 (w.heap.size + 1) rfl rfl rfl rfl (two_at _ _ _) ⟨rfl, below_two _ _ _⟩
set_option maxRecDepth 100000 in
set_option maxHeartbeats 1000000 in
theorem rval2a (s t : ByteArray) (a n v N X K : Int) (hK : (K != 0) = true) (hT : TellsF 43 #[.string s, .int .i64 a] N X K) (w : World) :
    Calls Try.prog 45 #[.string s, .int .i64 a, .agg #[.int .i64 n, .int .u8 2, .int .u64 v, .string t]] w (Ret w (.tuple #[.agg #[.int .i64 n, .int .u8 2, .int .u64 v, .string t], .int .i64 a, .int .i64 K])) := by
  have HT := Lib.hid hT
  clear hT
  go_enter Try.func45, Try.ntmps45
  go_wp2_with (go_at_call 43; refine (HT.out _).mono ?_; rintro e w' ⟨rfl, rfl⟩)
  exact ret53 (w.heap.size + 1) rfl rfl rfl rfl (two_at _ _ _) ⟨rfl, below_two _ _ _⟩
set_option maxRecDepth 100000 in
set_option maxHeartbeats 1000000 in
theorem rval2b (s t : ByteArray) (hs : s.size ≤ 1000000000000) (a n v N X : Int) (hX0 : 0 ≤ X) (hX : X ≤ (s.size : Int)) (hN : (s.size : Int) - X < N) (hT : TellsF 43 #[.string s, .int .i64 a] N X 0) (w : World) :
    Calls Try.prog 45 #[.string s, .int .i64 a, .agg #[.int .i64 n, .int .u8 2, .int .u64 v, .string t]] w (Ret w (.tuple #[.agg #[.int .i64 n, .int .u8 2, .int .u64 v, .string t], .int .i64 a, .int .i64 8])) := by
  have HT := Lib.hid hT
  clear hT
  go_enter Try.func45, Try.ntmps45
  go_wp2_with (go_at_call 43; refine (HT.out _).mono ?_; rintro e w' ⟨rfl, rfl⟩)
  exact ret53 (w.heap.size + 1) rfl rfl rfl rfl (two_at _ _ _) ⟨rfl, below_two _ _ _⟩
set_option maxRecDepth 100000 in
set_option maxHeartbeats 1000000 in
theorem rval2c (s t : ByteArray) (hs : s.size ≤ 1000000000000) (a n v : Int) (N X Z : Nat) (hZ : X + N = Z) (hN : Z ≤ s.size) (hT : TellsF 43 #[.string s, .int .i64 a] N X 0) (w : World) :
    Calls Try.prog 45 #[.string s, .int .i64 a, .agg #[.int .i64 n, .int .u8 2, .int .u64 v, .string t]] w (Ret w (.tuple #[.agg #[.int .i64 n, .int .u8 2, .int .u64 v, .string (s.extract X Z)], .int .i64 (Z : Int), .int .i64 0])) := by
  have HT := Lib.hid hT
  have h1 : (X : Int) + (N : Int) = (Z : Int) := by omega
  have h2 : ¬ ((s.size : Int) - (X : Int) < (N : Int)) := by omega
  have hZX : X ≤ Z := by omega
  have hN2 : N ≤ s.size := by omega
  have hX2 : X ≤ s.size := by omega
  clear hT hZ
  go_enter Try.func45, Try.ntmps45
  go_wp2_with (go_at_call 43; refine (HT.out _).mono ?_; rintro e w' ⟨rfl, rfl⟩)
  exact ret53 (w.heap.size + 1) rfl rfl rfl rfl (two_at _ _ _) ⟨rfl, below_two _ _ _⟩
/-- A value was not read. -/
def RvD (w : World) (K : Int) (e : Ending) (w' : World) : Prop := ∃ (n i v : Int) (t : ByteArray) (x : Int), Ret w (.tuple #[.agg #[.int .i64 n, .int .u8 i, .int .u64 v, .string t], .int .i64 x, .int .i64 K]) e w'
theorem ruv_yes (s : ByteArray) (A N C : Nat) (hA : A ≤ s.size) (hs : s.size ≤ 1000000000000) (hr : Bt.rd (lft s A) 0 0 = (N, C, 0)) : TellsF 43 #[.string s, .int .i64 A] N ((A + C : Nat) : Int) 0 := by
  have hf := Bt.rd_facts (lft s A) 0 0 (by omega) (by simp)
  rw [hr] at hf
  exact fun W => ruvarint_ok s A W hA (by omega) N C (A + C) hr rfl (hf.2.1 rfl).2.1
theorem ruv_not (s : ByteArray) (A N C K : Nat) (hA : A ≤ s.size) (hs : s.size ≤ 1000000000000) (hK : K ≠ 0) (hr : Bt.rd (lft s A) 0 0 = (N, C, K)) : N = 0 ∧ C = 0 ∧ TellsF 43 #[.string s, .int .i64 A] 0 0 K := by
  have hf := (Bt.rd_facts (lft s A) 0 0 (by omega) (by simp)).2.2
  rw [hr] at hf
  have h0 : N = 0 ∧ C = 0 := by
    rcases hf with hf | hf | hf
    · exact absurd hf hK
    · simp only [Prod.mk.injEq] at hf
      exact ⟨hf.1, hf.2.1⟩
    · simp only [Prod.mk.injEq] at hf
      exact ⟨hf.1, hf.2.1⟩
  obtain ⟨rfl, rfl⟩ := h0
  exact ⟨rfl, rfl, fun W => ruvarint_no s A W hA (by omega) K (by omega) hr⟩
/-- A field that is read, as the document has it. -/
def ffd (f : Fd) : Ff := ⟨(f.n : Int), f.w, f.v, bs f.t⟩
theorem rvalue_any (s : ByteArray) (A : Nat) (hA : A ≤ s.size) (hs : s.size ≤ 1000000000000) (n : Int) (wi v : Nat) (hw : wi = 0 ∨ wi = 1 ∨ wi = 2 ∨ wi = 5) (t : List UInt8) (k K : Nat) (hx : rdv wi (lft s A) = (v, t, k, K)) (w : World) :
    (K = 0 → Calls Try.prog 45 #[.string s, .int .i64 (A : Int), .agg #[.int .i64 n, .int .u8 (wi : Int), .int .u64 0, .string ⟨#[]⟩]] w (Ret w (.tuple #[.agg #[.int .i64 n, .int .u8 (wi : Int), .int .u64 (v : Int), .string (bs t)], .int .i64 ((A + k : Nat) : Int), .int .i64 0]))) ∧
    (K ≠ 0 → Calls Try.prog 45 #[.string s, .int .i64 (A : Int), .agg #[.int .i64 n, .int .u8 (wi : Int), .int .u64 0, .string ⟨#[]⟩]] w (RvD w (K : Int))) := by
  rcases hw with rfl | rfl | rfl | rfl
  · obtain ⟨N, C, K1, hr⟩ : ∃ N C K1, Bt.rd (lft s A) 0 0 = (N, C, K1) := ⟨_, _, _, rfl⟩
    simp only [rdv, if_true, hr] at hx
    simp only [Prod.mk.injEq] at hx
    obtain ⟨rfl, rfl, rfl, rfl⟩ := hx
    refine ⟨fun hk => ?_, fun hk => ?_⟩
    · subst hk
      exact rval0 s _ A n 0 _ _ _ (ruv_yes s A N C hA hs hr) w
    · exact (rval0 s _ A n 0 _ _ _ (ruv_not s A N C K1 hA hs hk hr).2.2 w).mono fun e w' h => ⟨_, _, _, _, _, h⟩
  · simp only [rdv, if_true, show ¬ (1 : Nat) = 0 from by decide, if_false, lft_length] at hx
    split at hx
    · rename_i h8
      simp only [Prod.mk.injEq] at hx
      obtain ⟨rfl, rfl, rfl, rfl⟩ := hx
      refine ⟨fun _ => ?_, fun hk => absurd rfl hk⟩
      exact rval1 s _ A n 0 _ _ _ (fun W => rfixed_ok8 s A W (by omega) (by omega)) w
    · rename_i h8
      simp only [Prod.mk.injEq] at hx
      obtain ⟨rfl, rfl, rfl, rfl⟩ := hx
      refine ⟨fun hk => (by cases hk), fun _ => ?_⟩
      exact (rval1 s _ A n 0 0 0 8 (fun W => rfixed_short8 s A W (by omega) (by omega)) w).mono fun e w' h => ⟨_, _, _, _, _, h⟩
  · obtain ⟨N, C, K1, hr⟩ : ∃ N C K1, Bt.rd (lft s A) 0 0 = (N, C, K1) := ⟨_, _, _, rfl⟩
    have hf := Bt.rd_facts (lft s A) 0 0 (by omega) (by simp)
    rw [hr] at hf
    dsimp only at hf
    simp only [rdv, if_true, show ¬ (2 : Nat) = 0 from by decide, show ¬ (2 : Nat) = 1 from by decide, if_false, hr] at hx
    by_cases hK1 : K1 = 0
    · subst hK1
      obtain ⟨-, hC1, hC2⟩ := hf.2.1 rfl
      rw [Nat.zero_add, lft_length] at hC2
      rw [if_neg (by simp)] at hx
      rw [lft_length] at hx
      by_cases hN : s.size - A - C < N
      · rw [if_pos hN] at hx
        simp only [Prod.mk.injEq] at hx
        obtain ⟨-, -, -, rfl⟩ := hx
        refine ⟨fun h0 => (by cases h0), fun _ => ?_⟩
        exact (rval2b s _ hs A n 0 N ((A + C : Nat) : Int) (by omega) (by omega) (by omega) (ruv_yes s A N C hA hs hr) w).mono fun e w' h => ⟨_, _, _, _, _, h⟩
      · rw [if_neg hN] at hx
        simp only [Prod.mk.injEq] at hx
        obtain ⟨rfl, rfl, rfl, rfl⟩ := hx
        refine ⟨fun _ => ?_, fun h0 => absurd rfl h0⟩
        have hbs : bs (List.take N (List.drop C (lft s A))) = s.extract (A + C) (A + C + N) := by
          rw [← bs_of (s.extract (A + C) (A + C + N)), extract_list, lft, List.drop_drop, show A + C + N - (A + C) = N by omega]
        rw [hbs, ← Nat.add_assoc]
        exact rval2c s _ hs A n 0 N (A + C) (A + C + N) rfl (by omega) (ruv_yes s A N C hA hs hr) w
    · rw [if_pos hK1] at hx
      simp only [Prod.mk.injEq] at hx
      obtain ⟨-, -, -, rfl⟩ := hx
      refine ⟨fun h0 => absurd h0 hK1, fun _ => ?_⟩
      exact (rval2a s _ A n 0 0 0 K1 (by rw [bne_iff_ne]; omega) (ruv_not s A N C K1 hA hs hK1 hr).2.2 w).mono fun e w' h => ⟨_, _, _, _, _, h⟩
  · simp only [rdv, show ¬ (5 : Nat) = 0 from by decide, show ¬ (5 : Nat) = 1 from by decide, show ¬ (5 : Nat) = 2 from by decide, if_false, lft_length] at hx
    split at hx
    · rename_i h8
      simp only [Prod.mk.injEq] at hx
      obtain ⟨rfl, rfl, rfl, rfl⟩ := hx
      refine ⟨fun _ => ?_, fun hk => absurd rfl hk⟩
      exact rval5 s _ A n 0 _ _ _ (fun W => rfixed_ok4 s A W (by omega) (by omega)) w
    · rename_i h8
      simp only [Prod.mk.injEq] at hx
      obtain ⟨rfl, rfl, rfl, rfl⟩ := hx
      refine ⟨fun hk => (by cases hk), fun _ => ?_⟩
      exact (rval5 s _ A n 0 0 0 8 (fun W => rfixed_short4 s A W (by omega) (by omega)) w).mono fun e w' h => ⟨_, _, _, _, _, h⟩
set_option maxRecDepth 100000 in
set_option maxHeartbeats 4000000 in
/-- The document's Write. -/
theorem rwrite_any (l : List Ff) (hl : l.length ≤ 1000000) (hok : ∀ f ∈ l, f.ok) (hby : ∀ f ∈ l, f.t.size ≤ 1000000) (v : Value) (w : World) (hv : FAt w v l) :
    Calls Try.prog 36 #[v] w (fun e w' => Ret w (.tuple #[.string (bs (rwk l []).1), .int .i64 ((rwk l []).2 : Int)]) e w') := by
  have HV := Lib.hid hv
  have HOK := Lib.hid hok
  have HBY := Lib.hid hby
  obtain ⟨va, vc, hv2⟩ := hv.slice
  clear hv hok hby
  generalize hL : l.length = L at *
  have HL := Lib.hid hL
  clear hL
  subst hv2
  go_enter Try.func36, Try.ntmps36
  go_wp2
  go_loopw [4, 5] (fun u i wr => ∃ (k : Nat) (b : ByteArray), i = .int .i64 (k : Int) ∧ u = .string b ∧ k ≤ L ∧ b.size ≤ 1000020 * k ∧ Hid (rwk (l.drop k) b.data.toList = rwk l []) ∧ Hid (Below w.heap.size w wr)) (fun _ i _ => L - (intOf i).toNat)
  case atStart => exact ⟨0, ⟨#[]⟩, rfl, rfl, by omega, by decide, Lib.hid rfl, Lib.hid (Below.refl _ _)⟩
  case round =>
    obtain ⟨k, b, rfl, rfl, hk, hbl, HE, HB⟩ := hrel
    have hbl2 : b.size ≤ 1000020000000 := by omega
    have HBL := Lib.hid hbl
    clear hbl
    by_cases hlt : k < L
    · have hkl : k < l.length := by have := HL.out; omega
      rcases (HV.out.below HB.out (Nat.le_refl _)) with ⟨h0, _⟩ | ⟨g, og, cg, hg, hcs⟩
      · have := HL.out; rw [h0] at this; simp at this; omega
      obtain ⟨q0, q1, q2, q3⟩ := hcs k hkl
      have hdr : l.drop k = l[k] :: l.drop (k + 1) := List.drop_eq_getElem_cons hkl
      have hfo := HOK.out l[k] (List.getElem_mem hkl)
      have hfb := HBY.out l[k] (List.getElem_mem hkl)
      have hrun := HE.out
      rw [hdr, rwk] at hrun
      clear hcs
      generalize l[k] = f at *
      cases hg
      have HM := Lib.hid (fun W => rmay_any f W)
      cases hm : f.may with
      | false =>
        rw [hm, if_neg (by simp)] at hrun
        have HRN := Lib.hid hrun
        unfold fv at HM
        rw [hm] at HM
        clear hrun hdr hfo hfb hm
        obtain ⟨n, i, v, t⟩ := f
        dsimp only at *
        generalize (i : Int) = i at *
        generalize (v : Int) = v at *
        go_wp2_with fail
        refine (HM.out _).mono ?_
        rintro e w1 ⟨rfl, hb1⟩
        have HB1 := Lib.hid (HB.out.trans (hb1.mono HB.out.size))
        clear hb1
        go_wp2
        go_ret2
        refine ⟨?_, HB1.out⟩
        rw [← HRN.out]
        rfl
      | true =>
        rw [hm, if_pos rfl] at hrun
        have hle := Ff.by_le f hfo hm
        have HY := Lib.hid (fun W => Ff.by_ok f hfo hm W)
        unfold fv at HM HY
        rw [hm] at HM
        have HBN : Hid ((b ++ bs f.by).size ≤ 1000020 * (k + 1)) := Lib.hid (by rw [ByteArray.size_append, bs_size]; have := HBL.out; omega)
        have hbz : (bs f.by).size ≤ 1000020 := by rw [bs_size]; omega
        have HRN : Hid (rwk (l.drop (k + 1)) (b ++ bs f.by).data.toList = rwk l []) := Lib.hid (by
          rw [← hrun, show (b ++ bs f.by).data.toList = b.data.toList ++ f.by by simp [bs]])
        clear hrun hdr hfo hfb hm hle
        generalize bs f.by = fb at *
        obtain ⟨n, i, v, t⟩ := f
        dsimp only at *
        generalize (i : Int) = i at *
        generalize (v : Int) = v at *
        go_wp2_with fail
        refine (HM.out _).mono ?_
        rintro e w1 ⟨rfl, hb1⟩
        have HB1 := Lib.hid (HB.out.trans (hb1.mono HB.out.size))
        have r0 := (World.cell?_of_block (a := ⟨g, og + k * 4, none⟩) (hb1.block g (World.block_lt_of_cell? wr ⟨g, _, none⟩ q0))).trans q0
        have r1 := (World.cell?_of_block (a := ⟨g, og + k * 4 + 1, none⟩) (hb1.block g (World.block_lt_of_cell? wr ⟨g, _, none⟩ q0))).trans q1
        have r2 := (World.cell?_of_block (a := ⟨g, og + k * 4 + 2, none⟩) (hb1.block g (World.block_lt_of_cell? wr ⟨g, _, none⟩ q0))).trans q2
        have r3 := (World.cell?_of_block (a := ⟨g, og + k * 4 + 3, none⟩) (hb1.block g (World.block_lt_of_cell? wr ⟨g, _, none⟩ q0))).trans q3
        clear hb1 q0 q1 q2 q3
        go_wp2_with fail
        refine (HY.out _).mono ?_
        rintro e w2 ⟨rfl, hb2⟩
        have HB2 := Lib.hid (HB1.out.trans (hb2.mono HB1.out.size))
        clear hb2
        go_wp2
        go_roundw
        case rel => exact ⟨k + 1, _, by go_num, rfl, by omega, HBN.out, HRN, HB2⟩
        case measure => simp [intOf]; omega
    · obtain rfl : k = L := by omega
      have hr : Hid (rwk l [] = (b.data.toList, 0)) := Lib.hid (by
        have := HE.out
        rw [List.drop_of_length_le (by have := HL.out; omega), rwk] at this
        exact this.symm)
      go_wp2
      go_ret2
      refine ⟨?_, HB.out⟩
      rw [hr.out]
      rfl
end Go.Proofs.Ytknfodpegkpjnaa
