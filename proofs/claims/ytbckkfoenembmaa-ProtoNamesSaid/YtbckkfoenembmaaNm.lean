/- What ProtoNames stands on: the closed calls. -/
import Derived.Test.YtbckkfoenembmaaPk
namespace Go.Proofs.Ytbckkfoenembmaa
open Go.RowKit
theorem St.alloc {w W : World} {G : List (Value × List Gf)} {F : List (Value × List Ff)} {V : List (Value × List Value)} {I : List (Value × List Int)} (h : St w W G F V I) (o : Obj) : St w (W.alloc o) G F V I := h.below ((Below.refl _ _).alloc (Nat.le_refl _) o)
theorem St.none (w : World) : St w w [] [] [] [] := ⟨Below.refl _ _, fun p hp => (by cases hp), fun p hp => (by cases hp), fun p hp => (by cases hp), fun p hp => (by cases hp)⟩
theorem gat_new (W : World) (l : List Gf) (A : Array Value) (hA : A.toList = cells2 l) (n : Nat) (hn : n = l.length) : GAt (W.alloc (.cells A 35)) (.slice (some ⟨W.heap.size, 0, none⟩) n n) l := by
  subst hn
  refine .inr ⟨W.heap.size, 0, _, rfl, fun j hj => ?_⟩
  obtain ⟨h1, h2⟩ := cells2_at l j hj
  rw [World.cell?_alloc_mark, World.cell?_alloc_mark, ← Array.getElem?_toList, ← Array.getElem?_toList, hA, Nat.zero_add]
  exact ⟨h1, h2⟩
theorem gat_sub {W : World} {g o n c : Nat} {l : List Gf} (h : GAt W (.slice (some ⟨g, o, none⟩) n c) l) (i m c' : Nat) (hm : i + m ≤ l.length) (hl : l ≠ []) : GAt W (.slice (some ⟨g, o + i * 2, none⟩) m c') ((l.drop i).take m) := by
  rcases h with ⟨h0, _⟩ | ⟨g', o', c2, hv, hcs⟩
  · exact absurd h0 hl
  · cases hv
    have hlen : ((l.drop i).take m).length = m := by rw [List.length_take, List.length_drop]; omega
    refine .inr ⟨g, o + i * 2, c', by rw [hlen], fun j hj => ?_⟩
    rw [hlen] at hj
    obtain ⟨h1, h2⟩ := hcs (i + j) (by omega)
    have e : ((l.drop i).take m)[j]'(by rw [hlen]; exact hj) = l[i + j]'(by omega) := by rw [List.getElem_take, List.getElem_drop]
    rw [e]
    exact ⟨by rw [← h1]; congr 2; omega, by rw [← h2]; congr 2; omega⟩
theorem gsame {W W' : World} {v : Value} {l : List Gf} (h : GAt W v l) (e : W'.heap = W.heap) : GAt W' v l := h.same (fun g _ _ => by rw [e])
theorem gat_new11 (W : World) (o : Obj) (l : List Gf) (A : Array Value) (hA : A.toList = cells2 l) (n : Nat) (hn : n = l.length) : GAt ((W.alloc o).alloc (.cells A 35)) (.slice (some ⟨W.heap.size + 1, 0, none⟩) n n) l := by
  have h := gat_new (W.alloc o) l A hA n hn
  rw [show (W.alloc o).heap.size = W.heap.size + 1 by simp] at h
  exact h
theorem below_pair {w W W' : World} (h : Below w.heap.size w W) (o1 o2 : Obj) (hb : Below ((W.alloc o1).alloc o2).heap.size ((W.alloc o1).alloc o2) W') : Below w.heap.size w W' :=
  below_trans' (below_trans' (below_trans' h ((Below.refl _ _).alloc (Nat.le_refl _) o1)) ((Below.refl _ _).alloc (Nat.le_refl _) o2)) hb
/-- Two blocks of one field each, in either order. -/
def oA : Obj := .cells #[.int .i64 1, .iface 55 (.int .u64 1)] 35
def oB : Obj := .cells #[.int .i64 1, .iface 59 (.int .u64 1)] 35
theorem xa (W : World) : GAt ((W.alloc oA).alloc oB) (.slice (some ⟨W.heap.size, 0, none⟩) 1 1) [⟨1, .va 1⟩] := (gat_new W [⟨1, .va 1⟩] #[.int .i64 1, .iface 55 (.int .u64 1)] rfl 1 rfl).below ((Below.refl _ _).alloc (Nat.le_refl _) oB) (Nat.le_refl _)
theorem xb (W : World) : GAt ((W.alloc oA).alloc oB) (.slice (some ⟨W.heap.size + 1, 0, none⟩) 1 1) [⟨1, .ei 1⟩] := gat_new11 W oA [⟨1, .ei 1⟩] #[.int .i64 1, .iface 59 (.int .u64 1)] rfl 1 rfl
theorem ya (W : World) : GAt ((W.alloc oB).alloc oA) (.slice (some ⟨W.heap.size + 1, 0, none⟩) 1 1) [⟨1, .va 1⟩] := gat_new11 W oB [⟨1, .va 1⟩] #[.int .i64 1, .iface 55 (.int .u64 1)] rfl 1 rfl
theorem yb (W : World) : GAt ((W.alloc oB).alloc oA) (.slice (some ⟨W.heap.size, 0, none⟩) 1 1) [⟨1, .ei 1⟩] := (gat_new W [⟨1, .ei 1⟩] #[.int .i64 1, .iface 59 (.int .u64 1)] rfl 1 rfl).below ((Below.refl _ _).alloc (Nat.le_refl _) oA) (Nat.le_refl _)
theorem kbe {W W' : World} {g i : Nat} {v : Value} (hb : Below W.heap.size W W') (h : W.cell? ⟨g, i, none⟩ = some v) : W'.cell? ⟨g, i, none⟩ = some v := by
  have hlt : g < W.heap.size := World.block_lt_of_cell? W ⟨g, i, none⟩ h
  rw [World.cell?_of_block (a := ⟨g, i, none⟩) (hb.block g hlt)]
  exact h
theorem kal {W : World} {g i : Nat} {v : Value} (o : Obj) (h : W.cell? ⟨g, i, none⟩ = some v) : (W.alloc o).cell? ⟨g, i, none⟩ = some v := kbe ((Below.refl _ _).alloc (Nat.le_refl _) o) h
theorem iat_two (W : World) (x y : Int) : IAt (W.alloc (.cells #[.int .i64 x, .int .i64 y] 3)) (.slice (some ⟨W.heap.size, 0, none⟩) 2 2) [x, y] := by
  refine .inr ⟨W.heap.size, 0, 2, rfl, fun j hj => ?_⟩
  have hj2 : j < 2 := by simpa using hj
  rw [World.cell?_alloc_mark]
  rcases (by omega : j = 0 ∨ j = 1) with rfl | rfl <;> rfl
set_option maxRecDepth 100000 in
theorem wire0 (W : World) : Calls Try.prog 40 #[.int .u64 1] W (Ret W (.int .u8 0)) := by
  go_enter Try.func40, Try.ntmps40
  go_wp2
  go_ret
  exact ⟨rfl, Below.refl _ _⟩
set_option maxRecDepth 100000 in
theorem wire1 (W : World) : Calls Try.prog 41 #[.int .u64 1] W (Ret W (.int .u8 1)) := by
  go_enter Try.func41, Try.ntmps41
  go_wp2
  go_ret
  exact ⟨rfl, Below.refl _ _⟩
set_option maxRecDepth 100000 in
theorem wire2 (W : World) : Calls Try.prog 42 #[.string ⟨#[]⟩] W (Ret W (.int .u8 2)) := by
  go_enter Try.func42, Try.ntmps42
  go_wp2
  go_ret
  exact ⟨rfl, Below.refl _ _⟩
set_option maxRecDepth 100000 in
theorem wire5 (W : World) : Calls Try.prog 43 #[.int .u32 1] W (Ret W (.int .u8 5)) := by
  go_enter Try.func43, Try.ntmps43
  go_wp2
  go_ret
  exact ⟨rfl, Below.refl _ _⟩
/-- One field that may be written, or not. -/
theorem one_is (n : Int) (x : Vl) (hf : Gf.ok ⟨n, x⟩) (hx : x.by.length ≤ 1000000) (R : List UInt8) (A : Array UInt8) (hR : (wrk [⟨n, x⟩] []).1 = R) (hA : R.toArray = A) (W : World) : Calls Try.prog 44 #[.int .i64 n, x.v] W (Ret W (.string ⟨A⟩)) := by
  have h := one_any n x hf hx W
  rw [hR] at h
  subst hA
  exact h
theorem vb {n : Nat} (h : n < 128) : Bt.vint n = [UInt8.ofNat n] := Bt.vint_small h
theorem wkA : (wrk [⟨1, .ei 258⟩] []).1 = [9, 2, 1, 0, 0, 0, 0, 0, 0] := by
  rw [wrk, if_pos (by decide), wrk]
  show Bt.vint 9 ++ Bt.fx 8 258 = _
  rw [vb (by decide)]
  decide
theorem wkB : (wrk [⟨536870911, .va 0⟩] []).1 = [248, 255, 255, 255, 15, 0] := by
  rw [wrk, if_pos (by decide), wrk]
  show Bt.vint 4294967288 ++ Bt.vint 0 = _
  rw [Bt.vint_big (by decide), Bt.vint_big (by decide), Bt.vint_big (by decide), Bt.vint_big (by decide), vb (by decide), vb (by decide)]
  decide
theorem wkC : (wrk [⟨16, .tx ⟨#[]⟩⟩] []).1 = [130, 1, 0] := by
  rw [wrk, if_pos (by decide), wrk]
  show Bt.vint 130 ++ (Bt.vint 0 ++ []) = _
  rw [Bt.vint_big (by decide), vb (by decide), vb (by decide)]
  decide
theorem wk_no (n : Int) (x : Vl) (h : (⟨n, x⟩ : Gf).may = false) : (wrk [⟨n, x⟩] []).1 = [] := by
  rw [wrk, if_neg (by rw [h]; decide)]
theorem da (W : World) : Calls Try.prog 44 #[.int .i64 1, .iface 59 (.int .u64 258)] W (Ret W (.string ⟨#[9, 2, 1, 0, 0, 0, 0, 0, 0]⟩)) := one_is 1 (.ei 258) ⟨by decide, by decide, by show 258 < 18446744073709551616; omega⟩ (by show (Bt.fx 8 258).length ≤ 1000000; decide) _ _ wkA rfl W
theorem db (W : World) : Calls Try.prog 44 #[.int .i64 536870911, .iface 55 (.int .u64 0)] W (Ret W (.string ⟨#[248, 255, 255, 255, 15, 0]⟩)) := one_is 536870911 (.va 0) ⟨by decide, by decide, by show 0 < 18446744073709551616; omega⟩ (by show (Bt.vint 0).length ≤ 1000000; rw [vb (by decide)]; decide) _ _ wkB rfl W
theorem dc (W : World) : Calls Try.prog 44 #[.int .i64 16, .iface 80 (.string ⟨#[]⟩)] W (Ret W (.string ⟨#[130, 1, 0]⟩)) := one_is 16 (.tx ⟨#[]⟩) ⟨by decide, by decide, by show (0 : Nat) ≤ _; omega⟩ (by show (Bt.vint 0 ++ []).length ≤ 1000000; rw [vb (by decide)]; decide) _ _ wkC rfl W
theorem dva (n : Int) (h0 : -9223372036854775808 ≤ n) (h1 : n ≤ 9223372036854775807) (hm : (⟨n, .va 1⟩ : Gf).may = false) (W : World) : Calls Try.prog 44 #[.int .i64 n, .iface 55 (.int .u64 1)] W (Ret W (.string ⟨#[]⟩)) := one_is n (.va 1) ⟨h0, h1, by show 1 < 18446744073709551616; omega⟩ (by show (Bt.vint 1).length ≤ 1000000; rw [vb (by decide)]; decide) _ _ (wk_no n _ hm) rfl W
theorem dno (W : World) : Calls Try.prog 44 #[.int .i64 1, .nilIface] W (Ret W (.string ⟨#[]⟩)) := one_is 1 .no ⟨by decide, by decide, trivial⟩ (by show 0 ≤ 1000000; omega) _ _ (wk_no 1 _ rfl) rfl W
theorem dan (k : Int) (W : World) : Calls Try.prog 44 #[.int .i64 1, .iface 83 (.agg #[.int .u8 k])] W (Ret W (.string ⟨#[]⟩)) := one_is 1 (.an k) ⟨(by decide : (-9223372036854775808 : Int) ≤ 1), (by decide : (1 : Int) ≤ 9223372036854775807), trivial⟩ (by show 0 ≤ 1000000; omega) _ _ (wk_no 1 _ rfl) rfl W
theorem ref (A : Array UInt8) (hA : A.size ≤ 1000000) (hn : A.toList ≠ []) (K : Nat) (hK : K ≠ 0) (h : (rdf A.toList).2.2 = K) (W : World) : Calls Try.prog 45 #[.string ⟨A⟩, .int .i64 (K : Int)] W (Ret W (.bool true)) := refused_any ⟨A⟩ hA K (msg_no hn h hK _) W
theorem ref1 (W : World) : Calls Try.prog 45 #[.string ⟨#[128]⟩, .int .i64 8] W (Ret W (.bool true)) := ref #[128] (by decide) (by decide) 8 (by decide) (by kernel_rfl) W
theorem ref2 (W : World) : Calls Try.prog 45 #[.string ⟨#[12]⟩, .int .i64 4] W (Ret W (.bool true)) := ref #[12] (by decide) (by decide) 4 (by decide) (by kernel_rfl) W
theorem ref3 (W : World) : Calls Try.prog 45 #[.string ⟨#[14]⟩, .int .i64 4] W (Ret W (.bool true)) := ref #[14] (by decide) (by decide) 4 (by decide) (by kernel_rfl) W
theorem ref4 (W : World) : Calls Try.prog 45 #[.string ⟨#[15]⟩, .int .i64 4] W (Ret W (.bool true)) := ref #[15] (by decide) (by decide) 4 (by decide) (by kernel_rfl) W
theorem ref5 (W : World) : Calls Try.prog 45 #[.string ⟨#[11]⟩, .int .i64 4] W (Ret W (.bool true)) := ref #[11] (by decide) (by decide) 4 (by decide) (by kernel_rfl) W
theorem ref6 (W : World) : Calls Try.prog 45 #[.string ⟨#[128, 128, 128, 128, 16, 0]⟩, .int .i64 4] W (Ret W (.bool true)) := ref #[128, 128, 128, 128, 16, 0] (by decide) (by decide) 4 (by decide) (by kernel_rfl) W
theorem ref7 (W : World) : Calls Try.prog 45 #[.string ⟨#[9, 0, 0, 0, 0, 0, 0, 0]⟩, .int .i64 8] W (Ret W (.bool true)) := ref #[9, 0, 0, 0, 0, 0, 0, 0] (by decide) (by decide) 8 (by decide) (by kernel_rfl) W
theorem ref8 (W : World) : Calls Try.prog 45 #[.string ⟨#[13, 0, 0, 0]⟩, .int .i64 8] W (Ret W (.bool true)) := ref #[13, 0, 0, 0] (by decide) (by decide) 8 (by decide) (by kernel_rfl) W
theorem ref9 (W : World) : Calls Try.prog 45 #[.string ⟨#[18, 255, 255, 255, 255, 255, 255, 255, 255, 255, 1, 97]⟩, .int .i64 8] W (Ret W (.bool true)) := ref #[18, 255, 255, 255, 255, 255, 255, 255, 255, 255, 1, 97] (by decide) (by decide) 8 (by decide) (by kernel_rfl) W
theorem ref10 (W : World) : Calls Try.prog 45 #[.string ⟨#[8, 255, 255, 255, 255, 255, 255, 255, 255, 255, 2]⟩, .int .i64 4] W (Ret W (.bool true)) := ref #[8, 255, 255, 255, 255, 255, 255, 255, 255, 255, 2] (by decide) (by decide) 4 (by decide) (by kernel_rfl) W
theorem ref11 (W : World) : Calls Try.prog 45 #[.string ⟨#[8, 1, 8]⟩, .int .i64 8] W (Ret W (.bool true)) := refused_any ⟨#[8, 1, 8]⟩ (by decide) 8 (by
  show msg [8, 1, 8] [] = _
  rw [msg_ok (by decide) (by kernel_rfl : rdf [8, 1, 8] = (⟨1, 0, 1, []⟩, 2, 0)) (by decide)]
  exact msg_no (by decide) (by kernel_rfl) (by decide) _) W
theorem ref12 (W : World) : Calls Try.prog 45 #[.string ⟨#[18]⟩, .int .i64 8] W (Ret W (.bool true)) := ref #[18] (by decide) (by decide) 8 (by decide) (by kernel_rfl) W
theorem ref13 (W : World) : Calls Try.prog 45 #[.string ⟨#[18, 128]⟩, .int .i64 8] W (Ret W (.bool true)) := ref #[18, 128] (by decide) (by decide) 8 (by decide) (by kernel_rfl) W
theorem wr2 (V : Value) (W : World) (h : GAt W V [⟨1, .va 1⟩, ⟨2, .no⟩]) : Calls Try.prog 19 #[V] W (Ret W (.tuple #[.string ⟨#[]⟩, .int .i64 4])) := by
  have k := write_any [⟨1, .va 1⟩, ⟨2, .no⟩] (by decide) (fun f hf => by
    rcases List.mem_cons.1 hf with rfl | hf
    · exact ⟨by decide, by decide, by show 1 < 18446744073709551616; omega⟩
    · rcases List.mem_singleton.1 hf with rfl
      exact ⟨by decide, by decide, trivial⟩) (fun f hf => by
    rcases List.mem_cons.1 hf with rfl | hf
    · show (Bt.vint 1).length ≤ 1000000
      rw [vb (by decide)]; decide
    · rcases List.mem_singleton.1 hf with rfl
      show 0 ≤ 1000000
      omega) V W h
  have e : wrk [⟨1, .va 1⟩, ⟨2, .no⟩] [] = ([], 4) := by
    rw [wrk, if_pos (by decide), wrk, if_neg (by decide)]
  rw [e] at k
  exact k
theorem wr0 (W : World) : Calls Try.prog 19 #[.slice none 0 0] W (Ret W (.tuple #[.string ⟨#[]⟩, .int .i64 0])) := by
  have k := write_any [] (by decide) (fun f hf => by cases hf) (fun f hf => by cases hf) _ W (GAt.nil W)
  exact k
theorem rd0 (W : World) : Calls Try.prog 14 #[.string ⟨#[]⟩] W (fun e w' => ∃ a c, e = .returned (.tuple #[.slice a 0 c, .int .i64 0]) ∧ Below W.heap.size W w') := by
  refine (pread_any ⟨#[]⟩ (by decide) W).mono ?_
  rintro e w' ⟨v, he, ho, hb⟩
  have hm : msg (ByteArray.mk #[]).data.toList [] = ([], 0) := msg_nil _
  rw [hm] at he ho
  obtain ⟨a, c, hv⟩ := ho.shape
  subst hv
  exact ⟨a, c, he, hb⟩
theorem as0 (W : World) : Calls Try.prog 46 #[.nilIface] W (Ret W (.tuple #[.int .u64 0, .bool false])) := (asV_any .no W).mono (fun e w' h => ⟨h.1, h.2 ▸ Below.refl _ _⟩)
theorem as7 (W : World) : Calls Try.prog 47 #[.iface 55 (.int .u64 7)] W (Ret W (.tuple #[.string ⟨#[]⟩, .bool false])) := (asT_any (.va 7) W).mono (fun e w' h => ⟨h.1, h.2 ▸ Below.refl _ _⟩)
theorem ast (W : World) : Calls Try.prog 47 #[.iface 80 (.string ⟨#[116]⟩)] W (Ret W (.tuple #[.string ⟨#[116]⟩, .bool true])) := (asT_any (.tx ⟨#[116]⟩) W).mono (fun e w' h => ⟨h.1, h.2 ▸ Below.refl _ _⟩)
/-- The four fields. -/
def f4 : List Gf := [⟨1, .tx ⟨#[97]⟩⟩, ⟨2, .va 5⟩, ⟨1, .tx ⟨#[98]⟩⟩, ⟨3, .no⟩]
theorem f4_ok : ∀ f ∈ f4, f.ok := by
  intro f hf
  simp only [f4, List.mem_cons, List.not_mem_nil, or_false] at hf
  rcases hf with rfl | rfl | rfl | rfl
  · exact ⟨by decide, by decide, by show (1 : Nat) ≤ _; omega⟩
  · exact ⟨by decide, by decide, by show 5 < 18446744073709551616; omega⟩
  · exact ⟨by decide, by decide, by show (1 : Nat) ≤ _; omega⟩
  · exact ⟨by decide, by decide, trivial⟩
theorem al1 (V : Value) (W : World) (h : GAt W V f4) : Calls Try.prog 48 #[V, .int .i64 1] W (fun e w' => ∃ g o c, e = .returned (.tuple #[.slice (some ⟨g, o, none⟩) 2 c, .int .i64 0]) ∧ VAt w' (.slice (some ⟨g, o, none⟩) 2 c) [.string ⟨#[97]⟩, .string ⟨#[98]⟩] ∧ Below W.heap.size W w') := by
  refine (all_asT f4 (by decide) 1 V W h).mono ?_
  have e1 : alk asT 1 f4 [] = ([⟨#[97]⟩, ⟨#[98]⟩], 0) := rfl
  rw [e1]
  rintro e w' ⟨v, he, ho, hb⟩
  have hv := vat_of ho
  rcases hv with ⟨h0, _⟩ | ⟨g, o, c, rfl, hcs⟩
  · simp at h0
  · exact ⟨g, o, c, he, vat_of ho, hb⟩
theorem al3 (V : Value) (W : World) (h : GAt W V f4) : Calls Try.prog 48 #[V, .int .i64 3] W (fun e w' => ∃ a c, e = .returned (.tuple #[.slice a 0 c, .int .i64 4]) ∧ Below W.heap.size W w') := by
  refine (all_asT f4 (by decide) 3 V W h).mono ?_
  have e1 : alk asT 3 f4 [] = ([], 4) := rfl
  rw [e1]
  rintro e w' ⟨v, he, ho, hb⟩
  obtain ⟨a, c, rfl⟩ := ownsRow_shape ho
  exact ⟨a, c, he, hb⟩
theorem la1 (V : Value) (W : World) (h : GAt W V f4) : Calls Try.prog 49 #[V, .int .i64 1] W (Ret W (.tuple #[.string ⟨#[98]⟩, .bool true, .int .i64 0])) := by
  have k := last_asT f4 (by decide) 1 V W h
  have e1 : alk asT 1 f4 [] = ([⟨#[97]⟩, ⟨#[98]⟩], 0) := rfl
  rw [e1] at k
  exact k
theorem lv1 (V : Value) (W : World) (h : GAt W V f4) : Calls Try.prog 31 #[V, .int .i64 1] W (Ret W (.tuple #[.int .u64 0, .bool false, .int .i64 4])) := by
  have k := last_asV f4 (by decide) 1 V W h
  have e1 : alk asV 1 f4 [] = ([], 4) := rfl
  rw [e1] at k
  exact k
theorem lv9 (V : Value) (W : World) (h : GAt W V f4) : Calls Try.prog 31 #[V, .int .i64 9] W (Ret W (.tuple #[.int .u64 0, .bool false, .int .i64 0])) := by
  have k := last_asV f4 (by decide) 9 V W h
  have e1 : alk asV 9 f4 [] = ([], 0) := rfl
  rw [e1] at k
  exact k
theorem ot1 (V U : Value) (W : World) (h : GAt W V f4) (hu : IAt W U [1, 3]) : Calls Try.prog 36 #[V, U] W (fun e w' => ∃ g o c, e = .returned (.slice (some ⟨g, o, none⟩) 1 c) ∧ w'.cell? ⟨g, o, none⟩ = some (.int .i64 2) ∧ Below W.heap.size W w') := by
  refine (others_any f4 (by decide) f4_ok [1, 3] (by decide) (fun x hx => by simp only [List.mem_cons, List.not_mem_nil, or_false] at hx; rcases hx with rfl | rfl <;> decide) V U W h hu).mono ?_
  have e1 : oth [1, 3] f4 = [⟨2, .va 5⟩] := rfl
  rw [e1]
  rintro e w' ⟨v, he, ho, hb⟩
  rcases ho.at with ⟨h0, _⟩ | ⟨g, o, c, rfl, hcs⟩
  · simp at h0
  · exact ⟨g, o, c, he, by simpa using (hcs 0 (by decide)).1, hb⟩
theorem ot0 (V : Value) (W : World) (h : GAt W V f4) : Calls Try.prog 36 #[V, .slice none 0 0] W (fun e w' => ∃ a c, e = .returned (.slice a 4 c) ∧ Below W.heap.size W w') := by
  refine (others_any f4 (by decide) f4_ok [] (by decide) (fun x hx => by cases hx) V _ W h (.inl ⟨rfl, _, _, rfl⟩)).mono ?_
  have e1 : oth [] f4 = f4 := rfl
  rw [e1]
  rintro e w' ⟨v, he, ho, hb⟩
  obtain ⟨a, c, rfl⟩ := ho.shape
  exact ⟨a, c, he, hb⟩
theorem tlne {a b : List UInt8} (h : (a == b) = false) : ((bs a).toList == (bs b).toList) = false := by rw [bs_toList, bs_toList]; exact h
theorem pA (V U : Value) (W : World) (h : GAt W V (f4.take 3)) (k : GAt W U (f4.take 3)) : Calls Try.prog 38 #[V, U] W (Ret W (.bool true)) := by
  have q := psame_any (f4.take 3) (f4.take 3) (by decide) (by decide) (fun f hf => (f4_ok f (List.mem_of_mem_take hf)).v) V U W h k
  rw [sml_refl _ (fun f hf => by
    simp only [f4, List.take, List.mem_cons, List.not_mem_nil, or_false] at hf
    rcases hf with rfl | rfl | rfl <;> rfl)] at q
  exact q
theorem pB (V U : Value) (W : World) (h : GAt W V f4) (k : GAt W U f4) : Calls Try.prog 38 #[V, U] W (Ret W (.bool false)) := by
  have q := psame_any f4 f4 (by decide) (by decide) (fun f hf => (f4_ok f hf).v) V U W h k
  have e : sml f4 f4 = false := by
    cases hb : sml f4 f4 with
    | false => rfl
    | true => exact absurd (sml_all f4 hb ⟨3, .no⟩ (by simp [f4])) (by decide)
  rw [e] at q
  exact q
theorem pC (V U : Value) (W : World) (h : GAt W V (f4.take 1)) (k : GAt W U ((f4.drop 2).take 1)) : Calls Try.prog 38 #[V, U] W (Ret W (.bool false)) := by
  have q := psame_any (f4.take 1) ((f4.drop 2).take 1) (by decide) (by decide) (fun f hf => (f4_ok f (List.mem_of_mem_take hf)).v) V U W h k
  have e : sml (f4.take 1) ((f4.drop 2).take 1) = false := by
    show sml [⟨1, .tx ⟨#[97]⟩⟩] [⟨1, .tx ⟨#[98]⟩⟩] = false
    have hs : sv (.tx ⟨#[97]⟩) (.tx ⟨#[98]⟩) = false := tlne (a := [97]) (b := [98]) (by decide)
    rw [sml, if_neg (fun c => by have := c.2.2; rw [hs] at this; cases this)]
  rw [e] at q
  exact q
theorem pD (V U : Value) (W : World) (h : GAt W V (f4.take 1)) (k : GAt W U (f4.take 2)) : Calls Try.prog 38 #[V, U] W (Ret W (.bool false)) := by
  have q := psame_any (f4.take 1) (f4.take 2) (by decide) (by decide) (fun f hf => (f4_ok f (List.mem_of_mem_take hf)).v) V U W h k
  rw [sml_ne _ _ (by decide)] at q
  exact q
theorem pE (V U : Value) (W : World) (h : GAt W V [⟨1, .va 1⟩]) (k : GAt W U [⟨1, .ei 1⟩]) : Calls Try.prog 38 #[V, U] W (Ret W (.bool false)) := by
  have q := psame_any [⟨1, .va 1⟩] [⟨1, .ei 1⟩] (by decide) (by decide) (fun f hf => by rcases List.mem_singleton.1 hf with rfl; show 1 < 18446744073709551616; omega) V U W h k
  have e : sml [⟨1, .va 1⟩] [⟨1, .ei 1⟩] = false := by
    rw [sml, if_neg (fun c => by have := c.2.2; cases this)]
  rw [e] at q
  exact q
theorem ma0 (W : World) : Calls Try.prog 22 #[.agg #[.int .i64 0, .nilIface]] W (Ret W (.bool false)) := may_any ⟨0, .no⟩ W
theorem sz0 (W : World) : Calls Try.prog 24 #[.agg #[.int .i64 0, .nilIface]] W (Ret W (.int .i64 0)) := size_any ⟨0, .no⟩ ⟨by decide, by decide, trivial⟩ W
theorem sz5 (W : World) : Calls Try.prog 24 #[.agg #[.int .i64 1, .iface 80 (.string ⟨#[97, 98, 99]⟩)]] W (Ret W (.int .i64 5)) := by
  have h := size_any ⟨1, .tx ⟨#[97, 98, 99]⟩⟩ ⟨by decide, by decide, by show (3 : Nat) ≤ _; omega⟩ W
  have e : Gf.size ⟨1, .tx ⟨#[97, 98, 99]⟩⟩ = 5 := by kernel_rfl
  rw [e] at h
  exact h
end Go.Proofs.Ytbckkfoenembmaa
