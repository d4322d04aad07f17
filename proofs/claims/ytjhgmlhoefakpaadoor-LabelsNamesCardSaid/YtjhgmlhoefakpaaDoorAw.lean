/- The contracts of one, none, awake; long lists. -/
import Derived.Test.YtjhgmlhoefakpaaDoorPp
import Derived.Test.YtjhgmlhoefakpaaDoorCj
import Derived.Test.YtjhgmlhoefakpaaDoorCi
import Derived.Test.YtjhgmlhoefakpaaDoorOf
namespace Go.Proofs.YtjhgmlhoefakpaaDoor
open Go.RowKit
set_option maxRecDepth 100000
set_option maxHeartbeats 1000000
theorem parse_yes (s : ByteArray) (m : List Lb) (hs : s.size ≤ 100000000) (h : parseK s.data.toList = (m, 0)) (w : World) (hT : Tab w) :
    Calls Tryd.prog 17 #[.string s] w fun e w' => ∃ u, e = .returned (.tuple #[u, .int .i64 0]) ∧ Ol w' w.heap.size u m ∧ Below w.heap.size w w' := by
  have := parse_any s hs w hT
  rw [h] at this
  exact this
theorem parse_not (s : ByteArray) (hs : s.size ≤ 100000000) (h : parseK s.data.toList = ([], 4)) (w : World) (hT : Tab w) :
    Calls Tryd.prog 17 #[.string s] w fun e w' => ∃ u, e = .returned (.tuple #[u, .int .i64 4]) ∧ Ol w' w.heap.size u [] ∧ Below w.heap.size w w' := by
  have := parse_any s hs w hT
  rw [h] at this
  exact this
theorem show_yes (l : List Lb) (t : List UInt8) (hl : l.length ≤ 9223372036854775807) (hw : Wide l) (h : showE l = (t, 0)) (v : Value) (w : World) (hv : LAt w v l) (hT : Tab w) :
    Calls Tryd.prog 18 #[v] w (Ret w (.tuple #[.string (bs t), .int .i64 0])) := by
  have := show_any l hl hw v w hv hT
  rw [h] at this
  exact this
theorem one_any (s a b : ByteArray) (hs : s.size ≤ 100000000) (h : parseK s.data.toList = ([⟨a, b⟩], 0)) (w : World) (hT : Tab w) :
    Calls Tryd.prog 38 #[.string s, .string a, .string b] w (Ret w (.bool true)) := by
  have HP := Lib.hid (parse_yes s _ hs h w hT)
  clear h hs hT
  have he := fun W => eq28 a b a b W
  have h1 : (a.toList == a.toList) = true := by simp
  have h2 : (b.toList == b.toList) = true := by simp
  go_enter Tryd.func38, Tryd.ntmps38
  go_wp2_with fail
  refine HP.out.mono ?_
  rintro e w1 ⟨u, rfl, ho, hb⟩
  have HB := Lib.hid hb
  rcases ho.at with ⟨h0, _⟩ | ⟨g, o, c, hg, hcs⟩
  · cases h0
  have q0 : w1.cell? ⟨g, o, none⟩ = some (.string a) := by have := (hcs 0 (by simp)).1; simpa using this
  have q1 : w1.cell? ⟨g, o + 1, none⟩ = some (.string b) := by have := (hcs 0 (by simp)).2; simpa using this
  have r0 : w1.cell? ⟨g, o + 0 * 2, none⟩ = some (.string a) := by simpa using q0
  have r1 : w1.cell? ⟨g, o + 0 * 2 + 1, none⟩ = some (.string b) := by simpa using q1
  clear hcs hb ho
  simp only [List.length_cons, List.length_nil, Nat.zero_add] at hg
  subst hg
  go_wp2
  go_ret
  exact ⟨rfl, HB.out⟩
theorem none_any (s : ByteArray) (hs : s.size ≤ 100000000) (h : parseK s.data.toList = ([], 4)) (w : World) (hT : Tab w) :
    Calls Tryd.prog 39 #[.string s] w (Ret w (.bool true)) := by
  have HP := Lib.hid (parse_not s hs h w hT)
  clear h hs hT
  go_enter Tryd.func39, Tryd.ntmps39
  go_wp2_with fail
  refine HP.out.mono ?_
  rintro e w1 ⟨u, rfl, ho, hb⟩
  have HB := Lib.hid hb
  obtain ⟨a, c, hv⟩ := ho.shape
  subst hv
  clear hb ho
  go_wp2
  go_ret
  exact ⟨rfl, HB.out⟩
theorem lat_one (W : World) (x : Lb) : LAt (W.alloc (.cells #[.string x.n, .string x.v] 28)) (.slice (some ⟨W.heap.size, 0, none⟩) 1 1) [x] := (ol_one W W.heap.size (Nat.le_refl _) x).at
theorem lat_two (W : World) (x y : Lb) : LAt (W.alloc (.cells #[.string x.n, .string x.v, .string y.n, .string y.v] 28)) (.slice (some ⟨W.heap.size, 0, none⟩) 2 2) [x, y] := by
  refine .inr ⟨W.heap.size, 0, 2, rfl, fun j hj => ?_⟩
  match j, hj with
  | 0, _ => exact ⟨by rw [World.cell?_alloc_mark]; rfl, by rw [World.cell?_alloc_mark]; rfl⟩
  | 1, _ => exact ⟨by rw [World.cell?_alloc_mark]; rfl, by rw [World.cell?_alloc_mark]; rfl⟩
  | j + 2, hj => simp at hj; omega
theorem below_new (W : World) (o : Obj) : Below W.heap.size W (W.alloc o) := (Below.refl W.heap.size W).alloc (Nat.le_refl _) o
theorem lng_ge : ∀ (l : List Lb) (n : Nat), n ≤ lng l n
  | [], _ => Nat.le_refl _
  | p :: r, n => by
    unfold lng
    split
    · have := lng_ge r (n + 10 + min p.n.size 5000 + min p.v.size 5000); omega
    · exact Nat.le_refl _
theorem lng_tot : ∀ (l : List Lb) (n : Nat), lng l n < 5000 → tot l + 2 * n ≤ 2 * lng l n
  | [], n, _ => by rw [tot, lng]; omega
  | p :: r, n, h => by
    unfold lng at h ⊢
    split at h
    · rename_i h1
      rw [if_pos h1]
      have h2 := lng_ge r (n + 10 + min p.n.size 5000 + min p.v.size 5000)
      have h3 := lng_tot r _ h
      rw [tot]
      omega
    · omega
theorem small_tot {l : List Lb} (h : decide (5000 ≤ lng l 0) = false) : tot l ≤ 10000 := by
  have h1 : lng l 0 < 5000 := by simpa using h
  have := lng_tot l 0 h1
  omega
theorem arg_wide {w : World} {v : Value} {l : List Lb} (h : Arg w v l) : l.length ≤ 9223372036854775807 ∧ Wide l := by
  have h1 := h.len
  unfold maxLen at h1
  refine ⟨by omega, fun p hp => ?_⟩
  have h2 := h.wide p hp
  unfold maxLen at h2
  exact ⟨by omega, by omega⟩
theorem tab_of {w w' : World} (hT : Hid (Tab w)) (hB : Hid (Below w.heap.size w w')) : Tab w' := hT.out.below hB.out (Nat.le_refl _)

theorem ofK_small (l : List UInt8) : (ofK l).1.length ≤ 16 := by
  unfold ofK
  split
  · simp
  · split
    · rename_i h; exact (mayL_len h).2
    · simp
theorem of_is (s : ByteArray) (m : List Lb) (K : Nat) (hs : s.size ≤ 1000000000) (h : ofK s.data.toList = (m, K)) (w : World) (hT : Tab w) :
    Calls Tryd.prog 19 #[.string s] w fun e w' => ∃ u, e = .returned (.tuple #[u, .int .i64 (K : Int)]) ∧ Ol w' w.heap.size u m ∧ Below w.heap.size w w' := by
  have := of_any s hs w hT
  rw [h] at this
  exact this
theorem rof_is (s : ByteArray) (m : List Lb) (K : Nat) (hs : s.size ≤ 1000000000) (h : ofK s.data.toList = (m, K)) (w : World) :
    Calls Tryd.prog 30 #[.string s] w fun e w' => ∃ u, e = .returned (.tuple #[u, .int .i64 (K : Int)]) ∧ Ol w' w.heap.size u m ∧ Below w.heap.size w w' := by
  have := rof_any s hs w
  rw [h] at this
  exact this
theorem sh1 : showE [⟨⟨#[106, 111, 98]⟩, ⟨#[97, 112, 105]⟩⟩, ⟨⟨#[122, 111, 110, 101]⟩, ⟨#[97]⟩⟩] = ([123, 106, 111, 98, 61, 34, 97, 112, 105, 34, 44, 122, 111, 110, 101, 61, 34, 97, 34, 125], 0) := by kernel_rfl
theorem sh2 : showE [⟨⟨#[97]⟩, ⟨#[195, 169]⟩⟩] = ([123, 97, 61, 34, 92, 117, 123, 101, 57, 125, 34, 125], 0) := by kernel_rfl
theorem pa1 : parseK (ByteArray.mk #[123, 97, 61, 34, 195, 169, 34, 125]).data.toList = ([⟨⟨#[97]⟩, ⟨#[195, 169]⟩⟩], 0) := by kernel_rfl
theorem pa2 : parseK (ByteArray.mk #[123, 97, 61, 34, 92, 117, 123, 48, 48, 48, 48, 101, 57, 125, 34, 125]).data.toList = ([⟨⟨#[97]⟩, ⟨#[195, 169]⟩⟩], 0) := by kernel_rfl
theorem pn0 : parseK (ByteArray.mk #[123, 125]).data.toList = ([], 4) := by kernel_rfl
theorem pn1 : parseK (ByteArray.mk #[123, 32, 97, 61, 34, 98, 34, 125]).data.toList = ([], 4) := by kernel_rfl
theorem pn2 : parseK (ByteArray.mk #[123, 98, 61, 34, 34, 44, 97, 61, 34, 120, 34, 125]).data.toList = ([], 4) := by kernel_rfl
theorem nm9 : mayN (ByteArray.mk #[57, 97]).data.toList = false := by kernel_rfl
theorem ky1 : keyL [⟨⟨#[97]⟩, ⟨#[98]⟩⟩] = [1, 97, 1, 98] := by
  show (Bt.vint 1 ++ [97]) ++ (Bt.vint 1 ++ [98]) ++ [] = _
  rw [Bt.vint_small (by decide)]
  rfl

theorem awake_any (w : World) (hT : Tab w) : Calls Tryd.prog 13 #[] w (Ret w (.bool true)) := by
  have HT := Lib.hid hT
  have C1 := Lib.hid (fun v W (h : LAt W v _) (k : Tab W) => show_yes _ _ (by decide) (fun p hp => by simp at hp; rcases hp with rfl | rfl <;> exact ⟨by decide, by decide⟩) sh1 v W h k)
  have C2 := Lib.hid (fun v W (h : LAt W v _) (k : Tab W) => show_yes _ _ (by decide) (fun p hp => by simp at hp; subst hp; exact ⟨by decide, by decide⟩) sh2 v W h k)
  have O1 := Lib.hid (fun W (k : Tab W) => one_any _ _ _ (by decide) pa1 W k)
  have O2 := Lib.hid (fun W (k : Tab W) => one_any _ _ _ (by decide) pa2 W k)
  have N0 := Lib.hid (fun W (k : Tab W) => none_any _ (by decide) pn0 W k)
  have N1 := Lib.hid (fun W (k : Tab W) => none_any _ (by decide) pn1 W k)
  have N2 := Lib.hid (fun W (k : Tab W) => none_any _ (by decide) pn2 W k)
  have M1 := Lib.hid (fun W => mayN_any (ByteArray.mk #[57, 97]) W)
  rw [nm9] at M1
  have K1 := Lib.hid (fun v W (h : LAt W v _) => key_any [⟨⟨#[97]⟩, ⟨#[98]⟩⟩] (by decide) v W h)
  rw [ky1] at K1
  have b0 : ((bs [123, 106, 111, 98, 61, 34, 97, 112, 105, 34, 44, 122, 111, 110, 101, 61, 34, 97, 34, 125]).toList == (ByteArray.mk #[123, 106, 111, 98, 61, 34, 97, 112, 105, 34, 44, 122, 111, 110, 101, 61, 34, 97, 34, 125]).toList) = true := by rw [beq_iff_eq]; rfl
  have c0 : ((bs [123, 106, 111, 98, 61, 34, 97, 112, 105, 34, 44, 122, 111, 110, 101, 61, 34, 97, 34, 125]).toList == [123, 106, 111, 98, 61, 34, 97, 112, 105, 34, 44, 122, 111, 110, 101, 61, 34, 97, 34, 125]) = true := by rw [beq_iff_eq, bs_toList]
  have b1 : ((bs [123, 97, 61, 34, 92, 117, 123, 101, 57, 125, 34, 125]).toList == (ByteArray.mk #[123, 97, 61, 34, 92, 117, 123, 101, 57, 125, 34, 125]).toList) = true := by rw [beq_iff_eq]; rfl
  have c1 : ((bs [123, 97, 61, 34, 92, 117, 123, 101, 57, 125, 34, 125]).toList == [123, 97, 61, 34, 92, 117, 123, 101, 57, 125, 34, 125]) = true := by rw [beq_iff_eq, bs_toList]
  have b2 : ((bs [1, 97, 1, 98]).toList == (ByteArray.mk #[1, 97, 1, 98]).toList) = true := by rw [beq_iff_eq]; rfl
  have c2 : ((bs [1, 97, 1, 98]).toList == [1, 97, 1, 98]) = true := by rw [beq_iff_eq, bs_toList]
  clear hT
  go_enter Tryd.func13, Tryd.ntmps13
  go_wp2_with fail
  refine (C1.out _ _ (lat_two w ⟨⟨#[106, 111, 98]⟩, ⟨#[97, 112, 105]⟩⟩ ⟨⟨#[122, 111, 110, 101]⟩, ⟨#[97]⟩⟩) (HT.out.below (below_new w _) (Nat.le_refl _))).mono ?_
  rintro e w1 ⟨rfl, hb⟩
  have HB1 : Hid (Below w.heap.size w w1) := Lib.hid (below_trans' (below_new w _) hb)
  clear hb
  go_wp2_with fail
  refine (C2.out _ _ (lat_one w1 ⟨⟨#[97]⟩, ⟨#[195, 169]⟩⟩) ((tab_of HT HB1).below (below_new w1 _) (Nat.le_refl _))).mono ?_
  rintro e w2 ⟨rfl, hb⟩
  have HB2 : Hid (Below w.heap.size w w2) := Lib.hid (below_trans' HB1.out (below_trans' (below_new w1 _) hb))
  clear hb
  go_wp2_with fail
  refine (O1.out _ (tab_of HT HB2)).mono ?_
  rintro e w3 ⟨rfl, hb⟩
  have HB3 : Hid (Below w.heap.size w w3) := Lib.hid (below_trans' HB2.out hb)
  clear hb
  go_wp2_with fail
  refine (O2.out _ (tab_of HT HB3)).mono ?_
  rintro e w4 ⟨rfl, hb⟩
  have HB4 : Hid (Below w.heap.size w w4) := Lib.hid (below_trans' HB3.out hb)
  clear hb
  go_wp2_with fail
  refine (N0.out _ (tab_of HT HB4)).mono ?_
  rintro e w5 ⟨rfl, hb⟩
  have HB5 : Hid (Below w.heap.size w w5) := Lib.hid (below_trans' HB4.out hb)
  clear hb
  go_wp2_with fail
  refine (N1.out _ (tab_of HT HB5)).mono ?_
  rintro e w6 ⟨rfl, hb⟩
  have HB6 : Hid (Below w.heap.size w w6) := Lib.hid (below_trans' HB5.out hb)
  clear hb
  go_wp2_with fail
  refine (N2.out _ (tab_of HT HB6)).mono ?_
  rintro e w7 ⟨rfl, hb⟩
  have HB7 : Hid (Below w.heap.size w w7) := Lib.hid (below_trans' HB6.out hb)
  clear hb
  go_wp2_with fail
  refine (M1.out _).mono ?_
  rintro e w8 ⟨rfl, rfl⟩
  go_wp2_with fail
  refine (K1.out _ _ (lat_one w7 ⟨⟨#[97]⟩, ⟨#[98]⟩⟩)).mono ?_
  rintro e w9 ⟨rfl, hb⟩
  have HB9 : Hid (Below w.heap.size w w9) := Lib.hid (below_trans' HB7.out (below_trans' (below_new w7 _) hb))
  clear hb
  go_wp2
  go_ret
  exact ⟨rfl, HB9.out⟩
end Go.Proofs.YtjhgmlhoefakpaaDoor
