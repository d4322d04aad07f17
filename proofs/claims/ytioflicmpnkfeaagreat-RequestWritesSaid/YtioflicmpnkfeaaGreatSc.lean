/- The contracts of told, refused, one. -/
import Derived.Test.YtioflicmpnkfeaaGreatPh
import Derived.Test.YtioflicmpnkfeaaGreatSb
namespace Go.Proofs.YtioflicmpnkfeaaGreat
open Go Go.RowKit
set_option maxRecDepth 100000
theorem dec_ok {s : List UInt8} {l : List Sr} (h : dec s = (l, 0)) : rRq s = (l, 0) := by
  unfold dec at h
  split at h
  · rename_i h1; exact absurd (congrArg Prod.snd h) h1
  · rename_i h1
    have h1 := Decidable.not_not.1 h1
    have h2 := congrArg Prod.fst h
    generalize rRq s = X at *
    obtain ⟨a, b⟩ := X
    dsimp only at h1 h2
    rw [h1, h2]
theorem dec_of {s : List UInt8} {l : List Sr} (h : rRq s = (l, 0)) : dec s = (l, 0) := by
  unfold dec
  rw [h, if_neg (by simp)]
/-- What is decoded is not much. -/
theorem dec_siz {s : List UInt8} (hs : s.length ≤ 1000000) {l : List Sr} (h : dec s = (l, 0)) : (∀ x ∈ l, Siz x) ∧ (eRq l).length ≤ s.length := by
  obtain ⟨h1, h2⟩ := rRq_ok (by omega) (dec_ok h)
  exact ⟨Siz.of (fun x hx y hy => ((h1.s x hx).1.s y hy).1) (by omega), h2⟩
theorem fin_of {zs : List Zr} (h : ∀ x ∈ zs.map Zr.x, Siz x) (hl : (eRq (zs.map Zr.x)).length ≤ 1000000) : Fin0 zs := by
  refine ⟨?_, fun z hz => ?_⟩
  · have h1 := eM_cnt (fRq (zs.map Zr.x))
    have e : (eM (fRq (zs.map Zr.x))).length = (eRq (zs.map Zr.x)).length := rfl
    have h4 : (fRq (zs.map Zr.x)).length = zs.length := by unfold fRq; simp
    omega
  · have := (h z.x (List.mem_map_of_mem hz)).cnt
    omega
open Classical in
set_option maxHeartbeats 1000000 in
theorem told_any (s : ByteArray) (hs : s.size ≤ 1000000) (ys : List Zr) (hy : Fin0 ys) (v : Value) (w : World) (hv : SAt w v ys) :
    Calls Tryz.prog 13 #[.string s, v] w (Ret w (.bool (decide (dec s.data.toList = (ys.map Zr.x, 0))))) := by
  have HD := Lib.hid (fun W => decode_any s hs W)
  have hsz := fun l => dec_siz (s := s.data.toList) (l := l) (by simpa using hs)
  have hlen : s.data.toList.length ≤ 1000000 := by simpa using hs
  generalize dec s.data.toList = X at *
  obtain ⟨l, k⟩ := X
  have HV := Lib.hid hv
  have HY := Lib.hid hy
  obtain ⟨b1, b2, hb⟩ := hv.slice
  subst hb
  clear hv hy
  by_cases hk : k = 0
  · subst hk
    obtain ⟨h1, h2⟩ := hsz l rfl
    have hS : Hid (∀ zs : List Zr, zs.map Zr.x = l → ∀ V W, SAt W V zs → SAt W (.slice b1 ys.length b2) ys → Calls Tryz.prog 11 #[V, .slice b1 ys.length b2] W (Ret W (.bool (decide (l = ys.map Zr.x))))) := Lib.hid fun zs hz V W hV hW => by
      subst hz
      exact rsame_any zs ys (fin_of h1 (by omega)) HY.out V _ W hV hW
    have he : decide ((l, 0) = (ys.map Zr.x, 0)) = decide (l = ys.map Zr.x) := by
      congr 1
      simp
    rw [he]
    clear h1 h2 hsz he hlen
    generalize decide (l = ys.map Zr.x) = B at *
    go_enter Tryz.func13, Tryz.ntmps13
    go_wp2_with fail
    refine (HD.out _).mono ?_
    rintro e w1 ⟨u, zs, rfl, ho, hz, hb1⟩
    have HO := Lib.hid ho.at
    have HZ := Lib.hid hz
    obtain ⟨a1, a2, ha⟩ := ho.shape
    subst ha
    have HB1 := Lib.hid hb1
    clear ho hz hb1
    go_wp2_with fail
    refine (hS.out _ HZ.out _ _ HO.out (HV.out.below HB1.out (Nat.le_refl _))).mono ?_
    rintro e w2 ⟨rfl, hb2⟩
    have HB2 := Lib.hid (HB1.out.trans (hb2.mono HB1.out.size))
    clear hb2
    go_wp2
    go_ret
    exact ⟨rfl, HB2.out⟩
  · rw [decide_eq_false (fun e => hk (congrArg Prod.snd e))]
    have hk2 : ((k : Int) == 0) = false := by rw [beq_eq_false_iff_ne]; omega
    clear hk hsz
    go_enter Tryz.func13, Tryz.ntmps13
    go_wp2_with fail
    refine (HD.out _).mono ?_
    rintro e w1 ⟨u, zs, rfl, ho, hz, hb1⟩
    have HB1 := Lib.hid hb1
    clear ho hz hb1
    go_wp2
    go_ret
    exact ⟨rfl, HB1.out⟩
theorem refused_any (s : ByteArray) (hs : s.size ≤ 1000000) (K : Nat) (h : dec s.data.toList = ([], K)) (w : World) : Calls Tryz.prog 14 #[.string s, .int .i64 (K : Int)] w (Ret w (.bool true)) := by
  have HD := Lib.hid (fun W => decode_any s hs W)
  rw [h] at HD
  clear h
  have hk : ((K : Int) == (K : Int)) = true := by simp
  go_enter Tryz.func14, Tryz.ntmps14
  go_wp2_with fail
  refine (HD.out _).mono ?_
  rintro e w1 ⟨u, zs, rfl, ho, hz, hb1⟩
  obtain rfl : zs = [] := by simpa using hz
  obtain ⟨a1, a2, ha⟩ := ho.shape
  subst ha
  have HB1 := Lib.hid hb1
  clear ho hz hb1
  go_wp2
  go_ret
  exact ⟨rfl, HB1.out⟩
def sr1 : Sr := ⟨[⟨⟨#[97]⟩, ⟨#[98]⟩⟩], [⟨2, 1⟩]⟩
theorem one_any (w : World) : Calls Tryz.prog 12 #[] w fun e w' => ∃ a b, e = .returned (.agg #[a, b]) ∧ LAt w' a sr1.ls ∧ MAt w' b sr1.ss ∧ Below w.heap.size w w' := by
  go_enter Tryz.func12, Tryz.ntmps12
  go_wp2
  have hl : LAt ((w.alloc (.cells #[.slice (some ⟨w.heap.size + 1, 0, none⟩) 1 1, .slice (some ⟨w.heap.size + 1 + 1, 0, none⟩) 1 1] 29)).alloc (.cells #[.string ⟨#[97]⟩, .string ⟨#[98]⟩] 35)) (.slice (some ⟨w.heap.size + 1, 0, none⟩) 1 1) sr1.ls := by
    have := (O2.one 35 (w.alloc (.cells #[.slice (some ⟨w.heap.size + 1, 0, none⟩) 1 1, .slice (some ⟨w.heap.size + 1 + 1, 0, none⟩) 1 1] 29)) 0 (Nat.zero_le _) (.string ⟨#[97]⟩) (.string ⟨#[98]⟩)).at
    rw [World.size_alloc] at this
    exact this
  have hm : MAt (((w.alloc (.cells #[.slice (some ⟨w.heap.size + 1, 0, none⟩) 1 1, .slice (some ⟨w.heap.size + 1 + 1, 0, none⟩) 1 1] 29)).alloc (.cells #[.string ⟨#[97]⟩, .string ⟨#[98]⟩] 35)).alloc (.cells #[.int .i64 2, .int .u64 1] 54)) (.slice (some ⟨w.heap.size + 1 + 1, 0, none⟩) 1 1) sr1.ss := by
    have := (O2.one 54 ((w.alloc (.cells #[.slice (some ⟨w.heap.size + 1, 0, none⟩) 1 1, .slice (some ⟨w.heap.size + 1 + 1, 0, none⟩) 1 1] 29)).alloc (.cells #[.string ⟨#[97]⟩, .string ⟨#[98]⟩] 35)) 0 (Nat.zero_le _) (.int .i64 2) (.int .u64 1)).at
    rw [World.size_alloc, World.size_alloc] at this
    exact this
  refine retc Tryz.results12 two40 w.heap.size rfl rfl ?_ ⟨_, _, rfl, At2.below hl ((Below.refl _ _).alloc (Nat.le_refl _) _) (Nat.le_refl _), hm, (below_two _ _ _).alloc (by simp; omega) _⟩
  exact ((below_two (w.alloc (.cells #[.slice (some ⟨w.heap.size + 1, 0, none⟩) 1 1, .slice (some ⟨w.heap.size + 1 + 1, 0, none⟩) 1 1] 29)) _ _).block _ (by simp)).trans (heap_alloc_new _ _)
end Go.Proofs.YtioflicmpnkfeaaGreat
