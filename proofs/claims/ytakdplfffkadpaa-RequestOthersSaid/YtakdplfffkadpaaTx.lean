/- The contract of the law's 'text': fields of the document, written. -/
import Derived.Test.YtakdplfffkadpaaSd
namespace Go.Proofs.Ytakdplfffkadpaa
open Go Go.RowKit
set_option maxRecDepth 100000
/-- A field of the document that may be written. -/
structure Fw (f : Ff) : Prop where
  may : f.may = true
  ok : f.ok
  t : f.t.size ≤ 1000000
def tby (l : List Ff) : List UInt8 := l.flatMap Ff.by
theorem rwk_all : ∀ (l : List Ff) (b : List UInt8), (∀ f ∈ l, Fw f) → rwk l b = (b ++ tby l, 0)
  | [], b, _ => by simp [rwk, tby]
  | f :: r, b, h => by
    rw [rwk, if_pos (h f (by simp)).may, rwk_all r _ (fun x hx => h x (by simp [hx]))]
    simp [tby]
theorem text_any (l : List Ff) (hl : l.length ≤ 1000000) (h : ∀ f ∈ l, Fw f) (v : Value) (w : World) (hv : FAt w v l) : Calls Try.prog 24 #[v] w (Ret w (.string (bs (tby l)))) := by
  have HW := Lib.hid (rwrite_any l hl (fun f hf => (h f hf).ok) (fun f hf => (h f hf).t) v w hv)
  rw [rwk_all l [] h, List.nil_append] at HW
  obtain ⟨a, c, hv2⟩ := hv.slice
  generalize l.length = L at hv2
  subst hv2
  clear h hl hv
  dsimp only at HW
  generalize bs (tby l) = B at *
  go_enter Try.func24, Try.ntmps24
  go_wp2_with fail
  refine HW.out.mono ?_
  rintro e w1 ⟨rfl, hb1⟩
  have HB1 := Lib.hid hb1
  clear hb1
  go_wp2
  go_ret
  exact ⟨rfl, HB1.out⟩
/-- Fields in a new block. -/
theorem fat_new (W : World) (l : List Ff) (cs : Array Value) (h : cs = (cells4 l).toArray) (n : Nat) (hn : n = l.length) : FAt (W.alloc (.cells cs 52)) (.slice (some ⟨W.heap.size, 0, none⟩) n n) l := by
  subst h hn
  refine .inr ⟨W.heap.size, 0, _, rfl, fun j hj => ?_⟩
  have e : ∀ k, (W.alloc (.cells (cells4 l).toArray 52)).cell? ⟨W.heap.size, k, none⟩ = (cells4 l)[k]? := fun k => by
    rw [World.cell?_alloc_mark]
    simp
  rw [e, e, e, e]
  simp only [Nat.zero_add]
  exact cells4_at l j hj
theorem fw_part {n : Int} {t : ByteArray} (hn : 1 ≤ n ∧ n ≤ 536870911) (ht : t.size ≤ 1000000) : Fw ⟨n, 2, 0, t⟩ :=
  ⟨Ff.may_iff.2 ⟨hn, .inr (.inr (.inl rfl))⟩, ⟨by show _ ≤ n; omega, by show n ≤ _; omega, by show (2 : Nat) < 256; decide, by show (0 : Nat) < _; decide, by show t.size ≤ _; omega⟩, ht⟩
theorem fw_num {n : Int} {w v : Nat} (hn : 1 ≤ n ∧ n ≤ 536870911) (hw : w = 0 ∨ w = 1 ∨ w = 2 ∨ w = 5) (hv : v < 18446744073709551616) : Fw ⟨n, w, v, ⟨#[]⟩⟩ :=
  ⟨Ff.may_iff.2 ⟨hn, hw⟩, ⟨by show _ ≤ n; omega, by show n ≤ _; omega, by show w < 256; omega, hv, by show (0 : Nat) ≤ _; decide⟩, by show (0 : Nat) ≤ _; decide⟩
theorem by_part (n : Nat) (t : ByteArray) : Ff.by ⟨(n : Int), 2, 0, t⟩ = fby (part n t.data.toList) := by
  rw [fby_part]
  show Bt.vint (((n : Int)).toNat * 8 + 2) ++ (Bt.vint t.size ++ t.data.toList) = _
  rw [show ((n : Int)).toNat = n by omega]
  simp
end Go.Proofs.Ytakdplfffkadpaa
