/- The contract of write. -/
import Derived.Test.YtknfodpegkpjnaaQb
namespace Go.Proofs.Ytknfodpegkpjnaa
open Go Go.RowKit
set_option maxRecDepth 100000
theorem gfd_by {f : Fd} (h : f.ok) (ht : f.t.length ≤ 1000000) : (gfd f).may = true ∧ (gfd f).ok ∧ Gf.by (gfd f) = fby f ∧ (gfd f).v.by = vby f := by
  obtain ⟨h1, h2, h3⟩ := mayk_w h.may
  have h0 := h.v0
  have h5 := h.v5
  have h6 := h.v2
  obtain ⟨n, w, v, t⟩ := f
  dsimp only at *
  have hn : ((n : Int)).toNat = n := by omega
  rcases h3 with rfl | rfl | rfl | rfl
  · refine ⟨Gf.may_iff.2 ⟨⟨?_, ?_⟩, rfl⟩, ⟨?_, ?_, h0 (.inl rfl)⟩, ?_, rfl⟩ <;> first | (unfold gfd; dsimp only; omega) | (show Bt.vint ((n : Int).toNat * 8 + 0) ++ Bt.vint v = _; rw [hn]; rfl)
  · refine ⟨Gf.may_iff.2 ⟨⟨?_, ?_⟩, rfl⟩, ⟨?_, ?_, h0 (.inr rfl)⟩, ?_, rfl⟩ <;> first | (unfold gfd; dsimp only; omega) | (show Bt.vint ((n : Int).toNat * 8 + 1) ++ Bt.fx 8 v = _; rw [hn]; rfl)
  · refine ⟨Gf.may_iff.2 ⟨⟨?_, ?_⟩, rfl⟩, ⟨?_, ?_, ?_⟩, ?_, ?_⟩
    · unfold gfd; dsimp only; omega
    · unfold gfd; dsimp only; omega
    · unfold gfd; dsimp only; omega
    · unfold gfd; dsimp only; omega
    · show (bs t).size ≤ _; rw [bs_size]; omega
    · show Bt.vint ((n : Int).toNat * 8 + 2) ++ (Bt.vint (bs t).size ++ (bs t).data.toList) = _
      rw [hn, bs_size, bs_data]; rfl
    · show Bt.vint (bs t).size ++ (bs t).data.toList = _
      rw [bs_size, bs_data]; rfl
  · refine ⟨Gf.may_iff.2 ⟨⟨?_, ?_⟩, rfl⟩, ⟨?_, ?_, h5 rfl⟩, ?_, rfl⟩ <;> first | (unfold gfd; dsimp only; omega) | (show Bt.vint ((n : Int).toNat * 8 + 5) ++ Bt.fx 4 v = _; rw [hn]; rfl)
theorem wrk_gfd : ∀ (fs : List Fd) (b : List UInt8), (∀ f ∈ fs, f.ok ∧ f.t.length ≤ 1000000) → wrk (fs.map gfd) b = (b ++ eM fs, 0)
  | [], b, _ => by simp [wrk, eM]
  | f :: r, b, h => by
    obtain ⟨h1, h2⟩ := h f (by simp)
    obtain ⟨g1, -, g3, -⟩ := gfd_by h1 h2
    rw [List.map_cons, wrk, if_pos g1, wrk_gfd r _ (fun x hx => h x (by simp [hx])), g3, eM_cons, List.append_assoc]
theorem f_by {fs : List Fd} : ∀ f ∈ fs, (vby f).length ≤ (eM fs).length := by
  induction fs with
  | nil => intro f hf; cases hf
  | cons g r ih =>
    intro f hf
    rw [eM_cons, List.length_append]
    rcases List.mem_cons.1 hf with rfl | hf
    · unfold fby; rw [List.length_append]; omega
    · have := ih f hf; omega
theorem wr_any (fs : List Fd) (hok : ∀ f ∈ fs, f.ok) (hlen : (eM fs).length ≤ 1000000) (v : Value) (w : World) (hv : GAt w v (fs.map gfd)) : Calls Try.prog 30 #[v] w (Ret w (.string (bs (eM fs)))) := by
  have ht : ∀ f ∈ fs, f.ok ∧ f.t.length ≤ 1000000 := fun f hf => ⟨hok f hf, by have := f_len hok f hf; omega⟩
  have HW := Lib.hid (write_any (fs.map gfd) (by rw [List.length_map]; have := eM_cnt fs; omega) (fun g hg => by obtain ⟨f, hf, rfl⟩ := List.mem_map.1 hg; exact (gfd_by (ht f hf).1 (ht f hf).2).2.1) (fun g hg => by obtain ⟨f, hf, rfl⟩ := List.mem_map.1 hg; rw [(gfd_by (ht f hf).1 (ht f hf).2).2.2.2]; have := f_by f hf; omega) v w hv)
  rw [wrk_gfd fs [] ht, List.nil_append] at HW
  obtain ⟨a, c, hv2⟩ := hv.slice
  generalize (fs.map gfd).length = L at hv2
  subst hv2
  clear ht hok hlen hv
  go_enter Try.func30, Try.ntmps30
  go_wp2_with fail
  refine HW.out.mono ?_
  rintro e w1 ⟨rfl, hb1⟩
  have HB1 := Lib.hid hb1
  clear hb1
  go_wp2
  go_ret
  exact ⟨rfl, HB1.out⟩
end Go.Proofs.Ytknfodpegkpjnaa
