/- The names' facts: what closed texts are read as. -/
import Derived.Test.YtknfodpegkpjnaaSd
import Derived.Test.YtknfodpegkpjnaaEa
namespace Go.Proofs.Ytknfodpegkpjnaa
open Go Go.RowKit
set_option maxRecDepth 100000
/-- The reading of a message, with a count to go by. -/
def msgF : Nat → List UInt8 → List Fd → List Fd × Nat
  | 0, _, acc => (acc, 0)
  | n + 1, l, acc => match l with
    | [] => (acc, 0)
    | c :: r => if (rdf (c :: r)).2.2 ≠ 0 then ([], (rdf (c :: r)).2.2) else msgF n ((c :: r).drop (max 1 (rdf (c :: r)).2.1)) (acc ++ [(rdf (c :: r)).1])
theorem msgF_eq : ∀ (n : Nat) (l : List UInt8) (acc : List Fd), l.length ≤ n → msgF n l acc = msg l acc
  | 0, [], acc, _ => by rw [msg_nil]; rfl
  | 0, _ :: _, _, h => by simp at h
  | n + 1, [], acc, _ => by rw [msg_nil]; rfl
  | n + 1, c :: r, acc, h => by
    rw [msg, msgF]
    split
    · rfl
    · exact msgF_eq n _ _ (by rw [List.length_drop]; rw [List.length_cons] at *; omega)
def mF (s : List UInt8) : List Fd × Nat := msgF s.length s []
theorem mF_eq (s : List UInt8) : msg s [] = mF s := (msgF_eq _ _ _ (Nat.le_refl _)).symm
def rLbF (s : List UInt8) : Lb × Nat := if (mF s).2 ≠ 0 then (lb0, (mF s).2) else gLb (mF s).1 lb0
def rSmF (s : List UInt8) : Sm × Nat := if (mF s).2 ≠ 0 then (sm0, (mF s).2) else gSm (mF s).1 sm0
theorem rLb_F : rLb = rLbF := funext fun s => by unfold rLb rLbF; rw [mF_eq]
theorem rSm_F : rSm = rSmF := funext fun s => by unfold rSm rSmF; rw [mF_eq]
def gSrF (fs : List Fd) : Sr × Nat := if bad2 fs then (⟨[], []⟩, 4) else if (pts 1 rLbF fs).2 ≠ 0 then (⟨[], []⟩, (pts 1 rLbF fs).2) else if (pts 2 rSmF fs).2 ≠ 0 then (⟨[], []⟩, (pts 2 rSmF fs).2) else (⟨(pts 1 rLbF fs).1, (pts 2 rSmF fs).1⟩, 0)
theorem gSr_F : gSr = gSrF := funext fun fs => by unfold gSr gSrF; rw [rLb_F, rSm_F]
def rSrF (s : List UInt8) : Sr × Nat := if (mF s).2 ≠ 0 then (⟨[], []⟩, (mF s).2) else gSrF (mF s).1
theorem rSr_F : rSr = rSrF := funext fun s => by unfold rSr rSrF; rw [mF_eq, gSr_F]
def rRqF (s : List UInt8) : List Sr × Nat := if (mF s).2 ≠ 0 then ([], (mF s).2) else if bad1 (mF s).1 then ([], 4) else pts 1 rSrF (mF s).1
theorem rRq_F : rRq = rRqF := funext fun s => by unfold rRq gRq rRqF; rw [mF_eq, rSr_F]
theorem dec_F (s : List UInt8) : dec s = if (rRqF s).2 ≠ 0 then ([], (rRqF s).2) else ((rRqF s).1, 0) := by unfold dec; rw [rRq_F]
theorem n_t1 : dec [10, 13, 18, 11, 16, 255, 255, 255, 255, 255, 255, 255, 255, 255, 1] = ([⟨[], [⟨-1, 0⟩]⟩], 0) := by rw [dec_F]; kernel_rfl
theorem n_t2 : dec [10, 4, 18, 0, 10, 0] = ([⟨[⟨⟨#[]⟩, ⟨#[]⟩⟩], [⟨0, 0⟩]⟩], 0) := by rw [dec_F]; kernel_rfl
theorem n_t3 : dec [10, 2, 24, 5, 10, 0] = ([⟨[], []⟩, ⟨[], []⟩], 0) := by rw [dec_F]; kernel_rfl
theorem n_r1 : dec [13, 0, 0, 0, 0] = ([], 4) := by rw [dec_F]; kernel_rfl
theorem n_r2 : dec [10, 2, 8, 1] = ([], 4) := by rw [dec_F]; kernel_rfl
theorem n_r3 : dec [10, 2, 16, 1] = ([], 4) := by rw [dec_F]; kernel_rfl
theorem n_r4 : dec [10, 4, 10, 2, 8, 1] = ([], 4) := by rw [dec_F]; kernel_rfl
theorem n_r5 : dec [10, 4, 10, 2, 16, 1] = ([], 4) := by rw [dec_F]; kernel_rfl
theorem n_r6 : dec [10, 4, 18, 2, 8, 1] = ([], 4) := by rw [dec_F]; kernel_rfl
theorem n_r7 : dec [10, 4, 18, 2, 18, 0] = ([], 4) := by rw [dec_F]; kernel_rfl
theorem n_r8 : dec [10, 3, 10, 1, 10] = ([], 8) := by rw [dec_F]; kernel_rfl
theorem n_r9 : dec [10, 3, 18, 1, 16] = ([], 8) := by rw [dec_F]; kernel_rfl
theorem n_r10 : dec [10, 1, 11] = ([], 4) := by rw [dec_F]; kernel_rfl
theorem n_r11 : dec [10, 1, 11, 8, 1, 10] = ([], 8) := by rw [dec_F]; kernel_rfl
theorem n_r12 : dec [10, 1, 16, 8, 1] = ([], 4) := by rw [dec_F]; kernel_rfl
theorem n_r13 : dec [10, 6, 18, 1, 11, 10, 1, 16] = ([], 8) := by rw [dec_F]; kernel_rfl
theorem n_r14 : dec [10, 1, 16, 10, 1, 11] = ([], 8) := by rw [dec_F]; kernel_rfl
def tSF (s : List UInt8) : List (Sr × Nat) := if (mF s).2 ≠ 0 then [(⟨[], []⟩, (mF s).2)] else if bd 1 2 (mF s).1 = true then [(⟨[], []⟩, 4)] else tel rSrF (tx 1 (mF s).1)
theorem tS_F (s : List UInt8) : tS s = tSF s := by
  unfold tS tSF rqT
  rw [mF_eq, rSr_F]
  by_cases h : (mF s).2 ≠ 0
  · rw [if_pos h, if_pos h, if_pos h]
  · rw [if_neg h, if_neg h]
    by_cases h2 : bd 1 2 (mF s).1 = true
    · rw [if_pos h2, if_pos h2]; rfl
    · rw [if_neg h2, if_neg h2]; rfl
theorem n_e1 : eat 9 (tS [10, 0, 10, 0, 10, 1, 11, 10, 0]) [] = ([⟨[], []⟩, ⟨[], []⟩], 4) := by rw [tS_F]; kernel_rfl
theorem n_e2 : eat 2 (tS [10, 0, 10, 0, 10, 1, 11]) [] = ([⟨[], []⟩, ⟨[], []⟩], 0) := by rw [tS_F]; kernel_rfl
theorem n_e3 : eat 9 (tS [10, 0, 10]) [] = ([], 8) := by rw [tS_F]; kernel_rfl
def vintF : Nat → Nat → List UInt8
  | 0, _ => []
  | k + 1, n => if n < 128 then [UInt8.ofNat n] else UInt8.ofNat (n % 128 + 128) :: vintF k (n / 128)
theorem vintF_eq : ∀ (k n : Nat), n < 2 ^ k → vintF (k + 1) n = Bt.vint n
  | 0, n, h => by
    have : n = 0 := by simpa using h
    subst this
    rw [Bt.vint_small (by decide)]; rfl
  | k + 1, n, h => by
    rw [vintF]
    by_cases h1 : n < 128
    · rw [if_pos h1, Bt.vint_small h1]
    · rw [if_neg h1, Bt.vint_big (by omega), vintF_eq k (n / 128) (by rw [Nat.pow_succ] at h; omega)]
def vF (n : Nat) : List UInt8 := vintF (n.log2 + 2) n
theorem vF_eq (n : Nat) : Bt.vint n = vF n := (vintF_eq _ _ Nat.lt_log2_self).symm
def fbyF (f : Fd) : List UInt8 := vF (f.n * 8 + f.w) ++ (if f.w = 0 then vF f.v else if f.w = 1 then Bt.fx 8 f.v else if f.w = 2 then vF f.t.length ++ f.t else Bt.fx 4 f.v)
theorem fby_F : fby = fbyF := funext fun f => by
  unfold fby vby fbyF
  simp only [vF_eq]
def eMF (fs : List Fd) : List UInt8 := fs.flatMap fbyF
theorem eM_F : eM = eMF := funext fun fs => by unfold eM eMF; rw [fby_F]
def eSrF (x : Sr) : List UInt8 := eMF (x.ls.map (fun y => part 1 (eMF (fLb y))) ++ x.ss.map (fun y => part 2 (eMF (fSm y))))
theorem eRq_F (l : List Sr) : eRq l = eMF (l.map fun x => part 1 (eSrF x)) := by unfold eRq fRq eSr fSr eLb eSm; rw [eM_F]; rfl
theorem n_w1 : eRq [⟨[⟨⟨#[]⟩, ⟨#[]⟩⟩], [⟨0, 0⟩]⟩] = [10, 4, 10, 0, 18, 0] := by rw [eRq_F]; kernel_rfl
theorem n_w2 : eRq [⟨[⟨⟨#[]⟩, ⟨#[118]⟩⟩, ⟨⟨#[110]⟩, ⟨#[]⟩⟩], []⟩] = [10, 10, 10, 3, 18, 1, 118, 10, 3, 10, 1, 110] := by rw [eRq_F]; kernel_rfl
theorem n_w3 : eRq [⟨[], [⟨-1, 0⟩]⟩] = [10, 13, 18, 11, 16, 255, 255, 255, 255, 255, 255, 255, 255, 255, 1] := by rw [eRq_F]; kernel_rfl
end Go.Proofs.Ytknfodpegkpjnaa
