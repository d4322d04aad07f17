/- Plain mathematics: labels read of a text, both ways alike; labels shown, and read again. -/
import Derived.Test.YtjhgmlhoefakpaaDoorPc
namespace Go.Proofs.YtjhgmlhoefakpaaDoor
set_option maxRecDepth 100000
def mkL (a b : List UInt8) : Lb := ⟨⟨a.toArray⟩, ⟨b.toArray⟩⟩
theorem mkL_eq (x : Lb) : mkL x.n.data.toList x.v.data.toList = x := by cases x; rfl
/-- What stands behind a mark, if it stands there. -/
def behind (a : UInt8) : List UInt8 → Option (List UInt8)
  | [] => none
  | c :: t => if c = a then some t else none
theorem behind_some {a : UInt8} {l t : List UInt8} : behind a l = some t ↔ l = a :: t := by
  cases l with
  | nil => simp [behind]
  | cons c r =>
    show (if c = a then some r else none) = some t ↔ _
    by_cases h : c = a
    · rw [if_pos h, h]; simp
    · rw [if_neg h]
      constructor
      · intro h1; cases h1
      · intro h1; cases h1; exact absurd rfl h
abbrev Way := List UInt8 → Option (List UInt8 × List UInt8)
def Vl : Way := fun t => V t.length t
def Dl : Way := fun t => D t.length t
def lab (W : Way) (l : List UInt8) : Option (Lb × List UInt8) :=
  (behind 61 (l.dropWhile (· != 61))).bind fun t1 => (behind 34 t1).bind fun t2 => (W t2).map fun o => (mkL (l.takeWhile (· != 61)) o.1, o.2)
def labs (W : Way) : Nat → List UInt8 → Option (List Lb × List UInt8)
  | 0, _ => none
  | n + 1, l => (lab W l).bind fun o => match behind 44 o.2 with
    | some t => (labs W n t).map fun p => (o.1 :: p.1, p.2)
    | none => some ([o.1], o.2)
def fin (o : Option (List Lb × List UInt8)) : Option (List Lb) := o.bind fun p => if p.2 = [125] ∧ mayL p.1 = true then some p.1 else none
def pars (W : Way) (n : Nat) (s : List UInt8) : Option (List Lb) := (behind 123 s).bind fun t => fin (labs W n t)
/-- The labels that are read of a text. -/
def parse (s : List UInt8) : Option (List Lb) := pars Dl s.length s
theorem Dl_Vl {t : List UInt8} {o : List UInt8 × List UInt8} (h : Dl t = some o) : Vl t = some o := D_V _ _ _ _ h
theorem Vl_Dl {t : List UInt8} {o : List UInt8 × List UInt8} (h : Vl t = some o) (hv : mayV o.1 = true) : Dl t = some o := by
  obtain ⟨rs, e, ha, _⟩ := mayV_iff.1 hv
  obtain ⟨a, b⟩ := o
  simp only at e
  subst e
  exact V_D _ rs _ _ _ (Nat.le_refl _) ha h
theorem lab_some {W : Way} {l r : List UInt8} {x : Lb} : lab W l = some (x, r) ↔ ∃ t o, l.dropWhile (· != 61) = 61 :: 34 :: t ∧ W t = some (o, r) ∧ x = mkL (l.takeWhile (· != 61)) o := by
  unfold lab
  constructor
  · intro h
    obtain ⟨t1, h1, h⟩ := Option.bind_eq_some_iff.1 h
    obtain ⟨t2, h2, h⟩ := Option.bind_eq_some_iff.1 h
    obtain ⟨o, h3, h⟩ := Option.map_eq_some_iff.1 h
    rw [behind_some] at h1 h2
    cases h
    exact ⟨t2, o.1, by rw [h1, h2], h3, rfl⟩
  · rintro ⟨t, o, h1, h2, rfl⟩
    rw [h1]
    simp [behind, h2]
theorem lab_Vl {l r : List UInt8} {x : Lb} (h : lab Dl l = some (x, r)) : lab Vl l = some (x, r) := by
  obtain ⟨t, o, h1, h2, h3⟩ := lab_some.1 h
  exact lab_some.2 ⟨t, o, h1, Dl_Vl h2, h3⟩
theorem lab_Dl {l r : List UInt8} {x : Lb} (h : lab Vl l = some (x, r)) (hv : mayV x.v.data.toList = true) : lab Dl l = some (x, r) := by
  obtain ⟨t, o, h1, h2, rfl⟩ := lab_some.1 h
  exact lab_some.2 ⟨t, o, h1, Vl_Dl h2 hv, rfl⟩
theorem dropWhile_le (p : UInt8 → Bool) (l : List UInt8) : (l.dropWhile p).length ≤ l.length := (List.dropWhile_sublist p).length_le
theorem lab_short {l r : List UInt8} {x : Lb} (h : lab Vl l = some (x, r)) : r.length + 3 ≤ l.length := by
  obtain ⟨t, o, h1, h2, _⟩ := lab_some.1 h
  have h3 := V_short _ _ _ _ h2
  have h4 := dropWhile_le (· != 61) l
  rw [h1] at h4
  simp at h4
  omega
theorem labs_nil {W : Way} {n : Nat} {t r : List UInt8} (h : labs W n t = some ([], r)) : False := by
  cases n with
  | zero => cases h
  | succ n =>
    unfold labs at h
    obtain ⟨o, h1, h⟩ := Option.bind_eq_some_iff.1 h
    cases e : behind 44 o.2 with
    | none => rw [e] at h; cases h
    | some t =>
      rw [e] at h
      obtain ⟨p, _, h⟩ := Option.map_eq_some_iff.1 h
      cases h
theorem labs_to {W W' : Way} : ∀ (l : List Lb) (n m : Nat) (t r : List UInt8), (∀ x ∈ l, ∀ t r, lab W t = some (x, r) → lab W' t = some (x, r)) → labs W n t = some (l, r) → l.length ≤ m → labs W' m t = some (l, r)
  | [], _, _, _, _, _, h, _ => (labs_nil h).elim
  | _ :: _, _, 0, _, _, _, _, hm => by simp at hm
  | x :: l, 0, _, _, _, _, h, _ => by cases h
  | x :: l, n + 1, m + 1, t, r, hw, h, hm => by
    unfold labs at h ⊢
    obtain ⟨o, h1, h⟩ := Option.bind_eq_some_iff.1 h
    have hx : o.1 = x := by
      cases e : behind 44 o.2 with
      | none => rw [e] at h; cases h; rfl
      | some t =>
        rw [e] at h
        obtain ⟨p, _, h⟩ := Option.map_eq_some_iff.1 h
        cases h; rfl
    have h1' := hw x (by simp) t o.2 (by rw [h1, ← hx])
    rw [h1']
    simp only [Option.bind_some]
    cases e : behind 44 o.2 with
    | none => rw [e] at h; cases h; rfl
    | some u =>
      rw [e] at h
      obtain ⟨p, hp, h⟩ := Option.map_eq_some_iff.1 h
      cases h
      have ih := labs_to p.1 n m u p.2 (fun y hy => hw y (by simp [hy])) hp (by simpa using hm)
      simp only [ih]
      rfl
theorem labs_short : ∀ (n : Nat) (t : List UInt8) (l : List Lb) (r : List UInt8), labs Vl n t = some (l, r) → l.length ≤ t.length
  | 0, _, _, _, h => by cases h
  | n + 1, t, l, r, h => by
    unfold labs at h
    obtain ⟨o, h1, h⟩ := Option.bind_eq_some_iff.1 h
    have h2 := lab_short (x := o.1) (r := o.2) h1
    cases e : behind 44 o.2 with
    | none => rw [e] at h; cases h; simp; omega
    | some u =>
      rw [e] at h
      obtain ⟨p, hp, h⟩ := Option.map_eq_some_iff.1 h
      have h3 := labs_short n u p.1 p.2 hp
      rw [behind_some] at e
      rw [e] at h2
      cases h
      simp at h2 ⊢
      omega
theorem fin_some {o : Option (List Lb × List UInt8)} {l : List Lb} : fin o = some l ↔ o = some (l, [125]) ∧ mayL l = true := by
  unfold fin
  constructor
  · intro h
    obtain ⟨p, h1, h⟩ := Option.bind_eq_some_iff.1 h
    split at h
    · rename_i h2
      cases h
      exact ⟨by rw [h1, ← h2.1], h2.2⟩
    · cases h
  · rintro ⟨rfl, h⟩
    simp [h]
/-- Both ways are one. -/
theorem parse_V (s : List UInt8) : pars Vl 17 s = parse s := by
  unfold parse pars
  cases e : behind 123 s with
  | none => rfl
  | some t =>
    simp only [Option.bind_some]
    rw [behind_some] at e
    apply Option.ext
    intro l
    rw [fin_some, fin_some]
    constructor
    · rintro ⟨h, hm⟩
      refine ⟨labs_to l 17 _ t _ (fun x hx t r h => lab_Dl h (mayL_mem hm x hx).2) h ?_, hm⟩
      have := labs_short _ _ _ _ h
      rw [e, List.length_cons]
      omega
    · rintro ⟨h, hm⟩
      refine ⟨labs_to l _ 17 t _ (fun x hx t r h => lab_Vl h) h ?_, hm⟩
      have := mayL_len hm
      omega
theorem parse_may {s : List UInt8} {l : List Lb} (h : parse s = some l) : mayL l = true := by
  unfold parse pars at h
  obtain ⟨t, _, h⟩ := Option.bind_eq_some_iff.1 h
  exact (fin_some.1 h).2
/-! Shown. -/
def dg (d : Nat) : UInt8 := UInt8.ofNat (if d < 10 then 48 + d else 87 + d)
def digF : Nat → Nat → List Nat
  | 0, n => [n % 16]
  | k + 1, n => if n < 16 then [n] else digF k (n / 16) ++ [n % 16]
/-- A number's hexadecimal digits. -/
def hexs (n : Nat) : List UInt8 := (digF 5 n).map dg
theorem dg_hexd {d : Nat} (h : d < 16) : hexd (dg d) = some d := by
  unfold dg hexd
  by_cases h1 : d < 10
  · rw [if_pos h1]
    have e : (UInt8.ofNat (48 + d)).toNat = 48 + d := by simp; omega
    rw [e, if_pos (by omega)]
    congr 1
    omega
  · rw [if_neg h1]
    have e : (UInt8.ofNat (87 + d)).toNat = 87 + d := by simp; omega
    rw [e, if_neg (by omega), if_pos (by omega)]
    congr 1
    omega
theorem digF_lt : ∀ (k n : Nat), ∀ d ∈ digF k n, d < 16
  | 0, n, d, h => by simp [digF] at h; omega
  | k + 1, n, d, h => by
    unfold digF at h
    split at h
    · simp at h; omega
    · rcases List.mem_append.1 h with h | h
      · exact digF_lt k _ d h
      · simp at h; omega
theorem digF_len : ∀ (k n : Nat), 1 ≤ (digF k n).length ∧ (digF k n).length ≤ k + 1
  | 0, n => by simp [digF]
  | k + 1, n => by
    unfold digF
    split
    · simp
    · have := digF_len k (n / 16)
      rw [List.length_append, List.length_singleton]
      omega
def foldH (a : Nat) (ds : List Nat) : Nat := ds.foldl (fun a d => a * 16 + d) a
theorem foldH_app (a : Nat) (x y : List Nat) : foldH a (x ++ y) = foldH (foldH a x) y := List.foldl_append
theorem digF_fold : ∀ (k n : Nat), n < 16 ^ (k + 1) → foldH 0 (digF k n) = n
  | 0, n, h => by simp [foldH, digF] at *; omega
  | k + 1, n, h => by
    unfold digF
    split
    · simp [foldH]
    · rw [foldH_app, digF_fold k (n / 16) (by rw [Nat.pow_succ] at h; omega)]
      simp [foldH]
      omega
theorem hexGo_digs : ∀ (ds : List Nat) (k a : Nat) (t : List UInt8), (∀ d ∈ ds, d < 16) → hexGo (ds.length + k) a (ds.map dg ++ t) = hexGo k (foldH a ds) t
  | [], k, a, t, _ => by simp [foldH]
  | d :: ds, k, a, t, h => by
    have e := dg_hexd (h d (by simp))
    rw [List.length_cons, show ds.length + 1 + k = (ds.length + k) + 1 by omega, List.map_cons, List.cons_append]
    conv => lhs; unfold hexGo
    rw [e]
    exact hexGo_digs ds k _ t (fun x hx => h x (by simp [hx]))
theorem hexd_125 : hexd 125 = none := by decide
theorem hexGo_stop (k a : Nat) (t : List UInt8) : hexGo k a (125 :: t) = (a, 125 :: t) := by
  cases k with
  | zero => rfl
  | succ k => unfold hexGo; rw [hexd_125]
theorem hexR_hexs {c : Nat} (h : OkR c) (t : List UInt8) : hexR (hexs c ++ 125 :: t) = some (c, t) := by
  have hl := digF_len 5 c
  have hlt : c < 16 ^ 6 := by unfold OkR at h; omega
  have e : hexGo 6 0 (hexs c ++ 125 :: t) = (c, 125 :: t) := by
    unfold hexs
    have := hexGo_digs (digF 5 c) (6 - (digF 5 c).length) 0 (125 :: t) (digF_lt 5 c)
    rw [show (digF 5 c).length + (6 - (digF 5 c).length) = 6 by omega, digF_fold 5 c hlt, hexGo_stop] at this
    exact this
  unfold hexR
  rw [e]
  simp only
  rw [if_neg (by rw [List.length_append]; unfold hexs; rw [List.length_map]; omega), if_pos ⟨trivial, h⟩]
/-- A rune, shown. -/
def showR (c : Nat) : List UInt8 := if c = 34 ∨ c = 92 then [92, UInt8.ofNat c] else if 126 < c then 92 :: 117 :: 123 :: (hexs c ++ [125]) else [UInt8.ofNat c]
def showV (l : List UInt8) : List UInt8 := match runes l with
  | some rs => rs.flatMap showR
  | none => []
def body (x : Lb) : List UInt8 := x.n.data.toList ++ 61 :: 34 :: (showV x.v.data.toList ++ [34])
def showA : UInt8 → List Lb → List UInt8
  | _, [] => []
  | a, x :: r => a :: (body x ++ showA 44 r)
/-- Labels, shown. -/
def shows (l : List Lb) : List UInt8 := showA 123 l ++ [125]
theorem V_cons (n : Nat) (c : UInt8) (t : List UInt8) : V (n + 1) (c :: t) = if c = 34 then some ([], t) else if c = 92 then (esc t).bind (fun x => (V n x.2).map fun o => (enc x.1 ++ o.1, o.2)) else (V n t).map fun o => (c :: o.1, o.2) := rfl
theorem V_esc {n c : Nat} {t u : List UInt8} {o : List UInt8 × List UInt8} (h : esc t = some (c, u)) (k : V n u = some o) : V (n + 1) (92 :: t) = some (enc c ++ o.1, o.2) := by
  rw [V_cons, if_neg (by decide), if_pos rfl, h]
  simp only [Option.bind_some]
  rw [k]; rfl
theorem V_shown : ∀ (rs : List Nat) (t : List UInt8), AllR rs → (∀ c ∈ rs, OkV c = true) → ∃ n, V n (rs.flatMap showR ++ 34 :: t) = some (flat rs, t)
  | [], t, _, _ => ⟨1, by rfl⟩
  | c :: r, t, ha, hv => by
    obtain ⟨n, hn⟩ := V_shown r t (fun x hx => ha x (by simp [hx])) (fun x hx => hv x (by simp [hx]))
    have hc := ha c (by simp)
    rw [List.flatMap_cons, List.append_assoc, flat_cons, show showR c = (if c = 34 ∨ c = 92 then [92, UInt8.ofNat c] else if 126 < c then 92 :: 117 :: 123 :: (hexs c ++ [125]) else [UInt8.ofNat c]) from rfl]
    by_cases h1 : c = 34 ∨ c = 92
    · rw [if_pos h1]
      refine ⟨n + 1, ?_⟩
      refine V_esc (o := (flat r, t)) ?_ hn
      rcases h1 with rfl | rfl <;> rfl
    · rw [if_neg h1]
      by_cases h2 : 126 < c
      · rw [if_pos h2]
        refine ⟨n + 1, ?_⟩
        refine V_esc (o := (flat r, t)) ?_ hn
        have := hexR_hexs hc (r.flatMap showR ++ 34 :: t)
        show esc (117 :: (123 :: (hexs c ++ [125] ++ (r.flatMap showR ++ 34 :: t)))) = _
        rw [esc_cons, if_neg (by decide), if_neg (by decide), if_pos rfl]
        show (if (123 : UInt8) = 123 then hexR (hexs c ++ [125] ++ (r.flatMap showR ++ 34 :: t)) else none) = _
        rw [if_pos rfl, List.append_assoc]
        exact this
      · rw [if_neg h2, ← enc_ascii (by omega)]
        have hp := (V_plain (enc c) (r.flatMap showR ++ 34 :: t) n (enc c ++ flat r, t) (enc_plain hc (by omega) (by omega))).2 ⟨_, hn, rfl⟩
        exact ⟨_, hp⟩
theorem Vl_shown {l : List UInt8} (h : mayV l = true) (t : List UInt8) : Vl (showV l ++ 34 :: t) = some (l, t) := by
  obtain ⟨rs, rfl, ha, hv, _, _⟩ := mayV_iff.1 h
  unfold showV
  rw [runes_flat ha]
  obtain ⟨n, hn⟩ := V_shown rs t ha hv
  exact V_fuel _ _ _ hn
theorem name_61 {l : List UInt8} (h : mayN l = true) : ∀ c ∈ l, (c != 61) = true := by
  intro c hc
  rw [bne_iff_ne]
  rintro rfl
  rcases mayN_all h _ hc with h | h <;> exact absurd h (by decide)
theorem take_name {l t : List UInt8} (h : ∀ c ∈ l, (c != 61) = true) : (l ++ 61 :: t).takeWhile (· != 61) = l ∧ (l ++ 61 :: t).dropWhile (· != 61) = 61 :: t := by
  induction l with
  | nil => simp
  | cons c r ih =>
    have hc := h c (by simp)
    have := ih (fun x hx => h x (by simp [hx]))
    rw [List.cons_append, List.takeWhile_cons_of_pos (p := (· != 61)) hc, List.dropWhile_cons_of_pos (p := (· != 61)) hc, this.1, this.2]
    exact ⟨rfl, rfl⟩
theorem lab_body {x : Lb} (hn : mayN x.n.data.toList = true) (hv : mayV x.v.data.toList = true) (t : List UInt8) : lab Vl (body x ++ t) = some (x, t) := by
  have e : body x ++ t = x.n.data.toList ++ 61 :: (34 :: (showV x.v.data.toList ++ 34 :: t)) := by unfold body; simp
  have h := take_name (t := 34 :: (showV x.v.data.toList ++ 34 :: t)) (name_61 hn)
  rw [lab_some, e]
  exact ⟨_, x.v.data.toList, h.2, Vl_shown hv t, by rw [h.1, mkL_eq]⟩
theorem labs_show : ∀ (r : List Lb) (x : Lb) (n : Nat), (∀ y ∈ x :: r, mayN y.n.data.toList = true ∧ mayV y.v.data.toList = true) → r.length < n → labs Vl n (body x ++ showA 44 r ++ [125]) = some (x :: r, [125])
  | _, _, 0, _, h => by omega
  | [], x, n + 1, h, _ => by
    have hx := h x (by simp)
    unfold labs
    rw [List.append_assoc, lab_body hx.1 hx.2]
    rfl
  | y :: r, x, n + 1, h, hn => by
    have hx := h x (by simp)
    unfold labs
    rw [List.append_assoc, lab_body hx.1 hx.2]
    simp only [Option.bind_some]
    have e : showA 44 (y :: r) ++ [125] = 44 :: (body y ++ showA 44 r ++ [125]) := by simp [showA]
    have ih := labs_show r y n (fun z hz => h z (by simp [hz])) (by simpa using hn)
    rw [e]
    simp only [behind, if_true]
    rw [ih]
    rfl
/-- What is shown is read again. -/
theorem parse_shows {l : List Lb} (h : mayL l = true) : parse (shows l) = some l := by
  have hl := mayL_len h
  rw [← parse_V]
  unfold pars shows
  cases l with
  | nil => simp at hl
  | cons x r =>
    have e : showA 123 (x :: r) ++ [125] = 123 :: (body x ++ showA 44 r ++ [125]) := by simp [showA]
    rw [e]
    simp only [behind, if_true, Option.bind_some]
    rw [fin_some]
    exact ⟨labs_show r x 17 (mayL_mem h) (by simp at hl; omega), h⟩
/-- What is shown is ASCII that is printed. -/
def Prt (c : UInt8) : Prop := 32 ≤ c.toNat ∧ c.toNat ≤ 126
theorem prt_showR {c : Nat} (h : OkV c = true) : ∀ x ∈ showR c, Prt x := by
  simp only [OkV, Bool.and_eq_true, decide_eq_true_eq] at h
  intro x hx
  unfold showR at hx
  have s : ∀ k : Nat, 32 ≤ k → k ≤ 126 → Prt (UInt8.ofNat k) := fun k h1 h2 => by
    have e : (UInt8.ofNat k).toNat = k := by simp; omega
    unfold Prt
    rw [e]
    exact ⟨h1, h2⟩
  split at hx
  · rename_i h1
    simp only [List.mem_cons, List.not_mem_nil, or_false] at hx
    rcases hx with rfl | rfl
    · exact s 92 (by omega) (by omega)
    · exact s c (by omega) (by omega)
  · split at hx
    · simp only [List.mem_cons, List.mem_append, List.not_mem_nil, or_false] at hx
      rcases hx with rfl | rfl | rfl | hx | rfl
      · exact s 92 (by omega) (by omega)
      · exact s 117 (by omega) (by omega)
      · exact s 123 (by omega) (by omega)
      · obtain ⟨d, hd, rfl⟩ := List.mem_map.1 hx
        have := digF_lt 5 c d hd
        unfold dg
        split
        · exact s _ (by omega) (by omega)
        · exact s _ (by omega) (by omega)
      · exact s 125 (by omega) (by omega)
    · simp only [List.mem_singleton] at hx
      subst hx
      exact s c (by omega) (by omega)
theorem prt_body {x : Lb} (hn : mayN x.n.data.toList = true) (hv : mayV x.v.data.toList = true) : ∀ c ∈ body x, Prt c := by
  intro c hc
  unfold body at hc
  rcases List.mem_append.1 hc with hc | hc
  · have := mayN_all hn c hc
    unfold isDg isLt at this
    simp only [decide_eq_true_eq] at this
    unfold Prt
    omega
  · simp only [List.mem_cons, List.mem_append, List.not_mem_nil, or_false] at hc
    rcases hc with rfl | rfl | hc | rfl
    · exact ⟨by decide, by decide⟩
    · exact ⟨by decide, by decide⟩
    · obtain ⟨rs, e, ha, hk, _, _⟩ := mayV_iff.1 hv
      unfold showV at hc
      rw [e, runes_flat ha] at hc
      obtain ⟨y, hy, hc⟩ := List.mem_flatMap.1 hc
      exact prt_showR (hk y hy) c hc
    · exact ⟨by decide, by decide⟩
theorem prt_showA : ∀ (l : List Lb) (a : UInt8), Prt a → (∀ y ∈ l, mayN y.n.data.toList = true ∧ mayV y.v.data.toList = true) → ∀ c ∈ showA a l, Prt c
  | [], _, _, _, c, hc => by cases hc
  | x :: r, a, ha, h, c, hc => by
    unfold showA at hc
    rcases List.mem_cons.1 hc with rfl | hc
    · exact ha
    rcases List.mem_append.1 hc with hc | hc
    · exact prt_body (h x (by simp)).1 (h x (by simp)).2 c hc
    · exact prt_showA r 44 ⟨by decide, by decide⟩ (fun y hy => h y (by simp [hy])) c hc
theorem prt_shows {l : List Lb} (h : mayL l = true) : ∀ c ∈ shows l, Prt c := by
  intro c hc
  unfold shows at hc
  rcases List.mem_append.1 hc with hc | hc
  · exact prt_showA l 123 ⟨by decide, by decide⟩ (mayL_mem h) c hc
  · simp only [List.mem_singleton] at hc
    subst hc
    exact ⟨by decide, by decide⟩
end Go.Proofs.YtjhgmlhoefakpaaDoor
