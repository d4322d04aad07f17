/- Trees of keys and values: their lists; what is put, taken away, found, and listed from a key on. Plain mathematics. -/
import Derived.Below
namespace Go.Proofs.Ytbfkgbickjfcjaa
set_option linter.unusedVariables false
set_option linter.unusedSimpArgs false
inductive T (K V : Type) where
  | nil
  | node (k : K) (v : V) (l r : T K V)
section
variable {K V : Type}
def T.sz : T K V → Nat
  | .nil => 0
  | .node _ _ l r => l.sz + 1 + r.sz
def T.flat : T K V → List (K × V)
  | .nil => []
  | .node k v l r => l.flat ++ (k, v) :: r.flat
theorem T.flat_len : ∀ t : T K V, t.flat.length = t.sz
  | .nil => rfl
  | .node _ _ l r => by simp only [T.flat, T.sz, List.length_append, List.length_cons, T.flat_len l, T.flat_len r]; omega
/-- A linear order, told by a test. -/
structure Lin (lt : K → K → Bool) : Prop where
  irr : ∀ a, lt a a = false
  tr : ∀ a b c, lt a b = true → lt b c = true → lt a c = true
  tri : ∀ a b, lt a b = false → lt b a = false → a = b
variable {lt : K → K → Bool}
theorem Lin.asym (H : Lin lt) {a b : K} (h : lt a b = true) : lt b a = false := by
  cases e : lt b a
  · rfl
  · have := H.tr _ _ _ h e; rw [H.irr] at this; cases this
/-- Rising keys. -/
def Srt (lt : K → K → Bool) (L : List (K × V)) : Prop := L.Pairwise fun x y => lt x.1 y.1 = true
def ins (lt : K → K → Bool) (k : K) (v : V) (L : List (K × V)) : List (K × V) := L.filter (fun x => lt x.1 k) ++ (k, v) :: L.filter (fun x => lt k x.1)
def del (lt : K → K → Bool) (k : K) (L : List (K × V)) : List (K × V) := L.filter (fun x => lt x.1 k) ++ L.filter (fun x => lt k x.1)
def get (lt : K → K → Bool) (k : K) : List (K × V) → Option V
  | [] => none
  | (a, v) :: L => if lt a k || lt k a then get lt k L else some v
/-- What stands from a key on. -/
def frm (lt : K → K → Bool) (k : K) (L : List (K × V)) : List (K × V) := L.filter (fun x => !lt x.1 k)
theorem Srt.node {l r : List (K × V)} {a : K} {v : V} (h : Srt lt (l ++ (a, v) :: r)) : Srt lt l ∧ Srt lt r ∧ (∀ x ∈ l, lt x.1 a = true) ∧ (∀ x ∈ r, lt a x.1 = true) := by
  unfold Srt at *
  rw [List.pairwise_append, List.pairwise_cons] at h
  obtain ⟨h1, ⟨h2, h3⟩, h4⟩ := h
  exact ⟨h1, h3, fun x hx => h4 x hx (a, v) (by simp), fun x hx => h2 x hx⟩
theorem fil_all {p : K × V → Bool} {l : List (K × V)} (h : ∀ x ∈ l, p x = true) : l.filter p = l := List.filter_eq_self.2 h
theorem fil_none {p : K × V → Bool} {l : List (K × V)} (h : ∀ x ∈ l, p x = false) : l.filter p = [] := List.filter_eq_nil_iff.2 fun x hx => by rw [h x hx]; simp
theorem ins_lt (H : Lin lt) {l r : List (K × V)} {a k : K} {v x : V} (h : Srt lt (l ++ (a, v) :: r)) (hk : lt k a = true) : ins lt k x (l ++ (a, v) :: r) = ins lt k x l ++ (a, v) :: r := by
  obtain ⟨-, -, -, hr⟩ := h.node
  unfold ins
  rw [List.filter_append, List.filter_append, List.filter_cons, List.filter_cons, if_neg (by rw [H.asym hk]; simp), if_pos hk, fil_none (l := r) (fun y hy => H.asym (H.tr _ _ _ hk (hr y hy))), fil_all (l := r) (fun y hy => H.tr _ _ _ hk (hr y hy)), List.append_nil, List.append_assoc, List.cons_append]
theorem ins_gt (H : Lin lt) {l r : List (K × V)} {a k : K} {v x : V} (h : Srt lt (l ++ (a, v) :: r)) (hk : lt a k = true) : ins lt k x (l ++ (a, v) :: r) = l ++ (a, v) :: ins lt k x r := by
  obtain ⟨-, -, hl, -⟩ := h.node
  unfold ins
  rw [List.filter_append, List.filter_append, List.filter_cons, List.filter_cons, if_pos hk, if_neg (by rw [H.asym hk]; simp), fil_all (l := l) (fun y hy => H.tr _ _ _ (hl y hy) hk), fil_none (l := l) (fun y hy => H.asym (H.tr _ _ _ (hl y hy) hk)), List.nil_append, List.append_assoc, List.cons_append]
theorem ins_eq (H : Lin lt) {l r : List (K × V)} {a : K} {v x : V} (h : Srt lt (l ++ (a, v) :: r)) : ins lt a x (l ++ (a, v) :: r) = l ++ (a, x) :: r := by
  obtain ⟨-, -, hl, hr⟩ := h.node
  unfold ins
  rw [List.filter_append, List.filter_append, List.filter_cons, List.filter_cons, if_neg (by rw [H.irr]; simp), if_neg (by rw [H.irr]; simp), fil_all (l := l) hl, fil_none (l := l) (fun y hy => H.asym (hl y hy)), fil_none (l := r) (fun y hy => H.asym (hr y hy)), fil_all (l := r) hr, List.append_nil, List.nil_append]
theorem del_lt (H : Lin lt) {l r : List (K × V)} {a k : K} {v : V} (h : Srt lt (l ++ (a, v) :: r)) (hk : lt k a = true) : del lt k (l ++ (a, v) :: r) = del lt k l ++ (a, v) :: r := by
  obtain ⟨-, -, -, hr⟩ := h.node
  unfold del
  rw [List.filter_append, List.filter_append, List.filter_cons, List.filter_cons, if_neg (by rw [H.asym hk]; simp), if_pos hk, fil_none (l := r) (fun y hy => H.asym (H.tr _ _ _ hk (hr y hy))), fil_all (l := r) (fun y hy => H.tr _ _ _ hk (hr y hy)), List.append_nil, List.append_assoc]
theorem del_gt (H : Lin lt) {l r : List (K × V)} {a k : K} {v : V} (h : Srt lt (l ++ (a, v) :: r)) (hk : lt a k = true) : del lt k (l ++ (a, v) :: r) = l ++ (a, v) :: del lt k r := by
  obtain ⟨-, -, hl, -⟩ := h.node
  unfold del
  rw [List.filter_append, List.filter_append, List.filter_cons, List.filter_cons, if_pos hk, if_neg (by rw [H.asym hk]; simp), fil_all (l := l) (fun y hy => H.tr _ _ _ (hl y hy) hk), fil_none (l := l) (fun y hy => H.asym (H.tr _ _ _ (hl y hy) hk)), List.nil_append, List.append_assoc, List.cons_append]
theorem del_eq (H : Lin lt) {l r : List (K × V)} {a : K} {v : V} (h : Srt lt (l ++ (a, v) :: r)) : del lt a (l ++ (a, v) :: r) = l ++ r := by
  obtain ⟨-, -, hl, hr⟩ := h.node
  unfold del
  rw [List.filter_append, List.filter_append, List.filter_cons, List.filter_cons, if_neg (by rw [H.irr]; simp), if_neg (by rw [H.irr]; simp), fil_all (l := l) hl, fil_none (l := l) (fun y hy => H.asym (hl y hy)), fil_none (l := r) (fun y hy => H.asym (hr y hy)), fil_all (l := r) hr, List.append_nil, List.nil_append]
theorem get_none_of {k : K} {L : List (K × V)} (h : ∀ x ∈ L, (lt x.1 k || lt k x.1) = true) : get lt k L = none := by
  induction L with
  | nil => rfl
  | cons a L ih => obtain ⟨a, v⟩ := a; rw [get, if_pos (h (a, v) (by simp))]; exact ih fun x hx => h x (by simp [hx])
theorem get_append {k : K} {l r : List (K × V)} : get lt k (l ++ r) = (get lt k l).or (get lt k r) := by
  induction l with
  | nil => rfl
  | cons a L ih => obtain ⟨a, v⟩ := a; rw [List.cons_append, get, get]; split <;> simp [ih]
theorem get_lt (H : Lin lt) {l r : List (K × V)} {a k : K} {v : V} (h : Srt lt (l ++ (a, v) :: r)) (hk : lt k a = true) : get lt k (l ++ (a, v) :: r) = get lt k l := by
  obtain ⟨-, -, -, hr⟩ := h.node
  rw [get_append, get_none_of (L := (a, v) :: r), Option.or_none]
  intro x hx
  rcases List.mem_cons.1 hx with rfl | hx
  · simp [hk]
  · simp [H.tr _ _ _ hk (hr x hx)]
theorem get_gt (H : Lin lt) {l r : List (K × V)} {a k : K} {v : V} (h : Srt lt (l ++ (a, v) :: r)) (hk : lt a k = true) : get lt k (l ++ (a, v) :: r) = get lt k r := by
  obtain ⟨-, -, hl, -⟩ := h.node
  rw [get_append, get_none_of (L := l), Option.none_or, get, if_pos (by simp [hk])]
  intro x hx
  simp [H.tr _ _ _ (hl x hx) hk]
theorem get_eq (H : Lin lt) {l r : List (K × V)} {a : K} {v : V} (h : Srt lt (l ++ (a, v) :: r)) : get lt a (l ++ (a, v) :: r) = some v := by
  obtain ⟨-, -, hl, -⟩ := h.node
  rw [get_append, get_none_of (L := l), Option.none_or, get, if_neg (by simp [H.irr])]
  intro x hx
  simp [hl x hx]
theorem frm_lt (H : Lin lt) {l r : List (K × V)} {a k : K} {v : V} (h : Srt lt (l ++ (a, v) :: r)) (hk : lt k a = true) : frm lt k (l ++ (a, v) :: r) = frm lt k l ++ (a, v) :: frm lt k r := by
  unfold frm
  rw [List.filter_append, List.filter_cons, if_pos (by rw [H.asym hk]; rfl)]
theorem frm_gt (H : Lin lt) {l r : List (K × V)} {a k : K} {v : V} (h : Srt lt (l ++ (a, v) :: r)) (hk : lt a k = true) : frm lt k (l ++ (a, v) :: r) = frm lt k r := by
  obtain ⟨-, -, hl, -⟩ := h.node
  unfold frm
  rw [List.filter_append, List.filter_cons, if_neg (by rw [hk]; simp), fil_none (l := l) (fun y hy => by rw [H.tr _ _ _ (hl y hy) hk]; rfl), List.nil_append]
theorem frm_all (H : Lin lt) {l r : List (K × V)} {a : K} {v : V} (h : Srt lt (l ++ (a, v) :: r)) : frm lt a (l ++ (a, v) :: r) = (a, v) :: r := by
  obtain ⟨-, -, hl, hr⟩ := h.node
  unfold frm
  rw [List.filter_append, List.filter_cons, if_pos (by rw [H.irr]; rfl), fil_none (l := l) (fun y hy => by rw [hl y hy]; rfl), fil_all (l := r) (fun y hy => by rw [H.asym (hr y hy)]; rfl), List.nil_append]
theorem frm_r (H : Lin lt) {r : List (K × V)} {k : K} (h : ∀ x ∈ r, lt k x.1 = true) : frm lt k r = r := fil_all fun y hy => by rw [H.asym (h y hy)]; rfl
theorem Srt.ins (H : Lin lt) {L : List (K × V)} {k : K} {v : V} (h : Srt lt L) : Srt lt (ins lt k v L) := by
  unfold Srt Ytbfkgbickjfcjaa.ins at *
  rw [List.pairwise_append, List.pairwise_cons]
  refine ⟨h.filter _, ⟨fun x hx => (List.mem_filter.1 hx).2, h.filter _⟩, fun x hx y hy => ?_⟩
  have hx := (List.mem_filter.1 hx).2
  rcases List.mem_cons.1 hy with rfl | hy
  · exact hx
  · exact H.tr _ _ _ hx (List.mem_filter.1 hy).2
theorem Srt.del (H : Lin lt) {L : List (K × V)} {k : K} (h : Srt lt L) : Srt lt (del lt k L) := by
  unfold Srt Ytbfkgbickjfcjaa.del at *
  rw [List.pairwise_append]
  exact ⟨h.filter _, h.filter _, fun x hx y hy => H.tr _ _ _ (List.mem_filter.1 hx).2 (List.mem_filter.1 hy).2⟩
theorem ins_len (H : Lin lt) {L : List (K × V)} {k : K} {v : V} : (ins lt k v L).length ≤ L.length + 1 := by
  unfold ins
  rw [List.length_append, List.length_cons]
  induction L with
  | nil => simp
  | cons a L ih =>
    rw [List.filter_cons, List.filter_cons]
    cases h1 : lt a.1 k
    · cases h2 : lt k a.1 <;> simp <;> omega
    · rw [H.asym h1]; simp; omega
theorem del_len (H : Lin lt) {L : List (K × V)} {k : K} : (del lt k L).length ≤ L.length := by
  unfold del
  rw [List.length_append]
  induction L with
  | nil => simp
  | cons a L ih =>
    rw [List.filter_cons, List.filter_cons]
    cases h1 : lt a.1 k
    · cases h2 : lt k a.1 <;> simp <;> omega
    · rw [H.asym h1]; simp; omega
end
end Go.Proofs.Ytbfkgbickjfcjaa
