/-
  Plain mathematics of links: lists of links that ascend by edge; setting, cutting, leaving; what changed.
-/
import Derived.Lib.SlicesCompact
namespace Go.Proofs.YtfapfkaipdcflaaGreat
namespace Ls

structure Lk where
  u : Int
  v : Int
  weight : Int
  label : Int
  sign : Int
  time : Int
  deriving DecidableEq
/-- the edge of one link comes before that of another -/
def before (a b : Lk) : Bool := decide (a.u < b.u) || (decide (a.u = b.u) && decide (a.v < b.v))
def same (a b : Lk) : Bool := decide (a.u = b.u) && decide (a.v = b.v)
def Asc (l : List Lk) : Prop := l.Pairwise (fun a b => before a b = true)
theorem before_irr (a : Lk) : before a a = false := by simp [before]
theorem before_trans (a b c : Lk) (h : before a b = true) (g : before b c = true) : before a c = true := by
  simp [before] at *
  omega
theorem before_not_same (a b : Lk) (h : before a b = true) : same a b = false := by
  simp [before, same] at *
  omega
theorem before_not_same' (a b : Lk) (h : before a b = true) : same b a = false := by
  simp [before, same] at *
  omega
theorem tri (a b : Lk) : before a b = true ∨ same a b = true ∨ before b a = true := by
  simp [before, same]
  omega
theorem same_before (a b c : Lk) (h : same a b = true) : before a c = before b c := by
  simp [before, same] at *
  simp [h.1, h.2]
theorem before_same (a b c : Lk) (h : same a b = true) : before c a = before c b := by
  simp [before, same] at *
  simp [h.1, h.2]
theorem same_comm (a b : Lk) : same a b = same b a := by
  simp [same, eq_comm]
theorem same_trans (a b c : Lk) (h : same a b = true) : same a c = same b c := by
  simp [same] at *
  simp [h.1, h.2]
/-- a link set in a list -/
def put (n : Lk) : List Lk → List Lk
  | [] => [n]
  | l :: a => if before n l then n :: l :: a else if same l n then n :: a else l :: put n a
theorem mem_put (n x : Lk) (l : List Lk) (h : x ∈ put n l) : x = n ∨ x ∈ l := by
  induction l with
  | nil => simp [put] at h; exact .inl h
  | cons a l ih =>
    unfold put at h
    split at h
    · simpa using h
    · split at h
      · simp at h; rcases h with h | h <;> simp [h]
      · simp at h
        rcases h with h | h
        · simp [h]
        · rcases ih h with h | h <;> simp [h]
theorem put_mem (n : Lk) (l : List Lk) : n ∈ put n l := by
  induction l with
  | nil => simp [put]
  | cons a l ih =>
    unfold put
    split
    · simp
    · split
      · simp
      · simp [ih]
theorem asc_put (n : Lk) (l : List Lk) (h : Asc l) : Asc (put n l) := by
  induction l with
  | nil => simp [put, Asc]
  | cons a l ih =>
    have h1 : ∀ x ∈ l, before a x = true := (List.pairwise_cons.1 h).1
    have h2 : Asc l := (List.pairwise_cons.1 h).2
    unfold put
    split
    · next hb =>
      refine List.pairwise_cons.2 ⟨fun x hx => ?_, h⟩
      rcases List.mem_cons.1 hx with rfl | hx
      · exact hb
      · exact before_trans _ _ _ hb (h1 x hx)
    · split
      · next hs => exact List.pairwise_cons.2 ⟨fun x hx => by rw [← same_before a n x hs]; exact h1 x hx, h2⟩
      · next hb hs =>
        refine List.pairwise_cons.2 ⟨fun x hx => ?_, ih h2⟩
        rcases mem_put _ _ _ hx with rfl | hx
        · rcases tri a x with h | h | h
          · exact h
          · exact absurd h hs
          · exact absurd h hb
        · exact h1 x hx
theorem asc_filter (p : Lk → Bool) (l : List Lk) (h : Asc l) : Asc (l.filter p) := List.Pairwise.filter _ h
/-- a link that is there already is set without a change -/
theorem put_there (n : Lk) (l : List Lk) (h : Asc l) (hn : n ∈ l) : put n l = l := by
  induction l with
  | nil => simp at hn
  | cons a l ih =>
    have h1 : ∀ x ∈ l, before a x = true := (List.pairwise_cons.1 h).1
    have h2 : Asc l := (List.pairwise_cons.1 h).2
    unfold put
    rcases List.mem_cons.1 hn with rfl | hn
    · rw [before_irr]; simp [same]
    · have hb := h1 n hn
      have hb' : before n a = false := by
        cases hx : before n a with
        | false => rfl
        | true => have := before_trans _ _ _ hb hx; rw [before_irr] at this; cases this
      rw [hb', before_not_same a n hb]
      simp [ih h2 hn]
theorem put_eq (n : Lk) (l : List Lk) (h : Asc l) : put n l = l ↔ n ∈ l :=
  ⟨fun e => e ▸ put_mem n l, put_there n l h⟩
/-- the links of an edge, cut -/
def cut (n : Lk) (l : List Lk) : List Lk := l.filter fun x => !same x n
theorem cut_put (n m : Lk) (l : List Lk) (h : Asc l) (hs : same n m = true) : cut m (put n l) = cut m l := by
  induction l with
  | nil => simp [put, cut, hs]
  | cons a l ih =>
    have h2 : Asc l := (List.pairwise_cons.1 h).2
    unfold put
    split
    · simp [cut, hs]
    · split
      · next hx =>
        have : same a m = true := by rw [same_trans a n m hx]; exact hs
        simp [cut, hs, this]
      · have := ih h2
        simp only [cut] at this ⊢
        simp only [List.filter_cons, this]
theorem cut_none (n : Lk) (l : List Lk) (h : ∀ x ∈ l, same x n = false) : cut n l = l := by
  unfold cut
  rw [List.filter_eq_self]
  intro x hx
  simp [h x hx]
/-- links cut one after the other -/
def cuts (c l : List Lk) : List Lk := c.foldl (fun l n => cut n l) l
theorem mem_cuts (c l : List Lk) (x : Lk) : x ∈ cuts c l ↔ x ∈ l ∧ ∀ n ∈ c, same x n = false := by
  induction c generalizing l with
  | nil => simp [cuts]
  | cons a c ih =>
    rw [show cuts (a :: c) l = cuts c (cut a l) from rfl, ih]
    simp [cut]
    grind
theorem cuts_eq (c l : List Lk) : cuts c l = l.filter fun x => c.all fun n => !same x n := by
  induction c generalizing l with
  | nil => exact (List.filter_eq_self.2 fun _ _ => rfl).symm
  | cons a c ih =>
    rw [show cuts (a :: c) l = cuts c (cut a l) from rfl, ih, cut, List.filter_filter]
    congr 1
    funext x
    simp [Bool.and_comm]
theorem eq_of_same (l : List Lk) (h : Asc l) (a b : Lk) (ha : a ∈ l) (hb : b ∈ l) (hs : same a b = true) : a = b := by
  induction l with
  | nil => simp at ha
  | cons x l ih =>
    have h1 : ∀ y ∈ l, before x y = true := (List.pairwise_cons.1 h).1
    have h2 : Asc l := (List.pairwise_cons.1 h).2
    rcases List.mem_cons.1 ha with e | ha' <;> rcases List.mem_cons.1 hb with f | hb'
    · rw [e, f]
    · subst e; rw [before_not_same _ _ (h1 b hb')] at hs; cases hs
    · subst f; rw [before_not_same' _ _ (h1 a ha')] at hs; cases hs
    · exact ih h2 ha' hb'
/-- cutting the links that are chosen leaves those that are not -/
theorem cuts_filter (p : Lk → Bool) (l : List Lk) (h : Asc l) : cuts (l.filter p) l = l.filter fun x => !p x := by
  rw [cuts_eq]
  apply List.filter_congr
  intro x hx
  cases hp : p x with
  | true =>
    simp only [Bool.not_true]
    rw [List.all_eq_false]
    exact ⟨x, List.mem_filter.2 ⟨hx, hp⟩, by simp [same]⟩
  | false =>
    simp only [Bool.not_false]
    rw [List.all_eq_true]
    intro n hn
    obtain ⟨h1, h2⟩ := List.mem_filter.1 hn
    cases hs : same x n with
    | false => rfl
    | true => have := eq_of_same l h x n hx h1 hs; subst this; rw [hp] at h2; cases h2
/-- a list without what is chosen is the list itself exactly if nothing is chosen -/
theorem filter_same (p : Lk → Bool) (l : List Lk) : (l.filter fun x => !p x) = l ↔ l.filter p = [] := by
  rw [List.filter_eq_self, List.filter_eq_nil_iff]
  simp
end Ls
end Go.Proofs.YtfapfkaipdcflaaGreat
