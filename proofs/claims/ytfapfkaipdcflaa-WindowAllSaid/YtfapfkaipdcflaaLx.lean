/-
  Where a link stands, or would stand, in a list that ascends; setting and cutting by the place.
-/
import Derived.Test.YtfapfkaipdcflaaLw
namespace Go.Proofs.Ytfapfkaipdcflaa
namespace Ls

def pos (t : Lk) (l : List Lk) : Nat := (l.filter fun x => before x t).length
def fnd (t : Lk) (l : List Lk) : Bool := match l[pos t l]? with | some a => same a t | none => false
theorem pos_le (t : Lk) (l : List Lk) : pos t l ≤ l.length := List.length_filter_le _ _
theorem pos_none (t a : Lk) (l : List Lk) (h : Asc (a :: l)) (hb : before a t = false) : pos t (a :: l) = 0 ∧ ∀ x ∈ a :: l, before x t = false := by
  have h1 : ∀ x ∈ l, before a x = true := (List.pairwise_cons.1 h).1
  have h2 : ∀ x ∈ a :: l, before x t = false := by
    intro x hx
    rcases List.mem_cons.1 hx with rfl | hx
    · exact hb
    · cases hc : before x t with
      | false => rfl
      | true => have := before_trans _ _ _ (h1 x hx) hc; rw [hb] at this; cases this
  refine ⟨?_, h2⟩
  unfold pos
  rw [List.filter_eq_nil_iff.2 fun x hx => by rw [h2 x hx]; decide]
  rfl
theorem pos_cons (t a : Lk) (l : List Lk) (hb : before a t = true) : pos t (a :: l) = pos t l + 1 := by
  unfold pos
  rw [List.filter_cons, if_pos hb, List.length_cons]
theorem pos_lt (t : Lk) (l : List Lk) (h : Asc l) (k : Nat) (a : Lk) (hk : l[k]? = some a) : before a t = true ↔ k < pos t l := by
  induction l generalizing k with
  | nil => simp at hk
  | cons x l ih =>
    have h2 : Asc l := (List.pairwise_cons.1 h).2
    cases hb : before x t with
    | true =>
      rw [pos_cons t x l hb]
      cases k with
      | zero => simp at hk; subst hk; simp [hb]
      | succ k => rw [ih h2 k (by simpa using hk)]; omega
    | false =>
      obtain ⟨h3, h4⟩ := pos_none t x l h hb
      rw [h3, h4 a (List.mem_of_getElem? hk)]
      simp
theorem fnd_cons (t a : Lk) (l : List Lk) (hb : before a t = true) : fnd t (a :: l) = fnd t l := by
  unfold fnd
  rw [pos_cons t a l hb]
  simp
theorem fnd_here (t a : Lk) (l : List Lk) (h : Asc (a :: l)) (hb : before a t = false) : fnd t (a :: l) = same a t := by
  unfold fnd
  rw [(pos_none t a l h hb).1]
  simp
theorem put_split (n : Lk) (l : List Lk) (h : Asc l) : put n l = if fnd n l = true then l.set (pos n l) n else l.take (pos n l) ++ n :: l.drop (pos n l) := by
  induction l with
  | nil => simp [put, fnd, pos]
  | cons a l ih =>
    have h2 : Asc l := (List.pairwise_cons.1 h).2
    have i := ih h2
    unfold put
    rcases tri a n with hb | hs | hb
    · have hb' : before n a = false := by
        cases hx : before n a with
        | false => rfl
        | true => have := before_trans _ _ _ hb hx; rw [before_irr] at this; cases this
      rw [if_neg (by rw [hb']; decide), if_neg (by rw [before_not_same a n hb]; decide), fnd_cons n a l hb, pos_cons n a l hb, i]
      split <;> simp
    · have hb' : before a n = false := by rw [same_before a n n hs]; exact before_irr n
      have hb2 : before n a = false := by rw [before_same a n n hs]; exact before_irr n
      rw [if_neg (by rw [hb2]; decide), if_pos hs, fnd_here n a l h hb', if_pos hs, (pos_none n a l h hb').1]
      rfl
    · have hb' : before a n = false := by
        cases hx : before a n with
        | false => rfl
        | true => have := before_trans _ _ _ hb hx; rw [before_irr] at this; cases this
      rw [if_pos hb, fnd_here n a l h hb', before_not_same' n a hb, if_neg (by decide), (pos_none n a l h hb').1]
      rfl
theorem fnd_iff (t : Lk) (l : List Lk) (h : Asc l) : fnd t l = true ↔ ∃ x ∈ l, same x t = true := by
  induction l with
  | nil => simp [fnd]
  | cons a l ih =>
    have h1 : ∀ y ∈ l, before a y = true := (List.pairwise_cons.1 h).1
    have h2 : Asc l := (List.pairwise_cons.1 h).2
    cases hb : before a t with
    | true =>
      rw [fnd_cons t a l hb, ih h2]
      have := before_not_same a t hb
      simp [this]
    | false =>
      rw [fnd_here t a l h hb]
      constructor
      · intro hs; exact ⟨a, by simp, hs⟩
      · rintro ⟨x, hx, hs⟩
        rcases List.mem_cons.1 hx with rfl | hx
        · exact hs
        · have := h1 x hx
          rw [before_same x t a hs] at this
          rw [hb] at this; cases this
theorem fnd_at (t : Lk) (l : List Lk) (h : fnd t l = true) : ∃ a, l[pos t l]? = some a ∧ same a t = true ∧ pos t l < l.length := by
  unfold fnd at h
  cases ha : l[pos t l]? with
  | none => rw [ha] at h; cases h
  | some a => rw [ha] at h; exact ⟨a, rfl, h, (List.getElem?_eq_some_iff.1 ha).1⟩
theorem find_eq (t : Lk) (l : List Lk) (h : Asc l) : find t l = if fnd t l = true then (pos t l : Int) else -1 := by
  induction l with
  | nil => simp [find, fnd, pos]
  | cons a l ih =>
    have h2 : Asc l := (List.pairwise_cons.1 h).2
    have i := ih h2
    unfold find
    cases hb : before a t with
    | true =>
      rw [before_not_same a t hb, if_neg (by decide), i, fnd_cons t a l hb, pos_cons t a l hb]
      split
      · next hf => rw [if_neg (by omega)]; omega
      · rfl
    | false =>
      rw [fnd_here t a l h hb]
      cases hs : same a t with
      | true => rw [if_pos rfl, if_pos rfl, (pos_none t a l h hb).1]; rfl
      | false =>
        have : fnd t l = false := by
          cases hf : fnd t l with
          | false => rfl
          | true =>
            obtain ⟨x, hx, hxs⟩ := (fnd_iff t l h2).1 hf
            have h1 : before a x = true := (List.pairwise_cons.1 h).1 x hx
            rw [before_same x t a hxs, hb] at h1; cases h1
        rw [i, this]; simp
theorem filter_not_one (p : Lk → Bool) (l : List Lk) (k : Nat) (a : Lk) (hk : l[k]? = some a) (hp : p a = true) (ho : ∀ j b, l[j]? = some b → j ≠ k → p b = false) : (l.filter fun x => !p x) = l.eraseIdx k := by
  induction l generalizing k with
  | nil => simp at hk
  | cons x l ih =>
    cases k with
    | zero =>
      simp at hk; subst hk
      rw [List.filter_cons, hp]
      simp only [Bool.not_true, List.eraseIdx_cons_zero]
      rw [if_neg (by decide), List.filter_eq_self]
      intro b hb
      obtain ⟨j, hj⟩ := List.getElem?_of_mem hb
      rw [ho (j + 1) b (by simpa using hj) (by omega)]; rfl
    | succ k =>
      have := ho 0 x (by simp) (by omega)
      rw [List.filter_cons, this]
      simp only [Bool.not_false, List.eraseIdx_cons_succ]
      rw [if_pos trivial, ih k (by simpa using hk) (fun j b hj hne => ho (j + 1) b (by simpa using hj) (by omega))]
theorem same_one (l : List Lk) (h : Asc l) (t : Lk) (k j : Nat) (a b : Lk) (hk : l[k]? = some a) (hj : l[j]? = some b) (ha : same a t = true) (hb : same b t = true) : j = k := by
  have hp := List.pairwise_iff_getElem.1 h
  obtain ⟨hk1, rfl⟩ := List.getElem?_eq_some_iff.1 hk
  obtain ⟨hj1, rfl⟩ := List.getElem?_eq_some_iff.1 hj
  rcases Nat.lt_trichotomy j k with hlt | heq | hlt
  · have := hp j k hj1 hk1 hlt
    have h2 := before_not_same _ _ this
    rw [same_trans _ t _ hb, same_comm, ha] at h2; cases h2
  · exact heq
  · have := hp k j hk1 hj1 hlt
    have h2 := before_not_same _ _ this
    rw [same_trans _ t _ ha, same_comm, hb] at h2; cases h2
theorem cut_split (t : Lk) (l : List Lk) (h : Asc l) : cut t l = if fnd t l = true then l.eraseIdx (pos t l) else l := by
  split
  · next hf =>
    obtain ⟨a, ha, hs, hlt⟩ := fnd_at t l hf
    exact filter_not_one (fun x => same x t) l (pos t l) a ha hs fun j b hj hne => by
      cases hb : same b t with
      | false => rfl
      | true => exact absurd (same_one l h t (pos t l) j a b ha hj hs hb) hne
  · next hf =>
    refine cut_none t l fun x hx => ?_
    cases hs : same x t with
    | false => rfl
    | true => exact absurd ((fnd_iff t l h).2 ⟨x, hx, hs⟩) hf
end Ls
end Go.Proofs.Ytfapfkaipdcflaa
