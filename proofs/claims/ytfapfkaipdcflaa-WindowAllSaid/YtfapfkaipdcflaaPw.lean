/-
  Mathematics of windows: links by age; what expires, what is left; a stream with the cuts of what expires.
-/
import Derived.Test.YtfapfkaipdcflaaLx
namespace Go.Proofs.Ytfapfkaipdcflaa
namespace Ls

theorem pw_unique {α : Type} (r : α → α → Prop) (irr : ∀ a, ¬ r a a) (tr : ∀ a b c, r a b → r b c → r a c) : ∀ a b : List α, a.Pairwise r → b.Pairwise r → (∀ x, x ∈ a ↔ x ∈ b) → a = b := by
  intro a
  induction a with
  | nil =>
    intro b _ _ h
    cases b with
    | nil => rfl
    | cons y b => exact absurd ((h y).2 (by simp)) (by simp)
  | cons x a ih =>
    intro b ha hb h
    cases b with
    | nil => exact absurd ((h x).1 (by simp)) (by simp)
    | cons y b =>
      obtain ⟨a1, a2⟩ := List.pairwise_cons.1 ha
      obtain ⟨b1, b2⟩ := List.pairwise_cons.1 hb
      have hxy : x = y := by
        rcases List.mem_cons.1 ((h x).1 (by simp)) with e | hx
        · exact e
        · rcases List.mem_cons.1 ((h y).2 (by simp)) with e | hy
          · exact e.symm
          · exact absurd (tr _ _ _ (a1 y hy) (b1 x hx)) (irr x)
      subst hxy
      congr 1
      refine ih b a2 b2 fun z => ?_
      constructor
      · intro hz
        rcases List.mem_cons.1 ((h z).1 (by simp [hz])) with e | hz'
        · subst e; exact absurd (a1 z hz) (irr z)
        · exact hz'
      · intro hz
        rcases List.mem_cons.1 ((h z).2 (by simp [hz])) with e | hz'
        · subst e; exact absurd (b1 z hz) (irr z)
        · exact hz'
theorem asc_unique (a b : List Lk) (ha : Asc a) (hb : Asc b) (h : ∀ x, x ∈ a ↔ x ∈ b) : a = b :=
  pw_unique (fun a b => before a b = true) (fun a h => by rw [before_irr] at h; cases h) (fun a b c => before_trans a b c) a b ha hb h

/-- the order by age: by time, then by edge -/
def old (a b : Lk) : Bool := decide (a.time < b.time) || (decide (a.time = b.time) && before a b)
def Aged (l : List Lk) : Prop := l.Pairwise (fun a b => old a b = true)
theorem old_irr (a : Lk) : old a a = false := by simp [old, before_irr]
theorem old_trans (a b c : Lk) (h : old a b = true) (g : old b c = true) : old a c = true := by
  simp [old] at *
  rcases h with h | ⟨h, h'⟩ <;> rcases g with g | ⟨g, g'⟩
  · left; omega
  · left; omega
  · left; omega
  · right; exact ⟨by omega, before_trans _ _ _ h' g'⟩
theorem old_asymm (a b : Lk) (h : old a b = true) : old b a = false := by
  cases g : old b a with
  | false => rfl
  | true => have := old_trans _ _ _ h g; rw [old_irr] at this; cases this
theorem old_time (a b : Lk) (h : old a b = true) : a.time ≤ b.time := by
  simp [old] at h; omega
theorem old_tri (a b : Lk) (h : same a b = false) : old a b = true ∨ old b a = true := by
  rcases Int.lt_trichotomy a.time b.time with g | g | g
  · left; simp [old, g]
  · rcases tri a b with k | k | k
    · left; simp [old, g, k]
    · rw [h] at k; cases k
    · right; simp [old, g, k]
  · right; simp [old, g]
/-- a place in a list, by what comes first -/
theorem lead_lt (p : Lk → Bool) (l : List Lk) (h : l.Pairwise fun a b => p b = true → p a = true) (k : Nat) (a : Lk) (hk : l[k]? = some a) : p a = true ↔ k < (l.filter p).length := by
  induction l generalizing k with
  | nil => simp at hk
  | cons x l ih =>
    obtain ⟨h1, h2⟩ := List.pairwise_cons.1 h
    cases hx : p x with
    | true =>
      rw [List.filter_cons, if_pos hx, List.length_cons]
      cases k with
      | zero => simp at hk; subst hk; simp [hx]
      | succ k => rw [ih h2 k (by simpa using hk)]; omega
    | false =>
      have h3 : ∀ y ∈ l, p y = false := fun y hy => by
        cases hp : p y with
        | false => rfl
        | true => have := h1 y hy hp; rw [hx] at this; cases this
      rw [List.filter_cons, if_neg (by rw [hx]; decide), List.filter_eq_nil_iff.2 fun y hy => by rw [h3 y hy]; decide]
      cases k with
      | zero => simp at hk; subst hk; simp [hx]
      | succ k => have := List.mem_of_getElem? (show l[k]? = some a by simpa using hk); simp [h3 a this]
/-- the place of a link among links by age -/
def posA (t : Lk) (l : List Lk) : Nat := (l.filter fun x => old x t).length
theorem posA_le (t : Lk) (l : List Lk) : posA t l ≤ l.length := List.length_filter_le _ _
theorem posA_lt (t : Lk) (l : List Lk) (h : Aged l) (k : Nat) (a : Lk) (hk : l[k]? = some a) : old a t = true ↔ k < posA t l :=
  lead_lt (fun x => old x t) l (h.imp fun hab hb => old_trans _ _ _ hab hb) k a hk
/-- how many are from before a time -/
def older (s : Int) (l : List Lk) : Nat := (l.filter fun x => decide (x.time < s)).length
theorem older_le (s : Int) (l : List Lk) : older s l ≤ l.length := List.length_filter_le _ _
theorem older_lt (s : Int) (l : List Lk) (h : Aged l) (k : Nat) (a : Lk) (hk : l[k]? = some a) : a.time < s ↔ k < older s l := by
  have := lead_lt (fun x => decide (x.time < s)) l (h.imp fun hab hb => by have := old_time _ _ hab; simp at hb ⊢; omega) k a hk
  unfold older
  rw [← this]; simp
/-- how many links are not in a window of an extent, at a time -/
def outN (W M t : Int) (l : List Lk) : Nat := max (older (t - W + 1) l) (l.length - M.toNat)
theorem outN_le (W M t : Int) (l : List Lk) : outN W M t l ≤ l.length := by
  have := older_le (t - W + 1) l
  unfold outN; omega
/-- links sorted by edge -/
def sortL (l : List Lk) : List Lk := l.foldr put []
theorem asc_sortL (l : List Lk) : Asc (sortL l) := by
  induction l with
  | nil => exact List.Pairwise.nil
  | cons a l ih => exact asc_put _ _ ih
theorem mem_put_iff (n x : Lk) (l : List Lk) (h : Asc l) : x ∈ put n l ↔ x = n ∨ (x ∈ l ∧ same x n = false) := by
  induction l with
  | nil => simp [put]
  | cons a l ih =>
    have h1 : ∀ y ∈ l, before a y = true := (List.pairwise_cons.1 h).1
    have h2 : Asc l := (List.pairwise_cons.1 h).2
    unfold put
    split
    · next hb =>
      have : ∀ y ∈ a :: l, same y n = false := fun y hy => by
        rcases List.mem_cons.1 hy with e | hy
        · subst e; exact before_not_same' _ _ hb
        · exact before_not_same' _ _ (before_trans _ _ _ hb (h1 y hy))
      simp only [List.mem_cons] at this ⊢
      grind
    · split
      · next hs =>
        have : ∀ y ∈ l, same y n = false := fun y hy => by
          have := before_not_same' _ _ (h1 y hy)
          rw [same_comm, same_trans a n y hs] at this
          rw [same_comm]; exact this
        simp only [List.mem_cons]
        grind
      · next hb hs =>
        simp only [List.mem_cons, ih h2]
        have : same a n = false := by simpa using hs
        grind
def Dist (l : List Lk) : Prop := l.Pairwise (fun a b => same a b = false)
theorem asc_dist {l : List Lk} (h : Asc l) : Dist l := h.imp fun h => before_not_same _ _ h
theorem mem_sortL (l : List Lk) (h : Dist l) (x : Lk) : x ∈ sortL l ↔ x ∈ l := by
  induction l with
  | nil => simp [sortL]
  | cons a l ih =>
    obtain ⟨h1, h2⟩ := List.pairwise_cons.1 h
    show x ∈ put a (sortL l) ↔ _
    rw [mem_put_iff _ _ _ (asc_sortL l), ih h2, List.mem_cons]
    constructor
    · rintro (h | ⟨h, _⟩)
      · exact .inl h
      · exact .inr h
    · rintro (h | h)
      · exact .inl h
      · exact .inr ⟨h, by rw [same_comm]; exact h1 x h⟩
/-- what expires: the cuts, in the order of edges; what is left -/
def cutsX (W M t : Int) (l : List Lk) : List Ev := (sortL (l.take (outN W M t l))).map fun x => cutE x t
def restX (W M t : Int) (l : List Lk) : List Lk := l.drop (outN W M t l)
/-- the ends of an event with its time, all else 0 -/
def ends (e : Ev) : Lk := ⟨min e.u e.v, max e.u e.v, 0, 0, 0, e.time⟩
def hitA (e : Ev) (l : Lk) : Bool := if e.kind = 3 then has e.u l else same l (ends e)
/-- an event happens to links by age -/
def stepA (l : List Lk) (e : Ev) : List Lk :=
  if e.kind = 1 then (l.filter fun x => !hitA e x).take (posA (ends e) (l.filter fun x => !hitA e x)) ++ ends e :: (l.filter fun x => !hitA e x).drop (posA (ends e) (l.filter fun x => !hitA e x)) else l.filter fun x => !hitA e x
/-- when something expires, if ever -/
def untilA (W : Int) : List Lk → Option Int
  | [] => none
  | x :: _ => if W = 1048577 then none else some (x.time + W)
/-- all that expires up to a time: the cuts, what is left; n: at most so often -/
def drainN (W M t : Int) : Nat → List Lk → List Ev × List Lk
  | 0, l => ([], l)
  | n + 1, l => match untilA W l with
    | none => ([], l)
    | some s => if s ≤ t then (cutsX W M s l ++ (drainN W M t n (restX W M s l)).1, (drainN W M t n (restX W M s l)).2) else ([], l)
/-- the events of a stream, with the cuts of what expires between them -/
def slideA (W M : Int) : List Lk → List Ev → List Ev
  | _, [] => []
  | l, e :: es =>
    let d := drainN W M e.time l.length l
    let l1 := stepA d.2 e
    d.1 ++ e :: cutsX W M e.time l1 ++ slideA W M (restX W M e.time l1) es
theorem outN_pos (W M s : Int) (x : Lk) (l : List Lk) (h : s = x.time + W) : 1 ≤ outN W M s (x :: l) := by
  have : 1 ≤ older (s - W + 1) (x :: l) := by
    unfold older
    rw [List.filter_cons, if_pos (by simp; omega), List.length_cons]; omega
  unfold outN; omega
theorem restX_len (W M s : Int) (x : Lk) (l : List Lk) (h : s = x.time + W) : (restX W M s (x :: l)).length ≤ l.length := by
  have := outN_pos W M s x l h
  unfold restX
  rw [List.length_drop, List.length_cons]; omega
/-- more rounds than needed change nothing -/
theorem drain_more (W M t : Int) (n m : Nat) (l : List Lk) (hn : l.length ≤ n) (hm : l.length ≤ m) : drainN W M t n l = drainN W M t m l := by
  induction n generalizing m l with
  | zero =>
    obtain rfl : l = [] := List.eq_nil_of_length_eq_zero (by omega)
    cases m <;> simp [drainN, untilA]
  | succ n ih =>
    cases l with
    | nil => cases m <;> simp [drainN, untilA]
    | cons x l =>
      simp at hn hm
      cases m with
      | zero => omega
      | succ m =>
        unfold drainN
        by_cases hW : W = 1048577
        · simp [untilA, hW]
        · simp only [untilA, if_neg hW]
          split
          · have := restX_len W M _ x l rfl
            rw [ih m _ (by omega) (by omega)]
          · rfl
/-- nothing expires as long as no time comes up to the width, and there are no more than the most -/
theorem outN_zero (W M t : Int) (l : List Lk) (h : ∀ x ∈ l, t - x.time < W) (hl : (l.length : Int) ≤ M) : outN W M t l = 0 := by
  have : older (t - W + 1) l = 0 := by
    unfold older
    rw [List.filter_eq_nil_iff.2 fun x hx => by have := h x hx; simp; omega]; rfl
  unfold outN
  rw [this]
  omega
theorem step_len (l : List Lk) (e : Ev) : (stepA l e).length ≤ l.length + 1 := by
  have := List.length_filter_le (fun x => !hitA e x) l
  unfold stepA
  split
  · have h2 := List.take_append_drop (posA (ends e) (l.filter fun x => !hitA e x)) (l.filter fun x => !hitA e x)
    have h3 := congrArg List.length h2
    simp only [List.length_append, List.length_cons] at h3 ⊢
    omega
  · omega
theorem step_mem (l : List Lk) (e : Ev) (x : Lk) (h : x ∈ stepA l e) : x ∈ l ∨ x = ends e := by
  unfold stepA at h
  split at h
  · rcases List.mem_append.1 h with h | h
    · exact .inl (List.mem_filter.1 (List.mem_of_mem_take h)).1
    · rcases List.mem_cons.1 h with h | h
      · exact .inr h
      · exact .inl (List.mem_filter.1 (List.mem_of_mem_drop h)).1
  · exact .inl (List.mem_filter.1 h).1
theorem slide_none (W M : Int) (hW : 1 ≤ W) (es : List Ev) (l : List Lk) (h1 : ∀ x ∈ l, ∀ e ∈ es, e.time - x.time < W) (h2 : es.Pairwise fun a b => b.time - a.time < W) (h3 : (l.length : Int) + es.length ≤ M) : slideA W M l es = es := by
  induction es generalizing l with
  | nil => rfl
  | cons e es ih =>
    obtain ⟨p1, p2⟩ := List.pairwise_cons.1 h2
    have hd : drainN W M e.time l.length l = ([], l) := by
      cases l with
      | nil => rfl
      | cons x l =>
        have := h1 x (by simp) e (by simp)
        simp only [List.length_cons, drainN, untilA]
        split
        · rfl
        · next s hs =>
          split at hs
          · cases hs
          · cases hs
            rw [if_neg (by omega)]
    simp at h3
    have hlen := step_len l e
    have hmem : ∀ x ∈ stepA l e, e.time - x.time < W := fun x hx => by
      rcases step_mem l e x hx with h | h
      · exact h1 x h e (by simp)
      · subst h; show e.time - e.time < W; omega
    have ho : outN W M e.time (stepA l e) = 0 := outN_zero W M e.time _ hmem (by omega)
    have hc : cutsX W M e.time (stepA l e) = [] := by unfold cutsX; rw [ho]; rfl
    have hr : restX W M e.time (stepA l e) = stepA l e := by unfold restX; rw [ho]; rfl
    unfold slideA
    simp only [hd, hc, hr]
    rw [ih (stepA l e) (fun x hx e' he' => by
      rcases step_mem l e x hx with h | h
      · exact h1 x h e' (by simp [he'])
      · subst h; exact p1 e' he') p2 (by omega)]
    rfl
end Ls
end Go.Proofs.Ytfapfkaipdcflaa
