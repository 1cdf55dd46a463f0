/-
  Mathematics of windows: what expires of a state, as the document says it, and of links by age.
-/
import Derived.Test.YtfapfkaipdcflaaPx
namespace Go.Proofs.Ytfapfkaipdcflaa
namespace Ls

theorem take_filter (p : Lk → Bool) (l : List Lk) (k : Nat) (h : ∀ i a, l[i]? = some a → (p a = true ↔ i < k)) : l.filter p = l.take k ∧ (l.filter fun x => !p x) = l.drop k := by
  induction l generalizing k with
  | nil => simp
  | cons x l ih =>
    have h0 := h 0 x rfl
    cases k with
    | zero =>
      have hx : p x = false := by cases hp : p x with | false => rfl | true => have := h0.1 hp; omega
      obtain ⟨i1, i2⟩ := ih 0 fun i a hi => (h (i + 1) a (by simpa using hi)).trans (by omega)
      refine ⟨?_, ?_⟩
      · rw [List.filter_cons, hx, if_neg (by decide)]; simpa using i1
      · rw [List.filter_cons, hx, if_pos (by decide), i2]; simp
    | succ k =>
      have hx : p x = true := h0.2 (by omega)
      obtain ⟨i1, i2⟩ := ih k fun i a hi => (h (i + 1) a (by simpa using hi)).trans (by omega)
      refine ⟨?_, ?_⟩
      · rw [List.filter_cons, hx, if_pos rfl, i1, List.take_succ_cons]
      · rw [List.filter_cons, hx, if_neg (by decide), i2, List.drop_succ_cons]
theorem later_at (l : List Lk) (h : Aged l) (i : Nat) (a : Lk) (hi : l[i]? = some a) : (l.filter (old a)).length = l.length - 1 - i := by
  induction l generalizing i with
  | nil => simp at hi
  | cons x l ih =>
    obtain ⟨h1, h2⟩ := List.pairwise_cons.1 h
    cases i with
    | zero =>
      simp at hi
      subst hi
      rw [List.filter_cons, old_irr, if_neg (by decide), List.filter_eq_self.2 fun y hy => h1 y hy]
      simp
    | succ i =>
      have hi' : l[i]? = some a := by simpa using hi
      rw [List.filter_cons, old_asymm _ _ (h1 a (List.mem_of_getElem? hi')), if_neg (by decide), ih h2 i hi']
      simp
      omega
/-- whether a link of a list is in a window of an extent, at a time -/
def inX (W M t : Int) (S : List Lk) (l : Lk) : Bool := decide (t - l.time < W) && decide (((S.filter (old l)).length : Int) < M)
theorem aged_split (W M t : Int) (hM : 0 ≤ M) (L : List Lk) (h : Aged L) : (L.filter fun x => !inX W M t L x) = L.take (outN W M t L) ∧ L.filter (inX W M t L) = L.drop (outN W M t L) := by
  have := take_filter (fun x => !inX W M t L x) L (outN W M t L) fun i a hi => by
    have hlt := (List.getElem?_eq_some_iff.1 hi).1
    have h1 := older_lt (t - W + 1) L h i a hi
    have h2 := later_at L h i a hi
    unfold inX outN
    rw [h2]
    simp only [Bool.not_eq_true', Bool.and_eq_false_iff, decide_eq_false_iff_not]
    omega
  refine ⟨this.1, ?_⟩
  have h2 := this.2
  simpa using h2
/-- the ends and the time of a link, all else 0 -/
def ek (l : Lk) : Lk := ⟨l.u, l.v, 0, 0, 0, l.time⟩
theorem old_ek (a b : Lk) : old (ek a) (ek b) = old a b := rfl
theorem before_ek (a b : Lk) : before (ek a) (ek b) = before a b := rfl
theorem same_ek (a b : Lk) : same (ek a) (ek b) = same a b := rfl
theorem cutE_ek (a : Lk) (t : Int) : cutE (ek a) t = cutE a t := rfl
theorem inX_ek (W M t : Int) (S : List Lk) (l : Lk) : inX W M t (S.map ek) (ek l) = inX W M t S l := by
  unfold inX
  have : ((S.map ek).filter (old (ek l))).length = (S.filter (old l)).length := by
    rw [List.filter_map, List.length_map]
    rfl
  rw [this]; rfl
theorem inX_perm (W M t : Int) (S T : List Lk) (h : S.Perm T) (l : Lk) : inX W M t S l = inX W M t T l := by
  unfold inX
  rw [(h.filter (old l)).length_eq]
/-- links by age that stand for a state -/
structure Rl (S L : List Lk) : Prop where
  aged : Aged L
  dist : Dist L
  perm : (L.map ek).Perm (S.map ek)
theorem map_in (W M t : Int) (S : List Lk) (b : Bool) : (S.filter fun x => inX W M t S x == b).map ek = (S.map ek).filter fun x => inX W M t (S.map ek) x == b := by
  rw [List.filter_map]
  congr 1
  apply List.filter_congr
  intro x _
  show _ = (inX W M t (S.map ek) (ek x) == b)
  rw [inX_ek]
theorem perm_in (W M t : Int) (S L : List Lk) (h : (L.map ek).Perm (S.map ek)) (b : Bool) : ((L.filter fun x => inX W M t L x == b).map ek).Perm ((S.filter fun x => inX W M t S x == b).map ek) := by
  rw [map_in, map_in]
  have : ((L.map ek).filter fun x => inX W M t (L.map ek) x == b) = (L.map ek).filter fun x => inX W M t (S.map ek) x == b := List.filter_congr fun x _ => by rw [inX_perm W M t _ _ h]
  rw [this]
  exact h.filter _
/-- what expires of a state: the cuts; what is present -/
def expS (W M t : Int) (S : List Lk) : List Ev := (S.filter fun x => !inX W M t S x).map fun x => cutE x t
def keepS (W M t : Int) (S : List Lk) : List Lk := S.filter (inX W M t S)
theorem beq_false (S : List Lk) (p : Lk → Bool) : (S.filter fun x => p x == false) = S.filter fun x => !p x := List.filter_congr fun x _ => by cases p x <;> rfl
theorem beq_true (S : List Lk) (p : Lk → Bool) : (S.filter fun x => p x == true) = S.filter p := List.filter_congr fun x _ => by cases p x <;> rfl
theorem asc_map_ek {l : List Lk} (h : Asc l) : Asc (l.map ek) := by
  unfold Asc
  rw [List.pairwise_map]
  exact h
theorem cuts_eq_exp (W M t : Int) (hM : 0 ≤ M) (S L : List Lk) (hS : Asc S) (h : Rl S L) : cutsX W M t L = expS W M t S := by
  obtain ⟨h1, -⟩ := aged_split W M t hM L h.aged
  unfold cutsX expS
  rw [← h1]
  have hd : Dist (L.filter fun x => !inX W M t L x) := List.Pairwise.filter _ h.dist
  have key : (sortL (L.filter fun x => !inX W M t L x)).map ek = (S.filter fun x => !inX W M t S x).map ek := by
    refine asc_unique _ _ (asc_map_ek (asc_sortL _)) (asc_map_ek (asc_filter _ _ hS)) fun x => ?_
    have hp := perm_in W M t S L h.perm false
    rw [beq_false, beq_false] at hp
    rw [← hp.mem_iff, List.mem_map, List.mem_map]
    simp only [mem_sortL _ hd]
  have e : ∀ l : List Lk, (l.map fun x => cutE x t) = (l.map ek).map fun x => cutE x t := fun l => by rw [List.map_map]; rfl
  rw [e (sortL _), key, ← e]
theorem rest_rl (W M t : Int) (hM : 0 ≤ M) (S L : List Lk) (h : Rl S L) : Rl (keepS W M t S) (restX W M t L) := by
  obtain ⟨-, h2⟩ := aged_split W M t hM L h.aged
  refine ⟨h.aged.sublist (rest_sub _ _ _ _), h.dist.sublist (rest_sub _ _ _ _), ?_⟩
  unfold restX keepS
  rw [← h2]
  have hp := perm_in W M t S L h.perm true
  rwa [beq_true, beq_true] at hp
theorem rl_perm {S L : List Lk} (ha : Aged L) (hS : Asc S) (hp : L.Perm S) : Rl S L :=
  ⟨ha, (hp.pairwise_iff (fun {a b} h => by rw [same_comm]; exact h)).2 (asc_dist hS), hp.map ek⟩
/-- the error of a time for a state -/
def chkT (t : Int) (l : List Lk) : Int := if t < 0 ∨ 1048576 < t then 9 else if l.any (fun x => decide (t < x.time)) = true then 9 else 0
/-- what Expired does to a state, and All of it -/
theorem all_exp (W M t : Int) (n : Int) (S : List Lk) (hS : V n S) : runL S (expS W M t S) = keepS W M t S ∧ numL S (expS W M t S) = (S.filter fun x => !inX W M t S x).length := by
  obtain ⟨h1, h2⟩ := run_cuts (S.filter fun x => !inX W M t S x) S t hS.2.2.1 ((asc_filter _ _ hS.2.2.1).imp fun h => before_not_same _ _ h) (fun x hx => ⟨(List.mem_filter.1 hx).1, valid_lt hS x (List.mem_filter.1 hx).1⟩)
  refine ⟨?_, h2⟩
  have := cuts_filter (fun x => !inX W M t S x) S hS.2.2.1
  rw [this] at h1
  rw [show keepS W M t S = S.filter fun x => !(!inX W M t S x) from List.filter_congr fun x _ => by simp]
  exact h1
theorem exp_good (W M t : Int) (ht : 0 ≤ t ∧ t ≤ 1048576) (n : Int) (S : List Lk) (hS : V n S) : ∀ e ∈ expS W M t S, Good n e ∧ e.time = t ∧ e.kind = 2 := by
  intro e he
  obtain ⟨x, hx, rfl⟩ := List.mem_map.1 he
  obtain ⟨p0, p1, p2, -, -, -⟩ := chkLk_parts (hS.2.2.2 x (List.mem_filter.1 hx).1)
  have hn : n ≤ 64 := hS.2.1
  refine ⟨⟨?_, by show x.u < n; omega, p2⟩, rfl, rfl⟩
  unfold chkE
  rw [if_neg (by simp [cutE]), if_neg (by show ¬ (t < 0 ∨ 1048576 < t); omega), if_neg, if_neg]
  · simp [attrB, cutE]
  · unfold nodesB
    rw [if_neg (by simp [cutE])]
    have o1 : okN x.u = true := by simp [okN]; omega
    have o2 : okN x.v = true := by simp [okN]; omega
    have o3 : decide (x.u = x.v) = false := by simp; omega
    show ¬ ((okN x.u && okN x.v && !decide (x.u = x.v)) = false)
    rw [o1, o2, o3]; decide
end Ls
end Go.Proofs.Ytfapfkaipdcflaa
