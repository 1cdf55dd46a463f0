/-
  States of links: what stays valid; a link set and cut; finding; choosing.
-/
import Derived.Test.YtfapfkaipdcflaaLt
namespace Go.Proofs.Ytfapfkaipdcflaa
namespace Ls

/-- a valid event whose nodes exist -/
def Good (n : Int) (e : Ev) : Prop := chkE e = 0 ∧ e.u < n ∧ e.v < n
theorem good_kind {n : Int} {e : Ev} (h : Good n e) : (e.kind = 1 ∨ e.kind = 2 ∨ e.kind = 3) ∧ 0 ≤ e.time ∧ e.time ≤ 1048576 ∧ nodesB e = true ∧ attrB e = true := by
  obtain ⟨h, -, -⟩ := h
  unfold chkE at h
  split at h
  · omega
  · split at h
    · omega
    · split at h
      · omega
      · split at h
        · omega
        · next h1 h2 h3 h4 => exact ⟨by omega, by omega, by omega, by simpa using h3, by simpa using h4⟩
theorem good_pair {n : Int} {e : Ev} (h : Good n e) (hk : e.kind ≠ 3) : 0 ≤ e.u ∧ 0 ≤ e.v ∧ e.u ≠ e.v := by
  have h1 := (good_kind h).2.2.2.1
  unfold nodesB at h1
  rw [if_neg hk] at h1
  simp [okN] at h1
  omega
theorem chkLk_lk {n : Int} {e : Ev} (h : Good n e) (hk : e.kind = 1) : chkLk n (lk e) = 0 := by
  obtain ⟨h0, h1, h2, h3, h4⟩ := good_kind h
  obtain ⟨p1, p2, p3⟩ := good_pair h (by omega)
  have p4 := h.2.1
  have p5 := h.2.2
  have ha : attrB ⟨1, 0, 0, 0, (lk e).weight, (lk e).label, (lk e).sign⟩ = true := by
    rw [← h4]
    unfold attrB
    rw [if_pos hk, if_pos rfl]
    rfl
  have ht : (lk e).time = e.time := rfl
  have hu : (lk e).u = min e.u e.v := rfl
  have hv : (lk e).v = max e.u e.v := rfl
  unfold chkLk
  rw [if_neg (by omega), if_neg (by rw [ha]; decide), if_neg (by omega)]
theorem next_valid {n : Int} {l : List Lk} {e : Ev} (h : V n l) (g : Good n e) : V n (nextL l e) := by
  obtain ⟨h1, h2, h3, h4⟩ := h
  unfold nextL
  split
  · next hk =>
    refine ⟨h1, h2, asc_put _ _ h3, fun x hx => ?_⟩
    rcases mem_put _ _ _ hx with rfl | hx
    · exact chkLk_lk g hk
    · exact h4 x hx
  · exact ⟨h1, h2, asc_filter _ _ h3, fun x hx => h4 x (List.mem_filter.1 hx).1⟩
theorem chkLk_parts {n : Int} {x : Lk} (h : chkLk n x = 0) : 0 ≤ x.u ∧ x.u < x.v ∧ x.v < n ∧ attrB ⟨1, 0, 0, 0, x.weight, x.label, x.sign⟩ = true ∧ 0 ≤ x.time ∧ x.time ≤ 1048576 := by
  unfold chkLk at h
  split at h
  · omega
  · split at h
    · omega
    · split at h
      · omega
      · next h1 h2 h3 => exact ⟨by omega, by omega, by omega, by simpa using h2, by omega, by omega⟩
/-- what is returned as changed are valid events at the time of the event, with U less than V -/
theorem chg_good {n : Int} {l : List Lk} {e : Ev} (h : V n l) (g : Good n e) : ∀ c ∈ chg l e, Good n c ∧ c.time = e.time ∧ c.u < c.v := by
  intro c hc
  obtain ⟨g0, g1, g2, g3, g4⟩ := good_kind g
  unfold chg at hc
  split at hc
  · next hk =>
    split at hc
    · simp at hc
    · simp at hc
      subst hc
      have hl := chkLk_lk g hk
      obtain ⟨p0, p1, p2, p3, -, -⟩ := chkLk_parts hl
      refine ⟨⟨?_, by show (lk e).u < n; omega, p2⟩, rfl, p1⟩
      have hn : n ≤ 64 := h.2.1
      unfold chkE
      rw [if_neg (by simp [setE]), if_neg (by show ¬ (e.time < 0 ∨ 1048576 < e.time); omega), if_neg, if_neg]
      · have : attrB (setE (lk e) e.time) = attrB ⟨1, 0, 0, 0, (lk e).weight, (lk e).label, (lk e).sign⟩ := by unfold attrB; rfl
        rw [this, p3]; decide
      · unfold nodesB
        rw [if_neg (by simp [setE])]
        have o1 : okN (lk e).u = true := by simp [okN]; omega
        have o2 : okN (lk e).v = true := by simp [okN]; omega
        have o3 : decide ((lk e).u = (lk e).v) = false := by simp; omega
        show ¬ ((okN (lk e).u && okN (lk e).v && !decide ((lk e).u = (lk e).v)) = false)
        rw [o1, o2, o3]; decide
  · obtain ⟨x, hx, rfl⟩ := List.mem_map.1 hc
    obtain ⟨p0, p1, p2, -, -, -⟩ := chkLk_parts (h.2.2.2 x (List.mem_filter.1 hx).1)
    refine ⟨⟨?_, by show x.u < n; omega, p2⟩, rfl, p1⟩
    have hn : n ≤ 64 := h.2.1
    unfold chkE
    rw [if_neg (by simp [cutE]), if_neg (by show ¬ (e.time < 0 ∨ 1048576 < e.time); omega), if_neg, if_neg]
    · simp [attrB, cutE]
    · unfold nodesB
      rw [if_neg (by simp [cutE])]
      have o1 : okN x.u = true := by simp [okN]; omega
      have o2 : okN x.v = true := by simp [okN]; omega
      have o3 : decide (x.u = x.v) = false := by simp; omega
      show ¬ ((okN x.u && okN x.v && !decide (x.u = x.v)) = false)
      rw [o1, o2, o3]; decide
theorem valid_lt {n : Int} {l : List Lk} (h : V n l) : ∀ x ∈ l, x.u < x.v := fun x hx => (chkLk_parts (h.2.2.2 x hx)).2.1
/-- what changed, done to the old state, gives the new one, a change each -/
theorem run_chg' {n : Int} {l : List Lk} {e : Ev} (h : V n l) (g : Good n e) : runL l (chg l e) = nextL l e ∧ numL l (chg l e) = (chg l e).length :=
  run_chg l e h.2.2.1 (valid_lt h) fun hk => (good_pair g (by omega)).2.2
/-- the links of one edge are at most one -/
theorem edge_one (l : List Lk) (h : Asc l) (k : Lk) : l.filter (fun y => same y k) = [] ∨ ∃ x, x ∈ l ∧ same x k = true ∧ l.filter (fun y => same y k) = [x] := by
  induction l with
  | nil => exact .inl rfl
  | cons a l ih =>
    have h1 : ∀ y ∈ l, before a y = true := (List.pairwise_cons.1 h).1
    have h2 : Asc l := (List.pairwise_cons.1 h).2
    rw [List.filter_cons]
    cases hs : same a k with
    | true =>
      refine .inr ⟨a, by simp, hs, ?_⟩
      rw [if_pos rfl]
      congr 1
      rw [List.filter_eq_nil_iff]
      intro y hy
      have := before_not_same' _ _ (h1 y hy)
      rw [same_comm, same_trans a k y hs] at this
      rw [same_comm, this]; decide
    | false =>
      rw [if_neg (by decide)]
      rcases ih h2 with h0 | ⟨x, hx, hs, he⟩
      · exact .inl h0
      · exact .inr ⟨x, by simp [hx], hs, he⟩
theorem chg_cut_len (l : List Lk) (e : Ev) (h : Asc l) (hk : e.kind = 2) : (chg l e).length ≤ 1 ∧ ((∃ x ∈ l, same x (lk e) = true) → (chg l e).length = 1) := by
  have hf : l.filter (hit e) = l.filter fun y => same y (lk e) := List.filter_congr fun y _ => by simp [hit, hk]
  unfold chg
  rw [if_neg (by omega), List.length_map, hf]
  rcases edge_one l h (lk e) with h0 | ⟨x, hx, hs, he⟩
  · rw [h0]
    refine ⟨by simp, ?_⟩
    rintro ⟨x, hx, hs⟩
    rw [List.filter_eq_nil_iff] at h0
    exact absurd hs (by simpa using h0 x hx)
  · rw [he]; simp
/-- a new link set and cut: the state is as the cut alone leaves it -/
theorem set_cut (l : List Lk) (h : Asc l) (a b : Ev) (ha : a.kind = 1) (hb : b.kind = 2) (hs : same (lk a) (lk b) = true) (hn : lk a ∉ l) :
    runL l [a, b] = nextL l b ∧ numL l [a, b] = 2 ∧ numL l [b] ≤ 1 := by
  have e1 : nextL l a = put (lk a) l := by unfold nextL; rw [if_pos ha]
  have e2 : ∀ x : List Lk, nextL x b = cut (lk b) x := fun x => by
    unfold nextL cut
    rw [if_neg (by omega)]
    exact List.filter_congr fun y _ => by simp [hit, hb]
  have c1 : (chg l a).length = 1 := by unfold chg; rw [if_pos ha, if_neg hn]; rfl
  refine ⟨?_, ?_, ?_⟩
  · show nextL (nextL l a) b = _
    rw [e1, e2, e2, cut_put _ _ _ h hs]
  · show (chg l a).length + ((chg (nextL l a) b).length + 0) = 2
    rw [c1, e1, (chg_cut_len _ b (asc_put _ _ h) hb).2 ⟨lk a, put_mem _ _, hs⟩]
  · exact (chg_cut_len l b h hb).1
/-- where the link of an edge stands -/
def find (k : Lk) : List Lk → Int
  | [] => -1
  | l :: a => if same l k then 0 else if find k a < 0 then -1 else find k a + 1
theorem find_none (k : Lk) (l : List Lk) : find k l < 0 ↔ ∀ x ∈ l, same x k = false := by
  induction l with
  | nil => simp [find]
  | cons a l ih =>
    unfold find
    cases hs : same a k with
    | true => simp [hs]
    | false =>
      rw [if_neg (by decide)]
      split
      · next h =>
        refine ⟨fun _ x hx => ?_, fun _ => by decide⟩
        rcases List.mem_cons.1 hx with rfl | hx
        · exact hs
        · exact ih.1 h x hx
      · next h =>
        have : ¬ ∀ x ∈ l, same x k = false := fun hx => h (ih.2 hx)
        simp [hs]
        simp at this
        obtain ⟨x, hx, hxs⟩ := this
        refine ⟨fun h0 => by omega, fun h0 => absurd (h0 x hx) (by rw [hxs]; decide)⟩
/-- behind the leaving of a node: a link is found exactly if it is none of its links -/
theorem find_left (l : List Lk) (h : Asc l) (u : Int) (x : Lk) (hx : x ∈ l) : find x (l.filter fun y => !has u y) < 0 ↔ has u x = true := by
  rw [find_none]
  constructor
  · intro h0
    cases hu : has u x with
    | true => rfl
    | false =>
      have := h0 x (List.mem_filter.2 ⟨hx, by rw [hu]; rfl⟩)
      simp [same] at this
  · intro hu y hy
    obtain ⟨h1, h2⟩ := List.mem_filter.1 hy
    cases hs : same y x with
    | false => rfl
    | true => have := eq_of_same l h y x h1 hx hs; subst this; rw [hu] at h2; cases h2
/-- the links that are chosen -/
def pick (labels : List Int) (sign least : Int) (x : Lk) : Bool := (labels.isEmpty || labels.contains x.label) && (decide (sign = 0) || decide (x.sign = sign)) && decide (least ≤ x.weight)
def wh (labels : List Int) (sign least : Int) (l : List Lk) : List Lk := l.filter (pick labels sign least)
theorem wh_valid {n : Int} {l : List Lk} (h : V n l) (labels : List Int) (sign least : Int) : V n (wh labels sign least l) :=
  ⟨h.1, h.2.1, asc_filter _ _ h.2.2.1, fun x hx => h.2.2.2 x (List.mem_filter.1 hx).1⟩
theorem attr_sign {w y z : Int} (h : attrB ⟨1, 0, 0, 0, w, y, z⟩ = true) : (z = 1 ∨ z = -1) ∧ 1 ≤ w := by
  unfold attrB at h
  simp at h
  omega
theorem filter_two {p q r : Lk → Bool} (l : List Lk) (h : ∀ x ∈ l, r x = (p x || q x) ∧ (p x && q x) = false) : (l.filter p).length + (l.filter q).length = (l.filter r).length := by
  induction l with
  | nil => rfl
  | cons a l ih =>
    have h1 := h a (by simp)
    have h2 := ih fun x hx => h x (by simp [hx])
    simp only [List.filter_cons]
    cases hp : p a <;> cases hq : q a <;> simp [hp, hq] at h1 <;> simp [h1] <;> omega
/-- both signs' links are all links -/
theorem wh_signs {n : Int} {l : List Lk} (h : V n l) (least : Int) : (wh [] 1 least l).length + (wh [] (-1) least l).length = (wh [] 0 least l).length :=
  filter_two l fun x hx => by
    have h1 := attr_sign (chkLk_parts (h.2.2.2 x hx)).2.2.2.1
    rcases h1.1 with hs | hs <;> simp [pick, hs]
/-- choosing twice is choosing by both -/
theorem wh_twice {n : Int} {l : List Lk} (h : V n l) (least : Int) : wh [0, 2] 0 0 (wh [] 1 least l) = wh [2, 0] 1 least l := by
  unfold wh
  rw [List.filter_filter]
  apply List.filter_congr
  intro x hx
  have h1 := attr_sign (chkLk_parts (h.2.2.2 x hx)).2.2.2.1
  have h2 : (0 : Int) ≤ x.weight := by omega
  simp [pick, h2]
  grind
end Ls
end Go.Proofs.Ytfapfkaipdcflaa
