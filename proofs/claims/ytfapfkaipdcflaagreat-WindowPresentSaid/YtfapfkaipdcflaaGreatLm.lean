/-
  Joined texts: Lt, Lu, Lw, Lx, Pw, Px, Py, Pz, Pu.
-/
import Derived.Test.YtfapfkaipdcflaaGreatLs
import Derived.Test.YtfapfkaipdcflaaGreatRb
/-
  States of links as the document has them: their check, what an event makes of them, what changed.
-/
namespace Go.Proofs.YtfapfkaipdcflaaGreat
namespace Ls

/-- one link's error, but for the order -/
def chkLk (n : Int) (l : Lk) : Int := if l.u < 0 ∨ l.v ≤ l.u ∨ n ≤ l.v then 6 else if attrB ⟨1, 0, 0, 0, l.weight, l.label, l.sign⟩ = false then 1 else if l.time < 0 ∨ 1048576 < l.time then 9 else 0
/-- the first error of links, one after the other, behind a link or none -/
def chkLs (n : Int) : Option Lk → List Lk → Int
  | _, [] => 0
  | p, l :: a => if chkLk n l ≠ 0 then chkLk n l else if p.any (fun x => !before x l) = true then 5 else chkLs n (some l) a
def chkS (n : Int) (l : List Lk) : Int := if n < 0 ∨ 64 < n then 1 else chkLs n none l
def V (n : Int) (l : List Lk) : Prop := 0 ≤ n ∧ n ≤ 64 ∧ Asc l ∧ ∀ x ∈ l, chkLk n x = 0
theorem chkLs_zero (n : Int) (l : List Lk) (p : Option Lk) : chkLs n p l = 0 ↔ Asc l ∧ (∀ x ∈ l, chkLk n x = 0) ∧ ∀ x ∈ p, ∀ y ∈ l.head?, before x y = true := by
  induction l generalizing p with
  | nil => simp [chkLs, Asc]
  | cons a l ih =>
    unfold chkLs
    by_cases h : chkLk n a = 0
    · rw [if_neg (by simpa using h)]
      by_cases hp : p.any (fun x => !before x a) = true
      · rw [if_pos hp]
        constructor
        · intro h0; exact absurd h0 (by decide)
        · rintro ⟨-, -, h3⟩
          cases p with
          | none => simp at hp
          | some x => simp at hp; have := h3 x rfl a rfl; rw [hp] at this; cases this
      · rw [if_neg hp, ih]
        constructor
        · rintro ⟨h1, h2, h3⟩
          refine ⟨List.pairwise_cons.2 ⟨fun y hy => ?_, h1⟩, fun y hy => ?_, fun x hx y hy => ?_⟩
          · cases l with
            | nil => simp at hy
            | cons b l =>
              have hb := h3 a rfl b rfl
              rcases List.mem_cons.1 hy with e | hy
              · rw [e]; exact hb
              · exact before_trans _ _ _ hb ((List.pairwise_cons.1 h1).1 y hy)
          · rcases List.mem_cons.1 hy with e | hy
            · rw [e]; exact h
            · exact h2 y hy
          · cases p with
            | none => cases hx
            | some z =>
              cases hx
              cases hy
              simpa using hp
        · rintro ⟨h1, h2, -⟩
          refine ⟨(List.pairwise_cons.1 h1).2, fun y hy => h2 y (List.mem_cons_of_mem _ hy), fun x hx y hy => ?_⟩
          cases hx
          exact (List.pairwise_cons.1 h1).1 y (List.mem_of_mem_head? hy)
    · rw [if_pos h]
      constructor
      · intro h0; exact absurd h0 h
      · rintro ⟨-, h2, -⟩; exact absurd (h2 a (by simp)) h
theorem chkS_zero (n : Int) (l : List Lk) : chkS n l = 0 ↔ V n l := by
  unfold chkS V
  split
  · constructor
    · intro h; exact absurd h (by decide)
    · intro h; omega
  · rw [chkLs_zero]
    simp
    constructor
    · rintro ⟨h1, h2⟩; exact ⟨by omega, by omega, h1, h2⟩
    · rintro ⟨-, -, h1, h2⟩; exact ⟨h1, h2⟩
/-- the link of an event -/
def lk (e : Ev) : Lk := ⟨min e.u e.v, max e.u e.v, e.weight, e.label, e.sign, e.time⟩
def setE (l : Lk) (t : Int) : Ev := ⟨1, t, l.u, l.v, l.weight, l.label, l.sign⟩
def cutE (l : Lk) (t : Int) : Ev := ⟨2, t, l.u, l.v, 0, 0, 0⟩
def has (u : Int) (l : Lk) : Bool := decide (l.u = u) || decide (l.v = u)
/-- which links an event that is no set takes away -/
def hit (e : Ev) (l : Lk) : Bool := if e.kind = 2 then same l (lk e) else has e.u l
def nextL (l : List Lk) (e : Ev) : List Lk := if e.kind = 1 then put (lk e) l else l.filter fun x => !hit e x
def chg (l : List Lk) (e : Ev) : List Ev := if e.kind = 1 then (if lk e ∈ l then [] else [setE (lk e) e.time]) else (l.filter (hit e)).map fun x => cutE x e.time
def runL (l : List Lk) (es : List Ev) : List Lk := es.foldl nextL l
def numL : List Lk → List Ev → Nat
  | _, [] => 0
  | l, e :: es => (chg l e).length + numL (nextL l e) es
theorem chg_nil (l : List Lk) (e : Ev) (h : Asc l) : chg l e = [] ↔ nextL l e = l := by
  unfold chg nextL
  split
  · rw [put_eq _ _ h]
    split <;> simp_all
  · rw [filter_same, List.map_eq_nil_iff]
theorem lk_setE (l : Lk) (t : Int) (h : l.u < l.v) : lk (setE l t) = ⟨l.u, l.v, l.weight, l.label, l.sign, t⟩ := by
  simp [lk, setE]
  omega
theorem lk_cutE_same (l x : Lk) (t : Int) (h : l.u < l.v) : same x (lk (cutE l t)) = same x l := by
  have h1 : min l.u l.v = l.u := by omega
  have h2 : max l.u l.v = l.v := by omega
  simp [lk, cutE, same, h1, h2]
theorem next_cutE (l : List Lk) (x : Lk) (t : Int) (h : x.u < x.v) : nextL l (cutE x t) = cut x l := by
  unfold nextL cut
  rw [if_neg (by simp [cutE])]
  apply List.filter_congr
  intro y _
  simp only [hit, cutE, if_true]
  rw [show (⟨2, t, x.u, x.v, 0, 0, 0⟩ : Ev) = cutE x t from rfl, lk_cutE_same x y t h]
theorem chg_cutE_len (l : List Lk) (x : Lk) (t : Int) (ha : Asc l) (h : x.u < x.v) (hx : x ∈ l) : (chg l (cutE x t)).length = 1 := by
  unfold chg
  rw [if_neg (by simp [cutE]), List.length_map]
  have : l.filter (hit (cutE x t)) = [x] := by
    rw [show l.filter (hit (cutE x t)) = l.filter (fun y => same y x) from List.filter_congr fun y _ => by
      simp only [hit]
      rw [if_pos (by simp [cutE]), lk_cutE_same x y t h]]
    clear h
    induction l with
    | nil => simp at hx
    | cons a l ih =>
      have h1 : ∀ y ∈ l, before a y = true := (List.pairwise_cons.1 ha).1
      have h2 : Asc l := (List.pairwise_cons.1 ha).2
      rw [List.filter_cons]
      rcases List.mem_cons.1 hx with e | hx
      · subst e
        rw [if_pos (by simp [same])]
        congr 1
        rw [List.filter_eq_nil_iff]
        intro y hy
        rw [before_not_same' _ _ (h1 y hy)]
        decide
      · rw [before_not_same _ _ (h1 x hx), if_neg (by decide)]
        exact ih h2 hx
  rw [this]
  rfl
/-- cutting links of a list one by one: each is one change -/
theorem run_cuts (c l : List Lk) (t : Int) (ha : Asc l) (hc : c.Pairwise fun a b => same a b = false) (hm : ∀ x ∈ c, x ∈ l ∧ x.u < x.v) : runL l (c.map fun x => cutE x t) = cuts c l ∧ numL l (c.map fun x => cutE x t) = c.length := by
  induction c generalizing l with
  | nil => exact ⟨rfl, rfl⟩
  | cons a c ih =>
    obtain ⟨h1, h2⟩ := hm a (by simp)
    have hn := next_cutE l a t h2
    have hp := List.pairwise_cons.1 hc
    obtain ⟨i1, i2⟩ := ih (cut a l) (asc_filter _ _ ha) hp.2 (fun x hx => by
      refine ⟨?_, (hm x (by simp [hx])).2⟩
      unfold cut
      refine List.mem_filter.2 ⟨(hm x (by simp [hx])).1, ?_⟩
      rw [same_comm, hp.1 x hx]; rfl)
    constructor
    · show runL (nextL l (cutE a t)) _ = _
      rw [hn, i1]; rfl
    · show (chg l (cutE a t)).length + numL (nextL l (cutE a t)) _ = _
      rw [hn, i2, chg_cutE_len l a t ha h2 h1, List.length_cons, Nat.add_comm]
/-- what is returned as changed leads from the old state to the new one, and each change is one -/
theorem run_chg (l : List Lk) (e : Ev) (ha : Asc l) (hv : ∀ x ∈ l, x.u < x.v) (he : e.kind = 1 → e.u ≠ e.v) : runL l (chg l e) = nextL l e ∧ numL l (chg l e) = (chg l e).length := by
  by_cases hk : e.kind = 1
  · have hne := he hk
    unfold chg
    rw [if_pos hk]
    split
    · next hm =>
      refine ⟨?_, rfl⟩
      show l = nextL l e
      rw [nextL, if_pos hk, put_there _ _ ha hm]
    · next hm =>
      have hl : lk (setE (lk e) e.time) = lk e := by rw [lk_setE _ _ (by simp [lk]; omega)]; rfl
      have hn : nextL l (setE (lk e) e.time) = put (lk e) l := by
        unfold nextL
        rw [if_pos (by simp [setE]), hl]
      refine ⟨?_, ?_⟩
      · show nextL l (setE (lk e) e.time) = _
        rw [hn, nextL, if_pos hk]
      · show (chg l (setE (lk e) e.time)).length + 0 = 1
        unfold chg
        rw [if_pos (by simp [setE]), hl, if_neg hm]
        rfl
  · have hcut : chg l e = (l.filter (hit e)).map fun x => cutE x e.time := by unfold chg; rw [if_neg hk]
    have hnx : nextL l e = l.filter fun x => !hit e x := by unfold nextL; rw [if_neg hk]
    rw [hcut, hnx, List.length_map]
    obtain ⟨i1, i2⟩ := run_cuts (l.filter (hit e)) l e.time ha ((asc_filter _ _ ha).imp fun h => before_not_same _ _ h) (fun x hx => ⟨(List.mem_filter.1 hx).1, hv x (List.mem_filter.1 hx).1⟩)
    exact ⟨i1.trans (cuts_filter _ _ ha), i2⟩
end Ls
end Go.Proofs.YtfapfkaipdcflaaGreat

/-
  States of links: what stays valid; a link set and cut; finding; choosing.
-/
namespace Go.Proofs.YtfapfkaipdcflaaGreat
namespace Ls

/-- a valid event whose nodes exist -/
def Good (n : Int) (e : Ev) : Prop := chkE e = 0 ∧ e.u < n ∧ e.v < n
theorem good_kind {n : Int} {e : Ev} (h : Good n e) : (e.kind = 1 ∨ e.kind = 2 ∨ e.kind = 3) ∧ 0 ≤ e.time ∧ e.time ≤ 1048576 ∧ nodesB e = true ∧ attrB e = true := by
  obtain ⟨h, -, -⟩ := h
  unfold chkE at h
  split at h
  · omega
  · split at h
    · omega
    · split at h
      · omega
      · split at h
        · omega
        · next h1 h2 h3 h4 => exact ⟨by omega, by omega, by omega, by simpa using h3, by simpa using h4⟩
theorem good_pair {n : Int} {e : Ev} (h : Good n e) (hk : e.kind ≠ 3) : 0 ≤ e.u ∧ 0 ≤ e.v ∧ e.u ≠ e.v := by
  have h1 := (good_kind h).2.2.2.1
  unfold nodesB at h1
  rw [if_neg hk] at h1
  simp [okN] at h1
  omega
theorem chkLk_lk {n : Int} {e : Ev} (h : Good n e) (hk : e.kind = 1) : chkLk n (lk e) = 0 := by
  obtain ⟨h0, h1, h2, h3, h4⟩ := good_kind h
  obtain ⟨p1, p2, p3⟩ := good_pair h (by omega)
  have p4 := h.2.1
  have p5 := h.2.2
  have ha : attrB ⟨1, 0, 0, 0, (lk e).weight, (lk e).label, (lk e).sign⟩ = true := by
    rw [← h4]
    unfold attrB
    rw [if_pos hk, if_pos rfl]
    rfl
  have ht : (lk e).time = e.time := rfl
  have hu : (lk e).u = min e.u e.v := rfl
  have hv : (lk e).v = max e.u e.v := rfl
  unfold chkLk
  rw [if_neg (by omega), if_neg (by rw [ha]; decide), if_neg (by omega)]
theorem next_valid {n : Int} {l : List Lk} {e : Ev} (h : V n l) (g : Good n e) : V n (nextL l e) := by
  obtain ⟨h1, h2, h3, h4⟩ := h
  unfold nextL
  split
  · next hk =>
    refine ⟨h1, h2, asc_put _ _ h3, fun x hx => ?_⟩
    rcases mem_put _ _ _ hx with rfl | hx
    · exact chkLk_lk g hk
    · exact h4 x hx
  · exact ⟨h1, h2, asc_filter _ _ h3, fun x hx => h4 x (List.mem_filter.1 hx).1⟩
theorem chkLk_parts {n : Int} {x : Lk} (h : chkLk n x = 0) : 0 ≤ x.u ∧ x.u < x.v ∧ x.v < n ∧ attrB ⟨1, 0, 0, 0, x.weight, x.label, x.sign⟩ = true ∧ 0 ≤ x.time ∧ x.time ≤ 1048576 := by
  unfold chkLk at h
  split at h
  · omega
  · split at h
    · omega
    · split at h
      · omega
      · next h1 h2 h3 => exact ⟨by omega, by omega, by omega, by simpa using h2, by omega, by omega⟩
/-- what is returned as changed are valid events at the time of the event, with U less than V -/
theorem chg_good {n : Int} {l : List Lk} {e : Ev} (h : V n l) (g : Good n e) : ∀ c ∈ chg l e, Good n c ∧ c.time = e.time ∧ c.u < c.v := by
  intro c hc
  obtain ⟨g0, g1, g2, g3, g4⟩ := good_kind g
  unfold chg at hc
  split at hc
  · next hk =>
    split at hc
    · simp at hc
    · simp at hc
      subst hc
      have hl := chkLk_lk g hk
      obtain ⟨p0, p1, p2, p3, -, -⟩ := chkLk_parts hl
      refine ⟨⟨?_, by show (lk e).u < n; omega, p2⟩, rfl, p1⟩
      have hn : n ≤ 64 := h.2.1
      unfold chkE
      rw [if_neg (by simp [setE]), if_neg (by show ¬ (e.time < 0 ∨ 1048576 < e.time); omega), if_neg, if_neg]
      · have : attrB (setE (lk e) e.time) = attrB ⟨1, 0, 0, 0, (lk e).weight, (lk e).label, (lk e).sign⟩ := by unfold attrB; rfl
        rw [this, p3]; decide
      · unfold nodesB
        rw [if_neg (by simp [setE])]
        have o1 : okN (lk e).u = true := by simp [okN]; omega
        have o2 : okN (lk e).v = true := by simp [okN]; omega
        have o3 : decide ((lk e).u = (lk e).v) = false := by simp; omega
        show ¬ ((okN (lk e).u && okN (lk e).v && !decide ((lk e).u = (lk e).v)) = false)
        rw [o1, o2, o3]; decide
  · obtain ⟨x, hx, rfl⟩ := List.mem_map.1 hc
    obtain ⟨p0, p1, p2, -, -, -⟩ := chkLk_parts (h.2.2.2 x (List.mem_filter.1 hx).1)
    refine ⟨⟨?_, by show x.u < n; omega, p2⟩, rfl, p1⟩
    have hn : n ≤ 64 := h.2.1
    unfold chkE
    rw [if_neg (by simp [cutE]), if_neg (by show ¬ (e.time < 0 ∨ 1048576 < e.time); omega), if_neg, if_neg]
    · simp [attrB, cutE]
    · unfold nodesB
      rw [if_neg (by simp [cutE])]
      have o1 : okN x.u = true := by simp [okN]; omega
      have o2 : okN x.v = true := by simp [okN]; omega
      have o3 : decide (x.u = x.v) = false := by simp; omega
      show ¬ ((okN x.u && okN x.v && !decide (x.u = x.v)) = false)
      rw [o1, o2, o3]; decide
theorem valid_lt {n : Int} {l : List Lk} (h : V n l) : ∀ x ∈ l, x.u < x.v := fun x hx => (chkLk_parts (h.2.2.2 x hx)).2.1
/-- what changed, done to the old state, gives the new one, a change each -/
theorem run_chg' {n : Int} {l : List Lk} {e : Ev} (h : V n l) (g : Good n e) : runL l (chg l e) = nextL l e ∧ numL l (chg l e) = (chg l e).length :=
  run_chg l e h.2.2.1 (valid_lt h) fun hk => (good_pair g (by omega)).2.2
/-- the links of one edge are at most one -/
theorem edge_one (l : List Lk) (h : Asc l) (k : Lk) : l.filter (fun y => same y k) = [] ∨ ∃ x, x ∈ l ∧ same x k = true ∧ l.filter (fun y => same y k) = [x] := by
  induction l with
  | nil => exact .inl rfl
  | cons a l ih =>
    have h1 : ∀ y ∈ l, before a y = true := (List.pairwise_cons.1 h).1
    have h2 : Asc l := (List.pairwise_cons.1 h).2
    rw [List.filter_cons]
    cases hs : same a k with
    | true =>
      refine .inr ⟨a, by simp, hs, ?_⟩
      rw [if_pos rfl]
      congr 1
      rw [List.filter_eq_nil_iff]
      intro y hy
      have := before_not_same' _ _ (h1 y hy)
      rw [same_comm, same_trans a k y hs] at this
      rw [same_comm, this]; decide
    | false =>
      rw [if_neg (by decide)]
      rcases ih h2 with h0 | ⟨x, hx, hs, he⟩
      · exact .inl h0
      · exact .inr ⟨x, by simp [hx], hs, he⟩
theorem chg_cut_len (l : List Lk) (e : Ev) (h : Asc l) (hk : e.kind = 2) : (chg l e).length ≤ 1 ∧ ((∃ x ∈ l, same x (lk e) = true) → (chg l e).length = 1) := by
  have hf : l.filter (hit e) = l.filter fun y => same y (lk e) := List.filter_congr fun y _ => by simp [hit, hk]
  unfold chg
  rw [if_neg (by omega), List.length_map, hf]
  rcases edge_one l h (lk e) with h0 | ⟨x, hx, hs, he⟩
  · rw [h0]
    refine ⟨by simp, ?_⟩
    rintro ⟨x, hx, hs⟩
    rw [List.filter_eq_nil_iff] at h0
    exact absurd hs (by simpa using h0 x hx)
  · rw [he]; simp
/-- a new link set and cut: the state is as the cut alone leaves it -/
theorem set_cut (l : List Lk) (h : Asc l) (a b : Ev) (ha : a.kind = 1) (hb : b.kind = 2) (hs : same (lk a) (lk b) = true) (hn : lk a ∉ l) :
    runL l [a, b] = nextL l b ∧ numL l [a, b] = 2 ∧ numL l [b] ≤ 1 := by
  have e1 : nextL l a = put (lk a) l := by unfold nextL; rw [if_pos ha]
  have e2 : ∀ x : List Lk, nextL x b = cut (lk b) x := fun x => by
    unfold nextL cut
    rw [if_neg (by omega)]
    exact List.filter_congr fun y _ => by simp [hit, hb]
  have c1 : (chg l a).length = 1 := by unfold chg; rw [if_pos ha, if_neg hn]; rfl
  refine ⟨?_, ?_, ?_⟩
  · show nextL (nextL l a) b = _
    rw [e1, e2, e2, cut_put _ _ _ h hs]
  · show (chg l a).length + ((chg (nextL l a) b).length + 0) = 2
    rw [c1, e1, (chg_cut_len _ b (asc_put _ _ h) hb).2 ⟨lk a, put_mem _ _, hs⟩]
  · exact (chg_cut_len l b h hb).1
/-- where the link of an edge stands -/
def find (k : Lk) : List Lk → Int
  | [] => -1
  | l :: a => if same l k then 0 else if find k a < 0 then -1 else find k a + 1
theorem find_none (k : Lk) (l : List Lk) : find k l < 0 ↔ ∀ x ∈ l, same x k = false := by
  induction l with
  | nil => simp [find]
  | cons a l ih =>
    unfold find
    cases hs : same a k with
    | true => simp [hs]
    | false =>
      rw [if_neg (by decide)]
      split
      · next h =>
        refine ⟨fun _ x hx => ?_, fun _ => by decide⟩
        rcases List.mem_cons.1 hx with rfl | hx
        · exact hs
        · exact ih.1 h x hx
      · next h =>
        have : ¬ ∀ x ∈ l, same x k = false := fun hx => h (ih.2 hx)
        simp [hs]
        simp at this
        obtain ⟨x, hx, hxs⟩ := this
        refine ⟨fun h0 => by omega, fun h0 => absurd (h0 x hx) (by rw [hxs]; decide)⟩
/-- behind the leaving of a node: a link is found exactly if it is none of its links -/
theorem find_left (l : List Lk) (h : Asc l) (u : Int) (x : Lk) (hx : x ∈ l) : find x (l.filter fun y => !has u y) < 0 ↔ has u x = true := by
  rw [find_none]
  constructor
  · intro h0
    cases hu : has u x with
    | true => rfl
    | false =>
      have := h0 x (List.mem_filter.2 ⟨hx, by rw [hu]; rfl⟩)
      simp [same] at this
  · intro hu y hy
    obtain ⟨h1, h2⟩ := List.mem_filter.1 hy
    cases hs : same y x with
    | false => rfl
    | true => have := eq_of_same l h y x h1 hx hs; subst this; rw [hu] at h2; cases h2
/-- the links that are chosen -/
def pick (labels : List Int) (sign least : Int) (x : Lk) : Bool := (labels.isEmpty || labels.contains x.label) && (decide (sign = 0) || decide (x.sign = sign)) && decide (least ≤ x.weight)
def wh (labels : List Int) (sign least : Int) (l : List Lk) : List Lk := l.filter (pick labels sign least)
theorem wh_valid {n : Int} {l : List Lk} (h : V n l) (labels : List Int) (sign least : Int) : V n (wh labels sign least l) :=
  ⟨h.1, h.2.1, asc_filter _ _ h.2.2.1, fun x hx => h.2.2.2 x (List.mem_filter.1 hx).1⟩
theorem attr_sign {w y z : Int} (h : attrB ⟨1, 0, 0, 0, w, y, z⟩ = true) : (z = 1 ∨ z = -1) ∧ 1 ≤ w := by
  unfold attrB at h
  simp at h
  omega
theorem filter_two {p q r : Lk → Bool} (l : List Lk) (h : ∀ x ∈ l, r x = (p x || q x) ∧ (p x && q x) = false) : (l.filter p).length + (l.filter q).length = (l.filter r).length := by
  induction l with
  | nil => rfl
  | cons a l ih =>
    have h1 := h a (by simp)
    have h2 := ih fun x hx => h x (by simp [hx])
    simp only [List.filter_cons]
    cases hp : p a <;> cases hq : q a <;> simp [hp, hq] at h1 <;> simp [h1] <;> omega
/-- both signs' links are all links -/
theorem wh_signs {n : Int} {l : List Lk} (h : V n l) (least : Int) : (wh [] 1 least l).length + (wh [] (-1) least l).length = (wh [] 0 least l).length :=
  filter_two l fun x hx => by
    have h1 := attr_sign (chkLk_parts (h.2.2.2 x hx)).2.2.2.1
    rcases h1.1 with hs | hs <;> simp [pick, hs]
/-- choosing twice is choosing by both -/
theorem wh_twice {n : Int} {l : List Lk} (h : V n l) (least : Int) : wh [0, 2] 0 0 (wh [] 1 least l) = wh [2, 0] 1 least l := by
  unfold wh
  rw [List.filter_filter]
  apply List.filter_congr
  intro x hx
  have h1 := attr_sign (chkLk_parts (h.2.2.2 x hx)).2.2.2.1
  have h2 : (0 : Int) ≤ x.weight := by omega
  simp [pick, h2]
  grind
end Ls
end Go.Proofs.YtfapfkaipdcflaaGreat

/-
  What an event makes of a state, reckoned link by link, as a loop over the links does it: the rest of the new links and of the changes, behind a place in the list.
-/
namespace Go.Proofs.YtfapfkaipdcflaaGreat
namespace Ls

/-- what is still to come; done: the link of a set has been written, or there is none -/
def rem (e : Ev) : Bool → List Lk → List Lk × List Ev
  | d, [] => if d = true then ([], []) else ([lk e], [setE (lk e) e.time])
  | d, l :: a =>
    let now := !d && before (lk e) l
    let pre : List Lk := if now = true then [lk e] else []
    let cpre : List Ev := if now = true then [setE (lk e) e.time] else []
    if e.kind = 1 ∧ same l (lk e) = true then
      (pre ++ lk e :: (rem e true a).1, cpre ++ (if l ≠ lk e then [setE (lk e) e.time] else []) ++ (rem e true a).2)
    else if e.kind ≠ 1 ∧ hit e l = true then (pre ++ (rem e (d || now) a).1, cpre ++ cutE l e.time :: (rem e (d || now) a).2)
    else (pre ++ l :: (rem e (d || now) a).1, cpre ++ (rem e (d || now) a).2)
theorem rem_done (e : Ev) (l : List Lk) (h : ∀ x ∈ l, e.kind = 1 → same x (lk e) = false) :
    rem e true l = (l.filter (fun x => !(decide (e.kind ≠ 1) && hit e x)), (l.filter (fun x => decide (e.kind ≠ 1) && hit e x)).map fun x => cutE x e.time) := by
  induction l with
  | nil => simp [rem]
  | cons a l ih =>
    have i := ih fun x hx => h x (by simp [hx])
    unfold rem
    rw [if_neg (by rintro ⟨h1, h2⟩; rw [h a (by simp) h1] at h2; cases h2)]
    simp only [Bool.not_true, Bool.false_and, Bool.true_or]
    rw [i]
    by_cases hk : e.kind = 1
    · simp [hk]
    · cases hh : hit e a <;> simp [hk, hh]
theorem rem_cut (e : Ev) (l : List Lk) (hk : e.kind ≠ 1) : rem e true l = (nextL l e, chg l e) := by
  rw [rem_done e l (fun x _ h => absurd h hk)]
  unfold nextL chg
  rw [if_neg hk, if_neg hk]
  simp [hk]
theorem rem_keep (e : Ev) (l : List Lk) (hk : e.kind = 1) (h : ∀ x ∈ l, same x (lk e) = false) : rem e true l = (l, []) := by
  rw [rem_done e l (fun x hx _ => h x hx)]
  simp [hk]
theorem rem_set (e : Ev) (l : List Lk) (hk : e.kind = 1) (ha : Asc l) : rem e false l = (nextL l e, chg l e) := by
  have hn : nextL l e = put (lk e) l := by unfold nextL; rw [if_pos hk]
  have hc : chg l e = if lk e ∈ l then [] else [setE (lk e) e.time] := by unfold chg; rw [if_pos hk]
  rw [hn, hc]
  clear hn hc
  induction l with
  | nil => simp [rem, put]
  | cons a l ih =>
    have h1 : ∀ y ∈ l, before a y = true := (List.pairwise_cons.1 ha).1
    have h2 : Asc l := (List.pairwise_cons.1 ha).2
    have irr : before (lk e) (lk e) = false := before_irr _
    unfold rem put
    cases hs : same a (lk e) with
    | true =>
      have hb : before (lk e) a = false := by rw [before_same a (lk e) (lk e) hs]; exact irr
      have hl : ∀ x ∈ l, same x (lk e) = false := fun x hx => by
        have := before_not_same' _ _ (h1 x hx)
        rw [same_comm, same_trans a (lk e) x hs] at this
        rw [same_comm]; exact this
      have hm : lk e ∉ l := fun hx => by have := hl _ hx; simp [same] at this
      rw [if_pos ⟨hk, rfl⟩, rem_keep e l hk hl, hb]
      by_cases hx : a = lk e
      · simp [hx]
      · simp [hx, hm, Ne.symm hx]
    | false =>
      rw [if_neg (by simp), if_neg (by simp [hk])]
      have hne : lk e ≠ a := fun hx => by rw [← hx] at hs; simp [same] at hs
      cases hb : before (lk e) a with
      | true =>
        have hl : ∀ x ∈ l, same x (lk e) = false := fun x hx => before_not_same' _ _ (before_trans _ _ _ hb (h1 x hx))
        have hm : lk e ∉ l := fun hx => by have := hl _ hx; simp [same] at this
        simp [rem_keep e l hk hl, hne, hm]
      | false =>
        have i := ih h2
        simp [i, hne]
/-- the whole of it -/
theorem rem_all (e : Ev) (l : List Lk) (ha : Asc l) : rem e (decide (e.kind ≠ 1)) l = (nextL l e, chg l e) := by
  by_cases hk : e.kind = 1
  · rw [show decide (e.kind ≠ 1) = false by simp [hk]]; exact rem_set e l hk ha
  · rw [show decide (e.kind ≠ 1) = true by simp [hk]]; exact rem_cut e l hk
/-- all events one after the other: the new links, how many changes, or the first error and its place -/
def allS (n : Int) : Nat → List Lk → List Ev → List Lk × Int × Int
  | _, l, [] => (l, 0, 0)
  | i, l, e :: es => if chkE e ≠ 0 then ([], i, chkE e) else if n ≤ e.u ∨ n ≤ e.v then ([], i, 6) else
    let r := allS n (i + 1) (nextL l e) es
    if r.2.2 ≠ 0 then r else (r.1, r.2.1 + (chg l e).length, 0)
theorem allS_ok (n : Int) (es : List Ev) (h : ∀ e ∈ es, Good n e) (i : Nat) (l : List Lk) : allS n i l es = (runL l es, ((numL l es : Nat) : Int), 0) := by
  induction es generalizing i l with
  | nil => rfl
  | cons e es ih =>
    obtain ⟨h1, h2, h3⟩ := h e (by simp)
    have := ih (fun x hx => h x (by simp [hx])) (i + 1) (nextL l e)
    unfold allS
    rw [if_neg (by simpa using h1), if_neg (by omega), this]
    simp [runL, numL]
    omega
end Ls
end Go.Proofs.YtfapfkaipdcflaaGreat

/-
  Where a link stands, or would stand, in a list that ascends; setting and cutting by the place.
-/
namespace Go.Proofs.YtfapfkaipdcflaaGreat
namespace Ls

def pos (t : Lk) (l : List Lk) : Nat := (l.filter fun x => before x t).length
def fnd (t : Lk) (l : List Lk) : Bool := match l[pos t l]? with | some a => same a t | none => false
theorem pos_le (t : Lk) (l : List Lk) : pos t l ≤ l.length := List.length_filter_le _ _
theorem pos_none (t a : Lk) (l : List Lk) (h : Asc (a :: l)) (hb : before a t = false) : pos t (a :: l) = 0 ∧ ∀ x ∈ a :: l, before x t = false := by
  have h1 : ∀ x ∈ l, before a x = true := (List.pairwise_cons.1 h).1
  have h2 : ∀ x ∈ a :: l, before x t = false := by
    intro x hx
    rcases List.mem_cons.1 hx with rfl | hx
    · exact hb
    · cases hc : before x t with
      | false => rfl
      | true => have := before_trans _ _ _ (h1 x hx) hc; rw [hb] at this; cases this
  refine ⟨?_, h2⟩
  unfold pos
  rw [List.filter_eq_nil_iff.2 fun x hx => by rw [h2 x hx]; decide]
  rfl
theorem pos_cons (t a : Lk) (l : List Lk) (hb : before a t = true) : pos t (a :: l) = pos t l + 1 := by
  unfold pos
  rw [List.filter_cons, if_pos hb, List.length_cons]
theorem pos_lt (t : Lk) (l : List Lk) (h : Asc l) (k : Nat) (a : Lk) (hk : l[k]? = some a) : before a t = true ↔ k < pos t l := by
  induction l generalizing k with
  | nil => simp at hk
  | cons x l ih =>
    have h2 : Asc l := (List.pairwise_cons.1 h).2
    cases hb : before x t with
    | true =>
      rw [pos_cons t x l hb]
      cases k with
      | zero => simp at hk; subst hk; simp [hb]
      | succ k => rw [ih h2 k (by simpa using hk)]; omega
    | false =>
      obtain ⟨h3, h4⟩ := pos_none t x l h hb
      rw [h3, h4 a (List.mem_of_getElem? hk)]
      simp
theorem fnd_cons (t a : Lk) (l : List Lk) (hb : before a t = true) : fnd t (a :: l) = fnd t l := by
  unfold fnd
  rw [pos_cons t a l hb]
  simp
theorem fnd_here (t a : Lk) (l : List Lk) (h : Asc (a :: l)) (hb : before a t = false) : fnd t (a :: l) = same a t := by
  unfold fnd
  rw [(pos_none t a l h hb).1]
  simp
theorem put_split (n : Lk) (l : List Lk) (h : Asc l) : put n l = if fnd n l = true then l.set (pos n l) n else l.take (pos n l) ++ n :: l.drop (pos n l) := by
  induction l with
  | nil => simp [put, fnd, pos]
  | cons a l ih =>
    have h2 : Asc l := (List.pairwise_cons.1 h).2
    have i := ih h2
    unfold put
    rcases tri a n with hb | hs | hb
    · have hb' : before n a = false := by
        cases hx : before n a with
        | false => rfl
        | true => have := before_trans _ _ _ hb hx; rw [before_irr] at this; cases this
      rw [if_neg (by rw [hb']; decide), if_neg (by rw [before_not_same a n hb]; decide), fnd_cons n a l hb, pos_cons n a l hb, i]
      split <;> simp
    · have hb' : before a n = false := by rw [same_before a n n hs]; exact before_irr n
      have hb2 : before n a = false := by rw [before_same a n n hs]; exact before_irr n
      rw [if_neg (by rw [hb2]; decide), if_pos hs, fnd_here n a l h hb', if_pos hs, (pos_none n a l h hb').1]
      rfl
    · have hb' : before a n = false := by
        cases hx : before a n with
        | false => rfl
        | true => have := before_trans _ _ _ hb hx; rw [before_irr] at this; cases this
      rw [if_pos hb, fnd_here n a l h hb', before_not_same' n a hb, if_neg (by decide), (pos_none n a l h hb').1]
      rfl
theorem fnd_iff (t : Lk) (l : List Lk) (h : Asc l) : fnd t l = true ↔ ∃ x ∈ l, same x t = true := by
  induction l with
  | nil => simp [fnd]
  | cons a l ih =>
    have h1 : ∀ y ∈ l, before a y = true := (List.pairwise_cons.1 h).1
    have h2 : Asc l := (List.pairwise_cons.1 h).2
    cases hb : before a t with
    | true =>
      rw [fnd_cons t a l hb, ih h2]
      have := before_not_same a t hb
      simp [this]
    | false =>
      rw [fnd_here t a l h hb]
      constructor
      · intro hs; exact ⟨a, by simp, hs⟩
      · rintro ⟨x, hx, hs⟩
        rcases List.mem_cons.1 hx with rfl | hx
        · exact hs
        · have := h1 x hx
          rw [before_same x t a hs] at this
          rw [hb] at this; cases this
theorem fnd_at (t : Lk) (l : List Lk) (h : fnd t l = true) : ∃ a, l[pos t l]? = some a ∧ same a t = true ∧ pos t l < l.length := by
  unfold fnd at h
  cases ha : l[pos t l]? with
  | none => rw [ha] at h; cases h
  | some a => rw [ha] at h; exact ⟨a, rfl, h, (List.getElem?_eq_some_iff.1 ha).1⟩
theorem find_eq (t : Lk) (l : List Lk) (h : Asc l) : find t l = if fnd t l = true then (pos t l : Int) else -1 := by
  induction l with
  | nil => simp [find, fnd, pos]
  | cons a l ih =>
    have h2 : Asc l := (List.pairwise_cons.1 h).2
    have i := ih h2
    unfold find
    cases hb : before a t with
    | true =>
      rw [before_not_same a t hb, if_neg (by decide), i, fnd_cons t a l hb, pos_cons t a l hb]
      split
      · next hf => rw [if_neg (by omega)]; omega
      · rfl
    | false =>
      rw [fnd_here t a l h hb]
      cases hs : same a t with
      | true => rw [if_pos rfl, if_pos rfl, (pos_none t a l h hb).1]; rfl
      | false =>
        have : fnd t l = false := by
          cases hf : fnd t l with
          | false => rfl
          | true =>
            obtain ⟨x, hx, hxs⟩ := (fnd_iff t l h2).1 hf
            have h1 : before a x = true := (List.pairwise_cons.1 h).1 x hx
            rw [before_same x t a hxs, hb] at h1; cases h1
        rw [i, this]; simp
theorem filter_not_one (p : Lk → Bool) (l : List Lk) (k : Nat) (a : Lk) (hk : l[k]? = some a) (hp : p a = true) (ho : ∀ j b, l[j]? = some b → j ≠ k → p b = false) : (l.filter fun x => !p x) = l.eraseIdx k := by
  induction l generalizing k with
  | nil => simp at hk
  | cons x l ih =>
    cases k with
    | zero =>
      simp at hk; subst hk
      rw [List.filter_cons, hp]
      simp only [Bool.not_true, List.eraseIdx_cons_zero]
      rw [if_neg (by decide), List.filter_eq_self]
      intro b hb
      obtain ⟨j, hj⟩ := List.getElem?_of_mem hb
      rw [ho (j + 1) b (by simpa using hj) (by omega)]; rfl
    | succ k =>
      have := ho 0 x (by simp) (by omega)
      rw [List.filter_cons, this]
      simp only [Bool.not_false, List.eraseIdx_cons_succ]
      rw [if_pos trivial, ih k (by simpa using hk) (fun j b hj hne => ho (j + 1) b (by simpa using hj) (by omega))]
theorem same_one (l : List Lk) (h : Asc l) (t : Lk) (k j : Nat) (a b : Lk) (hk : l[k]? = some a) (hj : l[j]? = some b) (ha : same a t = true) (hb : same b t = true) : j = k := by
  have hp := List.pairwise_iff_getElem.1 h
  obtain ⟨hk1, rfl⟩ := List.getElem?_eq_some_iff.1 hk
  obtain ⟨hj1, rfl⟩ := List.getElem?_eq_some_iff.1 hj
  rcases Nat.lt_trichotomy j k with hlt | heq | hlt
  · have := hp j k hj1 hk1 hlt
    have h2 := before_not_same _ _ this
    rw [same_trans _ t _ hb, same_comm, ha] at h2; cases h2
  · exact heq
  · have := hp k j hk1 hj1 hlt
    have h2 := before_not_same _ _ this
    rw [same_trans _ t _ ha, same_comm, hb] at h2; cases h2
theorem cut_split (t : Lk) (l : List Lk) (h : Asc l) : cut t l = if fnd t l = true then l.eraseIdx (pos t l) else l := by
  split
  · next hf =>
    obtain ⟨a, ha, hs, hlt⟩ := fnd_at t l hf
    exact filter_not_one (fun x => same x t) l (pos t l) a ha hs fun j b hj hne => by
      cases hb : same b t with
      | false => rfl
      | true => exact absurd (same_one l h t (pos t l) j a b ha hj hs hb) hne
  · next hf =>
    refine cut_none t l fun x hx => ?_
    cases hs : same x t with
    | false => rfl
    | true => exact absurd ((fnd_iff t l h).2 ⟨x, hx, hs⟩) hf
end Ls
end Go.Proofs.YtfapfkaipdcflaaGreat

/-
  Mathematics of windows: links by age; what expires, what is left; a stream with the cuts of what expires.
-/
namespace Go.Proofs.YtfapfkaipdcflaaGreat
namespace Ls

theorem pw_unique {α : Type} (r : α → α → Prop) (irr : ∀ a, ¬ r a a) (tr : ∀ a b c, r a b → r b c → r a c) : ∀ a b : List α, a.Pairwise r → b.Pairwise r → (∀ x, x ∈ a ↔ x ∈ b) → a = b := by
  intro a
  induction a with
  | nil =>
    intro b _ _ h
    cases b with
    | nil => rfl
    | cons y b => exact absurd ((h y).2 (by simp)) (by simp)
  | cons x a ih =>
    intro b ha hb h
    cases b with
    | nil => exact absurd ((h x).1 (by simp)) (by simp)
    | cons y b =>
      obtain ⟨a1, a2⟩ := List.pairwise_cons.1 ha
      obtain ⟨b1, b2⟩ := List.pairwise_cons.1 hb
      have hxy : x = y := by
        rcases List.mem_cons.1 ((h x).1 (by simp)) with e | hx
        · exact e
        · rcases List.mem_cons.1 ((h y).2 (by simp)) with e | hy
          · exact e.symm
          · exact absurd (tr _ _ _ (a1 y hy) (b1 x hx)) (irr x)
      subst hxy
      congr 1
      refine ih b a2 b2 fun z => ?_
      constructor
      · intro hz
        rcases List.mem_cons.1 ((h z).1 (by simp [hz])) with e | hz'
        · subst e; exact absurd (a1 z hz) (irr z)
        · exact hz'
      · intro hz
        rcases List.mem_cons.1 ((h z).2 (by simp [hz])) with e | hz'
        · subst e; exact absurd (b1 z hz) (irr z)
        · exact hz'
theorem asc_unique (a b : List Lk) (ha : Asc a) (hb : Asc b) (h : ∀ x, x ∈ a ↔ x ∈ b) : a = b :=
  pw_unique (fun a b => before a b = true) (fun a h => by rw [before_irr] at h; cases h) (fun a b c => before_trans a b c) a b ha hb h

/-- the order by age: by time, then by edge -/
def old (a b : Lk) : Bool := decide (a.time < b.time) || (decide (a.time = b.time) && before a b)
def Aged (l : List Lk) : Prop := l.Pairwise (fun a b => old a b = true)
theorem old_irr (a : Lk) : old a a = false := by simp [old, before_irr]
theorem old_trans (a b c : Lk) (h : old a b = true) (g : old b c = true) : old a c = true := by
  simp [old] at *
  rcases h with h | ⟨h, h'⟩ <;> rcases g with g | ⟨g, g'⟩
  · left; omega
  · left; omega
  · left; omega
  · right; exact ⟨by omega, before_trans _ _ _ h' g'⟩
theorem old_asymm (a b : Lk) (h : old a b = true) : old b a = false := by
  cases g : old b a with
  | false => rfl
  | true => have := old_trans _ _ _ h g; rw [old_irr] at this; cases this
theorem old_time (a b : Lk) (h : old a b = true) : a.time ≤ b.time := by
  simp [old] at h; omega
theorem old_tri (a b : Lk) (h : same a b = false) : old a b = true ∨ old b a = true := by
  rcases Int.lt_trichotomy a.time b.time with g | g | g
  · left; simp [old, g]
  · rcases tri a b with k | k | k
    · left; simp [old, g, k]
    · rw [h] at k; cases k
    · right; simp [old, g, k]
  · right; simp [old, g]
/-- a place in a list, by what comes first -/
theorem lead_lt (p : Lk → Bool) (l : List Lk) (h : l.Pairwise fun a b => p b = true → p a = true) (k : Nat) (a : Lk) (hk : l[k]? = some a) : p a = true ↔ k < (l.filter p).length := by
  induction l generalizing k with
  | nil => simp at hk
  | cons x l ih =>
    obtain ⟨h1, h2⟩ := List.pairwise_cons.1 h
    cases hx : p x with
    | true =>
      rw [List.filter_cons, if_pos hx, List.length_cons]
      cases k with
      | zero => simp at hk; subst hk; simp [hx]
      | succ k => rw [ih h2 k (by simpa using hk)]; omega
    | false =>
      have h3 : ∀ y ∈ l, p y = false := fun y hy => by
        cases hp : p y with
        | false => rfl
        | true => have := h1 y hy hp; rw [hx] at this; cases this
      rw [List.filter_cons, if_neg (by rw [hx]; decide), List.filter_eq_nil_iff.2 fun y hy => by rw [h3 y hy]; decide]
      cases k with
      | zero => simp at hk; subst hk; simp [hx]
      | succ k => have := List.mem_of_getElem? (show l[k]? = some a by simpa using hk); simp [h3 a this]
/-- the place of a link among links by age -/
def posA (t : Lk) (l : List Lk) : Nat := (l.filter fun x => old x t).length
theorem posA_le (t : Lk) (l : List Lk) : posA t l ≤ l.length := List.length_filter_le _ _
theorem posA_lt (t : Lk) (l : List Lk) (h : Aged l) (k : Nat) (a : Lk) (hk : l[k]? = some a) : old a t = true ↔ k < posA t l :=
  lead_lt (fun x => old x t) l (h.imp fun hab hb => old_trans _ _ _ hab hb) k a hk
/-- how many are from before a time -/
def older (s : Int) (l : List Lk) : Nat := (l.filter fun x => decide (x.time < s)).length
theorem older_le (s : Int) (l : List Lk) : older s l ≤ l.length := List.length_filter_le _ _
theorem older_lt (s : Int) (l : List Lk) (h : Aged l) (k : Nat) (a : Lk) (hk : l[k]? = some a) : a.time < s ↔ k < older s l := by
  have := lead_lt (fun x => decide (x.time < s)) l (h.imp fun hab hb => by have := old_time _ _ hab; simp at hb ⊢; omega) k a hk
  unfold older
  rw [← this]; simp
/-- how many links are not in a window of an extent, at a time -/
def outN (W M t : Int) (l : List Lk) : Nat := max (older (t - W + 1) l) (l.length - M.toNat)
theorem outN_le (W M t : Int) (l : List Lk) : outN W M t l ≤ l.length := by
  have := older_le (t - W + 1) l
  unfold outN; omega
/-- links sorted by edge -/
def sortL (l : List Lk) : List Lk := l.foldr put []
theorem asc_sortL (l : List Lk) : Asc (sortL l) := by
  induction l with
  | nil => exact List.Pairwise.nil
  | cons a l ih => exact asc_put _ _ ih
theorem mem_put_iff (n x : Lk) (l : List Lk) (h : Asc l) : x ∈ put n l ↔ x = n ∨ (x ∈ l ∧ same x n = false) := by
  induction l with
  | nil => simp [put]
  | cons a l ih =>
    have h1 : ∀ y ∈ l, before a y = true := (List.pairwise_cons.1 h).1
    have h2 : Asc l := (List.pairwise_cons.1 h).2
    unfold put
    split
    · next hb =>
      have : ∀ y ∈ a :: l, same y n = false := fun y hy => by
        rcases List.mem_cons.1 hy with e | hy
        · subst e; exact before_not_same' _ _ hb
        · exact before_not_same' _ _ (before_trans _ _ _ hb (h1 y hy))
      simp only [List.mem_cons] at this ⊢
      grind
    · split
      · next hs =>
        have : ∀ y ∈ l, same y n = false := fun y hy => by
          have := before_not_same' _ _ (h1 y hy)
          rw [same_comm, same_trans a n y hs] at this
          rw [same_comm]; exact this
        simp only [List.mem_cons]
        grind
      · next hb hs =>
        simp only [List.mem_cons, ih h2]
        have : same a n = false := by simpa using hs
        grind
def Dist (l : List Lk) : Prop := l.Pairwise (fun a b => same a b = false)
theorem asc_dist {l : List Lk} (h : Asc l) : Dist l := h.imp fun h => before_not_same _ _ h
theorem mem_sortL (l : List Lk) (h : Dist l) (x : Lk) : x ∈ sortL l ↔ x ∈ l := by
  induction l with
  | nil => simp [sortL]
  | cons a l ih =>
    obtain ⟨h1, h2⟩ := List.pairwise_cons.1 h
    show x ∈ put a (sortL l) ↔ _
    rw [mem_put_iff _ _ _ (asc_sortL l), ih h2, List.mem_cons]
    constructor
    · rintro (h | ⟨h, _⟩)
      · exact .inl h
      · exact .inr h
    · rintro (h | h)
      · exact .inl h
      · exact .inr ⟨h, by rw [same_comm]; exact h1 x h⟩
/-- what expires: the cuts, in the order of edges; what is left -/
def cutsX (W M t : Int) (l : List Lk) : List Ev := (sortL (l.take (outN W M t l))).map fun x => cutE x t
def restX (W M t : Int) (l : List Lk) : List Lk := l.drop (outN W M t l)
/-- the ends of an event with its time, all else 0 -/
def ends (e : Ev) : Lk := ⟨min e.u e.v, max e.u e.v, 0, 0, 0, e.time⟩
def hitA (e : Ev) (l : Lk) : Bool := if e.kind = 3 then has e.u l else same l (ends e)
/-- an event happens to links by age -/
def stepA (l : List Lk) (e : Ev) : List Lk :=
  if e.kind = 1 then (l.filter fun x => !hitA e x).take (posA (ends e) (l.filter fun x => !hitA e x)) ++ ends e :: (l.filter fun x => !hitA e x).drop (posA (ends e) (l.filter fun x => !hitA e x)) else l.filter fun x => !hitA e x
/-- when something expires, if ever -/
def untilA (W : Int) : List Lk → Option Int
  | [] => none
  | x :: _ => if W = 1048577 then none else some (x.time + W)
/-- all that expires up to a time: the cuts, what is left; n: at most so often -/
def drainN (W M t : Int) : Nat → List Lk → List Ev × List Lk
  | 0, l => ([], l)
  | n + 1, l => match untilA W l with
    | none => ([], l)
    | some s => if s ≤ t then (cutsX W M s l ++ (drainN W M t n (restX W M s l)).1, (drainN W M t n (restX W M s l)).2) else ([], l)
/-- the events of a stream, with the cuts of what expires between them -/
def slideA (W M : Int) : List Lk → List Ev → List Ev
  | _, [] => []
  | l, e :: es =>
    let d := drainN W M e.time l.length l
    let l1 := stepA d.2 e
    d.1 ++ e :: cutsX W M e.time l1 ++ slideA W M (restX W M e.time l1) es
theorem outN_pos (W M s : Int) (x : Lk) (l : List Lk) (h : s = x.time + W) : 1 ≤ outN W M s (x :: l) := by
  have : 1 ≤ older (s - W + 1) (x :: l) := by
    unfold older
    rw [List.filter_cons, if_pos (by simp; omega), List.length_cons]; omega
  unfold outN; omega
theorem restX_len (W M s : Int) (x : Lk) (l : List Lk) (h : s = x.time + W) : (restX W M s (x :: l)).length ≤ l.length := by
  have := outN_pos W M s x l h
  unfold restX
  rw [List.length_drop, List.length_cons]; omega
/-- more rounds than needed change nothing -/
theorem drain_more (W M t : Int) (n m : Nat) (l : List Lk) (hn : l.length ≤ n) (hm : l.length ≤ m) : drainN W M t n l = drainN W M t m l := by
  induction n generalizing m l with
  | zero =>
    obtain rfl : l = [] := List.eq_nil_of_length_eq_zero (by omega)
    cases m <;> simp [drainN, untilA]
  | succ n ih =>
    cases l with
    | nil => cases m <;> simp [drainN, untilA]
    | cons x l =>
      simp at hn hm
      cases m with
      | zero => omega
      | succ m =>
        unfold drainN
        by_cases hW : W = 1048577
        · simp [untilA, hW]
        · simp only [untilA, if_neg hW]
          split
          · have := restX_len W M _ x l rfl
            rw [ih m _ (by omega) (by omega)]
          · rfl
/-- nothing expires as long as no time comes up to the width, and there are no more than the most -/
theorem outN_zero (W M t : Int) (l : List Lk) (h : ∀ x ∈ l, t - x.time < W) (hl : (l.length : Int) ≤ M) : outN W M t l = 0 := by
  have : older (t - W + 1) l = 0 := by
    unfold older
    rw [List.filter_eq_nil_iff.2 fun x hx => by have := h x hx; simp; omega]; rfl
  unfold outN
  rw [this]
  omega
theorem step_len (l : List Lk) (e : Ev) : (stepA l e).length ≤ l.length + 1 := by
  have := List.length_filter_le (fun x => !hitA e x) l
  unfold stepA
  split
  · have h2 := List.take_append_drop (posA (ends e) (l.filter fun x => !hitA e x)) (l.filter fun x => !hitA e x)
    have h3 := congrArg List.length h2
    simp only [List.length_append, List.length_cons] at h3 ⊢
    omega
  · omega
theorem step_mem (l : List Lk) (e : Ev) (x : Lk) (h : x ∈ stepA l e) : x ∈ l ∨ x = ends e := by
  unfold stepA at h
  split at h
  · rcases List.mem_append.1 h with h | h
    · exact .inl (List.mem_filter.1 (List.mem_of_mem_take h)).1
    · rcases List.mem_cons.1 h with h | h
      · exact .inr h
      · exact .inl (List.mem_filter.1 (List.mem_of_mem_drop h)).1
  · exact .inl (List.mem_filter.1 h).1
theorem slide_none (W M : Int) (hW : 1 ≤ W) (es : List Ev) (l : List Lk) (h1 : ∀ x ∈ l, ∀ e ∈ es, e.time - x.time < W) (h2 : es.Pairwise fun a b => b.time - a.time < W) (h3 : (l.length : Int) + es.length ≤ M) : slideA W M l es = es := by
  induction es generalizing l with
  | nil => rfl
  | cons e es ih =>
    obtain ⟨p1, p2⟩ := List.pairwise_cons.1 h2
    have hd : drainN W M e.time l.length l = ([], l) := by
      cases l with
      | nil => rfl
      | cons x l =>
        have := h1 x (by simp) e (by simp)
        simp only [List.length_cons, drainN, untilA]
        split
        · rfl
        · next s hs =>
          split at hs
          · cases hs
          · cases hs
            rw [if_neg (by omega)]
    simp at h3
    have hlen := step_len l e
    have hmem : ∀ x ∈ stepA l e, e.time - x.time < W := fun x hx => by
      rcases step_mem l e x hx with h | h
      · exact h1 x h e (by simp)
      · subst h; show e.time - e.time < W; omega
    have ho : outN W M e.time (stepA l e) = 0 := outN_zero W M e.time _ hmem (by omega)
    have hc : cutsX W M e.time (stepA l e) = [] := by unfold cutsX; rw [ho]; rfl
    have hr : restX W M e.time (stepA l e) = stepA l e := by unfold restX; rw [ho]; rfl
    unfold slideA
    simp only [hd, hc, hr]
    rw [ih (stepA l e) (fun x hx e' he' => by
      rcases step_mem l e x hx with h | h
      · exact h1 x h e' (by simp [he'])
      · subst h; exact p1 e' he') p2 (by omega)]
    rfl
end Ls
end Go.Proofs.YtfapfkaipdcflaaGreat

/-
  Mathematics of windows, on: what stays of links by age under events and expiring.
-/
namespace Go.Proofs.YtfapfkaipdcflaaGreat
namespace Ls

theorem sortL_len (l : List Lk) : (sortL l).length ≤ l.length := by
  induction l with
  | nil => simp [sortL]
  | cons a l ih =>
    have : ∀ l : List Lk, (put a l).length ≤ l.length + 1 := by
      intro l
      induction l with
      | nil => simp [put]
      | cons b l ih2 =>
        unfold put
        split
        · simp
        · split
          · simp
          · simp; omega
    have h1 := this (sortL l)
    show (put a (sortL l)).length ≤ _
    simp; omega
theorem cuts_len (W M t : Int) (l : List Lk) : (cutsX W M t l).length + (restX W M t l).length ≤ l.length := by
  have h1 := sortL_len (l.take (outN W M t l))
  have h2 := outN_le W M t l
  unfold cutsX restX
  rw [List.length_map, List.length_drop]
  rw [List.length_take] at h1
  omega
theorem rest_sub (W M t : Int) (l : List Lk) : (restX W M t l).Sublist l := List.drop_sublist _ _
theorem drain_sub (W M t : Int) (n : Nat) (l : List Lk) : (drainN W M t n l).2.Sublist l := by
  induction n generalizing l with
  | zero => exact List.Sublist.refl _
  | succ n ih =>
    unfold drainN
    split
    · exact List.Sublist.refl _
    · split
      · exact (ih _).trans (rest_sub _ _ _ _)
      · exact List.Sublist.refl _
theorem drain_len (W M t : Int) (n : Nat) (l : List Lk) : (drainN W M t n l).1.length + (drainN W M t n l).2.length ≤ l.length := by
  induction n generalizing l with
  | zero => simp [drainN]
  | succ n ih =>
    unfold drainN
    split
    · simp
    · split
      · next s _ _ =>
        have h1 := cuts_len W M s l
        have h2 := ih (restX W M s l)
        simp only [List.length_append]
        omega
      · simp
theorem until_cons (W s : Int) (x : Lk) (l : List Lk) (h : untilA W (x :: l) = some s) : s = x.time + W := by
  have h : (if W = 1048577 then none else some (x.time + W)) = some s := h
  split at h
  · cases h
  · injection h with h; exact h.symm
theorem drainN_succ (W M t : Int) (n : Nat) (l : List Lk) : drainN W M t (n + 1) l = match untilA W l with
    | none => ([], l)
    | some s => if s ≤ t then (cutsX W M s l ++ (drainN W M t n (restX W M s l)).1, (drainN W M t n (restX W M s l)).2) else ([], l) := rfl
theorem drain_step (W M t s : Int) (l : List Lk) (h : untilA W l = some s) (hs : s ≤ t) : drainN W M t l.length l = (cutsX W M s l ++ (drainN W M t (restX W M s l).length (restX W M s l)).1, (drainN W M t (restX W M s l).length (restX W M s l)).2) := by
  cases l with
  | nil => cases h
  | cons x l =>
    have hs2 : s = x.time + W := until_cons W s x l h
    have h1 := restX_len W M s x l hs2
    rw [List.length_cons, drainN_succ, h]
    simp only []
    rw [if_pos hs, drain_more W M t l.length (restX W M s (x :: l)).length _ h1 (Nat.le_refl _)]
theorem drain_stop (W M t : Int) (l : List Lk) (h : ∀ s, untilA W l = some s → t < s) : drainN W M t l.length l = ([], l) := by
  cases l with
  | nil => rfl
  | cons x l =>
    rw [List.length_cons]
    unfold drainN
    split
    · rfl
    · next s hs => rw [if_neg (by have := h s hs; omega)]
theorem until_some (W s : Int) (l : List Lk) (h : untilA W l = some s) : ∃ x, x ∈ l ∧ s = x.time + W ∧ 0 < l.length := by
  cases l with
  | nil => cases h
  | cons x l => exact ⟨x, by simp, until_cons W s x l h, by simp⟩
theorem rest_lt (W M s : Int) (l : List Lk) (h : untilA W l = some s) : (restX W M s l).length < l.length := by
  cases l with
  | nil => cases h
  | cons x l =>
    have hs2 : s = x.time + W := until_cons W s x l h
    have h1 := restX_len W M s x l hs2
    simp; omega
theorem hitA_same (e : Ev) (hk : e.kind ≠ 3) (x : Lk) : hitA e x = same x (ends e) := by unfold hitA; rw [if_neg hk]
theorem ins_pairwise {r : Lk → Lk → Prop} (n : Lk) (l : List Lk) (p : Nat) (hl : l.Pairwise r) (h1 : ∀ k a, l[k]? = some a → k < p → r a n) (h2 : ∀ k a, l[k]? = some a → p ≤ k → r n a) : (l.take p ++ n :: l.drop p).Pairwise r := by
  rw [List.pairwise_append]
  refine ⟨List.Pairwise.sublist (List.take_sublist _ _) hl, ?_, ?_⟩
  · rw [List.pairwise_cons]
    refine ⟨fun a ha => ?_, List.Pairwise.sublist (List.drop_sublist _ _) hl⟩
    obtain ⟨k, hk⟩ := List.getElem?_of_mem ha
    rw [List.getElem?_drop] at hk
    exact h2 _ a hk (by omega)
  · intro a ha b hb
    rcases List.mem_cons.1 hb with e | hb
    · subst e
      obtain ⟨k, hk⟩ := List.getElem?_of_mem ha
      rw [List.getElem?_take] at hk
      split at hk
      · next hlt => exact h1 k a hk hlt
      · cases hk
    · have := (List.take_append_drop p l) ▸ hl
      exact (List.pairwise_append.1 this).2.2 a ha b hb
theorem step_aged (l : List Lk) (e : Ev) (h : Aged l) : Aged (stepA l e) := by
  have hf : Aged (l.filter fun x => !hitA e x) := List.Pairwise.filter _ h
  unfold stepA
  split
  · next hk =>
    refine ins_pairwise _ _ _ hf (fun k a hka hlt => (posA_lt _ _ hf k a hka).2 hlt) (fun k a hka hle => ?_)
    have hm := List.mem_filter.1 (List.mem_of_getElem? hka)
    have hs : same a (ends e) = false := by have := hm.2; rw [hitA_same e (by omega)] at this; simpa using this
    rcases old_tri a (ends e) hs with h1 | h1
    · have := (posA_lt _ _ hf k a hka).1 h1; omega
    · exact h1
  · exact hf
theorem step_dist (l : List Lk) (e : Ev) (h : Dist l) : Dist (stepA l e) := by
  have hf : Dist (l.filter fun x => !hitA e x) := List.Pairwise.filter _ h
  unfold stepA
  split
  · next hk =>
    have hs : ∀ k a, (l.filter fun x => !hitA e x)[k]? = some a → same a (ends e) = false := fun k a hka => by
      have hm := List.mem_filter.1 (List.mem_of_getElem? hka)
      have := hm.2
      rw [hitA_same e (by omega)] at this
      simpa using this
    exact ins_pairwise _ _ _ hf (fun k a hka _ => hs k a hka) (fun k a hka _ => by rw [same_comm]; exact hs k a hka)
  · exact hf
/-- the first error of events, one after the other -/
def chkEv (n : Int) : Int → List Ev → Int
  | _, [] => 0
  | t, e :: l => if chkE e ≠ 0 then chkE e else if n ≤ e.u ∨ n ≤ e.v then 6 else if e.time < t then 9 else chkEv n e.time l
def chkSt (n : Int) (l : List Ev) : Int := if n < 0 ∨ 64 < n then 1 else if 65536 < l.length then 3 else chkEv n 0 l
/-- a stream that may happen -/
def OkEv (n : Int) (t : Int) (l : List Ev) : Prop := (∀ e ∈ l, Good n e ∧ t ≤ e.time) ∧ l.Pairwise fun a b => a.time ≤ b.time
theorem chkEv_ok (n t : Int) (l : List Ev) : chkEv n t l = 0 ↔ OkEv n t l := by
  induction l generalizing t with
  | nil => simp [chkEv, OkEv]
  | cons e l ih =>
    unfold chkEv
    by_cases h1 : chkE e = 0
    · rw [if_neg (by simpa using h1)]
      by_cases h2 : n ≤ e.u ∨ n ≤ e.v
      · rw [if_pos h2]
        constructor
        · intro h; exact absurd h (by decide)
        · rintro ⟨h, -⟩
          obtain ⟨⟨_, h3, h4⟩, _⟩ := h e (by simp)
          omega
      · rw [if_neg h2]
        by_cases h3 : e.time < t
        · rw [if_pos h3]
          constructor
          · intro h; exact absurd h (by decide)
          · rintro ⟨h, -⟩
            have := (h e (by simp)).2
            omega
        · rw [if_neg h3, ih]
          unfold OkEv
          constructor
          · rintro ⟨a1, a2⟩
            refine ⟨fun x hx => ?_, List.pairwise_cons.2 ⟨fun x hx => (a1 x hx).2, a2⟩⟩
            rcases List.mem_cons.1 hx with rfl | hx
            · exact ⟨⟨h1, by omega, by omega⟩, by omega⟩
            · have := a1 x hx; exact ⟨this.1, by omega⟩
          · rintro ⟨a1, a2⟩
            obtain ⟨b1, b2⟩ := List.pairwise_cons.1 a2
            exact ⟨fun x hx => ⟨(a1 x (by simp [hx])).1, b1 x hx⟩, b2⟩
    · rw [if_pos h1]
      constructor
      · intro h; exact absurd h h1
      · rintro ⟨h, -⟩; exact absurd (h e (by simp)).1.1 h1
end Ls
end Go.Proofs.YtfapfkaipdcflaaGreat

/-
  Mathematics of windows: what expires of a state, as the document says it, and of links by age.
-/
namespace Go.Proofs.YtfapfkaipdcflaaGreat
namespace Ls

theorem take_filter (p : Lk → Bool) (l : List Lk) (k : Nat) (h : ∀ i a, l[i]? = some a → (p a = true ↔ i < k)) : l.filter p = l.take k ∧ (l.filter fun x => !p x) = l.drop k := by
  induction l generalizing k with
  | nil => simp
  | cons x l ih =>
    have h0 := h 0 x rfl
    cases k with
    | zero =>
      have hx : p x = false := by cases hp : p x with | false => rfl | true => have := h0.1 hp; omega
      obtain ⟨i1, i2⟩ := ih 0 fun i a hi => (h (i + 1) a (by simpa using hi)).trans (by omega)
      refine ⟨?_, ?_⟩
      · rw [List.filter_cons, hx, if_neg (by decide)]; simpa using i1
      · rw [List.filter_cons, hx, if_pos (by decide), i2]; simp
    | succ k =>
      have hx : p x = true := h0.2 (by omega)
      obtain ⟨i1, i2⟩ := ih k fun i a hi => (h (i + 1) a (by simpa using hi)).trans (by omega)
      refine ⟨?_, ?_⟩
      · rw [List.filter_cons, hx, if_pos rfl, i1, List.take_succ_cons]
      · rw [List.filter_cons, hx, if_neg (by decide), i2, List.drop_succ_cons]
theorem later_at (l : List Lk) (h : Aged l) (i : Nat) (a : Lk) (hi : l[i]? = some a) : (l.filter (old a)).length = l.length - 1 - i := by
  induction l generalizing i with
  | nil => simp at hi
  | cons x l ih =>
    obtain ⟨h1, h2⟩ := List.pairwise_cons.1 h
    cases i with
    | zero =>
      simp at hi
      subst hi
      rw [List.filter_cons, old_irr, if_neg (by decide), List.filter_eq_self.2 fun y hy => h1 y hy]
      simp
    | succ i =>
      have hi' : l[i]? = some a := by simpa using hi
      rw [List.filter_cons, old_asymm _ _ (h1 a (List.mem_of_getElem? hi')), if_neg (by decide), ih h2 i hi']
      simp
      omega
/-- whether a link of a list is in a window of an extent, at a time -/
def inX (W M t : Int) (S : List Lk) (l : Lk) : Bool := decide (t - l.time < W) && decide (((S.filter (old l)).length : Int) < M)
theorem aged_split (W M t : Int) (hM : 0 ≤ M) (L : List Lk) (h : Aged L) : (L.filter fun x => !inX W M t L x) = L.take (outN W M t L) ∧ L.filter (inX W M t L) = L.drop (outN W M t L) := by
  have := take_filter (fun x => !inX W M t L x) L (outN W M t L) fun i a hi => by
    have hlt := (List.getElem?_eq_some_iff.1 hi).1
    have h1 := older_lt (t - W + 1) L h i a hi
    have h2 := later_at L h i a hi
    unfold inX outN
    rw [h2]
    simp only [Bool.not_eq_true', Bool.and_eq_false_iff, decide_eq_false_iff_not]
    omega
  refine ⟨this.1, ?_⟩
  have h2 := this.2
  simpa using h2
/-- the ends and the time of a link, all else 0 -/
def ek (l : Lk) : Lk := ⟨l.u, l.v, 0, 0, 0, l.time⟩
theorem old_ek (a b : Lk) : old (ek a) (ek b) = old a b := rfl
theorem before_ek (a b : Lk) : before (ek a) (ek b) = before a b := rfl
theorem same_ek (a b : Lk) : same (ek a) (ek b) = same a b := rfl
theorem cutE_ek (a : Lk) (t : Int) : cutE (ek a) t = cutE a t := rfl
theorem inX_ek (W M t : Int) (S : List Lk) (l : Lk) : inX W M t (S.map ek) (ek l) = inX W M t S l := by
  unfold inX
  have : ((S.map ek).filter (old (ek l))).length = (S.filter (old l)).length := by
    rw [List.filter_map, List.length_map]
    rfl
  rw [this]; rfl
theorem inX_perm (W M t : Int) (S T : List Lk) (h : S.Perm T) (l : Lk) : inX W M t S l = inX W M t T l := by
  unfold inX
  rw [(h.filter (old l)).length_eq]
/-- links by age that stand for a state -/
structure Rl (S L : List Lk) : Prop where
  aged : Aged L
  dist : Dist L
  perm : (L.map ek).Perm (S.map ek)
theorem map_in (W M t : Int) (S : List Lk) (b : Bool) : (S.filter fun x => inX W M t S x == b).map ek = (S.map ek).filter fun x => inX W M t (S.map ek) x == b := by
  rw [List.filter_map]
  congr 1
  apply List.filter_congr
  intro x _
  show _ = (inX W M t (S.map ek) (ek x) == b)
  rw [inX_ek]
theorem perm_in (W M t : Int) (S L : List Lk) (h : (L.map ek).Perm (S.map ek)) (b : Bool) : ((L.filter fun x => inX W M t L x == b).map ek).Perm ((S.filter fun x => inX W M t S x == b).map ek) := by
  rw [map_in, map_in]
  have : ((L.map ek).filter fun x => inX W M t (L.map ek) x == b) = (L.map ek).filter fun x => inX W M t (S.map ek) x == b := List.filter_congr fun x _ => by rw [inX_perm W M t _ _ h]
  rw [this]
  exact h.filter _
/-- what expires of a state: the cuts; what is present -/
def expS (W M t : Int) (S : List Lk) : List Ev := (S.filter fun x => !inX W M t S x).map fun x => cutE x t
def keepS (W M t : Int) (S : List Lk) : List Lk := S.filter (inX W M t S)
theorem beq_false (S : List Lk) (p : Lk → Bool) : (S.filter fun x => p x == false) = S.filter fun x => !p x := List.filter_congr fun x _ => by cases p x <;> rfl
theorem beq_true (S : List Lk) (p : Lk → Bool) : (S.filter fun x => p x == true) = S.filter p := List.filter_congr fun x _ => by cases p x <;> rfl
theorem asc_map_ek {l : List Lk} (h : Asc l) : Asc (l.map ek) := by
  unfold Asc
  rw [List.pairwise_map]
  exact h
theorem cuts_eq_exp (W M t : Int) (hM : 0 ≤ M) (S L : List Lk) (hS : Asc S) (h : Rl S L) : cutsX W M t L = expS W M t S := by
  obtain ⟨h1, -⟩ := aged_split W M t hM L h.aged
  unfold cutsX expS
  rw [← h1]
  have hd : Dist (L.filter fun x => !inX W M t L x) := List.Pairwise.filter _ h.dist
  have key : (sortL (L.filter fun x => !inX W M t L x)).map ek = (S.filter fun x => !inX W M t S x).map ek := by
    refine asc_unique _ _ (asc_map_ek (asc_sortL _)) (asc_map_ek (asc_filter _ _ hS)) fun x => ?_
    have hp := perm_in W M t S L h.perm false
    rw [beq_false, beq_false] at hp
    rw [← hp.mem_iff, List.mem_map, List.mem_map]
    simp only [mem_sortL _ hd]
  have e : ∀ l : List Lk, (l.map fun x => cutE x t) = (l.map ek).map fun x => cutE x t := fun l => by rw [List.map_map]; rfl
  rw [e (sortL _), key, ← e]
theorem rest_rl (W M t : Int) (hM : 0 ≤ M) (S L : List Lk) (h : Rl S L) : Rl (keepS W M t S) (restX W M t L) := by
  obtain ⟨-, h2⟩ := aged_split W M t hM L h.aged
  refine ⟨h.aged.sublist (rest_sub _ _ _ _), h.dist.sublist (rest_sub _ _ _ _), ?_⟩
  unfold restX keepS
  rw [← h2]
  have hp := perm_in W M t S L h.perm true
  rwa [beq_true, beq_true] at hp
theorem rl_perm {S L : List Lk} (ha : Aged L) (hS : Asc S) (hp : L.Perm S) : Rl S L :=
  ⟨ha, (hp.pairwise_iff (fun {a b} h => by rw [same_comm]; exact h)).2 (asc_dist hS), hp.map ek⟩
/-- the error of a time for a state -/
def chkT (t : Int) (l : List Lk) : Int := if t < 0 ∨ 1048576 < t then 9 else if l.any (fun x => decide (t < x.time)) = true then 9 else 0
/-- what Expired does to a state, and All of it -/
theorem all_exp (W M t : Int) (n : Int) (S : List Lk) (hS : V n S) : runL S (expS W M t S) = keepS W M t S ∧ numL S (expS W M t S) = (S.filter fun x => !inX W M t S x).length := by
  obtain ⟨h1, h2⟩ := run_cuts (S.filter fun x => !inX W M t S x) S t hS.2.2.1 ((asc_filter _ _ hS.2.2.1).imp fun h => before_not_same _ _ h) (fun x hx => ⟨(List.mem_filter.1 hx).1, valid_lt hS x (List.mem_filter.1 hx).1⟩)
  refine ⟨?_, h2⟩
  have := cuts_filter (fun x => !inX W M t S x) S hS.2.2.1
  rw [this] at h1
  rw [show keepS W M t S = S.filter fun x => !(!inX W M t S x) from List.filter_congr fun x _ => by simp]
  exact h1
theorem exp_good (W M t : Int) (ht : 0 ≤ t ∧ t ≤ 1048576) (n : Int) (S : List Lk) (hS : V n S) : ∀ e ∈ expS W M t S, Good n e ∧ e.time = t ∧ e.kind = 2 := by
  intro e he
  obtain ⟨x, hx, rfl⟩ := List.mem_map.1 he
  obtain ⟨p0, p1, p2, -, -, -⟩ := chkLk_parts (hS.2.2.2 x (List.mem_filter.1 hx).1)
  have hn : n ≤ 64 := hS.2.1
  refine ⟨⟨?_, by show x.u < n; omega, p2⟩, rfl, rfl⟩
  unfold chkE
  rw [if_neg (by simp [cutE]), if_neg (by show ¬ (t < 0 ∨ 1048576 < t); omega), if_neg, if_neg]
  · simp [attrB, cutE]
  · unfold nodesB
    rw [if_neg (by simp [cutE])]
    have o1 : okN x.u = true := by simp [okN]; omega
    have o2 : okN x.v = true := by simp [okN]; omega
    have o3 : decide (x.u = x.v) = false := by simp; omega
    show ¬ ((okN x.u && okN x.v && !decide (x.u = x.v)) = false)
    rw [o1, o2, o3]; decide
end Ls
end Go.Proofs.YtfapfkaipdcflaaGreat

/-
  Mathematics of windows: a stream with its cuts, done to a state.
-/
namespace Go.Proofs.YtfapfkaipdcflaaGreat
namespace Ls

theorem run_append (l : List Lk) (a b : List Ev) : runL l (a ++ b) = runL (runL l a) b := List.foldl_append
theorem run_cons (l : List Lk) (e : Ev) (b : List Ev) : runL l (e :: b) = runL (nextL l e) b := rfl
theorem put_perm (n : Lk) (l : List Lk) (h : Asc l) : (put n l).Perm (n :: l.filter fun x => !same x n) := by
  induction l with
  | nil => exact .refl _
  | cons a l ih =>
    have h1 : ∀ y ∈ l, before a y = true := (List.pairwise_cons.1 h).1
    have h2 : Asc l := (List.pairwise_cons.1 h).2
    unfold put
    split
    · next hb =>
      have : ∀ y ∈ a :: l, (!same y n) = true := fun y hy => by
        rcases List.mem_cons.1 hy with e | hy
        · subst e; rw [before_not_same' _ _ hb]; rfl
        · rw [before_not_same' _ _ (before_trans _ _ _ hb (h1 y hy))]; rfl
      rw [List.filter_eq_self.2 this]
    · split
      · next hs =>
        have : ∀ y ∈ l, (!same y n) = true := fun y hy => by
          have := before_not_same' _ _ (h1 y hy)
          rw [same_comm, same_trans a n y hs] at this
          rw [same_comm, this]; rfl
        rw [List.filter_cons, hs, if_neg (by decide), List.filter_eq_self.2 this]
      · next hb hs =>
        have : same a n = false := by simpa using hs
        rw [List.filter_cons, this, if_pos (show (!false) = true from rfl)]
        exact ((ih h2).cons a).trans (.swap _ _ _)
theorem len_next (l : List Lk) (e : Ev) (h : Asc l) : (nextL l e).length ≤ l.length + 1 := by
  unfold nextL
  split
  · rw [(put_perm _ _ h).length_eq, List.length_cons]
    have := List.length_filter_le (fun x => !same x (lk e)) l
    omega
  · have := List.length_filter_le (fun x => !hit e x) l
    omega
theorem run_len (es : List Ev) (l : List Lk) (h : Asc l) : (runL l es).length ≤ l.length + es.length := by
  induction es generalizing l with
  | nil => exact Nat.le_refl _
  | cons e es ih =>
    have h1 := len_next l e h
    have h2 : Asc (nextL l e) := by
      unfold nextL
      split
      · exact asc_put _ _ h
      · exact asc_filter _ _ h
    have h3 := ih _ h2
    rw [run_cons, List.length_cons]
    omega
theorem map_same (L : List Lk) (n : Lk) : (L.filter fun x => !same x n).map ek = (L.map ek).filter fun x => !same x n := by
  rw [List.filter_map]; rfl
theorem map_has (L : List Lk) (u : Int) : (L.filter fun x => !has u x).map ek = (L.map ek).filter fun x => !has u x := by
  rw [List.filter_map]; rfl
theorem step_rl {S L : List Lk} (h : Rl S L) (hS : Asc S) (e : Ev) (hk : e.kind = 1 ∨ e.kind = 2 ∨ e.kind = 3) : Rl (nextL S e) (stepA L e) := by
  refine ⟨step_aged _ _ h.aged, step_dist _ _ h.dist, ?_⟩
  have hs : ((L.filter fun x => !same x (ends e)).map ek).Perm ((S.filter fun x => !same x (lk e)).map ek) := by
    rw [map_same, map_same]
    exact h.perm.filter _
  by_cases h1 : e.kind = 1
  · have f : (L.filter fun x => !hitA e x) = L.filter fun x => !same x (ends e) := List.filter_congr fun x _ => by rw [hitA_same e (by omega)]
    have e1 : stepA L e = (L.filter fun x => !hitA e x).take (posA (ends e) (L.filter fun x => !hitA e x)) ++ ends e :: (L.filter fun x => !hitA e x).drop (posA (ends e) (L.filter fun x => !hitA e x)) := by unfold stepA; rw [if_pos h1]
    have e2 : nextL S e = put (lk e) S := by unfold nextL; rw [if_pos h1]
    rw [e1, e2, f]
    have p1 := (List.perm_middle (a := ends e) (l₁ := (L.filter fun x => !same x (ends e)).take (posA (ends e) (L.filter fun x => !same x (ends e)))) (l₂ := (L.filter fun x => !same x (ends e)).drop (posA (ends e) (L.filter fun x => !same x (ends e))))).map ek
    rw [List.take_append_drop] at p1
    exact p1.trans ((hs.cons (ends e)).trans ((put_perm (lk e) S hS).map ek).symm)
  · have e1 : stepA L e = L.filter fun x => !hitA e x := by unfold stepA; rw [if_neg h1]
    have e2 : nextL S e = S.filter fun x => !hit e x := by unfold nextL; rw [if_neg h1]
    rw [e1, e2]
    by_cases h3 : e.kind = 3
    · have f : (L.filter fun x => !hitA e x) = L.filter fun x => !has e.u x := List.filter_congr fun x _ => by unfold hitA; rw [if_pos h3]
      have g : (S.filter fun x => !hit e x) = S.filter fun x => !has e.u x := List.filter_congr fun x _ => by unfold hit; rw [if_neg (by omega)]
      rw [f, g, map_has, map_has]
      exact h.perm.filter _
    · have f : (L.filter fun x => !hitA e x) = L.filter fun x => !same x (ends e) := List.filter_congr fun x _ => by rw [hitA_same e (by omega)]
      have g : (S.filter fun x => !hit e x) = S.filter fun x => !same x (lk e) := List.filter_congr fun x _ => by unfold hit; rw [if_pos (by omega)]
      rw [f, g]
      exact hs
/-- links by age behind events -/
def endA (W M : Int) : List Lk → List Ev → List Lk
  | l, [] => l
  | l, e :: es => endA W M (restX W M e.time (stepA (drainN W M e.time l.length l).2 e)) es
theorem slideA_cons (W M : Int) (l : List Lk) (e : Ev) (es : List Ev) : slideA W M l (e :: es) = (drainN W M e.time l.length l).1 ++ e :: cutsX W M e.time (stepA (drainN W M e.time l.length l).2 e) ++ slideA W M (restX W M e.time (stepA (drainN W M e.time l.length l).2 e)) es := rfl
theorem slide_append (W M : Int) (a b : List Ev) (l : List Lk) : slideA W M l (a ++ b) = slideA W M l a ++ slideA W M (endA W M l a) b := by
  induction a generalizing l with
  | nil => rfl
  | cons e a ih =>
    rw [List.cons_append, slideA_cons, slideA_cons, ih]
    exact (List.append_assoc _ _ _).symm
theorem step_lenA (l : List Lk) (e : Ev) : (stepA l e).length ≤ l.length + 1 := by
  have h := List.length_filter_le (fun x => !hitA e x) l
  unfold stepA
  split
  · rw [List.length_append, List.length_cons, List.length_take, List.length_drop]
    omega
  · omega
theorem slide_len (W M : Int) (es : List Ev) (l : List Lk) : (slideA W M l es).length ≤ l.length + 2 * es.length := by
  induction es generalizing l with
  | nil => simp [slideA]
  | cons e es ih =>
    have h1 := drain_len W M e.time l.length l
    have h2 := step_lenA (drainN W M e.time l.length l).2 e
    have h3 := cuts_len W M e.time (stepA (drainN W M e.time l.length l).2 e)
    have h4 := ih (restX W M e.time (stepA (drainN W M e.time l.length l).2 e))
    rw [slideA_cons]
    simp only [List.length_append, List.length_cons]
    omega
/-- whether a link is in a window by age -/
def inW (W t : Int) (l : Lk) : Bool := decide (t - l.time < W)
theorem keep_age (W M t : Int) (S : List Lk) (hM : (S.length : Int) ≤ M) : keepS W M t S = S.filter (inW W t) := by
  unfold keepS
  refine List.filter_congr fun x hx => ?_
  unfold inX inW
  have : (S.filter (old x)).length < S.length := by
    have h1 := List.length_filter_le (old x) S
    rcases Nat.lt_or_ge (S.filter (old x)).length S.length with h | h
    · exact h
    · have := List.length_filter_eq_length_iff.1 (Nat.le_antisymm h1 h) x hx
      rw [old_irr] at this; cases this
  rw [show decide (((S.filter (old x)).length : Int) < M) = true from decide_eq_true (by omega), Bool.and_true]
theorem rl_mem {S L : List Lk} (h : Rl S L) {x : Lk} (hx : x ∈ L) : ∃ y ∈ S, y.time = x.time := by
  have := h.perm.mem_iff.1 (List.mem_map_of_mem hx)
  obtain ⟨y, hy, he⟩ := List.mem_map.1 this
  exact ⟨y, hy, by have := congrArg Lk.time he; exact this⟩
theorem rl_mem' {S L : List Lk} (h : Rl S L) {x : Lk} (hx : x ∈ S) : ∃ y ∈ L, y.time = x.time := by
  have := h.perm.mem_iff.2 (List.mem_map_of_mem hx)
  obtain ⟨y, hy, he⟩ := List.mem_map.1 this
  exact ⟨y, hy, by have := congrArg Lk.time he; exact this⟩
theorem rl_len {S L : List Lk} (h : Rl S L) : L.length = S.length := by
  have := h.perm.length_eq
  simpa using this
theorem rl_nil : Rl [] [] := ⟨List.Pairwise.nil, List.Pairwise.nil, .refl _⟩
theorem filter_valid {n : Int} {S : List Lk} (h : V n S) (p : Lk → Bool) : V n (S.filter p) := ⟨h.1, h.2.1, asc_filter _ _ h.2.2.1, fun x hx => h.2.2.2 x (List.mem_filter.1 hx).1⟩
/-- events whose times do not descend, from a time on -/
def Rises (n lo hi : Int) (l : List Ev) : Prop := (∀ e ∈ l, Good n e ∧ lo ≤ e.time ∧ e.time ≤ hi) ∧ l.Pairwise fun a b => a.time ≤ b.time
theorem Rises.append {n a b c d : Int} {k l : List Ev} (h : Rises n a b k) (g : Rises n c d l) (h1 : a ≤ c) (h2 : b ≤ c) (h3 : b ≤ d) : Rises n a d (k ++ l) := by
  refine ⟨fun e he => ?_, List.pairwise_append.2 ⟨h.2, g.2, fun x hx y hy => ?_⟩⟩
  · rcases List.mem_append.1 he with he | he
    · have := h.1 e he; exact ⟨this.1, this.2.1, by omega⟩
    · have := g.1 e he; exact ⟨this.1, by omega, this.2.2⟩
  · have := (h.1 x hx).2; have := (g.1 y hy).2; omega
theorem Rises.nil (n a b : Int) : Rises n a b [] := ⟨fun _ h => (by cases h), List.Pairwise.nil⟩
theorem exp_rises (W M t : Int) (ht : 0 ≤ t ∧ t ≤ 1048576) (n : Int) (S : List Lk) (hS : V n S) : Rises n t t (expS W M t S) := by
  have h := exp_good W M t ht n S hS
  refine ⟨fun e he => ⟨(h e he).1, by have := (h e he).2.1; omega, by have := (h e he).2.1; omega⟩, ?_⟩
  have h1 : ∀ e ∈ expS W M t S, e.time = t := fun e he => (h e he).2.1
  revert h1
  generalize expS W M t S = l
  intro h1
  induction l with
  | nil => exact List.Pairwise.nil
  | cons a l ih =>
    refine List.pairwise_cons.2 ⟨fun b hb => ?_, ih fun e he => h1 e (by simp [he])⟩
    have := h1 a (by simp)
    have := h1 b (by simp [hb])
    omega
theorem drain_age (W M t n : Int) (hW : 1 ≤ W) (hW2 : W ≤ 1048576) (ht : t ≤ 1048576) : ∀ (k : Nat) (S L : List Lk) (lo : Int), L.length ≤ k → Rl S L → V n S → (L.length : Int) ≤ M → 0 ≤ M → (∀ x ∈ L, lo ≤ x.time + W) →
    runL S (drainN W M t k L).1 = S.filter (inW W t) ∧ Rl (S.filter (inW W t)) (drainN W M t k L).2 ∧ Rises n lo t (drainN W M t k L).1 := by
  intro k
  induction k with
  | zero =>
    intro S L lo hk h hS hL hM hlo
    have h0 : L = [] := List.length_eq_zero_iff.1 (by omega)
    have h1 : S = [] := List.length_eq_zero_iff.1 (by rw [← rl_len h, h0]; rfl)
    subst h0; subst h1
    exact ⟨rfl, rl_nil, .nil _ _ _⟩
  | succ k ih =>
    intro S L lo hk h hS hL hM hlo
    cases L with
    | nil =>
      have h1 : S = [] := List.length_eq_zero_iff.1 (by rw [← rl_len h]; rfl)
      subst h1
      exact ⟨rfl, rl_nil, .nil _ _ _⟩
    | cons x l =>
      have hx0 := List.pairwise_cons.1 h.aged
      have hmin : ∀ y ∈ S, x.time ≤ y.time := fun y hy => by
        obtain ⟨z, hz, e⟩ := rl_mem' h hy
        rcases List.mem_cons.1 hz with rfl | hz
        · omega
        · have := old_time _ _ (hx0.1 z hz); omega
      have hminL : ∀ y ∈ x :: l, x.time ≤ y.time := fun y hy => by
        rcases List.mem_cons.1 hy with rfl | hz
        · omega
        · have := old_time _ _ (hx0.1 y hz); omega
      have hu : untilA W (x :: l) = some (x.time + W) := if_neg (by omega)
      rw [drainN_succ, hu]
      simp only []
      by_cases hs : x.time + W ≤ t
      · rw [if_pos hs]
        obtain ⟨y, hy, ey⟩ := rl_mem h (show x ∈ x :: l by simp)
        have hy2 := (chkLk_parts (hS.2.2.2 y hy)).2.2.2.2
        have hlen : (S.length : Int) ≤ M := by rw [← rl_len h]; exact hL
        have c1 := cuts_eq_exp W M (x.time + W) hM S _ hS.2.2.1 h
        have c2 := rest_rl W M (x.time + W) hM S _ h
        have c3 := (all_exp W M (x.time + W) n S hS).1
        have c4 := keep_age W M (x.time + W) S hlen
        have c5 := restX_len W M (x.time + W) x l rfl
        have c6 := exp_rises W M (x.time + W) (by omega) n S hS
        rw [c4] at c2 c3
        obtain ⟨i1, i2, i3⟩ := ih (S.filter (inW W (x.time + W))) (restX W M (x.time + W) (x :: l)) (x.time + W) (by simp at hk; omega) c2 (filter_valid hS _) (by
          have := (rest_sub W M (x.time + W) (x :: l)).length_le
          omega) hM (fun z hz => by
          have := hminL z ((rest_sub W M (x.time + W) (x :: l)).subset hz)
          omega)
        have hf : (S.filter (inW W (x.time + W))).filter (inW W t) = S.filter (inW W t) := by
          rw [List.filter_filter]
          refine List.filter_congr fun z _ => ?_
          unfold inW
          by_cases hz : t - z.time < W
          · rw [decide_eq_true hz, decide_eq_true (show x.time + W - z.time < W by omega)]; rfl
          · rw [decide_eq_false hz]; rfl
        rw [hf] at i1 i2
        refine ⟨?_, i2, ?_⟩
        · show runL S (_ ++ _) = _
          rw [run_append, c1, c3, i1]
        · show Rises n lo t (_ ++ _)
          rw [c1]
          have := hlo x (by simp)
          have h2 : Rises n lo (x.time + W) (expS W M (x.time + W) S) := ⟨fun e he => ⟨(c6.1 e he).1, by have := (c6.1 e he).2; omega, (c6.1 e he).2.2⟩, c6.2⟩
          exact h2.append i3 (by omega) (by omega) hs
      · rw [if_neg hs]
        have hf : S.filter (inW W t) = S := List.filter_eq_self.2 fun z hz => decide_eq_true (by have := hmin z hz; omega)
        rw [hf]
        exact ⟨rfl, h, .nil _ _ _⟩
theorem put_filter (n : Lk) (p : Lk → Bool) (hp : p n = true) (U : List Lk) (hU : Asc U) : put n (U.filter p) = (put n U).filter p := by
  refine asc_unique _ _ (asc_put _ _ (asc_filter _ _ hU)) (asc_filter _ _ (asc_put _ _ hU)) fun x => ?_
  rw [mem_put_iff _ _ _ (asc_filter _ _ hU), List.mem_filter, List.mem_filter, mem_put_iff _ _ _ hU]
  constructor
  · rintro (rfl | ⟨⟨h1, h2⟩, h3⟩)
    · exact ⟨.inl rfl, hp⟩
    · exact ⟨.inr ⟨h1, h3⟩, h2⟩
  · rintro ⟨rfl | ⟨h1, h3⟩, h2⟩
    · exact .inl rfl
    · exact .inr ⟨⟨h1, h2⟩, h3⟩
theorem next_filter (W : Int) (hW : 1 ≤ W) (e : Ev) (U : List Lk) (hU : Asc U) : nextL (U.filter (inW W e.time)) e = (nextL U e).filter (inW W e.time) := by
  unfold nextL
  split
  · exact put_filter _ _ (decide_eq_true (by show e.time - e.time < W; omega)) U hU
  · rw [List.filter_filter, List.filter_filter]
    exact List.filter_congr fun x _ => Bool.and_comm _ _
/-- the time of the last event -/
def lastT : Int → List Ev → Int
  | t, [] => t
  | _, e :: es => lastT e.time es
theorem lastT_last (t : Int) (l : List Ev) (e : Ev) (h : l[l.length - 1]? = some e) : lastT t l = e.time := by
  induction l generalizing t with
  | nil => simp at h
  | cons a l ih =>
    cases l with
    | nil => simp at h; subst h; rfl
    | cons b l => exact ih a.time (by simpa using h)
theorem next_time (S : List Lk) (e : Ev) (t : Int) (h : ∀ x ∈ S, x.time ≤ t) (he : t ≤ e.time) : ∀ x ∈ nextL S e, x.time ≤ e.time := by
  intro x hx
  unfold nextL at hx
  split at hx
  · rcases mem_put _ _ _ hx with rfl | hx
    · exact Int.le_refl _
    · have := h x hx; omega
  · have := h x (List.mem_filter.1 hx).1; omega
/-- a stream that slides by age -/
theorem slide_age (W M n : Int) (hW : 1 ≤ W) (hW2 : W ≤ 1048576) (hM : 0 ≤ M) : ∀ (es : List Ev) (U L : List Lk) (t : Int), Rl (U.filter (inW W t)) L → V n U → OkEv n t es → (U.length : Int) + es.length ≤ M → (∀ x ∈ U, x.time ≤ t) →
    runL (U.filter (inW W t)) (slideA W M L es) = (runL U es).filter (inW W (lastT t es)) ∧ (∀ x ∈ runL U es, x.time ≤ lastT t es) ∧ Rises n t (lastT t es) (slideA W M L es) ∧ V n (runL U es) ∧ t ≤ lastT t es := by
  intro es
  induction es with
  | nil => intro U L t h hV ho hl ht; exact ⟨rfl, ht, .nil _ _ _, hV, Int.le_refl _⟩
  | cons e es ih =>
    intro U L t h hV ho hl ht
    obtain ⟨ho1, ho2⟩ := ho
    obtain ⟨hg, hte⟩ := ho1 e (by simp)
    obtain ⟨p1, p2⟩ := List.pairwise_cons.1 ho2
    have gt := (good_kind hg).2
    have hlU := List.length_filter_le (inW W t) U
    have hLS := rl_len h
    simp only [List.length_cons] at hl
    have hL : (L.length : Int) ≤ M := by rw [hLS]; omega
    obtain ⟨d1, d2, d3⟩ := drain_age W M e.time n hW hW2 gt.2.1 L.length (U.filter (inW W t)) L t (Nat.le_refl _) h (filter_valid hV _) hL hM (fun x hx => by
      obtain ⟨y, hy, ey⟩ := rl_mem h hx
      have := (List.mem_filter.1 hy).2
      simp [inW] at this
      omega)
    have hf : (U.filter (inW W t)).filter (inW W e.time) = U.filter (inW W e.time) := by
      rw [List.filter_filter]
      refine List.filter_congr fun z _ => ?_
      unfold inW
      by_cases hz : e.time - z.time < W
      · rw [decide_eq_true hz, decide_eq_true (show t - z.time < W by omega)]; rfl
      · rw [decide_eq_false hz]; rfl
    rw [hf] at d1 d2
    have s1 := step_rl d2 (asc_filter _ _ hV.2.2.1) e (good_kind hg).1
    rw [next_filter W hW e U hV.2.2.1] at s1
    have hVn := next_valid hV hg
    have hVf : V n ((nextL U e).filter (inW W e.time)) := filter_valid hVn _
    have hln := len_next U e hV.2.2.1
    have hlf := List.length_filter_le (inW W e.time) (nextL U e)
    have c1 := cuts_eq_exp W M e.time hM _ _ hVf.2.2.1 s1
    have c2 := rest_rl W M e.time hM _ _ s1
    have c3 := (all_exp W M e.time n _ hVf).1
    have c4 := keep_age W M e.time ((nextL U e).filter (inW W e.time)) (by omega)
    have c6 := exp_rises W M e.time (by omega) n _ hVf
    have hff : ((nextL U e).filter (inW W e.time)).filter (inW W e.time) = (nextL U e).filter (inW W e.time) := by
      rw [List.filter_filter]
      exact List.filter_congr fun z _ => Bool.and_self _
    rw [c4, hff] at c2 c3
    obtain ⟨i1, i2, i3, i4, i5⟩ := ih (nextL U e) _ e.time c2 hVn ⟨fun x hx => ⟨(ho1 x (by simp [hx])).1, p1 x hx⟩, p2⟩ (by omega) (next_time U e t ht hte)
    refine ⟨?_, i2, ?_, i4, by show t ≤ lastT e.time es; omega⟩
    · rw [slideA_cons, run_append, run_append, d1, run_cons, next_filter W hW e U hV.2.2.1, c1, c3]
      exact i1
    · rw [slideA_cons, c1]
      have r1 : Rises n e.time e.time (e :: expS W M e.time ((nextL U e).filter (inW W e.time))) := by
        refine ⟨fun x hx => ?_, List.pairwise_cons.2 ⟨fun x hx => (c6.1 x hx).2.1, c6.2⟩⟩
        rcases List.mem_cons.1 hx with rfl | hx
        · exact ⟨hg, Int.le_refl _, Int.le_refl _⟩
        · exact c6.1 x hx
      exact (d3.append r1 (by omega) (by omega) (by omega)).append i3 (by omega) (by omega) i5
end Ls
end Go.Proofs.YtfapfkaipdcflaaGreat

/-
  Mathematics of windows: a stream that slides by number.
-/
namespace Go.Proofs.YtfapfkaipdcflaaGreat
namespace Ls

/-- the state behind an event of a stream that slides by number -/
def stateC (M : Int) (S : List Lk) (e : Ev) : List Lk := keepS 1048577 M e.time (nextL S e)
def stC (M : Int) (S : List Lk) (es : List Ev) : List Lk := es.foldl (stateC M) S
theorem keep_len (W M t : Int) (hM : 0 ≤ M) (S L : List Lk) (h : Rl S L) : ((keepS W M t S).length : Int) ≤ M := by
  have h1 := rl_len (rest_rl W M t hM S L h)
  have h2 : (restX W M t L).length = L.length - outN W M t L := List.length_drop
  have h3 : L.length - M.toNat ≤ outN W M t L := by unfold outN; omega
  omega
theorem drain_count (M t : Int) (L : List Lk) : drainN 1048577 M t L.length L = ([], L) :=
  drain_stop _ _ _ _ fun s hs => by
    cases L with
    | nil => cases hs
    | cons x l => have : (none : Option Int) = some s := hs; cases this
theorem slide_count (M n : Int) (hM : 0 ≤ M) : ∀ (es : List Ev) (S L : List Lk), Rl S L → V n S → (∀ e ∈ es, Good n e) →
    runL S (slideA 1048577 M L es) = stC M S es ∧ Rl (stC M S es) (endA 1048577 M L es) ∧ V n (stC M S es) ∧ ∀ e ∈ slideA 1048577 M L es, Good n e := by
  intro es
  induction es with
  | nil => intro S L h hV _; exact ⟨rfl, h, hV, fun _ h => (by cases h)⟩
  | cons e es ih =>
    intro S L h hV hg
    have g := hg e (by simp)
    have gt := (good_kind g).2
    have s1 := step_rl h hV.2.2.1 e (good_kind g).1
    have hVn := next_valid hV g
    have c1 := cuts_eq_exp 1048577 M e.time hM _ _ hVn.2.2.1 s1
    have c2 := rest_rl 1048577 M e.time hM _ _ s1
    have c3 := (all_exp 1048577 M e.time n _ hVn).1
    have c6 := exp_good 1048577 M e.time ⟨gt.1, gt.2.1⟩ n _ hVn
    obtain ⟨i1, i2, i3, i4⟩ := ih (stateC M S e) _ c2 (filter_valid hVn _) fun x hx => hg x (by simp [hx])
    have ed := drain_count M e.time L
    have es1 : slideA 1048577 M L (e :: es) = e :: expS 1048577 M e.time (nextL S e) ++ slideA 1048577 M (restX 1048577 M e.time (stepA L e)) es := by
      rw [slideA_cons, ed, c1]; rfl
    refine ⟨?_, ?_, i3, ?_⟩
    · rw [es1, List.cons_append, run_cons, run_append, c3]
      exact i1
    · show Rl _ (endA 1048577 M (restX 1048577 M e.time (stepA (drainN 1048577 M e.time L.length L).2 e)) es)
      rw [ed]
      exact i2
    · rw [es1]
      intro x hx
      rcases List.mem_append.1 hx with hx | hx
      · rcases List.mem_cons.1 hx with rfl | hx
        · exact g
        · exact (c6 x hx).1
      · exact i4 x hx
theorem mem_stC (M : Int) (es : List Ev) (S : List Lk) (x : Lk) (h : x ∈ stC M S es) : x ∈ S ∨ ∃ e ∈ es, x.time = e.time := by
  induction es generalizing S with
  | nil => exact .inl h
  | cons e es ih =>
    rcases ih (stateC M S e) h with h | ⟨a, ha, h⟩
    · have h1 := (List.mem_filter.1 h).1
      unfold nextL at h1
      split at h1
      · rcases mem_put _ _ _ h1 with rfl | h1
        · exact .inr ⟨e, by simp, rfl⟩
        · exact .inl h1
      · exact .inl (List.mem_filter.1 h1).1
    · exact .inr ⟨a, by simp [ha], h⟩
theorem stC_succ (M : Int) (l : List Ev) (i : Nat) (e : Ev) (h : l[i]? = some e) : stC M [] (l.take (i + 1)) = stateC M (stC M [] (l.take i)) e := by
  unfold stC
  rw [List.take_add_one, h]
  exact List.foldl_append
theorem stC_len (M n : Int) (hM : 0 ≤ M) (l : List Ev) (hn : 0 ≤ n ∧ n ≤ 64) (hg : ∀ e ∈ l, Good n e) (i : Nat) : ((stC M [] (l.take i)).length : Int) ≤ M := by
  cases i with
  | zero => simpa [stC] using hM
  | succ i =>
    rcases Nat.lt_or_ge i l.length with h | h
    · have he := List.getElem?_eq_getElem h
      rw [stC_succ M l i _ he]
      have hg' : ∀ e ∈ l.take i, Good n e := fun e he => hg e (List.mem_of_mem_take he)
      obtain ⟨-, h2, h3, -⟩ := slide_count M n hM (l.take i) [] [] rl_nil ⟨hn.1, hn.2, List.Pairwise.nil, fun _ h => (by cases h)⟩ hg'
      exact keep_len _ _ _ hM _ _ (step_rl h2 h3.2.2.1 _ (good_kind (hg _ (List.mem_of_getElem? he))).1)
    · have e1 : l.take (i + 1) = l := List.take_of_length_le (by omega)
      rw [e1]
      rcases List.eq_nil_or_concat l with h0 | ⟨k, e, h0⟩
      · subst h0; simpa [stC] using hM
      · subst h0
        have hg' : ∀ e ∈ k, Good n e := fun e he => hg e (by simp [he])
        obtain ⟨-, h2, h3, -⟩ := slide_count M n hM k [] [] rl_nil ⟨hn.1, hn.2, List.Pairwise.nil, fun _ h => (by cases h)⟩ hg'
        have e2 : stC M [] (k.concat e) = stateC M (stC M [] k) e := by unfold stC; simp
        rw [e2]
        exact keep_len _ _ _ hM _ _ (step_rl h2 h3.2.2.1 _ (good_kind (hg _ (by simp))).1)
theorem slide_prefix (M : Int) (l : List Ev) (i : Nat) : (slideA 1048577 M [] l).take (slideA 1048577 M [] (l.take i)).length = slideA 1048577 M [] (l.take i) ∧ (slideA 1048577 M [] (l.take i)).length ≤ (slideA 1048577 M [] l).length := by
  have h := slide_append 1048577 M (l.take i) (l.drop i) []
  rw [List.take_append_drop] at h
  rw [h]
  exact ⟨List.take_left, by simp⟩
theorem chkT_zero (t : Int) (l : List Lk) (ht : 0 ≤ t ∧ t ≤ 1048576) (h : ∀ x ∈ l, x.time ≤ t) : chkT t l = 0 := by
  unfold chkT
  rw [if_neg (by omega), if_neg]
  rw [List.any_eq_true]
  rintro ⟨x, hx, h2⟩
  have := h x hx
  simp at h2
  omega
theorem count_time (M n : Int) (l : List Ev) (ho : OkEv n 0 l) (i : Nat) (e : Ev) (h : l[i]? = some e) : chkT e.time (nextL (stC M [] (l.take i)) e) = 0 := by
  have hi := (List.getElem?_eq_some_iff.1 h).1
  have hg := (good_kind (ho.1 e (List.mem_of_getElem? h)).1).2
  refine chkT_zero _ _ ⟨hg.1, hg.2.1⟩ (next_time _ e e.time (fun x hx => ?_) (Int.le_refl _))
  rcases mem_stC M (l.take i) [] x hx with hx | ⟨a, ha, hx⟩
  · cases hx
  · rw [hx]
    have h2 := List.pairwise_append.1 ((List.take_append_drop i l).symm ▸ ho.2)
    refine h2.2.2 a ha e ?_
    have : l.drop i = e :: l.drop (i + 1) := by
      obtain ⟨hk, rfl⟩ := List.getElem?_eq_some_iff.1 h
      exact List.drop_eq_getElem_cons hk
    rw [this]; simp
end Ls
end Go.Proofs.YtfapfkaipdcflaaGreat
