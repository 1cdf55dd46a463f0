/-
  States of links as the document has them: their check, what an event makes of them, what changed.
-/
import Derived.Test.YtfapfkaipdcflaaLs
import Derived.Test.YtfapfkaipdcflaaRb
namespace Go.Proofs.Ytfapfkaipdcflaa
namespace Ls

/-- one link's error, but for the order -/
def chkLk (n : Int) (l : Lk) : Int := if l.u < 0 ∨ l.v ≤ l.u ∨ n ≤ l.v then 6 else if attrB ⟨1, 0, 0, 0, l.weight, l.label, l.sign⟩ = false then 1 else if l.time < 0 ∨ 1048576 < l.time then 9 else 0
/-- the first error of links, one after the other, behind a link or none -/
def chkLs (n : Int) : Option Lk → List Lk → Int
  | _, [] => 0
  | p, l :: a => if chkLk n l ≠ 0 then chkLk n l else if p.any (fun x => !before x l) = true then 5 else chkLs n (some l) a
def chkS (n : Int) (l : List Lk) : Int := if n < 0 ∨ 64 < n then 1 else chkLs n none l
def V (n : Int) (l : List Lk) : Prop := 0 ≤ n ∧ n ≤ 64 ∧ Asc l ∧ ∀ x ∈ l, chkLk n x = 0
theorem chkLs_zero (n : Int) (l : List Lk) (p : Option Lk) : chkLs n p l = 0 ↔ Asc l ∧ (∀ x ∈ l, chkLk n x = 0) ∧ ∀ x ∈ p, ∀ y ∈ l.head?, before x y = true := by
  induction l generalizing p with
  | nil => simp [chkLs, Asc]
  | cons a l ih =>
    unfold chkLs
    by_cases h : chkLk n a = 0
    · rw [if_neg (by simpa using h)]
      by_cases hp : p.any (fun x => !before x a) = true
      · rw [if_pos hp]
        constructor
        · intro h0; exact absurd h0 (by decide)
        · rintro ⟨-, -, h3⟩
          cases p with
          | none => simp at hp
          | some x => simp at hp; have := h3 x rfl a rfl; rw [hp] at this; cases this
      · rw [if_neg hp, ih]
        constructor
        · rintro ⟨h1, h2, h3⟩
          refine ⟨List.pairwise_cons.2 ⟨fun y hy => ?_, h1⟩, fun y hy => ?_, fun x hx y hy => ?_⟩
          · cases l with
            | nil => simp at hy
            | cons b l =>
              have hb := h3 a rfl b rfl
              rcases List.mem_cons.1 hy with e | hy
              · rw [e]; exact hb
              · exact before_trans _ _ _ hb ((List.pairwise_cons.1 h1).1 y hy)
          · rcases List.mem_cons.1 hy with e | hy
            · rw [e]; exact h
            · exact h2 y hy
          · cases p with
            | none => cases hx
            | some z =>
              cases hx
              cases hy
              simpa using hp
        · rintro ⟨h1, h2, -⟩
          refine ⟨(List.pairwise_cons.1 h1).2, fun y hy => h2 y (List.mem_cons_of_mem _ hy), fun x hx y hy => ?_⟩
          cases hx
          exact (List.pairwise_cons.1 h1).1 y (List.mem_of_mem_head? hy)
    · rw [if_pos h]
      constructor
      · intro h0; exact absurd h0 h
      · rintro ⟨-, h2, -⟩; exact absurd (h2 a (by simp)) h
theorem chkS_zero (n : Int) (l : List Lk) : chkS n l = 0 ↔ V n l := by
  unfold chkS V
  split
  · constructor
    · intro h; exact absurd h (by decide)
    · intro h; omega
  · rw [chkLs_zero]
    simp
    constructor
    · rintro ⟨h1, h2⟩; exact ⟨by omega, by omega, h1, h2⟩
    · rintro ⟨-, -, h1, h2⟩; exact ⟨h1, h2⟩
/-- the link of an event -/
def lk (e : Ev) : Lk := ⟨min e.u e.v, max e.u e.v, e.weight, e.label, e.sign, e.time⟩
def setE (l : Lk) (t : Int) : Ev := ⟨1, t, l.u, l.v, l.weight, l.label, l.sign⟩
def cutE (l : Lk) (t : Int) : Ev := ⟨2, t, l.u, l.v, 0, 0, 0⟩
def has (u : Int) (l : Lk) : Bool := decide (l.u = u) || decide (l.v = u)
/-- which links an event that is no set takes away -/
def hit (e : Ev) (l : Lk) : Bool := if e.kind = 2 then same l (lk e) else has e.u l
def nextL (l : List Lk) (e : Ev) : List Lk := if e.kind = 1 then put (lk e) l else l.filter fun x => !hit e x
def chg (l : List Lk) (e : Ev) : List Ev := if e.kind = 1 then (if lk e ∈ l then [] else [setE (lk e) e.time]) else (l.filter (hit e)).map fun x => cutE x e.time
def runL (l : List Lk) (es : List Ev) : List Lk := es.foldl nextL l
def numL : List Lk → List Ev → Nat
  | _, [] => 0
  | l, e :: es => (chg l e).length + numL (nextL l e) es
theorem chg_nil (l : List Lk) (e : Ev) (h : Asc l) : chg l e = [] ↔ nextL l e = l := by
  unfold chg nextL
  split
  · rw [put_eq _ _ h]
    split <;> simp_all
  · rw [filter_same, List.map_eq_nil_iff]
theorem lk_setE (l : Lk) (t : Int) (h : l.u < l.v) : lk (setE l t) = ⟨l.u, l.v, l.weight, l.label, l.sign, t⟩ := by
  simp [lk, setE]
  omega
theorem lk_cutE_same (l x : Lk) (t : Int) (h : l.u < l.v) : same x (lk (cutE l t)) = same x l := by
  have h1 : min l.u l.v = l.u := by omega
  have h2 : max l.u l.v = l.v := by omega
  simp [lk, cutE, same, h1, h2]
theorem next_cutE (l : List Lk) (x : Lk) (t : Int) (h : x.u < x.v) : nextL l (cutE x t) = cut x l := by
  unfold nextL cut
  rw [if_neg (by simp [cutE])]
  apply List.filter_congr
  intro y _
  simp only [hit, cutE, if_true]
  rw [show (⟨2, t, x.u, x.v, 0, 0, 0⟩ : Ev) = cutE x t from rfl, lk_cutE_same x y t h]
theorem chg_cutE_len (l : List Lk) (x : Lk) (t : Int) (ha : Asc l) (h : x.u < x.v) (hx : x ∈ l) : (chg l (cutE x t)).length = 1 := by
  unfold chg
  rw [if_neg (by simp [cutE]), List.length_map]
  have : l.filter (hit (cutE x t)) = [x] := by
    rw [show l.filter (hit (cutE x t)) = l.filter (fun y => same y x) from List.filter_congr fun y _ => by
      simp only [hit]
      rw [if_pos (by simp [cutE]), lk_cutE_same x y t h]]
    clear h
    induction l with
    | nil => simp at hx
    | cons a l ih =>
      have h1 : ∀ y ∈ l, before a y = true := (List.pairwise_cons.1 ha).1
      have h2 : Asc l := (List.pairwise_cons.1 ha).2
      rw [List.filter_cons]
      rcases List.mem_cons.1 hx with e | hx
      · subst e
        rw [if_pos (by simp [same])]
        congr 1
        rw [List.filter_eq_nil_iff]
        intro y hy
        rw [before_not_same' _ _ (h1 y hy)]
        decide
      · rw [before_not_same _ _ (h1 x hx), if_neg (by decide)]
        exact ih h2 hx
  rw [this]
  rfl
/-- cutting links of a list one by one: each is one change -/
theorem run_cuts (c l : List Lk) (t : Int) (ha : Asc l) (hc : c.Pairwise fun a b => same a b = false) (hm : ∀ x ∈ c, x ∈ l ∧ x.u < x.v) : runL l (c.map fun x => cutE x t) = cuts c l ∧ numL l (c.map fun x => cutE x t) = c.length := by
  induction c generalizing l with
  | nil => exact ⟨rfl, rfl⟩
  | cons a c ih =>
    obtain ⟨h1, h2⟩ := hm a (by simp)
    have hn := next_cutE l a t h2
    have hp := List.pairwise_cons.1 hc
    obtain ⟨i1, i2⟩ := ih (cut a l) (asc_filter _ _ ha) hp.2 (fun x hx => by
      refine ⟨?_, (hm x (by simp [hx])).2⟩
      unfold cut
      refine List.mem_filter.2 ⟨(hm x (by simp [hx])).1, ?_⟩
      rw [same_comm, hp.1 x hx]; rfl)
    constructor
    · show runL (nextL l (cutE a t)) _ = _
      rw [hn, i1]; rfl
    · show (chg l (cutE a t)).length + numL (nextL l (cutE a t)) _ = _
      rw [hn, i2, chg_cutE_len l a t ha h2 h1, List.length_cons, Nat.add_comm]
/-- what is returned as changed leads from the old state to the new one, and each change is one -/
theorem run_chg (l : List Lk) (e : Ev) (ha : Asc l) (hv : ∀ x ∈ l, x.u < x.v) (he : e.kind = 1 → e.u ≠ e.v) : runL l (chg l e) = nextL l e ∧ numL l (chg l e) = (chg l e).length := by
  by_cases hk : e.kind = 1
  · have hne := he hk
    unfold chg
    rw [if_pos hk]
    split
    · next hm =>
      refine ⟨?_, rfl⟩
      show l = nextL l e
      rw [nextL, if_pos hk, put_there _ _ ha hm]
    · next hm =>
      have hl : lk (setE (lk e) e.time) = lk e := by rw [lk_setE _ _ (by simp [lk]; omega)]; rfl
      have hn : nextL l (setE (lk e) e.time) = put (lk e) l := by
        unfold nextL
        rw [if_pos (by simp [setE]), hl]
      refine ⟨?_, ?_⟩
      · show nextL l (setE (lk e) e.time) = _
        rw [hn, nextL, if_pos hk]
      · show (chg l (setE (lk e) e.time)).length + 0 = 1
        unfold chg
        rw [if_pos (by simp [setE]), hl, if_neg hm]
        rfl
  · have hcut : chg l e = (l.filter (hit e)).map fun x => cutE x e.time := by unfold chg; rw [if_neg hk]
    have hnx : nextL l e = l.filter fun x => !hit e x := by unfold nextL; rw [if_neg hk]
    rw [hcut, hnx, List.length_map]
    obtain ⟨i1, i2⟩ := run_cuts (l.filter (hit e)) l e.time ha ((asc_filter _ _ ha).imp fun h => before_not_same _ _ h) (fun x hx => ⟨(List.mem_filter.1 hx).1, hv x (List.mem_filter.1 hx).1⟩)
    exact ⟨i1.trans (cuts_filter _ _ ha), i2⟩
end Ls
end Go.Proofs.Ytfapfkaipdcflaa
