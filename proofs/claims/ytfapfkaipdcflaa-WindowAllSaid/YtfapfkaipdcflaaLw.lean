/-
  What an event makes of a state, reckoned link by link, as a loop over the links does it: the rest of the new links and of the changes, behind a place in the list.
-/
import Derived.Test.YtfapfkaipdcflaaLu
namespace Go.Proofs.Ytfapfkaipdcflaa
namespace Ls

/-- what is still to come; done: the link of a set has been written, or there is none -/
def rem (e : Ev) : Bool → List Lk → List Lk × List Ev
  | d, [] => if d = true then ([], []) else ([lk e], [setE (lk e) e.time])
  | d, l :: a =>
    let now := !d && before (lk e) l
    let pre : List Lk := if now = true then [lk e] else []
    let cpre : List Ev := if now = true then [setE (lk e) e.time] else []
    if e.kind = 1 ∧ same l (lk e) = true then
      (pre ++ lk e :: (rem e true a).1, cpre ++ (if l ≠ lk e then [setE (lk e) e.time] else []) ++ (rem e true a).2)
    else if e.kind ≠ 1 ∧ hit e l = true then (pre ++ (rem e (d || now) a).1, cpre ++ cutE l e.time :: (rem e (d || now) a).2)
    else (pre ++ l :: (rem e (d || now) a).1, cpre ++ (rem e (d || now) a).2)
theorem rem_done (e : Ev) (l : List Lk) (h : ∀ x ∈ l, e.kind = 1 → same x (lk e) = false) :
    rem e true l = (l.filter (fun x => !(decide (e.kind ≠ 1) && hit e x)), (l.filter (fun x => decide (e.kind ≠ 1) && hit e x)).map fun x => cutE x e.time) := by
  induction l with
  | nil => simp [rem]
  | cons a l ih =>
    have i := ih fun x hx => h x (by simp [hx])
    unfold rem
    rw [if_neg (by rintro ⟨h1, h2⟩; rw [h a (by simp) h1] at h2; cases h2)]
    simp only [Bool.not_true, Bool.false_and, Bool.true_or]
    rw [i]
    by_cases hk : e.kind = 1
    · simp [hk]
    · cases hh : hit e a <;> simp [hk, hh]
theorem rem_cut (e : Ev) (l : List Lk) (hk : e.kind ≠ 1) : rem e true l = (nextL l e, chg l e) := by
  rw [rem_done e l (fun x _ h => absurd h hk)]
  unfold nextL chg
  rw [if_neg hk, if_neg hk]
  simp [hk]
theorem rem_keep (e : Ev) (l : List Lk) (hk : e.kind = 1) (h : ∀ x ∈ l, same x (lk e) = false) : rem e true l = (l, []) := by
  rw [rem_done e l (fun x hx _ => h x hx)]
  simp [hk]
theorem rem_set (e : Ev) (l : List Lk) (hk : e.kind = 1) (ha : Asc l) : rem e false l = (nextL l e, chg l e) := by
  have hn : nextL l e = put (lk e) l := by unfold nextL; rw [if_pos hk]
  have hc : chg l e = if lk e ∈ l then [] else [setE (lk e) e.time] := by unfold chg; rw [if_pos hk]
  rw [hn, hc]
  clear hn hc
  induction l with
  | nil => simp [rem, put]
  | cons a l ih =>
    have h1 : ∀ y ∈ l, before a y = true := (List.pairwise_cons.1 ha).1
    have h2 : Asc l := (List.pairwise_cons.1 ha).2
    have irr : before (lk e) (lk e) = false := before_irr _
    unfold rem put
    cases hs : same a (lk e) with
    | true =>
      have hb : before (lk e) a = false := by rw [before_same a (lk e) (lk e) hs]; exact irr
      have hl : ∀ x ∈ l, same x (lk e) = false := fun x hx => by
        have := before_not_same' _ _ (h1 x hx)
        rw [same_comm, same_trans a (lk e) x hs] at this
        rw [same_comm]; exact this
      have hm : lk e ∉ l := fun hx => by have := hl _ hx; simp [same] at this
      rw [if_pos ⟨hk, rfl⟩, rem_keep e l hk hl, hb]
      by_cases hx : a = lk e
      · simp [hx]
      · simp [hx, hm, Ne.symm hx]
    | false =>
      rw [if_neg (by simp), if_neg (by simp [hk])]
      have hne : lk e ≠ a := fun hx => by rw [← hx] at hs; simp [same] at hs
      cases hb : before (lk e) a with
      | true =>
        have hl : ∀ x ∈ l, same x (lk e) = false := fun x hx => before_not_same' _ _ (before_trans _ _ _ hb (h1 x hx))
        have hm : lk e ∉ l := fun hx => by have := hl _ hx; simp [same] at this
        simp [rem_keep e l hk hl, hne, hm]
      | false =>
        have i := ih h2
        simp [i, hne]
/-- the whole of it -/
theorem rem_all (e : Ev) (l : List Lk) (ha : Asc l) : rem e (decide (e.kind ≠ 1)) l = (nextL l e, chg l e) := by
  by_cases hk : e.kind = 1
  · rw [show decide (e.kind ≠ 1) = false by simp [hk]]; exact rem_set e l hk ha
  · rw [show decide (e.kind ≠ 1) = true by simp [hk]]; exact rem_cut e l hk
/-- all events one after the other: the new links, how many changes, or the first error and its place -/
def allS (n : Int) : Nat → List Lk → List Ev → List Lk × Int × Int
  | _, l, [] => (l, 0, 0)
  | i, l, e :: es => if chkE e ≠ 0 then ([], i, chkE e) else if n ≤ e.u ∨ n ≤ e.v then ([], i, 6) else
    let r := allS n (i + 1) (nextL l e) es
    if r.2.2 ≠ 0 then r else (r.1, r.2.1 + (chg l e).length, 0)
theorem allS_ok (n : Int) (es : List Ev) (h : ∀ e ∈ es, Good n e) (i : Nat) (l : List Lk) : allS n i l es = (runL l es, ((numL l es : Nat) : Int), 0) := by
  induction es generalizing i l with
  | nil => rfl
  | cons e es ih =>
    obtain ⟨h1, h2, h3⟩ := h e (by simp)
    have := ih (fun x hx => h x (by simp [hx])) (i + 1) (nextL l e)
    unfold allS
    rw [if_neg (by simpa using h1), if_neg (by omega), this]
    simp [runL, numL]
    omega
end Ls
end Go.Proofs.Ytfapfkaipdcflaa
