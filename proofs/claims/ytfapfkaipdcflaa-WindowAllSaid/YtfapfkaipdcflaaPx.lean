/-
  Mathematics of windows, on: what stays of links by age under events and expiring.
-/
import Derived.Test.YtfapfkaipdcflaaPw
namespace Go.Proofs.Ytfapfkaipdcflaa
namespace Ls

theorem sortL_len (l : List Lk) : (sortL l).length ≤ l.length := by
  induction l with
  | nil => simp [sortL]
  | cons a l ih =>
    have : ∀ l : List Lk, (put a l).length ≤ l.length + 1 := by
      intro l
      induction l with
      | nil => simp [put]
      | cons b l ih2 =>
        unfold put
        split
        · simp
        · split
          · simp
          · simp; omega
    have h1 := this (sortL l)
    show (put a (sortL l)).length ≤ _
    simp; omega
theorem cuts_len (W M t : Int) (l : List Lk) : (cutsX W M t l).length + (restX W M t l).length ≤ l.length := by
  have h1 := sortL_len (l.take (outN W M t l))
  have h2 := outN_le W M t l
  unfold cutsX restX
  rw [List.length_map, List.length_drop]
  rw [List.length_take] at h1
  omega
theorem rest_sub (W M t : Int) (l : List Lk) : (restX W M t l).Sublist l := List.drop_sublist _ _
theorem drain_sub (W M t : Int) (n : Nat) (l : List Lk) : (drainN W M t n l).2.Sublist l := by
  induction n generalizing l with
  | zero => exact List.Sublist.refl _
  | succ n ih =>
    unfold drainN
    split
    · exact List.Sublist.refl _
    · split
      · exact (ih _).trans (rest_sub _ _ _ _)
      · exact List.Sublist.refl _
theorem drain_len (W M t : Int) (n : Nat) (l : List Lk) : (drainN W M t n l).1.length + (drainN W M t n l).2.length ≤ l.length := by
  induction n generalizing l with
  | zero => simp [drainN]
  | succ n ih =>
    unfold drainN
    split
    · simp
    · split
      · next s _ _ =>
        have h1 := cuts_len W M s l
        have h2 := ih (restX W M s l)
        simp only [List.length_append]
        omega
      · simp
theorem until_cons (W s : Int) (x : Lk) (l : List Lk) (h : untilA W (x :: l) = some s) : s = x.time + W := by
  have h : (if W = 1048577 then none else some (x.time + W)) = some s := h
  split at h
  · cases h
  · injection h with h; exact h.symm
theorem drainN_succ (W M t : Int) (n : Nat) (l : List Lk) : drainN W M t (n + 1) l = match untilA W l with
    | none => ([], l)
    | some s => if s ≤ t then (cutsX W M s l ++ (drainN W M t n (restX W M s l)).1, (drainN W M t n (restX W M s l)).2) else ([], l) := rfl
theorem drain_step (W M t s : Int) (l : List Lk) (h : untilA W l = some s) (hs : s ≤ t) : drainN W M t l.length l = (cutsX W M s l ++ (drainN W M t (restX W M s l).length (restX W M s l)).1, (drainN W M t (restX W M s l).length (restX W M s l)).2) := by
  cases l with
  | nil => cases h
  | cons x l =>
    have hs2 : s = x.time + W := until_cons W s x l h
    have h1 := restX_len W M s x l hs2
    rw [List.length_cons, drainN_succ, h]
    simp only []
    rw [if_pos hs, drain_more W M t l.length (restX W M s (x :: l)).length _ h1 (Nat.le_refl _)]
theorem drain_stop (W M t : Int) (l : List Lk) (h : ∀ s, untilA W l = some s → t < s) : drainN W M t l.length l = ([], l) := by
  cases l with
  | nil => rfl
  | cons x l =>
    rw [List.length_cons]
    unfold drainN
    split
    · rfl
    · next s hs => rw [if_neg (by have := h s hs; omega)]
theorem until_some (W s : Int) (l : List Lk) (h : untilA W l = some s) : ∃ x, x ∈ l ∧ s = x.time + W ∧ 0 < l.length := by
  cases l with
  | nil => cases h
  | cons x l => exact ⟨x, by simp, until_cons W s x l h, by simp⟩
theorem rest_lt (W M s : Int) (l : List Lk) (h : untilA W l = some s) : (restX W M s l).length < l.length := by
  cases l with
  | nil => cases h
  | cons x l =>
    have hs2 : s = x.time + W := until_cons W s x l h
    have h1 := restX_len W M s x l hs2
    simp; omega
theorem hitA_same (e : Ev) (hk : e.kind ≠ 3) (x : Lk) : hitA e x = same x (ends e) := by unfold hitA; rw [if_neg hk]
theorem ins_pairwise {r : Lk → Lk → Prop} (n : Lk) (l : List Lk) (p : Nat) (hl : l.Pairwise r) (h1 : ∀ k a, l[k]? = some a → k < p → r a n) (h2 : ∀ k a, l[k]? = some a → p ≤ k → r n a) : (l.take p ++ n :: l.drop p).Pairwise r := by
  rw [List.pairwise_append]
  refine ⟨List.Pairwise.sublist (List.take_sublist _ _) hl, ?_, ?_⟩
  · rw [List.pairwise_cons]
    refine ⟨fun a ha => ?_, List.Pairwise.sublist (List.drop_sublist _ _) hl⟩
    obtain ⟨k, hk⟩ := List.getElem?_of_mem ha
    rw [List.getElem?_drop] at hk
    exact h2 _ a hk (by omega)
  · intro a ha b hb
    rcases List.mem_cons.1 hb with e | hb
    · subst e
      obtain ⟨k, hk⟩ := List.getElem?_of_mem ha
      rw [List.getElem?_take] at hk
      split at hk
      · next hlt => exact h1 k a hk hlt
      · cases hk
    · have := (List.take_append_drop p l) ▸ hl
      exact (List.pairwise_append.1 this).2.2 a ha b hb
theorem step_aged (l : List Lk) (e : Ev) (h : Aged l) : Aged (stepA l e) := by
  have hf : Aged (l.filter fun x => !hitA e x) := List.Pairwise.filter _ h
  unfold stepA
  split
  · next hk =>
    refine ins_pairwise _ _ _ hf (fun k a hka hlt => (posA_lt _ _ hf k a hka).2 hlt) (fun k a hka hle => ?_)
    have hm := List.mem_filter.1 (List.mem_of_getElem? hka)
    have hs : same a (ends e) = false := by have := hm.2; rw [hitA_same e (by omega)] at this; simpa using this
    rcases old_tri a (ends e) hs with h1 | h1
    · have := (posA_lt _ _ hf k a hka).1 h1; omega
    · exact h1
  · exact hf
theorem step_dist (l : List Lk) (e : Ev) (h : Dist l) : Dist (stepA l e) := by
  have hf : Dist (l.filter fun x => !hitA e x) := List.Pairwise.filter _ h
  unfold stepA
  split
  · next hk =>
    have hs : ∀ k a, (l.filter fun x => !hitA e x)[k]? = some a → same a (ends e) = false := fun k a hka => by
      have hm := List.mem_filter.1 (List.mem_of_getElem? hka)
      have := hm.2
      rw [hitA_same e (by omega)] at this
      simpa using this
    exact ins_pairwise _ _ _ hf (fun k a hka _ => hs k a hka) (fun k a hka _ => by rw [same_comm]; exact hs k a hka)
  · exact hf
/-- the first error of events, one after the other -/
def chkEv (n : Int) : Int → List Ev → Int
  | _, [] => 0
  | t, e :: l => if chkE e ≠ 0 then chkE e else if n ≤ e.u ∨ n ≤ e.v then 6 else if e.time < t then 9 else chkEv n e.time l
def chkSt (n : Int) (l : List Ev) : Int := if n < 0 ∨ 64 < n then 1 else if 65536 < l.length then 3 else chkEv n 0 l
/-- a stream that may happen -/
def OkEv (n : Int) (t : Int) (l : List Ev) : Prop := (∀ e ∈ l, Good n e ∧ t ≤ e.time) ∧ l.Pairwise fun a b => a.time ≤ b.time
theorem chkEv_ok (n t : Int) (l : List Ev) : chkEv n t l = 0 ↔ OkEv n t l := by
  induction l generalizing t with
  | nil => simp [chkEv, OkEv]
  | cons e l ih =>
    unfold chkEv
    by_cases h1 : chkE e = 0
    · rw [if_neg (by simpa using h1)]
      by_cases h2 : n ≤ e.u ∨ n ≤ e.v
      · rw [if_pos h2]
        constructor
        · intro h; exact absurd h (by decide)
        · rintro ⟨h, -⟩
          obtain ⟨⟨_, h3, h4⟩, _⟩ := h e (by simp)
          omega
      · rw [if_neg h2]
        by_cases h3 : e.time < t
        · rw [if_pos h3]
          constructor
          · intro h; exact absurd h (by decide)
          · rintro ⟨h, -⟩
            have := (h e (by simp)).2
            omega
        · rw [if_neg h3, ih]
          unfold OkEv
          constructor
          · rintro ⟨a1, a2⟩
            refine ⟨fun x hx => ?_, List.pairwise_cons.2 ⟨fun x hx => (a1 x hx).2, a2⟩⟩
            rcases List.mem_cons.1 hx with rfl | hx
            · exact ⟨⟨h1, by omega, by omega⟩, by omega⟩
            · have := a1 x hx; exact ⟨this.1, by omega⟩
          · rintro ⟨a1, a2⟩
            obtain ⟨b1, b2⟩ := List.pairwise_cons.1 a2
            exact ⟨fun x hx => ⟨(a1 x (by simp [hx])).1, b1 x hx⟩, b2⟩
    · rw [if_pos h1]
      constructor
      · intro h; exact absurd h h1
      · rintro ⟨h, -⟩; exact absurd (h e (by simp)).1.1 h1
end Ls
end Go.Proofs.Ytfapfkaipdcflaa
