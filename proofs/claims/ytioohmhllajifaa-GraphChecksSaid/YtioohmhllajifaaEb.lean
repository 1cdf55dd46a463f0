/-
  Plain mathematics: what adding and removing an edge do to a valid list of edges; degrees add up.
-/
import Derived.Test.YtioohmhllajifaaHn
namespace Go.Proofs.Ytioohmhllajifaa
open Go.Lib

theorem edg_comm (u v : Int) : edg v u = edg u v := by unfold edg; exact Prod.ext (by simp; omega) (by simp; omega)
theorem endsB_comm (n u v : Int) : endsB n v u = endsB n u v := by
  unfold endsB
  rw [Bool.eq_iff_iff]; simp; constructor <;> intro h <;> omega
theorem ends_edg (n u v : Int) (h : endsB n u v = true) : 0 ≤ (edg u v).1 ∧ (edg u v).1 < (edg u v).2 ∧ (edg u v).2 < n := by
  unfold endsB at h; unfold edg; simp at h ⊢; omega
theorem mem_remL (l : List Ed) (e z : Ed) : z ∈ remL l e ↔ z ∈ l ∧ z ≠ e := by
  unfold remL; rw [List.mem_filter, keepE_iff]
theorem chk_rem (n : Int) (l : List Ed) (e : Ed) (h : chk n l = 0) : chk n (remL l e) = 0 := by
  obtain ⟨h0, h1, h2, h3⟩ := (chk_zero n l).1 h
  exact (chk_zero n _).2 ⟨h0, h1, fun z hz => h2 z ((mem_remL l e z).1 hz).1, List.Pairwise.filter _ h3⟩
theorem chk_ins (n : Int) (l : List Ed) (u v : Int) (h : chk n l = 0) (he : endsB n u v = true) : chk n (insE (edg u v) l) = 0 := by
  obtain ⟨h0, h1, h2, h3⟩ := (chk_zero n l).1 h
  refine (chk_zero n _).2 ⟨h0, h1, fun z hz => ?_, asc_insE _ _ h3⟩
  rcases (mem_insE _ l z).1 hz with rfl | hz
  · exact ends_edg n u v he
  · exact h2 z hz
theorem find_neg (n : Int) (l : List Ed) (u v : Int) (h : edg u v ∉ l) : find n l u v < 0 := by
  refine Int.lt_of_not_ge fun hg => ?_
  obtain ⟨k, -, hk, -⟩ := find_at n l u v hg
  exact h (List.mem_of_getElem? hk)
theorem find_pos (n : Int) (l : List Ed) (u v : Int) (hc : chk n l = 0) (h : edg u v ∈ l) : ¬ find n l u v < 0 := fun hn => find_no n l u v hc hn h
theorem ins_rem (l : List Ed) (e : Ed) (h : AscE l) (he : e ∈ l) : insE e (remL l e) = l := by
  refine ascE_unique _ _ (asc_insE _ _ (List.Pairwise.filter _ h)) h fun z => ?_
  rw [mem_insE, mem_remL]
  constructor
  · rintro (rfl | h)
    · exact he
    · exact h.1
  · intro hz
    by_cases h : z = e
    · exact .inl h
    · exact .inr ⟨hz, h⟩
theorem rem_ins (l : List Ed) (e : Ed) (h : AscE l) (he : e ∉ l) : remL (insE e l) e = l := by
  refine ascE_unique _ _ (List.Pairwise.filter _ (asc_insE _ _ h)) h fun z => ?_
  rw [mem_remL, mem_insE]
  constructor
  · rintro ⟨rfl | h, h2⟩
    · exact absurd rfl h2
    · exact h
  · intro hz
    exact ⟨.inr hz, fun h => he (h ▸ hz)⟩
theorem len_ins (e : Ed) (l : List Ed) (he : e ∉ l) : (insE e l).length = l.length + 1 := by
  induction l with
  | nil => rfl
  | cons x l ih =>
    have h1 : x ≠ e := fun h => he (by simp [h])
    have h2 : e ∉ l := fun h => he (by simp [h])
    unfold insE
    split
    · simp [ih h2]
    · simp

def sumD (l : List Ed) : Nat → Nat
  | 0 => 0
  | k + 1 => sumD l k + (rawG (k : Int) l).length
theorem sumD_cons (e : Ed) (l : List Ed) (k : Nat) : sumD (e :: l) k = sumD [e] k + sumD l k := by
  induction k with
  | zero => rfl
  | succ k ih =>
    have h1 : (rawG (k : Int) (e :: l)).length = (rawG (k : Int) [e]).length + (rawG (k : Int) l).length := by simp [rawG]
    simp only [sumD]
    omega
theorem sumD_one (e : Ed) (k : Nat) (h0 : 0 ≤ e.1) (h1 : e.1 < e.2) : sumD [e] k = (if e.1 < (k : Int) then 1 else 0) + (if e.2 < (k : Int) then 1 else 0) := by
  induction k with
  | zero => simp [sumD]; rw [if_neg (by omega), if_neg (by omega)]
  | succ k ih =>
    have h2 : (rawG (k : Int) [e]).length = if (k : Int) = e.1 then 1 else if (k : Int) = e.2 then 1 else 0 := by
      simp only [rawG, List.flatMap_cons, List.flatMap_nil, List.append_nil]
      unfold nbE
      split
      · rfl
      · split <;> rfl
    simp only [sumD]
    rw [ih, h2]
    split <;> split <;> split <;> (try split) <;> (try split) <;> (try split) <;> omega
theorem sumD_all (n : Nat) (l : List Ed) (h : ∀ e ∈ l, 0 ≤ e.1 ∧ e.1 < e.2 ∧ e.2 < (n : Int)) : sumD l n = 2 * l.length := by
  induction l with
  | nil =>
    have : ∀ k, sumD [] k = 0 := fun k => by induction k with | zero => rfl | succ k ih => simp [sumD, ih, rawG]
    rw [this]; rfl
  | cons e l ih =>
    have he := h e (by simp)
    rw [sumD_cons, ih fun x hx => h x (by simp [hx]), sumD_one e n he.1 he.2.1, if_pos (by omega), if_pos he.2.2, List.length_cons]
    omega
theorem sumD_le (l : List Ed) (k : Nat) (h : l.length ≤ 10000) : sumD l k ≤ k * 20000 := by
  induction k with
  | zero => exact Nat.le_refl _
  | succ k ih =>
    have h1 : ∀ l : List Ed, (rawG (k : Int) l).length ≤ l.length := fun l => by
      induction l with
      | nil => exact Nat.le_refl _
      | cons e l ih =>
        have : (nbE (k : Int) e).length ≤ 1 := by unfold nbE; split <;> (try split) <;> simp
        simp only [rawG, List.flatMap_cons, List.length_append, List.length_cons] at ih ⊢
        omega
    have := h1 l
    simp only [sumD]
    omega

theorem add_cases (n : Int) (l : List Ed) (u v : Int) (h : chk n l = 0) : (addE n l u v = 15 ∧ endsB n u v = true ∧ edg u v ∈ l) ∨ (addE n l u v = 0 ∧ endsB n u v = true ∧ edg u v ∉ l) ∨ (addE n l u v = 6) := by
  unfold addE
  rw [if_pos h]
  by_cases h1 : endsB n u v = true
  · rw [if_pos h1]
    by_cases h2 : find n l u v < 0
    · rw [if_pos h2]; exact .inr (.inl ⟨rfl, h1, find_no n l u v h h2⟩)
    · rw [if_neg h2]
      obtain ⟨k, -, hk, -⟩ := find_at n l u v (by omega)
      exact .inl ⟨rfl, h1, List.mem_of_getElem? hk⟩
  · rw [if_neg h1]; exact .inr (.inr rfl)
theorem rem_yes (n : Int) (l : List Ed) (u v : Int) (h : chk n l = 0) (he : endsB n u v = true) (hm : edg u v ∈ l) : remE n l u v = 0 := by
  unfold remE
  rw [if_pos h, if_pos he, if_neg (find_pos n l u v h hm)]
theorem add_yes (n : Int) (l : List Ed) (u v : Int) (h : chk n l = 0) (he : endsB n u v = true) (hm : edg u v ∉ l) : addE n l u v = 0 := by
  unfold addE
  rw [if_pos h, if_pos he, if_pos (find_neg n l u v hm)]
theorem len_remL (l : List Ed) (e : Ed) : (remL l e).length ≤ l.length := List.length_filter_le _ _
end Go.Proofs.Ytioohmhllajifaa
