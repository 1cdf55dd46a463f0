/-
  Package graph's Check.
-/
import Derived.Test.YtagkpkkbkeefbaaHa
import Derived.Test.YtagkpkkbkeefbaaGn
namespace Go.Proofs.Ytagkpkkbkeefbaa
open Go.RowKit Go.Lib Go.Sort

theorem cmpE_lt (a b : Ed) (h : bef a b = true) : cmpE a b = -1 := by
  unfold bef at h
  unfold cmpE
  simp only [Bool.or_eq_true, Bool.and_eq_true, decide_eq_true_eq] at h
  rcases h with h | ⟨h1, h2⟩
  · simp [orL, Lib.compareInt, h]
  · simp [orL, Lib.compareInt, h1, h2]
theorem cmpE_ge (a b : Ed) (h : bef a b = false) : (cmpE a b = 0 ∧ a = b) ∨ (cmpE a b = 1 ∧ bef b a = true) := by
  unfold bef at h
  simp only [Bool.or_eq_false_iff, Bool.and_eq_false_iff, decide_eq_false_iff_not] at h
  obtain ⟨h1, h2⟩ := h
  obtain ⟨u, v⟩ := a
  obtain ⟨x, y⟩ := b
  simp only at h1 h2
  unfold cmpE bef
  by_cases h3 : x < u
  · right; simp [orL, Lib.compareInt, h1, h3]
  · have e : u = x := by omega
    subst e
    by_cases h4 : y < v
    · right; simp [orL, Lib.compareInt, h4]; omega
    · left
      have e : v = y := by rcases h2 with h2 | h2 <;> omega
      subst e
      simp [orL, Lib.compareInt]

theorem below_growN (w : World) (q : Nat) (os : Array Obj) : Below w.heap.size w (grow (w.drewN q) os) :=
  ⟨rfl, rfl, rfl, by simp [grow], fun i hi => by simp [grow, Array.getElem?_append_left hi]⟩
theorem cmpE_any (u v x y : Int) (w : World) : Calls Try.prog 65 #[.agg #[.int .i64 u, .int .i64 v], .agg #[.int .i64 x, .int .i64 y]] w fun e w' => e = .returned (.int .i64 (cmpE (u, v) (x, y))) ∧ Below w.heap.size w w' :=
  (cmpE_grow u v x y w).mono fun _ _ ⟨he, q, os, hw⟩ => ⟨he, hw ▸ below_growN w q os⟩

end Go.Proofs.Ytagkpkkbkeefbaa
