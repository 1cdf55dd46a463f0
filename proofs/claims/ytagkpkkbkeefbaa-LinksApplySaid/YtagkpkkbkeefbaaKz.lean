/-
  Which lists of edges are valid.
-/
import Derived.Test.YtagkpkkbkeefbaaGn
import Derived.Test.YtagkpkkbkeefbaaEa
namespace Go.Proofs.Ytagkpkkbkeefbaa
open Go.RowKit Go.Lib

/-! valid lists -/
theorem ck_zero (n : Int) : ∀ (l : List Ed) (p : Option Ed), ck n p l = 0 ↔ (∀ e ∈ l, 0 ≤ e.1 ∧ e.1 < e.2 ∧ e.2 < n) ∧ AscE l ∧ (∀ q, p = some q → ∀ e, l.head? = some e → bef q e = true) := by
  intro l
  induction l with
  | nil => intro p; simp [ck, AscE]
  | cons x l ih =>
    intro p
    rw [ck_cons]
    by_cases h1 : x.1 < 0 ∨ x.2 ≤ x.1 ∨ n ≤ x.2
    · rw [if_pos h1]
      constructor
      · intro h; omega
      · rintro ⟨h, -⟩
        have := h x (by simp)
        omega
    · rw [if_neg h1]
      by_cases h2 : nb p x = true
      · rw [if_pos h2]
        constructor
        · intro h; omega
        · rintro ⟨-, -, h⟩
          cases p with
          | none => simp [nb] at h2
          | some q => have := h q rfl x rfl; simp [nb, this] at h2
      · rw [if_neg h2, ih]
        have hq : ∀ q, p = some q → bef q x = true := by
          rintro q rfl
          simpa [nb] using h2
        constructor
        · rintro ⟨a, b, c⟩
          refine ⟨fun e he => ?_, ?_, fun q hq' e he => ?_⟩
          · rcases List.mem_cons.1 he with rfl | he
            · omega
            · exact a e he
          · refine List.pairwise_cons.2 ⟨fun z hz => ?_, b⟩
            cases l with
            | nil => simp at hz
            | cons y l =>
              have hxy := c x rfl y rfl
              rcases List.mem_cons.1 hz with rfl | hz
              · exact hxy
              · exact bef_trans _ _ _ hxy ((List.pairwise_cons.1 b).1 z hz)
          · simp at he; subst he; exact hq q hq'
        · rintro ⟨a, b, -⟩
          have b' := List.pairwise_cons.1 b
          refine ⟨fun e he => a e (List.mem_cons_of_mem _ he), b'.2, fun q hq' e he => ?_⟩
          injection hq' with hq'; subst hq'
          exact b'.1 e (List.mem_of_mem_head? he)
theorem chk_zero (n : Int) (l : List Ed) : chk n l = 0 ↔ 0 ≤ n ∧ n ≤ 64 ∧ (∀ e ∈ l, 0 ≤ e.1 ∧ e.1 < e.2 ∧ e.2 < n) ∧ AscE l := by
  unfold chk
  by_cases h : n < 0 ∨ 64 < n
  · rw [if_pos h]
    constructor
    · intro h; omega
    · rintro ⟨a, b, -⟩; omega
  · rw [if_neg h, ck_zero]
    constructor
    · rintro ⟨a, b, -⟩; exact ⟨by omega, by omega, a, b⟩
    · rintro ⟨-, -, a, b⟩; exact ⟨a, b, fun q hq => by cases hq⟩

end Go.Proofs.Ytagkpkkbkeefbaa
