/-
  Plain mathematics of ascending lists of edges.
-/
import Derived.Test.YtagkpkkbkeefbaaGl
import Derived.Test.YtagkpkkbkeefbaaHb
import Derived.Lib.SlicesCompact
namespace Go.Proofs.Ytagkpkkbkeefbaa
open Go.Lib

theorem bef_iff (a b : Ed) : bef a b = true ↔ a.1 < b.1 ∨ a.1 = b.1 ∧ a.2 < b.2 := by simp [bef]
theorem bef_no (a b : Ed) : bef a b = false ↔ ¬ (a.1 < b.1 ∨ a.1 = b.1 ∧ a.2 < b.2) := by rw [← bef_iff]; simp
theorem bef_irrefl (a : Ed) : bef a a = false := by rw [bef_no]; omega
theorem bef_trans (a b c : Ed) (h1 : bef a b = true) (h2 : bef b c = true) : bef a c = true := by rw [bef_iff] at *; omega
theorem bef_total (a b : Ed) (h1 : bef a b = false) (h2 : bef b a = false) : a = b := by
  rw [bef_no] at *; exact Prod.ext (by omega) (by omega)
theorem bef_ne (a b : Ed) (h : bef a b = true) : a ≠ b := by rintro rfl; rw [bef_irrefl] at h; cases h
theorem bef_asymm (a b : Ed) (h : bef a b = true) : bef b a = false := by rw [bef_iff] at h; rw [bef_no]; omega

def AscE (l : List Ed) : Prop := l.Pairwise fun a b => bef a b = true
theorem ascE_unique : ∀ (a b : List Ed), AscE a → AscE b → (∀ x, x ∈ a ↔ x ∈ b) → a = b := by
  intro a
  induction a with
  | nil =>
    intro b _ _ h
    cases b with
    | nil => rfl
    | cons y b => exact absurd ((h y).2 (by simp)) (by simp)
  | cons x a ih =>
    intro b ha hb h
    cases b with
    | nil => exact absurd ((h x).1 (by simp)) (by simp)
    | cons y b =>
      have ha' := List.pairwise_cons.1 ha
      have hb' := List.pairwise_cons.1 hb
      have exy : x = y := by
        rcases List.mem_cons.1 ((h x).1 (by simp)) with h1 | h1
        · exact h1
        · rcases List.mem_cons.1 ((h y).2 (by simp)) with h2 | h2
          · exact h2.symm
          · have h3 := hb'.1 x h1; have h4 := ha'.1 y h2
            rw [bef_asymm _ _ h3] at h4; cases h4
      subst exy
      congr 1
      refine ih b ha'.2 hb'.2 fun z => ?_
      have hz := h z
      simp only [List.mem_cons] at hz
      constructor
      · intro h1
        rcases hz.1 (.inr h1) with h2 | h2
        · subst h2; have := ha'.1 z h1; rw [bef_irrefl] at this; cases this
        · exact h2
      · intro h1
        rcases hz.2 (.inr h1) with h2 | h2
        · subst h2; have := hb'.1 z h1; rw [bef_irrefl] at this; cases this
        · exact h2

theorem mem_insE (e : Ed) (l : List Ed) (z : Ed) : z ∈ insE e l ↔ z = e ∨ z ∈ l := by
  induction l with
  | nil => simp [insE]
  | cons x l ih =>
    unfold insE
    split
    · rw [List.mem_cons, ih, List.mem_cons]
      constructor
      · rintro (h | h | h)
        · exact .inr (.inl h)
        · exact .inl h
        · exact .inr (.inr h)
      · rintro (h | h | h)
        · exact .inr (.inl h)
        · exact .inl h
        · exact .inr (.inr h)
    · split
      · next h => subst h; simp
      · simp
theorem asc_insE (e : Ed) (l : List Ed) (h : AscE l) : AscE (insE e l) := by
  induction l with
  | nil => simp [insE, AscE]
  | cons x l ih =>
    have h' := List.pairwise_cons.1 h
    unfold insE
    split
    · next hb =>
      refine List.pairwise_cons.2 ⟨fun z hz => ?_, ih h'.2⟩
      rcases (mem_insE e l z).1 hz with rfl | hz
      · exact hb
      · exact h'.1 z hz
    · next hb =>
      split
      · exact h
      · next hne =>
        have hex : bef e x = true := by
          cases hq : bef e x with
          | true => rfl
          | false => exact absurd (bef_total _ _ (by simpa using hb) hq) hne
        refine List.pairwise_cons.2 ⟨fun z hz => ?_, h⟩
        rcases List.mem_cons.1 hz with rfl | hz
        · exact hex
        · exact bef_trans _ _ _ hex (h'.1 z hz)
theorem fold_insE (l : List Ed) : ∀ s, (AscE s → AscE (l.foldl (fun s e => insE (edg e.1 e.2) s) s)) ∧ (∀ z, z ∈ l.foldl (fun s e => insE (edg e.1 e.2) s) s ↔ z ∈ s ∨ z ∈ l.map fun e => edg e.1 e.2) := by
  induction l with
  | nil => intro s; simp
  | cons x l ih =>
    intro s
    obtain ⟨h1, h2⟩ := ih (insE (edg x.1 x.2) s)
    refine ⟨fun hs => h1 (asc_insE _ _ hs), fun z => ?_⟩
    rw [List.foldl_cons, h2, mem_insE, List.map_cons, List.mem_cons]
    constructor
    · rintro ((h | h) | h)
      · exact .inr (.inl h)
      · exact .inl h
      · exact .inr (.inr h)
    · rintro (h | h | h)
      · exact .inl (.inr h)
      · exact .inl (.inl h)
      · exact .inr h
theorem asc_ofl (l : List Ed) : AscE (ofl l) := (fold_insE l []).1 List.Pairwise.nil
theorem mem_ofl (l : List Ed) (z : Ed) : z ∈ ofl l ↔ z ∈ l.map fun e => edg e.1 e.2 := by rw [ofl, (fold_insE l []).2]; simp

/-! compact behind a sort -/
theorem compactE_inv (d : Array Ed) (hs : ∀ i j, i ≤ j → j < d.size → bef d[j]! d[i]! = false) : ∀ m, m ≤ d.size →
    AscE (compactUpTo d m) ∧ (∀ z, z ∈ compactUpTo d m ↔ ∃ j, j < m ∧ d[j]! = z) := by
  intro m
  induction m with
  | zero => intro _; refine ⟨?_, ?_⟩ <;> simp [compactUpTo, AscE]
  | succ m ih =>
    intro hm
    obtain ⟨h1, h2⟩ := ih (by omega)
    rw [compactUpTo_succ]
    by_cases hk : keeps d m = true
    · rw [if_pos hk]
      refine ⟨?_, fun z => ?_⟩
      · unfold AscE at h1 ⊢
        rw [List.pairwise_append]
        refine ⟨h1, List.pairwise_singleton _ _, fun a ha b hb => ?_⟩
        obtain ⟨j, hj, rfl⟩ := (h2 a).1 ha
        rw [List.mem_singleton] at hb
        subst hb
        have hk' : m = 0 ∨ d[m]! ≠ d[m - 1]! := by simpa [keeps] using hk
        have a1 := hs j (m - 1) (by omega) (by omega)
        have a2 := hs (m - 1) m (by omega) (by omega)
        have hne : d[m]! ≠ d[m - 1]! := by rcases hk' with h0 | h0; · omega
                                           · exact h0
        cases hq : bef d[m - 1]! d[m]! with
        | false => exact absurd (bef_total _ _ a2 hq) hne
        | true => rw [bef_iff] at hq ⊢; rw [bef_no] at a1; omega
      · rw [List.mem_append, h2, List.mem_singleton]
        constructor
        · rintro (⟨j, hj, rfl⟩ | rfl)
          · exact ⟨j, by omega, rfl⟩
          · exact ⟨m, by omega, rfl⟩
        · rintro ⟨j, hj, rfl⟩
          by_cases hjm : j = m
          · subst hjm; exact .inr rfl
          · exact .inl ⟨j, by omega, rfl⟩
    · rw [if_neg hk, List.append_nil]
      refine ⟨h1, fun z => ?_⟩
      rw [h2]
      have hk' : ¬ (m = 0 ∨ d[m]! ≠ d[m - 1]!) := by simpa [keeps] using hk
      have he : d[m]! = d[m - 1]! := Decidable.byContradiction fun h => hk' (.inr h)
      constructor
      · rintro ⟨j, hj, rfl⟩; exact ⟨j, by omega, rfl⟩
      · rintro ⟨j, hj, rfl⟩
        by_cases hjm : j = m
        · subst hjm; exact ⟨j - 1, by omega, he.symm⟩
        · exact ⟨j, by omega, rfl⟩
theorem compactE_sorted (l ts : List Ed) (hp : ts.Perm (l.map fun e => edg e.1 e.2)) (hs : ∀ i j, i < j → j < ts.length → bef ts.toArray[j]! ts.toArray[i]! = false) : compact ts = ofl l := by
  have key := compactE_inv ts.toArray (fun i j hij hj => by
    by_cases e : i = j
    · subst e; exact bef_irrefl _
    · exact hs i j (by omega) (by simpa using hj)) ts.length (by simp)
  refine ascE_unique _ _ key.1 (asc_ofl l) fun z => ?_
  rw [mem_ofl, ← hp.mem_iff]
  show z ∈ compactUpTo ts.toArray ts.length ↔ _
  rw [key.2, List.mem_iff_getElem]
  constructor
  · rintro ⟨j, hj, rfl⟩; exact ⟨j, hj, by simp [hj]⟩
  · rintro ⟨j, hj, rfl⟩; exact ⟨j, hj, by simp [hj]⟩

theorem ltE_bef (a b : Ed) : decide (cmpE a b < 0) = bef a b := by
  cases h : bef a b with
  | true => rw [cmpE_lt a b h]; rfl
  | false => rcases cmpE_ge a b h with ⟨e, -⟩ | ⟨e, -⟩ <;> rw [e] <;> rfl
end Go.Proofs.Ytagkpkkbkeefbaa
