/-
  slices.SortFunc at edges, in a row of the caller's own; what sorting and compacting make of a list of edges.
-/
import Derived.Test.YtioohmhllajifaaGreatHb
import Derived.Test.YtioohmhllajifaaGreatHc
import Derived.Test.YtioohmhllajifaaGreatSs
import Derived.Shelf.SlSortCmp.WholeK
namespace Go.Proofs.YtioohmhllajifaaGreat
open Go.RowKit Go.Lib Go.Sort

def encE (e : Ed) : List Value := [.int .i64 e.1, .int .i64 e.2]
theorem flat_ev (l : List Ed) : (flatK encE 2 l.toArray).toList = ev l := by
  apply List.ext_getElem?
  intro j
  by_cases hj : j < l.length * 2
  · have h1 : j / 2 < l.length := by omega
    have hl : l[j / 2]? = some l[j / 2] := List.getElem?_eq_getElem h1
    obtain ⟨a, b⟩ := ev_at l (j / 2) _ hl
    have e1 : (flatK encE 2 l.toArray).toList[j]? = some ((encE l[j / 2])[j % 2]!) := by
      unfold flatK
      simp [hj, h1]
    rw [e1]
    have : j % 2 = 0 ∨ j % 2 = 1 := by omega
    rcases this with h | h
    · rw [h]; have : j = j / 2 * 2 := by omega
      rw [← this] at a; rw [a]; rfl
    · rw [h]; have : j = j / 2 * 2 + 1 := by omega
      rw [← this] at b; rw [b]; rfl
  · rw [List.getElem?_eq_none (by simp; omega), List.getElem?_eq_none (by rw [len_ev]; omega)]

section
variable {w : World} {base g c : Nat} {l : List Ed}
theorem own_holds (h : w.ownsRow base 53 2 (.slice (some ⟨g, 0, none⟩) l.length c) l.length (ev l)) : HoldsK encE 2 w g 0 l.toArray := by
  intro j hj
  have hj' : j < l.length * 2 := by simpa using hj
  refine ⟨?_, by rw [Nat.zero_add]; exact h.frozenAt _⟩
  rw [Nat.zero_add, h.cellAt j hj', ← flat_ev, Array.getElem?_toList]
  rw [Array.getElem?_eq_getElem hj, getElem!_pos _ j hj]
  rfl
theorem own_sorted (h : w.ownsRow base 53 2 (.slice (some ⟨g, 0, none⟩) l.length c) l.length (ev l)) (ts : List Ed) (hts : ts.length = l.length) (n : Nat) (os : Array Obj) :
    (sortWorldK encE 2 w g 0 n ts.toArray os).ownsRow base 53 2 (.slice (some ⟨g, 0, none⟩) ts.length c) ts.length (ev ts) ∧ Below base w (sortWorldK encE 2 w g 0 n ts.toArray os) := by
  rcases h.2 with ⟨h', _⟩ | ⟨g', cap', cur, h', hb, hg, hnc, hcm, hcs, htake⟩
  · simp at h'
  simp only [Value.slice.injEq, Option.some.injEq, Addr.mk.injEq, and_true, true_and] at h'
  obtain ⟨rfl, rfl⟩ := h'
  have hgl : g < w.heap.size := (Array.getElem?_eq_some_iff.1 hg).1
  have e1 : (sortWorldK encE 2 w g 0 n ts.toArray os).heap[g]? = some (.cells (putCells id 0 (flatK encE 2 ts.toArray) cur) 53 (0, 0)) := by
    unfold sortWorldK putRowK
    rw [heap_grow_old _ _ (by simpa [putRow, mapBlock, Sort.ahead] using hgl)]
    simp [putRow, mapBlock, Sort.ahead, Array.getElem?_modify, hg, onCells]
  refine ⟨⟨len_ev ts, .inr ⟨g, c, _, rfl, hb, e1, by omega, hcm, by simpa [putCells] using hcs, ?_⟩⟩, rfl, rfl, rfl, ?_, ?_⟩
  · rw [← flat_ev ts]
    apply List.ext_getElem?
    intro j
    by_cases hj : j < ts.length * 2
    · rw [List.getElem?_take_of_lt hj, Array.getElem?_toList, Array.getElem?_toList]
      have hj2 : j < cur.size := by omega
      simp [putCells, hj, hj2]
    · rw [List.getElem?_take_eq_none (by omega), List.getElem?_eq_none (by simp; omega)]
  · simp [sortWorldK, putRowK, putRow, mapBlock, Sort.ahead, grow]
  · intro k hk
    have hne : g ≠ k := by omega
    unfold sortWorldK putRowK
    by_cases hkw : k < w.heap.size
    · rw [heap_grow_old _ _ (by simpa [putRow, mapBlock, Sort.ahead] using hkw)]
      simp [putRow, mapBlock, Sort.ahead, Array.getElem?_modify, hne]
    · omega
end
end Go.Proofs.YtioohmhllajifaaGreat
