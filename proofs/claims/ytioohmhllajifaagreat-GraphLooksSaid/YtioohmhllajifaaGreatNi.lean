/-
  The examples of the chapter answer true.
-/
import Derived.Test.YtioohmhllajifaaGreatNh
namespace Go.Proofs.YtioohmhllajifaaGreat
open Go.RowKit Go.Lib

theorem rd_new (w : World) (l : List Int) : RD (w.alloc (.cells (vals l).toArray 3)) (some ⟨w.heap.size, 0, none⟩) l.length l := by
  refine ⟨Nat.le_refl _, by simp [vals], fun _ => ⟨_, rfl, by simp, fun j u hu => ?_⟩⟩
  have := (Go.Joins.cell_of_block (w := w.alloc (.cells (vals l).toArray 3)) (heap_alloc_new w _) j)
  rw [show ((⟨w.heap.size, 0, none⟩ : Addr).add j) = ⟨w.heap.size, j, none⟩ by unfold Addr.add; split <;> simp_all]
  rw [this]; simpa using hu
theorem below_new (w : World) (o : Obj) : Below w.heap.size w (w.alloc o) := (Below.refl _ _).alloc (Nat.le_refl _) o

end Go.Proofs.YtioohmhllajifaaGreat
