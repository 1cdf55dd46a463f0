/-
  What stands behind the reading of an event: its numbers; a struct that is returned.
-/
import Derived.Test.YtnohmgmpabckkaaDoorVk
import Derived.Laws.ResultCell
namespace Go.Proofs.YtnohmgmpabckkaaDoor
open Go.RowKit Go.Lib

theorem rn5 (A : Option Addr) (c : Nat) (t u v x y : Int) (ht : 0 ≤ t ∧ t ≤ 1048576) (hu : 0 ≤ u ∧ u < 64) (hv : 0 ≤ v ∧ v < 64) (hx : 0 ≤ x ∧ x ≤ 1000) (hy : 0 ≤ y ∧ y ≤ 15) (w : World)
    (h : RSt w.heap.size w A c [mk (Lib.itoa t), mk (Lib.itoa u), mk (Lib.itoa v), mk (Lib.itoa x), mk (Lib.itoa y)]) :
    Calls Tryd.prog 65 #[.slice A 5 c, .int .i64 5] w fun e w' => e = .returned (.tuple #[.agg #[.int .i64 t, .int .i64 u, .int .i64 v, .int .i64 x, .int .i64 y], .bool true]) ∧ Below w.heap.size w w' := by
  have := readNumbers_any A c [Lib.itoa t, Lib.itoa u, Lib.itoa v, Lib.itoa x, Lib.itoa y] _ rfl w h (by simp) (by
    intro l hl
    simp at hl
    rcases hl with rfl | rfl | rfl | rfl | rfl <;> exact NW_itoa _ (by omega) (by omega))
  simp [numsV, nbs, nv, (itoa_dig t ht.1).2.2, (itoa_dig u hu.1).2.2, (itoa_dig v hv.1).2.2, (itoa_dig x hx.1).2.2, (itoa_dig y hy.1).2.2] at this
  exact this
theorem rn3 (A : Option Addr) (c : Nat) (t u v : Int) (ht : 0 ≤ t ∧ t ≤ 1048576) (hu : 0 ≤ u ∧ u < 64) (hv : 0 ≤ v ∧ v < 64) (w : World)
    (h : RSt w.heap.size w A c [mk (Lib.itoa t), mk (Lib.itoa u), mk (Lib.itoa v)]) :
    Calls Tryd.prog 65 #[.slice A 3 c, .int .i64 3] w fun e w' => e = .returned (.tuple #[.agg #[.int .i64 t, .int .i64 u, .int .i64 v, .int .i64 0, .int .i64 0], .bool true]) ∧ Below w.heap.size w w' := by
  have := readNumbers_any A c [Lib.itoa t, Lib.itoa u, Lib.itoa v] _ rfl w h (by simp) (by
    intro l hl
    simp at hl
    rcases hl with rfl | rfl | rfl <;> exact NW_itoa _ (by omega) (by omega))
  simp [numsV, nbs, nv, (itoa_dig t ht.1).2.2, (itoa_dig u hu.1).2.2, (itoa_dig v hv.1).2.2] at this
  exact this
theorem rn2 (A : Option Addr) (c : Nat) (t u : Int) (ht : 0 ≤ t ∧ t ≤ 1048576) (hu : 0 ≤ u ∧ u < 64) (w : World)
    (h : RSt w.heap.size w A c [mk (Lib.itoa t), mk (Lib.itoa u)]) :
    Calls Tryd.prog 65 #[.slice A 2 c, .int .i64 2] w fun e w' => e = .returned (.tuple #[.agg #[.int .i64 t, .int .i64 u, .int .i64 0, .int .i64 0, .int .i64 0], .bool true]) ∧ Below w.heap.size w w' := by
  have := readNumbers_any A c [Lib.itoa t, Lib.itoa u] _ rfl w h (by simp) (by
    intro l hl
    simp at hl
    rcases hl with rfl | rfl <;> exact NW_itoa _ (by omega) (by omega))
  simp [numsV, nbs, nv, (itoa_dig t ht.1).2.2, (itoa_dig u hu.1).2.2] at this
  exact this
/-- seven stores into a block of the call's own -/
theorem below_set7 {B g : Nat} {w w' : World} (h : Below B w w') (hg : B ≤ g) (v0 v1 v2 v3 v4 v5 v6 : Value) :
    Below B w (((((((w'.setCell ⟨g, 0, none⟩ v0).setCell ⟨g, 1, none⟩ v1).setCell ⟨g, 2, none⟩ v2).setCell ⟨g, 3, none⟩ v3).setCell ⟨g, 4, none⟩ v4).setCell ⟨g, 5, none⟩ v5).setCell ⟨g, 6, none⟩ v6) :=
  (((((((h.setCell (p := ⟨g, 0, none⟩) hg _).setCell (p := ⟨g, 1, none⟩) hg _).setCell (p := ⟨g, 2, none⟩) hg _).setCell (p := ⟨g, 3, none⟩) hg _).setCell (p := ⟨g, 4, none⟩) hg _).setCell (p := ⟨g, 5, none⟩) hg _).setCell (p := ⟨g, 6, none⟩) hg _)
theorem box7f {w w1 : World} {a0 a1 a2 a3 a4 a5 a6 : Value} (hb : Below (w.alloc (.cells #[a0, a1, a2, a3, a4, a5, a6] 23)).heap.size (w.alloc (.cells #[a0, a1, a2, a3, a4, a5, a6] 23)) w1) : ∀ j, w1.frozen? ⟨w.heap.size, j, none⟩ = false :=
  Go.Joins.unfrozen_of_block ((hb.block w.heap.size (by simp)).trans (heap_alloc_new _ _))
theorem set7_blk (w : World) (g : Nat) (a0 a1 a2 a3 a4 a5 a6 : Value) (h : w.heap[g]? = some (.cells #[a0, a1, a2, a3, a4, a5, a6] 23 (0, 0))) (v0 v1 v2 v3 v4 v5 v6 : Value) :
    (((((((w.setCell ⟨g, 0, none⟩ v0).setCell ⟨g, 1, none⟩ v1).setCell ⟨g, 2, none⟩ v2).setCell ⟨g, 3, none⟩ v3).setCell ⟨g, 4, none⟩ v4).setCell ⟨g, 5, none⟩ v5).setCell ⟨g, 6, none⟩ v6).heap[g]? = some (.cells #[v0, v1, v2, v3, v4, v5, v6] 23 (0, 0)) := by
  have step : ∀ (w : World) (cs : Array Value) (j : Nat) (v : Value), w.heap[g]? = some (.cells cs 23 (0, 0)) → (w.setCell ⟨g, j, none⟩ v).heap[g]? = some (.cells (cs.setIfInBounds j v) 23 (0, 0)) := by
    intro w cs j v hw
    simp [World.setCell, Array.getElem?_modify, hw]
  have := step _ _ 6 v6 (step _ _ 5 v5 (step _ _ 4 v4 (step _ _ 3 v3 (step _ _ 2 v2 (step _ _ 1 v1 (step w _ 0 v0 h))))))
  rw [this]
  rfl
theorem ret_struct {fn : Func} {R : Ending → World → Prop} {a : Act} {w : World} {p u : Nat} (hres : fn.results = #[.cell p 23, .tmp u]) (hd : a.defers = []) (g : Nat) (hp : a.tmps.getD p undef = .pointer (some ⟨g, 0, none⟩)) (x : Value) (hu : a.tmps.getD u undef = x)
    {v0 v1 v2 v3 v4 v5 v6 : Value} (hb : w.heap[g]? = some (.cells #[v0, v1, v2, v3, v4, v5, v6] 23 (0, 0))) (h : R (.returned (.tuple #[.agg #[v0, v1, v2, v3, v4, v5, v6], x])) w) : bodyPost Tryd.prog fn R .ret a w := by
  have hc := Go.Joins.cell_of_block hb
  have y0 := hc 0; have y1 := hc 1; have y2 := hc 2; have y3 := hc 3; have y4 := hc 4; have y5 := hc 5; have y6 := hc 6
  simp only [List.getElem?_toArray, List.getElem?_cons_succ, List.getElem?_cons_zero] at y0 y1 y2 y3 y4 y5 y6
  refine bodyPost_ret (v := .tuple #[.agg #[v0, v1, v2, v3, v4, v5, v6], x]) ?_ hd h
  rw [results_cell_tmp hres, hp, hu]
  clear hp hu hres h hd hb hc
  simp [go_sem, y0, y1, y2, y3, y4, y5, y6]
end Go.Proofs.YtnohmgmpabckkaaDoor
