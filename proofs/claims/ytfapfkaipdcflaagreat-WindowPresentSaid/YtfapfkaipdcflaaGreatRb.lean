/-
  Check of both sides.
-/
import Derived.Test.YtfapfkaipdcflaaGreatRa
namespace Go.Proofs.YtfapfkaipdcflaaGreat
open Go.RowKit Go.Lib

def okN (v : Int) : Bool := decide (0 ≤ v) && decide (v < 64)
theorem isNode_any (v : Int) (w : World) : Calls Tryz.prog 105 #[.int .i64 v] w fun e w' => e = .returned (.bool (okN v)) ∧ w = w' := by
  go_enter Tryz.func105, Tryz.ntmps105
  go_wp2
  all_goals (go_ret; refine ⟨ret_bool ?_, rfl⟩; simp [okN]; try omega)
def nodesB (e : Ev) : Bool := if e.kind = 3 then okN e.u && decide (e.v = 0) else okN e.u && okN e.v && !decide (e.u = e.v)
def attrB (e : Ev) : Bool :=
  if e.kind = 1 then decide (1 ≤ e.weight) && decide (e.weight ≤ 1000) && decide (0 ≤ e.label) && decide (e.label ≤ 15) && (decide (e.sign = 1) || decide (e.sign = -1)) else decide (e.weight = 0) && decide (e.label = 0) && decide (e.sign = 0)
/-- the first error of an event -/
def chkE (e : Ev) : Int := if ¬ (e.kind = 1 ∨ e.kind = 2 ∨ e.kind = 3) then 8 else if e.time < 0 ∨ 1048576 < e.time then 9 else if nodesB e = false then 6 else if attrB e = false then 1 else 0
theorem hasNodes_any (k t u v x y z : Int) (w : World) : Calls Tryz.prog 84 #[.agg #[.int .i64 k, .int .i64 t, .int .i64 u, .int .i64 v, .int .i64 x, .int .i64 y, .int .i64 z]] w fun e w' => e = .returned (.bool (nodesB ⟨k, t, u, v, x, y, z⟩)) ∧ Below w.heap.size w w' := by
  obtain ⟨R, HR⟩ : ∃ R, Hid (nodesB ⟨k, t, u, v, x, y, z⟩ = R) := ⟨_, rfl⟩
  rw [HR.out]
  have H := Lib.hid (below_new w (.cells #[.int .i64 k, .int .i64 t, .int .i64 u, .int .i64 v, .int .i64 x, .int .i64 y, .int .i64 z] 57))
  go_enter Tryz.func84, Tryz.ntmps84
  go_wp2_with (go_at_call 105; refine (isNode_any _ _).mono ?_; rintro e w' ⟨rfl, rfl⟩)
  all_goals (go_ret; refine ⟨ret_bool ?_, H.out⟩; rw [← HR.out]; clear HR H; simp_all [nodesB]; try grind)
theorem below_viaE {w w' : World} {o : Obj} (h : Below (w.alloc o).heap.size (w.alloc o) w') : Below w.heap.size w w' := (below_new w o).trans (h.mono (by simp))
theorem hasAttrs_any (k t u v x y z : Int) (w : World) : Calls Tryz.prog 85 #[.agg #[.int .i64 k, .int .i64 t, .int .i64 u, .int .i64 v, .int .i64 x, .int .i64 y, .int .i64 z]] w fun e w' => e = .returned (.bool (attrB ⟨k, t, u, v, x, y, z⟩)) ∧ Below w.heap.size w w' := by
  obtain ⟨R, HR⟩ : ∃ R, Hid (attrB ⟨k, t, u, v, x, y, z⟩ = R) := ⟨_, rfl⟩
  rw [HR.out]
  go_enter Tryz.func85, Tryz.ntmps85
  go_wp2
  all_goals (go_ret; refine ⟨ret_bool ?_, below_new _ _⟩; rw [← HR.out]; clear HR; simp_all [attrB]; try grind)
/-- the box of a struct, behind a callee that only makes memory -/
theorem box7 {w w1 : World} {a0 a1 a2 a3 a4 a5 a6 : Value} (hb : Below (w.alloc (.cells #[a0, a1, a2, a3, a4, a5, a6] 57)).heap.size (w.alloc (.cells #[a0, a1, a2, a3, a4, a5, a6] 57)) w1) :
    w1.cell? ⟨w.heap.size, 0, none⟩ = some a0 ∧ w1.cell? ⟨w.heap.size, 1, none⟩ = some a1 ∧ w1.cell? ⟨w.heap.size, 2, none⟩ = some a2 ∧ w1.cell? ⟨w.heap.size, 3, none⟩ = some a3 ∧ w1.cell? ⟨w.heap.size, 4, none⟩ = some a4 ∧ w1.cell? ⟨w.heap.size, 5, none⟩ = some a5 ∧ w1.cell? ⟨w.heap.size, 6, none⟩ = some a6 := by
  have h := (hb.block w.heap.size (by simp)).trans (heap_alloc_new _ _)
  exact ⟨Go.Joins.cell_of_block h 0, Go.Joins.cell_of_block h 1, Go.Joins.cell_of_block h 2, Go.Joins.cell_of_block h 3, Go.Joins.cell_of_block h 4, Go.Joins.cell_of_block h 5, Go.Joins.cell_of_block h 6⟩
theorem check_anyE (k t u v x y z : Int) (w : World) : Calls Tryz.prog 64 #[.agg #[.int .i64 k, .int .i64 t, .int .i64 u, .int .i64 v, .int .i64 x, .int .i64 y, .int .i64 z]] w fun e w' => e = .returned (.int .i64 (chkE ⟨k, t, u, v, x, y, z⟩)) ∧ Below w.heap.size w w' := by
  obtain ⟨R, HR⟩ : ∃ R, Hid (chkE ⟨k, t, u, v, x, y, z⟩ = R) := ⟨_, rfl⟩
  rw [HR.out]
  go_enter Tryz.func64, Tryz.ntmps64
  go_wp2_with (first
    | (go_at_call 84; refine (hasNodes_any _ _ _ _ _ _ _ _).mono ?_; rintro e w1 ⟨rfl, hb⟩; obtain ⟨b0, b1, b2, b3, b4, b5, b6⟩ := box7 hb; have H1 := Lib.hid (below_viaE hb); clear hb)
    | (go_at_call 85; refine (hasAttrs_any _ _ _ _ _ _ _ _).mono ?_; rintro e w2 ⟨rfl, hb⟩; have H2 := Lib.hid (H1.out.trans (hb.mono H1.out.size)); clear hb))
  all_goals (go_ret; refine ⟨ret_intN ?_, by first | exact H2.out | exact H1.out | exact below_new _ _⟩; rw [← HR.out]; clear HR; (try clear H1); (try clear H2); (try clear b0 b1 b2 b3 b4 b5 b6); simp_all [chkE]; try grind)
end Go.Proofs.YtfapfkaipdcflaaGreat
