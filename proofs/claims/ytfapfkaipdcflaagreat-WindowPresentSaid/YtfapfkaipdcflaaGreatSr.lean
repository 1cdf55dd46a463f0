/-
  The reference's check of events.
-/
import Derived.Test.YtfapfkaipdcflaaGreatRb
namespace Go.Proofs.YtfapfkaipdcflaaGreat
open Go.RowKit Go.Lib

theorem from_any (n a b : Int) (w : World) : Calls Tryz.prog 69 #[.int .i64 n, .int .i64 a, .int .i64 b] w fun e w' => e = .returned (.bool (decide (a ≤ n) && decide (n ≤ b))) ∧ w = w' := by
  go_enter Tryz.func69, Tryz.ntmps69
  go_wp2
  all_goals (go_ret; refine ⟨ret_bool ?_, rfl⟩; simp_all; try omega)
theorem attributes_any (x y z : Int) (w : World) : Calls Tryz.prog 63 #[.int .i64 x, .int .i64 y, .int .i64 z] w fun e w' => e = .returned (.int .i64 (if attrB ⟨1, 0, 0, 0, x, y, z⟩ = false then 1 else 0)) ∧ w = w' := by
  obtain ⟨R, HR⟩ : ∃ R : Int, Hid ((if attrB ⟨1, 0, 0, 0, x, y, z⟩ = false then 1 else 0) = R) := ⟨_, rfl⟩
  rw [HR.out]
  go_enter Tryz.func63, Tryz.ntmps63
  go_wp2_with (go_at_call 69; refine (from_any _ _ _ _).mono ?_; rintro e w' ⟨rfl, rfl⟩)
  all_goals (go_ret; refine ⟨ret_intN ?_, rfl⟩; rw [← HR.out]; clear HR; simp_all [attrB]; try grind)
set_option maxHeartbeats 2000000 in
theorem rcheck_anyE (k t u v x y z : Int) (w : World) : Calls Tryz.prog 45 #[.agg #[.int .i64 k, .int .i64 t, .int .i64 u, .int .i64 v, .int .i64 x, .int .i64 y, .int .i64 z]] w fun e w' => e = .returned (.int .i64 (chkE ⟨k, t, u, v, x, y, z⟩)) ∧ Below w.heap.size w w' := by
  obtain ⟨R, HR⟩ : ∃ R, Hid (chkE ⟨k, t, u, v, x, y, z⟩ = R) := ⟨_, rfl⟩
  rw [HR.out]
  go_enter Tryz.func45, Tryz.ntmps45
  go_wp2_with (first
    | (go_at_call 69; refine (from_any _ _ _ _).mono ?_; rintro e w' ⟨rfl, rfl⟩)
    | (go_at_call 63; refine (attributes_any _ _ _ _).mono ?_; rintro e w' ⟨rfl, rfl⟩))
  all_goals (go_ret; refine ⟨ret_intN ?_, below_new _ _⟩; rw [← HR.out]; clear HR; simp_all [chkE, nodesB, okN, attrB]; try grind)
end Go.Proofs.YtfapfkaipdcflaaGreat
