/-
  The small functions of package links: links and events of one another; the order of links; the checks.
-/
import Derived.Test.YtfapfkaipdcflaaLw
import Derived.Test.YtfapfkaipdcflaaSd
import Derived.Test.YtfapfkaipdcflaaIn
import Derived.Laws.ResultCell
namespace Go.Proofs.Ytfapfkaipdcflaa.K
open Go.RowKit Go.Lib

theorem lbetween_any (u v : Int) (w : World) : Calls Try.prog 93 #[.int .i64 u, .int .i64 v] w fun e w' => e = .returned (.agg #[.int .i64 (min u v), .int .i64 (max u v), .int .i64 0, .int .i64 0, .int .i64 0, .int .i64 0]) ∧ Below w.heap.size w w' := by
  go_enter Try.func93, Try.ntmps93
  go_wp2
  all_goals exact bodyPost_ret (v := .agg #[.int .i64 (min u v), .int .i64 (max u v), .int .i64 0, .int .i64 0, .int .i64 0, .int .i64 0]) (by simp [results, Try.results93, go_sem] <;> omega) rfl ⟨rfl, (Below.refl _ _).alloc (Nat.le_refl _) _⟩
theorem setOf_any (u v x y z t : Int) (w : World) : Calls Try.prog 91 #[.agg #[.int .i64 u, .int .i64 v, .int .i64 x, .int .i64 y, .int .i64 z, .int .i64 t]] w fun e w' => e = .returned (.agg #[.int .i64 1, .int .i64 t, .int .i64 u, .int .i64 v, .int .i64 x, .int .i64 y, .int .i64 z]) ∧ Below w.heap.size w w' := by
  go_enter Try.func91, Try.ntmps91
  go_wp2
  exact bodyPost_ret (v := .agg #[.int .i64 1, .int .i64 t, .int .i64 u, .int .i64 v, .int .i64 x, .int .i64 y, .int .i64 z]) (by simp [results, Try.results91, go_sem]) rfl ⟨rfl, ((Below.refl _ _).alloc (Nat.le_refl _) _).alloc (by simp) _⟩
theorem checkEvent_any (n k t u v x y z : Int) (w : World) : Calls Try.prog 54 #[.int .i64 n, .agg #[.int .i64 k, .int .i64 t, .int .i64 u, .int .i64 v, .int .i64 x, .int .i64 y, .int .i64 z]] w fun e w' => e = .returned (.int .i64 (if chkE ⟨k, t, u, v, x, y, z⟩ ≠ 0 then chkE ⟨k, t, u, v, x, y, z⟩ else if n ≤ u ∨ n ≤ v then 6 else 0)) ∧ Below w.heap.size w w' := by
  obtain ⟨R, HR⟩ : ∃ R, Hid (chkE ⟨k, t, u, v, x, y, z⟩ = R) := ⟨_, rfl⟩
  rw [HR.out]
  have C := Lib.hid (fun w => check_anyE k t u v x y z w)
  simp only [HR.out] at C
  clear HR
  have HA := Lib.hid (below_new w (.cells #[.int .i64 k, .int .i64 t, .int .i64 u, .int .i64 v, .int .i64 x, .int .i64 y, .int .i64 z] 40))
  by_cases h0 : R = 0
  · subst h0
    obtain ⟨X, HX⟩ : ∃ X : Int, Hid (X = if n ≤ u ∨ n ≤ v then 6 else 0) := ⟨_, rfl⟩
    rw [if_neg (by decide), ← HX.out]
    go_enter Try.func54, Try.ntmps54
    go_wp2_with fail
    refine (C.out _).mono ?_
    rintro e w1 ⟨rfl, hb⟩
    obtain ⟨b0, b1, b2, b3, b4, b5, b6⟩ := box7 hb
    have HB := Lib.hid (below_viaE hb)
    clear hb b0 b1 b4 b5 b6
    go_wp2
    all_goals (go_ret; refine ⟨ret_intN ?_, HB.out⟩; rw [HX.out]; clear HX HB HA C; simp_all; try omega)
  · rw [if_pos h0]
    have hd : (R != 0) = true := by simpa using h0
    have hd' : (R == 0) = false := by simpa using h0
    clear h0
    go_enter Try.func54, Try.ntmps54
    go_wp2_with fail
    refine (C.out _).mono ?_
    rintro e w1 ⟨rfl, hb⟩
    have HB := Lib.hid (below_viaE hb)
    clear hb
    go_wp2
    go_ret
    exact ⟨rfl, HB.out⟩
end Go.Proofs.Ytfapfkaipdcflaa.K
