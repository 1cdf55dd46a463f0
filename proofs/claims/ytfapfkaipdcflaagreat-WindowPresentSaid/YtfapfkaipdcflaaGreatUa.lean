/-
  The reference's Check of windows.
-/
import Derived.Test.YtfapfkaipdcflaaGreatSu
namespace Go.Proofs.YtfapfkaipdcflaaGreat
open Go.RowKit Go.Lib

set_option maxHeartbeats 4000000 in
set_option maxRecDepth 100000 in
theorem rcheckW_any (k W M : Int) (w : World) : Calls Tryz.prog 22 #[.agg #[.int .i64 k, .int .i64 W, .int .i64 M]] w fun e w' => e = .returned (.int .i64 (chkW k W M)) ∧ Below w.heap.size w w' := by
  have hB : Hid (∀ o : Obj, Below w.heap.size w (w.alloc o)) := fun o => below_new w o
  by_cases h1 : k < 1
  · have HR : Hid (chkW k W M = 8) := by show _ = _; simp [chkW, kindB, kindR] <;> omega
    have t1 : decide (k < 1) = true := by rw [decide_eq_true_eq]; omega
    clear h1
    go_enter Tryz.func22, Tryz.ntmps22
    go_wp2
    go_ret
    exact ⟨ret_int HR.out.symm, hB.out _⟩
  by_cases h2 : 3 < k
  · have HR : Hid (chkW k W M = 8) := by show _ = _; simp [chkW, kindB, kindR] <;> omega
    have t2 : decide (k < 1) = false := by rw [decide_eq_false_iff_not]; omega
    have t3 : decide (k > 3) = true := by rw [decide_eq_true_eq]; omega
    clear h1 h2
    go_enter Tryz.func22, Tryz.ntmps22
    go_wp2
    go_ret
    exact ⟨ret_int HR.out.symm, hB.out _⟩
  obtain rfl | rfl | rfl : k = 1 ∨ k = 2 ∨ k = 3 := by omega
  · clear h1 h2
    by_cases h3 : W = 0
    · subst h3
      by_cases h4 : M = 0
      · subst h4
        have HR : Hid (chkW 1 0 0 = 0) := by show _ = _; simp [chkW, kindB, kindR] <;> omega
        go_enter Tryz.func22, Tryz.ntmps22
        go_wp2
        go_ret
        exact ⟨ret_int HR.out.symm, hB.out _⟩
      · have HR : Hid (chkW 1 0 M = 1) := by show _ = _; simp [chkW, kindB, kindR] <;> omega
        have t4 : (M != 0) = true := by simpa using (show M ≠ 0 by omega)
        clear h4
        go_enter Tryz.func22, Tryz.ntmps22
        go_wp2
        go_ret
        exact ⟨ret_int HR.out.symm, hB.out _⟩
    · have HR : Hid (chkW 1 W M = 1) := by show _ = _; simp [chkW, kindB, kindR] <;> omega
      have t5 : (W != 0) = true := by simpa using (show W ≠ 0 by omega)
      clear h3
      go_enter Tryz.func22, Tryz.ntmps22
      go_wp2
      go_ret
      exact ⟨ret_int HR.out.symm, hB.out _⟩
  · clear h1 h2
    by_cases h3 : W < 1
    · have HR : Hid (chkW 2 W M = 1) := by show _ = _; simp [chkW, kindB, kindR] <;> omega
      have t6 : decide (W < 1) = true := by rw [decide_eq_true_eq]; omega
      clear h3
      go_enter Tryz.func22, Tryz.ntmps22
      go_wp2
      go_ret
      exact ⟨ret_int HR.out.symm, hB.out _⟩
    by_cases h4 : 1048576 < W
    · have HR : Hid (chkW 2 W M = 1) := by show _ = _; simp [chkW, kindB, kindR] <;> omega
      have t7 : decide (W < 1) = false := by rw [decide_eq_false_iff_not]; omega
      have t8 : decide (W > 1048576) = true := by rw [decide_eq_true_eq]; omega
      clear h3 h4
      go_enter Tryz.func22, Tryz.ntmps22
      go_wp2
      go_ret
      exact ⟨ret_int HR.out.symm, hB.out _⟩
    by_cases h5 : M = 0
    · subst h5
      have HR : Hid (chkW 2 W 0 = 0) := by show _ = _; simp [chkW, kindB, kindR] <;> omega
      have t9 : decide (W < 1) = false := by rw [decide_eq_false_iff_not]; omega
      have t10 : decide (W > 1048576) = false := by rw [decide_eq_false_iff_not]; omega
      clear h3 h4
      go_enter Tryz.func22, Tryz.ntmps22
      go_wp2
      go_ret
      exact ⟨ret_int HR.out.symm, hB.out _⟩
    · have HR : Hid (chkW 2 W M = 1) := by show _ = _; simp [chkW, kindB, kindR] <;> omega
      have t11 : decide (W < 1) = false := by rw [decide_eq_false_iff_not]; omega
      have t12 : decide (W > 1048576) = false := by rw [decide_eq_false_iff_not]; omega
      have t13 : (M != 0) = true := by simpa using (show M ≠ 0 by omega)
      clear h3 h4 h5
      go_enter Tryz.func22, Tryz.ntmps22
      go_wp2
      go_ret
      exact ⟨ret_int HR.out.symm, hB.out _⟩
  · clear h1 h2
    by_cases h3 : W = 0
    · subst h3
      by_cases h4 : M < 0
      · have HR : Hid (chkW 3 0 M = 1) := by show _ = _; simp [chkW, kindB, kindR] <;> omega
        have t14 : decide (M < 0) = true := by rw [decide_eq_true_eq]; omega
        clear h4
        go_enter Tryz.func22, Tryz.ntmps22
        go_wp2
        go_ret
        exact ⟨ret_int HR.out.symm, hB.out _⟩
      by_cases h5 : 2016 < M
      · have HR : Hid (chkW 3 0 M = 1) := by show _ = _; simp [chkW, kindB, kindR] <;> omega
        have t15 : decide (M < 0) = false := by rw [decide_eq_false_iff_not]; omega
        have t16 : decide (M > 2016) = true := by rw [decide_eq_true_eq]; omega
        clear h4 h5
        go_enter Tryz.func22, Tryz.ntmps22
        go_wp2
        go_ret
        exact ⟨ret_int HR.out.symm, hB.out _⟩
      have HR : Hid (chkW 3 0 M = 0) := by show _ = _; simp [chkW, kindB, kindR] <;> omega
      have t17 : decide (M < 0) = false := by rw [decide_eq_false_iff_not]; omega
      have t18 : decide (M > 2016) = false := by rw [decide_eq_false_iff_not]; omega
      clear h4 h5
      go_enter Tryz.func22, Tryz.ntmps22
      go_wp2
      go_ret
      exact ⟨ret_int HR.out.symm, hB.out _⟩
    · have HR : Hid (chkW 3 W M = 1) := by show _ = _; simp [chkW, kindB, kindR] <;> omega
      have t19 : (W != 0) = true := by simpa using (show W ≠ 0 by omega)
      clear h3
      go_enter Tryz.func22, Tryz.ntmps22
      go_wp2
      go_ret
      exact ⟨ret_int HR.out.symm, hB.out _⟩
end Go.Proofs.YtfapfkaipdcflaaGreat
