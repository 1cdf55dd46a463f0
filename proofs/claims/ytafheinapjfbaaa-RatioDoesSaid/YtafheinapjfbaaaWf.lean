/- Walks of ratio.Valid and ratio.Floor. -/
import Derived.Test.YtafheinapjfbaaaWe
namespace Go.Proofs.Ytafheinapjfbaaa
open Go.RowKit Go.Lib Go.BigFrame
/-- a fraction is valid -/
def Vld (n d : Int) : Prop := n.natAbs ≤ 1152921504606846976 ∧ 1 ≤ d ∧ d ≤ 1152921504606846976 ∧ Nat.gcd n.natAbs d.natAbs = 1
instance (n d : Int) : Decidable (Vld n d) := by unfold Vld; infer_instance
def vldB (n d : Int) : Bool := decide (Vld n d)
theorem vldB_false {n d : Int} (h : ¬ Vld n d) : vldB n d = false := decide_eq_false h
theorem vldB_true {n d : Int} (h : Vld n d) : vldB n d = true := decide_eq_true h
set_option maxHeartbeats 400000 in
theorem valid_any (n d : Int) (w : World) (hn1 : -9223372036854775808 ≤ n) (hn2 : n < 9223372036854775808) (hd1 : -9223372036854775808 ≤ d) (hd2 : d < 9223372036854775808) :
    Calls Try.prog 10 #[.agg #[.int .i64 n, .int .i64 d]] w fun e w' => e = .returned (.bool (vldB n d)) ∧ Below w.heap.size w w' := by
  by_cases h1 : -1152921504606846976 ≤ n
  case neg =>
    rw [vldB_false (fun h => by have := h.1; omega)]
    have g1 : decide (-1152921504606846976 ≤ n) = false := decide_eq_false h1
    go_enter Try.func10, Try.ntmps10
    go_wp2
    refine wp_region_over (by kernel_rfl) (by kernel_rfl) ?_
    repeat (go_big_quiet_step (fail))
    refine wpQuiet_nil ?_
    rintro _ ⟨x, rfl⟩
    have hB := bnext (w := w) (by go_grown) (over_below _ x)
    go_wp2
    go_ret
    exact ⟨rfl, by go_grown⟩
  by_cases h2 : n ≤ 1152921504606846976
  case neg =>
    rw [vldB_false (fun h => by have := h.1; omega)]
    have g1 : decide (-1152921504606846976 ≤ n) = true := decide_eq_true h1
    have g2 : decide (n ≤ 1152921504606846976) = false := decide_eq_false h2
    go_enter Try.func10, Try.ntmps10
    go_wp2
    refine wp_region_over (by kernel_rfl) (by kernel_rfl) ?_
    repeat (go_big_quiet_step (fail))
    refine wpQuiet_nil ?_
    rintro _ ⟨x, rfl⟩
    have hB := bnext (w := w) (by go_grown) (over_below _ x)
    go_wp2
    go_ret
    exact ⟨rfl, by go_grown⟩
  by_cases h3 : 1 ≤ d
  case neg =>
    rw [vldB_false (fun h => by have := h.2.1; omega)]
    have g1 : decide (-1152921504606846976 ≤ n) = true := decide_eq_true h1
    have g2 : decide (n ≤ 1152921504606846976) = true := decide_eq_true h2
    have g3 : decide (1 ≤ d) = false := decide_eq_false h3
    go_enter Try.func10, Try.ntmps10
    go_wp2
    refine wp_region_over (by kernel_rfl) (by kernel_rfl) ?_
    repeat (go_big_quiet_step (fail))
    refine wpQuiet_nil ?_
    rintro _ ⟨x, rfl⟩
    have hB := bnext (w := w) (by go_grown) (over_below _ x)
    go_wp2
    go_ret
    exact ⟨rfl, by go_grown⟩
  by_cases h4 : d ≤ 1152921504606846976
  case neg =>
    rw [vldB_false (fun h => by have := h.2.2.1; omega)]
    have g1 : decide (-1152921504606846976 ≤ n) = true := decide_eq_true h1
    have g2 : decide (n ≤ 1152921504606846976) = true := decide_eq_true h2
    have g3 : decide (1 ≤ d) = true := decide_eq_true h3
    have g4 : decide (d ≤ 1152921504606846976) = false := decide_eq_false h4
    go_enter Try.func10, Try.ntmps10
    go_wp2
    refine wp_region_over (by kernel_rfl) (by kernel_rfl) ?_
    repeat (go_big_quiet_step (fail))
    refine wpQuiet_nil ?_
    rintro _ ⟨x, rfl⟩
    have hB := bnext (w := w) (by go_grown) (over_below _ x)
    go_wp2
    go_ret
    exact ⟨rfl, by go_grown⟩
  have e1 : vldB n d = ((Nat.gcd n.natAbs d.natAbs : Int) == 1) := by
    have : Vld n d ↔ (Nat.gcd n.natAbs d.natAbs : Int) = 1 := by unfold Vld; omega
    unfold vldB
    rw [Bool.eq_iff_iff, decide_eq_true_iff, beq_iff_eq, this]
  rw [e1]
  clear e1
  have cG := fun w => cd_any n.natAbs d.natAbs w (by omega) (by omega)
  generalize Nat.gcd n.natAbs d.natAbs = g at *
  have CN := Lib.hid (fun w => mag_any n w hn1 hn2)
  have CD := Lib.hid (fun w => mag_any d w hd1 hd2)
  have CG := Lib.hid cG; clear cG
  have hdn : d.natAbs ≤ 1152921504606846976 := by omega
  have hnn : n.natAbs ≤ 1152921504606846976 := by omega
  go_enter Try.func10, Try.ntmps10
  go_wp2
  refine wp_region_over (by kernel_rfl) (by kernel_rfl) ?_
  repeat (go_big_quiet_step (first | (go_at_call 28; exact calls_over_same (mag_any _ _ (by assumption) (by assumption))) | (go_at_call 29; exact calls_over_drew (CG.out _))))
  refine wpQuiet_nil ?_
  rintro _ ⟨x, rfl⟩
  have hB := bnext (w := w) (by go_grown) (over_below _ x)
  go_wp2
  go_ret
  exact ⟨rfl, by go_grown⟩
end Go.Proofs.Ytafheinapjfbaaa
