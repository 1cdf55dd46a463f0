/- Walks of the reference's add and Neg. -/
import Derived.Test.YtafheinapjfbaaaYb
namespace Go.Proofs.Ytafheinapjfbaaa
open Go.RowKit Go.Lib Go.BigFrame
theorem add_words (x y : Nat) (h : x + y < 340282366920938463463374607431768211456) :
    (lN x + lN y < 18446744073709551616 → hN (x + y) = hN x + hN y ∧ lN (x + y) = lN x + lN y) ∧
    (18446744073709551616 ≤ lN x + lN y → hN (x + y) = hN x + hN y + 1 ∧ lN (x + y) + 18446744073709551616 = lN x + lN y) := by
  unfold hN lN; constructor <;> intro h <;> omega
set_option maxHeartbeats 400000 in
theorem radd_any (x y : Nat) (h : x + y < 340282366920938463463374607431768211456) (w : World) :
    Calls Try.prog 38 #[.agg #[.int .u64 (hN x), .int .u64 (lN x)], .agg #[.int .u64 (hN y), .int .u64 (lN y)]] w fun e w' =>
      e = .returned (.agg #[.int .u64 (hN (x + y)), .int .u64 (lN (x + y))]) ∧ Below w.heap.size w w' := by
  obtain ⟨k1, k2⟩ := add_words x y h
  have b1 := hN_lt (x + y); have b2 := lN_lt (x + y); have b3 := lN_lt x; have b4 := lN_lt y
  clear h
  generalize hN (x + y) = s1 at *
  generalize lN (x + y) = s2 at *
  generalize hN x = x1 at *
  generalize lN x = x2 at *
  generalize hN y = y1 at *
  generalize lN y = y2 at *
  by_cases hc : x2 + y2 < 18446744073709551616
  · obtain ⟨rfl, rfl⟩ := k1 hc
    have e1 : IntKind.u64.wrap ((x1 : Int) + y1) = ((x1 + y1 : Nat) : Int) := by simp only [IntKind.wrap_u64]; omega
    have e2 : IntKind.u64.wrap ((x2 : Int) + y2) = ((x2 + y2 : Nat) : Int) := by simp only [IntKind.wrap_u64]; omega
    have g1 : decide (IntKind.u64.wrap ((x2 : Int) + y2) < x2) = false := by rw [e2, decide_eq_false_iff_not]; omega
    have E1 := Lib.hid e1; have E2 := Lib.hid e2
    clear e1 e2 k1 k2 b1 b2 b3 b4 hc
    go_enter Try.func38, Try.ntmps38
    go_wp2
    exact bodyPost_ret (v := .agg #[.int .u64 (IntKind.u64.wrap ((x1 : Int) + y1)), .int .u64 (IntKind.u64.wrap ((x2 : Int) + y2))]) (by simp [results, Try.results38, go_sem]) rfl ⟨ret_two E1.out E2.out, by go_grown⟩
  · obtain ⟨rfl, k3⟩ := k2 (by omega)
    have e1 : IntKind.u64.wrap (IntKind.u64.wrap ((x1 : Int) + y1) + 1) = ((x1 + y1 + 1 : Nat) : Int) := by simp only [IntKind.wrap_u64]; omega
    have e2 : IntKind.u64.wrap ((x2 : Int) + y2) = (s2 : Int) := by simp only [IntKind.wrap_u64]; omega
    have g1 : decide (IntKind.u64.wrap ((x2 : Int) + y2) < x2) = true := by rw [e2, decide_eq_true_eq]; omega
    have E1 := Lib.hid e1; have E2 := Lib.hid e2
    clear e1 e2 k1 k2 b1 b2 b3 b4 hc k3
    go_enter Try.func38, Try.ntmps38
    go_wp2
    exact bodyPost_ret (v := .agg #[.int .u64 (IntKind.u64.wrap (IntKind.u64.wrap ((x1 : Int) + y1) + 1)), .int .u64 (IntKind.u64.wrap ((x2 : Int) + y2))]) (by simp [results, Try.results38, go_sem]) rfl ⟨ret_two E1.out E2.out, by go_grown⟩
set_option maxHeartbeats 400000 in
theorem rneg_any (n d : Int) (h1 : -1152921504606846976 ≤ n) (h2 : n ≤ 1152921504606846976) (w : World) :
    Calls Try.prog 42 #[.agg #[.int .i64 n, .int .i64 d]] w fun e w' => e = .returned (.agg #[.int .i64 (-n), .int .i64 d]) ∧ Below w.heap.size w w' := by
  have e1 : wrap64 (-n) = -n := IntWalk.wrap64_in _ ⟨by omega, by omega⟩
  go_enter Try.func42, Try.ntmps42
  go_wp2
  exact bodyPost_ret (v := .agg #[.int .i64 (-n), .int .i64 d]) (by simp [results, Try.results42, go_sem, *]) rfl ⟨rfl, by go_grown⟩
end Go.Proofs.Ytafheinapjfbaaa
