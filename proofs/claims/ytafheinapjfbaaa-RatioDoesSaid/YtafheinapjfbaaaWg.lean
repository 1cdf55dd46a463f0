/- Walks of the reference's wide numbers: less, sub, double. -/
import Derived.Test.YtafheinapjfbaaaWf
namespace Go.Proofs.Ytafheinapjfbaaa
open Go.RowKit Go.Lib Go.BigFrame
set_option maxHeartbeats 400000 in
theorem less_any (xh xl yh yl : Nat) (w : World) :
    Calls Try.prog 39 #[.agg #[.int .u64 xh, .int .u64 xl], .agg #[.int .u64 yh, .int .u64 yl]] w fun e w' =>
      e = .returned (.bool (decide (xh < yh ∨ xh = yh ∧ xl < yl))) ∧ Below w.heap.size w w' := by
  by_cases h1 : xh < yh
  · have g1 : decide ((xh : Int) < yh) = true := by simpa using h1
    go_enter Try.func39, Try.ntmps39
    go_wp2
    go_ret
    exact ⟨ret_bool (by simp [h1]), by go_grown⟩
  · have g1 : decide ((xh : Int) < yh) = false := by simpa using h1
    by_cases h2 : xh = yh
    · subst h2
      go_enter Try.func39, Try.ntmps39
      go_wp2
      go_ret
      exact ⟨ret_bool (by simp), by go_grown⟩
    · have g2 : ((xh : Int) == yh) = false := by (rw [beq_eq_false_iff_ne]; omega)
      go_enter Try.func39, Try.ntmps39
      go_wp2
      go_ret
      exact ⟨ret_bool (by simp; omega), by go_grown⟩
theorem sub_hi_w (xh xl yh yl : Nat) (h3 : xh < 18446744073709551616) (h4 : yh < 18446744073709551616) (h1 : xl < 18446744073709551616) (h2 : yl < 18446744073709551616) (h : xl < yl) :
    IntKind.u64.wrap (IntKind.u64.wrap ((xh : Int) - yh) - 1) = (hiOf (uw xh xl - uw yh yl) : Nat) := by
  rw [← sub_hi_t xh xl yh yl h3 h4 h1 h2 h]; simp only [IntKind.wrap_u64]; omega
theorem sub_hi_w2 (xh xl yh yl : Nat) (h3 : xh < 18446744073709551616) (h4 : yh < 18446744073709551616) (h1 : xl < 18446744073709551616) (h2 : yl < 18446744073709551616) (h : ¬ xl < yl) :
    IntKind.u64.wrap ((xh : Int) - yh) = (hiOf (uw xh xl - uw yh yl) : Nat) := by
  rw [← sub_hi_f xh xl yh yl h3 h4 h1 h2 h]; simp only [IntKind.wrap_u64]; omega
theorem sub_lo_w (xh xl yh yl : Nat) (h1 : xl < 18446744073709551616) (h2 : yl < 18446744073709551616) :
    IntKind.u64.wrap ((xl : Int) - yl) = (loOf (uw xh xl - uw yh yl) : Nat) := by
  rw [← sub_lo xh xl yh yl h1 h2]; simp only [IntKind.wrap_u64]; omega
set_option maxHeartbeats 400000 in
theorem sub_any (xh xl yh yl : Nat) (h3 : xh < 18446744073709551616) (h4 : yh < 18446744073709551616) (h1 : xl < 18446744073709551616) (h2 : yl < 18446744073709551616) (w : World) :
    Calls Try.prog 40 #[.agg #[.int .u64 xh, .int .u64 xl], .agg #[.int .u64 yh, .int .u64 yl]] w fun e w' =>
      e = .returned (.agg #[.int .u64 (hiOf (uw xh xl - uw yh yl) : Nat), .int .u64 (loOf (uw xh xl - uw yh yl) : Nat)]) ∧ Below w.heap.size w w' := by
  by_cases h : xl < yl
  · have e1 := sub_hi_w xh xl yh yl h3 h4 h1 h2 h
    have e2 := sub_lo_w xh xl yh yl h1 h2
    have E1 := Lib.hid e1; have E2 := Lib.hid e2
    clear e1 e2 h1 h2 h3 h4
    go_enter Try.func40, Try.ntmps40
    go_wp2
    exact bodyPost_ret (v := .agg #[.int .u64 (IntKind.u64.wrap (IntKind.u64.wrap ((xh : Int) - yh) - 1)), .int .u64 (IntKind.u64.wrap ((xl : Int) - yl))]) (by simp [results, Try.results40, go_sem]) rfl ⟨ret_two E1.out E2.out, by go_grown⟩
  · have e1 := sub_hi_w2 xh xl yh yl h3 h4 h1 h2 h
    have e2 := sub_lo_w xh xl yh yl h1 h2
    have E1 := Lib.hid e1; have E2 := Lib.hid e2
    clear e1 e2 h1 h2 h3 h4
    have h : yl ≤ xl := by omega
    go_enter Try.func40, Try.ntmps40
    go_wp2
    exact bodyPost_ret (v := .agg #[.int .u64 (IntKind.u64.wrap ((xh : Int) - yh)), .int .u64 (IntKind.u64.wrap ((xl : Int) - yl))]) (by simp [results, Try.results40, go_sem]) rfl ⟨ret_two E1.out E2.out, by go_grown⟩
theorem or_low (m b : Nat) (hm : m < 18446744073709551616) (he : m % 2 = 0) (hb : b ≤ 1) : bits .or .u64 (m : Int) (b : Int) = ((m + b : Nat) : Int) := by
  rw [bits_or_u64_nat m b hm (by omega)]
  have := Nat.two_pow_add_eq_or_of_lt (i := 1) (b := b) (by omega) (m / 2)
  rw [show 2 ^ 1 * (m / 2) = m by omega] at this
  rw [← this]
theorem dbl_hi (xh xl : Nat) (h1 : xl < 18446744073709551616) :
    bits .or .u64 (IntKind.u64.wrap ((xh : Int) * 2)) ((xl : Int) / 9223372036854775808) = (hiOf (2 * uw xh xl) : Nat) := by
  rw [show IntKind.u64.wrap ((xh : Int) * 2) = ((xh * 2 % 18446744073709551616 : Nat) : Int) by rw [IntKind.wrap_u64]; omega,
    show ((xl : Int) / 9223372036854775808) = ((xl / 9223372036854775808 : Nat) : Int) by omega, or_low _ _ (by omega) (by omega) (by omega)]
  unfold hiOf uw; omega
theorem dbl_lo (xh xl : Nat) : IntKind.u64.wrap ((xl : Int) * 2) = (loOf (2 * uw xh xl) : Nat) := by
  rw [IntKind.wrap_u64]; unfold loOf uw; omega
set_option maxHeartbeats 400000 in
theorem double_any (xh xl : Nat) (h1 : xl < 18446744073709551616) (w : World) :
    Calls Try.prog 55 #[.agg #[.int .u64 xh, .int .u64 xl]] w fun e w' =>
      e = .returned (.agg #[.int .u64 (hiOf (2 * uw xh xl) : Nat), .int .u64 (loOf (2 * uw xh xl) : Nat)]) ∧ Below w.heap.size w w' := by
  have E1 := Lib.hid (dbl_hi xh xl h1); have E2 := Lib.hid (dbl_lo xh xl)
  clear h1
  go_enter Try.func55, Try.ntmps55
  go_wp2
  exact bodyPost_ret (v := .agg #[.int .u64 (bits .or .u64 (IntKind.u64.wrap ((xh : Int) * 2)) ((xl : Int) / 9223372036854775808)), .int .u64 (IntKind.u64.wrap ((xl : Int) * 2))]) (by simp [results, Try.results55, go_sem]) rfl ⟨ret_two E1.out E2.out, by go_grown⟩
end Go.Proofs.Ytafheinapjfbaaa
