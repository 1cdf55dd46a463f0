/- Walks of the reference's Make and Valid. -/
import Derived.Test.YtafheinapjfbaaaWj
namespace Go.Proofs.Ytafheinapjfbaaa
open Go.RowKit Go.Lib Go.BigFrame
/-- the answer (fraction, error) as a value -/
def ans (n d e : Int) : Value := .tuple #[.agg #[.int .i64 n, .int .i64 d], .int .i64 e]
theorem reduce_any (s : Bool) (N D : Nat) (w : World) (hN1 : N < 340282366920938463463374607431768211456) (hD1 : D < 170141183460469231731687303715884105728) (hp : 0 < D) :
    Calls Try.prog 32 #[.bool s, .agg #[.int .u64 (hN N), .int .u64 (lN N)], .agg #[.int .u64 (hN D), .int .u64 (lN D)]] w fun e w' =>
      e = .returned (.tuple #[.agg #[.int .i64 (nrN (sgn s (quoN N D)) (quoD N D)), .int .i64 (nrD (sgn s (quoN N D)) (quoD N D))], .int .i64 (nrE (sgn s (quoN N D)) (quoD N D))]) ∧ Below w.heap.size w w' := by
  by_cases h0 : N = 0
  · subst h0
    obtain ⟨e1, e2⟩ := quo_zero D hp
    rw [e1, e2]
    obtain ⟨f1, f2, f3⟩ := nr_ok s 0 1 (by omega) (by omega)
    rw [f1, f2, f3, show sgn s 0 = 0 by unfold sgn; split <;> rfl]
    exact reduce_zero s D w
  · by_cases hb : quoN N D ≤ 1152921504606846976 ∧ quoD N D ≤ 1152921504606846976
    · obtain ⟨f1, f2, f3⟩ := nr_ok s _ _ hb.1 hb.2
      rw [f1, f2, f3]
      exact reduce_ok s N D w hN1 hD1 hp (by omega) _ _ rfl rfl hb.1 hb.2
    · obtain ⟨f1, f2, f3⟩ := nr_no s _ _ hb
      rw [f1, f2, f3]
      exact reduce_no s N D w hN1 hD1 hp (by omega) _ _ rfl rfl hb
theorem reduce_small (s : Bool) (N D : Nat) (w : World) (hN1 : N < 18446744073709551616) (hD1 : D < 18446744073709551616) (hp : 0 < D) :
    Calls Try.prog 32 #[.bool s, .agg #[.int .u64 0, .int .u64 N], .agg #[.int .u64 0, .int .u64 D]] w fun e w' =>
      e = .returned (.tuple #[.agg #[.int .i64 (nrN (sgn s (quoN N D)) (quoD N D)), .int .i64 (nrD (sgn s (quoN N D)) (quoD N D))], .int .i64 (nrE (sgn s (quoN N D)) (quoD N D))]) ∧ Below w.heap.size w w' := by
  have := reduce_any s N D w (by omega) (by omega) hp
  rwa [show hN N = 0 by unfold hN; omega, show lN N = N by unfold lN; omega, show hN D = 0 by unfold hN; omega, show lN D = D by unfold lN; omega] at this

set_option maxHeartbeats 400000 in
theorem rmake_zero (a : Int) (w : World) :
    Calls Try.prog 9 #[.int .i64 a, .int .i64 0] w fun e w' => e = .returned (.tuple #[.agg #[.int .i64 0, .int .i64 0], .int .i64 2]) ∧ Below w.heap.size w w' := by
  go_enter Try.func9, Try.ntmps9
  go_wp2
  exact bodyPost_ret (v := .tuple #[.agg #[.int .i64 0, .int .i64 0], .int .i64 2]) (by simp [results, Try.results9, go_sem, *]) rfl ⟨rfl, by go_grown⟩
set_option maxHeartbeats 1000000 in
theorem rmake_nz (a b : Int) (w : World) (ha1 : -9223372036854775808 ≤ a) (ha2 : a < 9223372036854775808) (hb1 : -9223372036854775808 ≤ b) (hb2 : b < 9223372036854775808) (h2 : b ≠ 0) (s : Bool) (hs : (decide (a < 0) == decide (b < 0)) = !s) :
    Calls Try.prog 9 #[.int .i64 a, .int .i64 b] w fun e w' =>
      e = .returned (.tuple #[.agg #[.int .i64 (nrN (sgn s (quoN a.natAbs b.natAbs)) (quoD a.natAbs b.natAbs)), .int .i64 (nrD (sgn s (quoN a.natAbs b.natAbs)) (quoD a.natAbs b.natAbs))], .int .i64 (nrE (sgn s (quoN a.natAbs b.natAbs)) (quoD a.natAbs b.natAbs))]) ∧ Below w.heap.size w w' := by
  have cA := fun w => size_any a w ha1 ha2
  have cB := fun w => size_any b w hb1 hb2
  have hb0 : (b == 0) = false := by simpa using h2
  have c32 := fun w => reduce_small s a.natAbs b.natAbs w (by omega) (by omega) (by omega)
  clear h2
  generalize nrN (sgn s (quoN a.natAbs b.natAbs)) (quoD a.natAbs b.natAbs) = r1 at *
  generalize nrD (sgn s (quoN a.natAbs b.natAbs)) (quoD a.natAbs b.natAbs) = r2 at *
  generalize nrE (sgn s (quoN a.natAbs b.natAbs)) (quoD a.natAbs b.natAbs) = r3 at *
  generalize a.natAbs = x at *
  generalize b.natAbs = y at *
  have CA := Lib.hid cA; clear cA
  have CB := Lib.hid cB; clear cB
  have C32 := Lib.hid c32; clear c32
  go_enter Try.func9, Try.ntmps9
  go_wp2_with fail
  refine (CA.out _).mono ?_
  rintro e w' ⟨rfl, rfl⟩
  go_wp2_with fail
  refine (CB.out _).mono ?_
  rintro e w' ⟨rfl, rfl⟩
  go_wp2_with fail
  refine (C32.out _).mono ?_
  rintro e w1 ⟨rfl, hb⟩
  have hB1 := bnext (w := w) (by go_grown) hb
  have bR : Blk2 w1 w.heap.size 23 (.int .i64 0) (.int .i64 0) := Blk2.new.below hb (by simp)
  clear hb
  have cn0 := bR.c0; have cn1 := bR.c1; have zn := bR.lt; have fn0 := bR.f0; have fn1 := bR.f1
  clear bR
  go_wp2
  exact bodyPost_ret (v := .tuple #[.agg #[.int .i64 r1, .int .i64 r2], .int .i64 r3]) (by simp [results, Try.results9, go_sem, *]) rfl ⟨rfl, by go_grown⟩

theorem gcd_small (a b : Nat) (w : World) (h1 : a < 18446744073709551616) (h2 : b < 18446744073709551616) :
    Calls Try.prog 34 #[.agg #[.int .u64 0, .int .u64 a], .agg #[.int .u64 0, .int .u64 b]] w fun e w' =>
      e = .returned (.agg #[.int .u64 0, .int .u64 (Nat.gcd a b : Nat)]) ∧ Below w.heap.size w w' := by
  have := gcd_any a b w (by omega) (by omega)
  have hg : Nat.gcd a b < 18446744073709551616 := by
    rcases Nat.eq_zero_or_pos a with h | h
    · subst h; simpa using h2
    · exact Nat.lt_of_le_of_lt (Nat.gcd_le_left _ h) h1
  rwa [show hN a = 0 by unfold hN; omega, show lN a = a by unfold lN; omega, show hN b = 0 by unfold hN; omega, show lN b = b by unfold lN; omega,
    show hN (Nat.gcd a b) = 0 by unfold hN; omega, show lN (Nat.gcd a b) = Nat.gcd a b by unfold lN; omega] at this
set_option maxHeartbeats 400000 in
theorem rvalid_any (n d : Int) (w : World) (hn1 : -9223372036854775808 ≤ n) (hn2 : n < 9223372036854775808) (hd1 : -9223372036854775808 ≤ d) (hd2 : d < 9223372036854775808) :
    Calls Try.prog 11 #[.agg #[.int .i64 n, .int .i64 d]] w fun e w' => e = .returned (.bool (vldB n d)) ∧ Below w.heap.size w w' := by
  by_cases h1 : n < -1152921504606846976
  · rw [vldB_false (fun h => by have := h.1; omega)]
    go_enter Try.func11, Try.ntmps11
    go_wp2
    go_ret
    exact ⟨rfl, by go_grown⟩
  by_cases h2 : 1152921504606846976 < n
  · rw [vldB_false (fun h => by have := h.1; omega)]
    go_enter Try.func11, Try.ntmps11
    go_wp2
    go_ret
    exact ⟨rfl, by go_grown⟩
  by_cases h3 : d < 1
  · rw [vldB_false (fun h => by have := h.2.1; omega)]
    go_enter Try.func11, Try.ntmps11
    go_wp2
    go_ret
    exact ⟨rfl, by go_grown⟩
  by_cases h4 : 1152921504606846976 < d
  · rw [vldB_false (fun h => by have := h.2.2.1; omega)]
    go_enter Try.func11, Try.ntmps11
    go_wp2
    go_ret
    exact ⟨rfl, by go_grown⟩
  have e1 : vldB n d = ((Nat.gcd n.natAbs d.natAbs : Int) == 1) := by
    have : Vld n d ↔ (Nat.gcd n.natAbs d.natAbs : Int) = 1 := by unfold Vld; omega
    unfold vldB
    rw [Bool.eq_iff_iff, decide_eq_true_iff, beq_iff_eq, this]
  rw [e1]
  clear e1
  have cG := fun w => gcd_small n.natAbs d.natAbs w (by omega) (by omega)
  have cS := fun w => size_any n w hn1 hn2
  generalize Nat.gcd n.natAbs d.natAbs = g at *
  generalize n.natAbs = x at *
  obtain ⟨y, rfl⟩ : ∃ y : Nat, d = y := ⟨d.toNat, by omega⟩
  rw [Int.natAbs_natCast] at cG
  have CG := Lib.hid cG; have CS := Lib.hid cS; clear cG cS
  by_cases hg : g = 1
  · subst hg
    go_enter Try.func11, Try.ntmps11
    go_wp2
    refine wp_region_over (by kernel_rfl) (by kernel_rfl) ?_
    repeat (go_big_quiet_step (first | (go_at_call 33; exact calls_over_same (CS.out _)) | (go_at_call 34; exact calls_over (CG.out _))))
    refine wpQuiet_nil ?_
    rintro _ ⟨x, rfl⟩
    have hB := bnext (w := w) (by go_grown) (over_below _ x)
    go_wp2
    go_ret
    exact ⟨rfl, by go_grown⟩
  · have hg' : ¬ ((g : Int) = 1) := by omega
    have hg2 : ((g : Int) == 1) = false := by rw [beq_eq_false_iff_ne]; exact hg'
    rw [hg2]
    clear hg hg2
    go_enter Try.func11, Try.ntmps11
    go_wp2
    refine wp_region_over (by kernel_rfl) (by kernel_rfl) ?_
    repeat (go_big_quiet_step (first | (go_at_call 33; exact calls_over_same (CS.out _)) | (go_at_call 34; exact calls_over (CG.out _))))
    refine wpQuiet_nil ?_
    rintro _ ⟨x, rfl⟩
    have hB := bnext (w := w) (by go_grown) (over_below _ x)
    go_wp2
    go_ret
    exact ⟨rfl, by go_grown⟩
end Go.Proofs.Ytafheinapjfbaaa
