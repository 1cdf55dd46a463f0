/- Walks: Div64 and Rem64 where the high word is 0 or a division is known; remainder, quotient. -/
import Derived.Test.YtafheinapjfbaaaWv
namespace Go.Proofs.Ytafheinapjfbaaa
open Go.RowKit Go.Lib Go.BigFrame
/-- a quotient towards 0 keeps the sign -/
theorem sgn_tdiv (N : Int) (g : Nat) : sgn (decide (N < 0)) (N.natAbs / g) = N.tdiv g := by
  unfold sgn
  rcases Int.natAbs_eq N with h | h
  · generalize N.natAbs = n at *
    subst h
    rw [decide_eq_false (show ¬ (n : Int) < 0 by omega)]
    rfl
  · generalize N.natAbs = n at *
    subst h
    by_cases h0 : n = 0
    · subst h0; simp
    · rw [decide_eq_true (show -(n : Int) < 0 by omega), Int.neg_tdiv]
      rfl
/-- Div64 at three words -/
def D64 (hi lo y q r : Nat) : Prop := ∀ w, Calls Try.prog 58 #[.int .u64 hi, .int .u64 lo, .int .u64 y] w fun e w' => e = .returned (.tuple #[.int .u64 q, .int .u64 r]) ∧ ∃ n, w' = w.drewN n
theorem ret_uu {a b c d : Int} (h : a = c) (h' : b = d) : Ending.returned (.tuple #[.int .u64 a, .int .u64 b]) = .returned (.tuple #[.int .u64 c, .int .u64 d]) := by rw [h, h']
set_option maxHeartbeats 1000000 in
theorem d64_small (lo y : Nat) (hy : 0 < y) (h1 : lo < 18446744073709551616) (h2 : y < 18446744073709551616) : D64 0 lo y (lo / y) (lo % y) := by
  intro w
  have q1 : ((lo : Int) / (y : Int)) = ((lo / y : Nat) : Int) := (Int.natCast_ediv lo y).symm
  have q2 : ((lo : Int) % (y : Int)) = ((lo % y : Nat) : Int) := (Int.natCast_emod lo y).symm
  have hq : lo / y < 18446744073709551616 := Nat.lt_of_le_of_lt (Nat.div_le_self _ _) h1
  have hr : lo % y < 18446744073709551616 := Nat.lt_of_le_of_lt (Nat.mod_le _ _) h1
  have y0 : ((y : Int) == 0) = false := by rw [beq_eq_false_iff_ne]; omega
  have y1 : decide ((y : Int) ≤ 0) = false := by rw [decide_eq_false_iff_not]; omega
  generalize lo / y = q at *
  generalize lo % y = r at *
  have Q2 := Lib.hid q2; clear q2
  go_enter Try.func58, Try.ntmps58
  go_wp2_with fail
  go_quiet (fail)
  go_wp2
  go_ret2
  exact ⟨ret_uu rfl Q2.out, _, rfl⟩
set_option maxHeartbeats 1000000 in
theorem rem64_of (hi lo y q r : Nat) (hy : 0 < y) (hD : D64 (hi % y) lo y q r) (w : World) :
    Calls Try.prog 56 #[.int .u64 hi, .int .u64 lo, .int .u64 y] w fun e w' => e = .returned (.int .u64 r) ∧ ∃ n, w' = w.drewN n := by
  have q2 : ((hi : Int) % (y : Int)) = ((hi % y : Nat) : Int) := (Int.natCast_emod hi y).symm
  generalize hi % y = k at *
  have HD := Lib.hid hD; clear hD
  go_enter Try.func56, Try.ntmps56
  go_wp2_with fail
  refine (HD.out _).mono ?_
  rintro e w' ⟨rfl, n, rfl⟩
  go_wp2
  go_ret
  exact ⟨rfl, n, rfl⟩
set_option maxHeartbeats 1000000 in
theorem remainder_any (h l g q : Nat) (h1 : h < 18446744073709551616) (h2 : l < 18446744073709551616) (hg : 0 < g)
    (hD : D64 (hN (sw h l).natAbs % g) (lN (sw h l).natAbs) g q ((sw h l).natAbs % g)) (w : World) :
    Calls Try.prog 48 #[.agg #[.int .u64 h, .int .u64 l], .int .u64 g] w fun e w' => e = .returned (.int .u64 ((sw h l).natAbs % g : Nat)) ∧ Below w.heap.size w w' := by
  have c54 := fun w => size54_any h l w h1 h2
  rw [hiOf_nat (sw h l).natAbs _ rfl, loOf_nat (sw h l).natAbs _ rfl] at c54
  have C54 := Lib.hid c54; clear c54
  have C56 := Lib.hid (fun w => rem64_of (hN (sw h l).natAbs) (lN (sw h l).natAbs) g q _ hg hD w)
  clear hD
  generalize hN (sw h l).natAbs = ph at *
  generalize lN (sw h l).natAbs = pl at *
  generalize (sw h l).natAbs % g = r at *
  go_enter Try.func48, Try.ntmps48
  go_wp2_with fail
  refine (C54.out _).mono ?_
  rintro e w1 ⟨rfl, hb⟩
  have hB1 := bnext (w := w) (by go_grown) hb
  have zs := hB1.size
  clear hb
  go_wp2_with fail
  refine (C56.out _).mono ?_
  rintro e w2 ⟨rfl, n, hww⟩
  have hB2 : Below w.heap.size w w2 := by rw [hww]; exact below_drewN (by go_grown) n
  clear hww
  go_wp2
  go_ret
  exact ⟨rfl, by go_grown⟩
/-- the words of an exact quotient -/
theorem words_quo (m a b c g B : Nat) (hg : 0 < g) (h1 : m = a * B + c) (b' r' : Nat) (hb : b' = a / g) (hr : r' = a % g) (hd : b = (r' * B + c) / g) : m / g = b' * B + b := by
  have h2 : g * b' + r' = a := by rw [hb, hr]; exact Nat.div_add_mod a g
  have e : m = g * (b' * B) + (r' * B + c) := by
    rw [h1, ← h2, Nat.add_mul, Nat.mul_assoc, Nat.add_assoc]
  rw [e, Nat.mul_add_div hg, hd]
theorem quo_words (z : Int) (g : Nat) (hz : z.natAbs < 340282366920938463463374607431768211456) (hg : 0 < g) :
    uw (hN z.natAbs / g) (((hN z.natAbs % g) * 18446744073709551616 + lN z.natAbs) / g) = ((z.natAbs / g : Nat) : Int) := by
  have h1 : z.natAbs = hN z.natAbs * 18446744073709551616 + lN z.natAbs := by unfold hN lN; omega
  have := words_quo z.natAbs (hN z.natAbs) _ (lN z.natAbs) g 18446744073709551616 hg h1 _ _ rfl rfl rfl
  rw [this]
  generalize ((hN z.natAbs % g) * 18446744073709551616 + lN z.natAbs) / g = x
  generalize hN z.natAbs / g = y
  unfold uw; omega
set_option maxHeartbeats 1000000 in
theorem quotient_any (h l g q r : Nat) (h1 : h < 18446744073709551616) (h2 : l < 18446744073709551616) (hg : 0 < g)
    (hq : q = ((hN (sw h l).natAbs % g) * 18446744073709551616 + lN (sw h l).natAbs) / g) (hq2 : q < 18446744073709551616)
    (hD : D64 (hN (sw h l).natAbs % g) (lN (sw h l).natAbs) g q r) (w : World) :
    Calls Try.prog 50 #[.agg #[.int .u64 h, .int .u64 l], .int .u64 g] w fun e w' => e = .returned (.agg #[.int .u64 (hiOf ((sw h l).tdiv g) : Nat), .int .u64 (loOf ((sw h l).tdiv g) : Nat)]) ∧ Below w.heap.size w w' := by
  have c54 := fun w => size54_any h l w h1 h2
  rw [hiOf_nat (sw h l).natAbs _ rfl, loOf_nat (sw h l).natAbs _ rfl] at c54
  have C54 := Lib.hid c54; clear c54
  have C53 := Lib.hid (fun w => isneg_any h l w h1 h2)
  have hz := sw_range h l h1 h2
  have hw := quo_words (sw h l) g (by omega) hg
  rw [← hq] at hw
  have hph : hN (sw h l).natAbs / g < 18446744073709551616 := Nat.lt_of_le_of_lt (Nat.div_le_self _ _) (hN_lt _)
  have hpl := lN_lt (sw h l).natAbs
  have C31 : Hid (∀ w, Calls Try.prog 31 #[.agg #[.int .u64 (hN (sw h l).natAbs / g : Nat), .int .u64 (q : Nat)], .bool (decide (sw h l < 0))] w fun e w' => e = .returned (.agg #[.int .u64 (hiOf ((sw h l).tdiv g) : Nat), .int .u64 (loOf ((sw h l).tdiv g) : Nat)]) ∧ Below w.heap.size w w') := by
    refine Lib.hid fun w => ?_
    have e := sgn_tdiv (sw h l) g
    by_cases hs : sw h l < 0
    · rw [decide_eq_true hs] at e ⊢
      have := sign_t (hN (sw h l).natAbs / g) q w hph hq2
      rw [hw] at this
      rw [← e]; exact this
    · rw [decide_eq_false hs] at e ⊢
      have := sign_f (hN (sw h l).natAbs / g) q w
      rw [← e]
      rw [show sgn false ((sw h l).natAbs / g) = (((sw h l).natAbs / g : Nat) : Int) from rfl, ← hw, hi_uw _ _ hph hq2, lo_uw _ _ hq2]
      exact this
  have HD := Lib.hid hD
  have q1 : ((hN (sw h l).natAbs : Int) / (g : Int)) = ((hN (sw h l).natAbs / g : Nat) : Int) := (Int.natCast_ediv _ _).symm
  have q2 : ((hN (sw h l).natAbs : Int) % (g : Int)) = ((hN (sw h l).natAbs % g : Nat) : Int) := (Int.natCast_emod _ _).symm
  have bph := hN_lt (sw h l).natAbs
  clear hD hz hw hq hq2
  generalize hiOf ((sw h l).tdiv g) = rh at *
  generalize loOf ((sw h l).tdiv g) = rl at *
  generalize hN (sw h l).natAbs / g = k1 at *
  generalize hN (sw h l).natAbs % g = k2 at *
  generalize hN (sw h l).natAbs = ph at *
  generalize lN (sw h l).natAbs = pl at *
  generalize decide (sw h l < 0) = sgb at *
  have W1 : Hid (IntKind.u64.wrap ((ph : Int) / (g : Int)) = (k1 : Int)) := by rw [q1]; exact Lib.hid (by rw [IntKind.wrap_u64]; omega)
  have Q2 := Lib.hid q2; clear q1 q2
  go_enter Try.func50, Try.ntmps50
  go_wp2_with fail
  refine (C54.out _).mono ?_
  rintro e w1 ⟨rfl, hb⟩
  have hB1 := bnext (w := w) (by go_grown) hb
  have bX : Blk2 w1 w.heap.size 45 (.int .u64 h) (.int .u64 l) := (Blk2.new.alloc _).below hb (by simp; omega)
  have bR : Blk2 w1 (w.heap.size + 1) 45 (.int .u64 0) (.int .u64 0) := (Blk2.new' (by simp)).below hb (by simp)
  clear hb
  have cl0 := hB1.size
  go_wp2_with fail
  go_quiet (fail)
  rw [W1.out, Q2.out]
  go_wp2_with fail
  refine (HD.out _).mono ?_
  rintro e w2 ⟨rfl, n2, hww⟩
  have hB2 : Below w.heap.size w w2 := by rw [hww]; exact below_drewN (below_drewN (by go_grown) _) n2
  have bX2 : Blk2 w2 w.heap.size 45 (.int .u64 h) (.int .u64 l) := by rw [hww]; exact ((bX.alloc _).drewN _).drewN n2
  have bR2 : Blk2 w2 (w.heap.size + 1) 45 (.int .u64 0) (.int .u64 0) := by rw [hww]; exact ((bR.alloc _).drewN _).drewN n2
  clear hww bX bR cl0
  have cx0 := bX2.c0; have cx1 := bX2.c1; have zx := bX2.lt
  go_wp2_with fail
  refine (C53.out _).mono ?_
  rintro e w3 ⟨rfl, hb⟩
  have hB3 := bnext (w := w) (by go_grown) hb
  have bR3 := bR2.below hb bR2.lt
  clear hb bX2 bR2 cx0 cx1 zx
  go_wp2_with fail
  refine (C31.out _).mono ?_
  rintro e w4 ⟨rfl, hb⟩
  have hB4 := bnext (w := w) (by go_grown) hb
  have bR4 := bR3.below hb bR3.lt
  clear hb bR3
  have cr0 := bR4.c0; have cr1 := bR4.c1; have zr := bR4.lt; have fr0 := bR4.f0; have fr1 := bR4.f1
  go_wp2
  exact bodyPost_ret (v := .agg #[.int .u64 rh, .int .u64 rl]) (by simp [results, Try.results50, go_sem, *]) rfl ⟨rfl, by go_grown⟩
end Go.Proofs.Ytafheinapjfbaaa
