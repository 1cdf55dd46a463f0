/- Walks: Mul64, times, Mod, Of, mul. -/
import Derived.Test.YtafheinapjfbaaaWn
import Derived.Test.YtafheinapjfbaaaWo
import Derived.Shelf.Bits.Mul64
namespace Go.Proofs.Ytafheinapjfbaaa
open Go.RowKit Go.Lib Go.BigFrame
set_option maxHeartbeats 1000000 in
theorem mul64_any (x y : Nat) (hx : x < 18446744073709551616) (hy : y < 18446744073709551616) (w : World) :
    Calls Try.prog 57 #[.int .u64 x, .int .u64 y] w fun e w' => e = .returned (.tuple #[.int .u64 (hN (x * y)), .int .u64 (lN (x * y))]) ∧ w' = w := by
  have hh : hN (x * y) = x * y / 18446744073709551616 := by
    have : x * y < 18446744073709551616 * 18446744073709551616 := Nat.mul_lt_mul'' hx hy
    unfold hN; omega
  rw [hh]
  unfold lN
  obtain ⟨bd, bt, bw, hhi⟩ := Lib.mul64_hi x y hx hy
  have ba := Lib.half_mul_le (a := x / 4294967296) (b := y / 4294967296) (by omega) (by omega)
  have bb := Lib.half_mul_le (a := x / 4294967296) (b := y % 4294967296) (by omega) (by omega)
  have bc := Lib.half_mul_le (a := x % 4294967296) (b := y / 4294967296) (by omega) (by omega)
  have ba' : x / 4294967296 * (y / 4294967296) < 18446744073709551616 := by omega
  have bb' : x / 4294967296 * (y % 4294967296) < 18446744073709551616 := by omega
  have bc' : x % 4294967296 * (y / 4294967296) < 18446744073709551616 := by omega
  have bh1 : x / 4294967296 * (y / 4294967296) + (x / 4294967296 * (y % 4294967296) + x % 4294967296 * (y % 4294967296) / 4294967296) / 4294967296 < 18446744073709551616 := by omega
  have bh : x / 4294967296 * (y / 4294967296) + (x / 4294967296 * (y % 4294967296) + x % 4294967296 * (y % 4294967296) / 4294967296) / 4294967296 + ((x / 4294967296 * (y % 4294967296) + x % 4294967296 * (y % 4294967296) / 4294967296) % 4294967296 + x % 4294967296 * (y / 4294967296)) / 4294967296 < 18446744073709551616 := by omega
  have HH := Lib.hid hhi
  clear hh hhi
  go_enter Try.func57, Try.ntmps57
  go_wp2
  simp only [Mul64.maskN x hx, Mul64.maskN y hy, Mul64.divN, Mul64.mulN, Mul64.addN, Mul64.wrapN _ bd, Mul64.wrapN _ bb', Mul64.wrapN _ bt, Mul64.maskN _ bt, Mul64.wrapN _ bc', Mul64.wrapN _ bw, Mul64.wrapN _ ba', Mul64.wrapN _ bh1, Mul64.wrapN _ bh, Mul64.wrapM (x * y)]
  rw [HH.out]
  go_ret2
  exact ⟨rfl, rfl⟩
theorem mod_eq (n k : Int) : (n.tmod k + k) % k = n % k := by
  have h1 := Int.mul_tdiv_add_tmod n k
  rw [Int.add_emod_right]
  conv => rhs; rw [← h1]
  rw [Int.add_comm, Int.add_mul_emod_self_left]
set_option maxHeartbeats 400000 in
theorem mod_any (n k : Int) (w : World) (hk1 : 1 ≤ k) (hk2 : k ≤ 4611686018427387904) :
    Calls Try.prog 26 #[.int .i64 n, .int .i64 k] w fun e w' => e = .returned (.int .i64 (n % k)) ∧ w' = w := by
  have h1 := Int.tmod_lt_of_pos n (b := k) (by omega)
  have h2 := Int.lt_tmod_of_pos n (b := k) (by omega)
  have E := Lib.hid (mod_eq n k)
  go_enter Try.func26, Try.ntmps26
  go_wp2
  go_ret
  exact ⟨ret_int E.out, rfl⟩
theorem sgn_mul (a b : Int) : sgn (sg a b) (a.natAbs * b.natAbs) = a * b := by
  unfold sgn sg
  rcases Int.natAbs_eq a with ha | ha <;> rcases Int.natAbs_eq b with hb | hb
  all_goals
    generalize a.natAbs = x at *
    generalize b.natAbs = y at *
    subst ha hb
    have e : ((x * y : Nat) : Int) = (x : Int) * y := Int.natCast_mul x y
    rw [e]
  · rw [decide_eq_false (show ¬ (x : Int) < 0 by omega), decide_eq_false (show ¬ (y : Int) < 0 by omega)]; rfl
  · by_cases h2 : y = 0
    · subst h2; simp
    · rw [decide_eq_false (show ¬ (x : Int) < 0 by omega), decide_eq_true (show -(y : Int) < 0 by omega), Int.mul_neg]; rfl
  · by_cases h2 : x = 0
    · subst h2; simp
    · rw [decide_eq_true (show -(x : Int) < 0 by omega), decide_eq_false (show ¬ (y : Int) < 0 by omega), Int.neg_mul]; rfl
  · by_cases h1 : x = 0
    · subst h1; simp
    · by_cases h2 : y = 0
      · subst h2; simp
      · rw [decide_eq_true (show -(x : Int) < 0 by omega), decide_eq_true (show -(y : Int) < 0 by omega), Int.neg_mul_neg]; rfl
set_option maxHeartbeats 400000 in
theorem times_any (a b : Int) (w : World) (ha1 : -9223372036854775808 ≤ a) (ha2 : a < 9223372036854775808) (hb1 : -9223372036854775808 ≤ b) (hb2 : b < 9223372036854775808) :
    Calls Try.prog 49 #[.int .i64 a, .int .i64 b] w fun e w' => e = .returned (.agg #[.int .u64 (hiOf (a * b) : Nat), .int .u64 (loOf (a * b) : Nat)]) ∧ Below w.heap.size w w' := by
  have hp : a.natAbs * b.natAbs < 340282366920938463463374607431768211456 := by
    have : a.natAbs * b.natAbs ≤ 9223372036854775808 * 9223372036854775808 := Nat.mul_le_mul (by omega) (by omega)
    omega
  have c57 := fun w => mul64_any a.natAbs b.natAbs (by omega) (by omega) w
  have hs : (decide (a < 0) == decide (b < 0)) = !(sg a b) := by simp [sg]
  have hz := sgn_mul a b
  have CA := Lib.hid (fun w => mag_any a w ha1 ha2)
  have CB := Lib.hid (fun w => mag_any b w hb1 hb2)
  have C31 : Hid (∀ w, Calls Try.prog 31 #[.agg #[.int .u64 (hN (a.natAbs * b.natAbs)), .int .u64 (lN (a.natAbs * b.natAbs))], .bool (sg a b)] w fun e w' => e = .returned (.agg #[.int .u64 (hiOf (a * b) : Nat), .int .u64 (loOf (a * b) : Nat)]) ∧ Below w.heap.size w w') := by
    refine Lib.hid fun w => ?_
    rw [← hz]
    cases sg a b
    · have := sign_f (hN (a.natAbs * b.natAbs)) (lN (a.natAbs * b.natAbs)) w
      rw [show sgn false (a.natAbs * b.natAbs) = ((a.natAbs * b.natAbs : Nat) : Int) from rfl, hiOf_nat (a.natAbs * b.natAbs) _ rfl, loOf_nat (a.natAbs * b.natAbs) _ rfl]
      exact this
    · have := sign_t (hN (a.natAbs * b.natAbs)) (lN (a.natAbs * b.natAbs)) w (hN_lt _) (lN_lt _)
      rw [uw_nat _ hp] at this
      rw [show sgn true (a.natAbs * b.natAbs) = -((a.natAbs * b.natAbs : Nat) : Int) from rfl]
      exact this
  clear hz hp ha1 ha2 hb1 hb2
  generalize sg a b = s at *
  generalize hiOf (a * b) = h at *
  generalize loOf (a * b) = l at *
  generalize a.natAbs = x at *
  generalize b.natAbs = y at *
  have C57 := Lib.hid c57; clear c57
  go_enter Try.func49, Try.ntmps49
  go_wp2_with fail
  refine (CA.out _).mono ?_
  rintro e w' ⟨rfl, rfl⟩
  go_wp2_with fail
  refine (CB.out _).mono ?_
  rintro e w' ⟨rfl, rfl⟩
  go_wp2_with fail
  refine (C57.out _).mono ?_
  rintro e w' ⟨rfl, rfl⟩
  go_wp2_with fail
  refine (C31.out _).mono ?_
  rintro e w1 ⟨rfl, hb⟩
  have hB1 := bnext (w := w) (by go_grown) hb
  have bR : Blk2 w1 w.heap.size 45 (.int .u64 0) (.int .u64 0) := Blk2.new.below hb (by simp)
  clear hb
  have cn0 := bR.c0; have cn1 := bR.c1; have zn := bR.lt; have fn0 := bR.f0; have fn1 := bR.f1
  clear bR
  go_wp2
  exact bodyPost_ret (v := .agg #[.int .u64 h, .int .u64 l]) (by simp [results, Try.results49, go_sem, *]) rfl ⟨rfl, by go_grown⟩
set_option maxHeartbeats 400000 in
theorem of_any (a b : Int) (w : World) (ha1 : -9223372036854775808 ≤ a) (ha2 : a < 9223372036854775808) (hb1 : -9223372036854775808 ≤ b) (hb2 : b < 9223372036854775808) :
    Calls Try.prog 27 #[.int .i64 a, .int .i64 b] w fun e w' => e = .returned (.agg #[.int .i64 (mkN a b), .int .i64 (mkD a b)]) ∧ Below w.heap.size w w' := by
  have C9 := Lib.hid (fun w => rmake_any a b w ha1 ha2 hb1 hb2)
  clear ha1 ha2 hb1 hb2
  generalize mkN a b = r1 at *
  generalize mkD a b = r2 at *
  generalize mkE a b = r3 at *
  go_enter Try.func27, Try.ntmps27
  go_wp2_with fail
  refine (C9.out _).mono ?_
  rintro e w1 ⟨rfl, hb⟩
  have hB1 := bnext (w := w) (by go_grown) hb
  have zs := hB1.size
  have bR : Blk2 w1 w.heap.size 23 (.int .i64 0) (.int .i64 0) := Blk2.new.below hb (by simp)
  clear hb
  have cn0 := bR.c0; have cn1 := bR.c1; have zn := bR.lt; have fn0 := bR.f0; have fn1 := bR.f1
  clear bR
  go_wp2
  exact bodyPost_ret (v := .agg #[.int .i64 r1, .int .i64 r2]) (by simp [results, Try.results27, go_sem, *]) rfl ⟨rfl, by go_grown⟩
theorem or_32 (m b : Nat) (hm : m < 18446744073709551616) (he : m % 4294967296 = 0) (hb : b < 4294967296) : bits .or .u64 (m : Int) (b : Int) = ((m + b : Nat) : Int) := by
  rw [bits_or_u64_nat m b hm (by omega)]
  have := Nat.two_pow_add_eq_or_of_lt (i := 32) (b := b) (by omega) (m / 4294967296)
  rw [show 2 ^ 32 * (m / 4294967296) = m by omega] at this
  rw [← this]
theorem shl_32 (a : Nat) : IntKind.u64.wrap ((a : Int) * 4294967296) = ((a * 4294967296 % 18446744073709551616 : Nat) : Int) := by rw [IntKind.wrap_u64]; omega
theorem mul_parts (x y : Nat) : x * y = (x / 4294967296 * (y / 4294967296)) * 18446744073709551616 + (x / 4294967296 * (y % 4294967296) + x % 4294967296 * (y / 4294967296)) * 4294967296 + x % 4294967296 * (y % 4294967296) := by
  have hx : x = x / 4294967296 * 4294967296 + x % 4294967296 := by omega
  have hy : y = y / 4294967296 * 4294967296 + y % 4294967296 := by omega
  generalize x / 4294967296 = a1 at *
  generalize x % 4294967296 = a0 at *
  generalize y / 4294967296 = b1 at *
  generalize y % 4294967296 = b0 at *
  subst hx hy
  rw [Nat.add_mul, Nat.mul_add, Nat.mul_add]
  have e1 : a1 * 4294967296 * (b1 * 4294967296) = a1 * b1 * 18446744073709551616 := by rw [show (18446744073709551616 : Nat) = 4294967296 * 4294967296 from rfl]; ac_rfl
  have e2 : a1 * 4294967296 * b0 = a1 * b0 * 4294967296 := by ac_rfl
  have e3 : a0 * (b1 * 4294967296) = a0 * b1 * 4294967296 := by ac_rfl
  omega
set_option maxHeartbeats 1000000 in
theorem rmul_any (x y : Nat) (hx : x < 18446744073709551616) (hy : y < 18446744073709551616) (w : World) :
    Calls Try.prog 37 #[.int .u64 x, .int .u64 y] w fun e w' => e = .returned (.agg #[.int .u64 (hN (x * y)), .int .u64 (lN (x * y))]) ∧ Below w.heap.size w w' := by
  have hm := mul_parts x y
  have b00 := Lib.half_mul_le (a := x % 4294967296) (b := y % 4294967296) (by omega) (by omega)
  have b11 := Lib.half_mul_le (a := x / 4294967296) (b := y / 4294967296) (by omega) (by omega)
  have b10 := Lib.half_mul_le (a := x / 4294967296) (b := y % 4294967296) (by omega) (by omega)
  have b01 := Lib.half_mul_le (a := x % 4294967296) (b := y / 4294967296) (by omega) (by omega)
  have hi : x / 4294967296 * (y / 4294967296) + (x / 4294967296 * (y % 4294967296) + x % 4294967296 * (y % 4294967296) / 4294967296) / 4294967296 + (x % 4294967296 * (y / 4294967296) + (x / 4294967296 * (y % 4294967296) + x % 4294967296 * (y % 4294967296) / 4294967296) % 4294967296) / 4294967296 = hN (x * y) := by
    unfold hN; rw [hm]; clear hm
    generalize x / 4294967296 * (y / 4294967296) = A at *
    generalize x / 4294967296 * (y % 4294967296) = B at *
    generalize x % 4294967296 * (y / 4294967296) = C at *
    generalize x % 4294967296 * (y % 4294967296) = D at *
    omega
  have lo : (x % 4294967296 * (y / 4294967296) + (x / 4294967296 * (y % 4294967296) + x % 4294967296 * (y % 4294967296) / 4294967296) % 4294967296) * 4294967296 % 18446744073709551616 + x % 4294967296 * (y % 4294967296) % 4294967296 = lN (x * y) := by
    unfold lN; rw [hm]; clear hm
    generalize x / 4294967296 * (y / 4294967296) = A at *
    generalize x / 4294967296 * (y % 4294967296) = B at *
    generalize x % 4294967296 * (y / 4294967296) = C at *
    generalize x % 4294967296 * (y % 4294967296) = D at *
    omega
  have HI := Lib.hid hi; have LO := Lib.hid lo
  have hhi := hN_lt (x * y)
  rw [← hi] at hhi
  clear hm hi lo
  have c1 : x % 4294967296 * (y % 4294967296) < 18446744073709551616 := by omega
  have c2 : x / 4294967296 * (y % 4294967296) < 18446744073709551616 := by omega
  have c3 : x % 4294967296 * (y / 4294967296) < 18446744073709551616 := by omega
  have c4 : x / 4294967296 * (y / 4294967296) < 18446744073709551616 := by omega
  have c5 : x / 4294967296 * (y % 4294967296) + x % 4294967296 * (y % 4294967296) / 4294967296 < 18446744073709551616 := by omega
  have c6 : x % 4294967296 * (y / 4294967296) + (x / 4294967296 * (y % 4294967296) + x % 4294967296 * (y % 4294967296) / 4294967296) % 4294967296 < 18446744073709551616 := by omega
  have c7 : x / 4294967296 * (y / 4294967296) + (x / 4294967296 * (y % 4294967296) + x % 4294967296 * (y % 4294967296) / 4294967296) / 4294967296 < 18446744073709551616 := by omega
  go_enter Try.func37, Try.ntmps37
  go_wp2
  simp only [Mul64.maskN x hx, Mul64.maskN y hy, Mul64.divN, Mul64.mulN, Mul64.wrapN _ c1, Mul64.wrapN _ c2, Mul64.wrapN _ c3, Mul64.wrapN _ c4, Mul64.maskN _ c1, Mul64.addN, Mul64.wrapN _ c5, Mul64.maskN _ c5, Mul64.wrapN _ c6, Mul64.wrapN _ c7, shl_32, Mul64.wrapN _ hhi]
  rw [or_32 _ _ (Nat.mod_lt _ (by omega)) (by omega) (Nat.mod_lt _ (by omega)), HI.out, LO.out]
  exact bodyPost_ret (v := .agg #[.int .u64 (hN (x * y)), .int .u64 (lN (x * y))]) (by simp [results, Try.results37, go_sem]) rfl ⟨rfl, by go_grown⟩
end Go.Proofs.Ytafheinapjfbaaa
