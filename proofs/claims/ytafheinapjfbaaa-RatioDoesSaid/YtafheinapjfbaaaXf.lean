/- Sums, products and quotients of small fractions: what is returned, by its value. -/
import Derived.Test.YtafheinapjfbaaaXe
namespace Go.Proofs.Ytafheinapjfbaaa
open Go.RowKit Go.Lib Go.BigFrame
/-- (n, d) is N / D in lowest terms -/
structure Red (N D n d : Int) : Prop where
  v : Vld n d
  e : n * D = N * d
  n : n.natAbs ≤ N.natAbs
  d : d ≤ D
theorem vld_unique {n d n' d' : Int} (h : Vld n d) (h' : Vld n' d') (e : n * d' = n' * d) : n = n' ∧ d = d' := by
  obtain ⟨_, h1, _, h2⟩ := h
  obtain ⟨_, h1', _, h2'⟩ := h'
  have e2 : n.natAbs * d'.natAbs = n'.natAbs * d.natAbs := by rw [← Int.natAbs_mul, ← Int.natAbs_mul, e]
  obtain ⟨k1, k2⟩ := low_unique _ _ _ _ (by omega) h2 h2' e2
  have hd : d = d' := by omega
  subst hd
  exact ⟨Int.eq_of_mul_eq_mul_right (by omega) e, rfl⟩
theorem Red.unique {N D n d n' d' : Int} (h : Red N D n d) (hD : D ≠ 0) (h' : Vld n' d') (e : n' * D = N * d') : n = n' ∧ d = d' := by
  refine vld_unique h.v h' ?_
  have e1 := h.e
  refine Int.eq_of_mul_eq_mul_right hD ?_
  calc n * d' * D = n * D * d' := by ac_rfl
    _ = N * d * d' := by rw [e1]
    _ = N * d' * d := by ac_rfl
    _ = n' * D * d := by rw [e]
    _ = n' * d * D := by ac_rfl
theorem red_spec (N : Int) (D : Nat) (hD : 0 < D) (hN : N.natAbs ≤ 1152921504606846976) (hD' : D ≤ 1152921504606846976) : redE N D = 0 ∧ Red N D (redN N D) (redD N D) := by
  have q1 : quoN N.natAbs D ≤ N.natAbs := quoN_le _ _
  have q2 : quoD N.natAbs D ≤ D := quoD_le _ _
  have hp := quo_pos N.natAbs D hD
  have hc := quo_cop N.natAbs D hD
  obtain ⟨f1, f2, f3⟩ := nr_ok (decide (N < 0)) (quoN N.natAbs D) (quoD N.natAbs D) (by omega) (by omega)
  unfold redN redD redE
  rw [f1, f2, f3]
  have hs : (sgn (decide (N < 0)) (quoN N.natAbs D)).natAbs = quoN N.natAbs D := by unfold sgn; split <;> omega
  refine ⟨rfl, ⟨by rw [hs]; omega, by omega, by omega, by rw [hs, Int.natAbs_natCast]; exact hc⟩, ?_, by rw [hs]; exact q1, by omega⟩
  obtain ⟨a1, a2⟩ := quo_eq N.natAbs D
  have e : quoN N.natAbs D * D = N.natAbs * quoD N.natAbs D := by
    generalize Nat.gcd N.natAbs D = g at *
    generalize quoN N.natAbs D = n at *
    generalize quoD N.natAbs D = d at *
    rw [a1, a2]; ac_rfl
  have e' : ((quoN N.natAbs D : Nat) : Int) * (D : Int) = (N.natAbs : Int) * ((quoD N.natAbs D : Nat) : Int) := by rw [← Int.natCast_mul, e, Int.natCast_mul]
  unfold sgn
  by_cases h : N < 0
  · rw [decide_eq_true h]
    have hN' : (N.natAbs : Int) = -N := by omega
    rw [hN'] at e'
    simp only [if_true]
    rw [Int.neg_mul, e', Int.neg_mul, Int.neg_neg]
  · rw [decide_eq_false h]
    have hN' : (N.natAbs : Int) = N := by omega
    rw [hN'] at e'
    simpa using e'
theorem nat_of_vld {n d : Int} (h : Vld n d) : ∃ k : Nat, d = k ∧ 1 ≤ k := ⟨d.toNat, by have := h.2.1; omega, by have := h.2.1; omega⟩
theorem add_small (n1 d1 n2 d2 : Int) (hx : Vld n1 d1) (hy : Vld n2 d2) (hN : (n1 * d2 + n2 * d1).natAbs ≤ 1152921504606846976) (hD : (d1 * d2).natAbs ≤ 1152921504606846976) :
    ∃ n d, Red (n1 * d2 + n2 * d1) (d1 * d2) n d ∧ ∀ w, Calls Try.prog 13 #[.agg #[.int .i64 n1, .int .i64 d1], .agg #[.int .i64 n2, .int .i64 d2]] w fun e w' => e = .returned (.tuple #[.agg #[.int .i64 n, .int .i64 d], .int .i64 0]) ∧ Below w.heap.size w w' := by
  obtain ⟨k1, rfl, p1⟩ := nat_of_vld hx
  obtain ⟨k2, rfl, p2⟩ := nat_of_vld hy
  rw [← Int.natCast_mul, Int.natAbs_natCast] at hD
  obtain ⟨r1, r2⟩ := red_spec (n1 * (k2 : Int) + n2 * (k1 : Int)) (k1 * k2) (Nat.mul_pos p1 p2) hN hD
  refine ⟨_, _, by rw [← Int.natCast_mul]; exact r2, fun w => ?_⟩
  have := add_valid n1 n2 k1 k2 w hx hy (fun m hm => divFor_small m (by omega))
  rwa [r1] at this
theorem sub_small (n1 d1 n2 d2 : Int) (hx : Vld n1 d1) (hy : Vld n2 d2) (hN : (n1 * d2 + (-n2) * d1).natAbs ≤ 1152921504606846976) (hD : (d1 * d2).natAbs ≤ 1152921504606846976) :
    ∃ n d, Red (n1 * d2 + (-n2) * d1) (d1 * d2) n d ∧ ∀ w, Calls Try.prog 15 #[.agg #[.int .i64 n1, .int .i64 d1], .agg #[.int .i64 n2, .int .i64 d2]] w fun e w' => e = .returned (.tuple #[.agg #[.int .i64 n, .int .i64 d], .int .i64 0]) ∧ Below w.heap.size w w' := by
  obtain ⟨k1, rfl, p1⟩ := nat_of_vld hx
  obtain ⟨k2, rfl, p2⟩ := nat_of_vld hy
  rw [← Int.natCast_mul, Int.natAbs_natCast] at hD
  obtain ⟨r1, r2⟩ := red_spec (n1 * (k2 : Int) + (-n2) * (k1 : Int)) (k1 * k2) (Nat.mul_pos p1 p2) hN hD
  refine ⟨_, _, by rw [← Int.natCast_mul]; exact r2, fun w => ?_⟩
  have := sub_valid n1 n2 k1 k2 w hx hy (fun m hm => divFor_small m (by omega))
  rwa [r1] at this
theorem vbd {n d : Int} (h : Vld n d) : (-9223372036854775808 ≤ n ∧ n < 9223372036854775808) ∧ (-9223372036854775808 ≤ d ∧ d < 9223372036854775808) := by
  obtain ⟨h1, h2, h3, _⟩ := h; omega
theorem mul_small (n1 d1 n2 d2 : Int) (hx : Vld n1 d1) (hy : Vld n2 d2) (hN : (n1 * n2).natAbs ≤ 1152921504606846976) (hD : (d1 * d2).natAbs ≤ 1152921504606846976) :
    ∃ n d, Red (n1 * n2) (d1 * d2) n d ∧ ∀ w, Calls Try.prog 17 #[.agg #[.int .i64 n1, .int .i64 d1], .agg #[.int .i64 n2, .int .i64 d2]] w fun e w' => e = .returned (.tuple #[.agg #[.int .i64 n, .int .i64 d], .int .i64 0]) ∧ Below w.heap.size w w' := by
  have b1 := vbd hx; have b2 := vbd hy
  have hxy : Vld n1 d1 ∧ Vld n2 d2 := ⟨hx, hy⟩
  have hm := fun w => mul_any n1 d1 n2 d2 w b1.1.1 b1.1.2 b1.2.1 b1.2.2 b2.1.1 b2.1.2 b2.2.1 b2.2.2
  unfold mulN mulD mulE at hm
  rw [if_pos hxy, if_pos hxy, if_pos hxy] at hm
  obtain ⟨k1, rfl, p1⟩ := nat_of_vld hx
  obtain ⟨k2, rfl, p2⟩ := nat_of_vld hy
  rw [← Int.natCast_mul, Int.natAbs_natCast] at hD
  obtain ⟨r1, r2⟩ := red_spec (n1 * n2) (k1 * k2) (Nat.mul_pos p1 p2) hN hD
  rw [Int.natAbs_natCast, Int.natAbs_natCast, r1] at hm
  exact ⟨_, _, by rw [← Int.natCast_mul]; exact r2, hm⟩
theorem div_small (n1 d1 n2 d2 : Int) (hx : Vld n1 d1) (hy : Vld n2 d2) (h0 : n2 ≠ 0) (hN : (n1 * d2).natAbs ≤ 1152921504606846976) (hD : (d1 * n2).natAbs ≤ 1152921504606846976) :
    ∃ n d, Vld n d ∧ n * (d1 * n2) = n1 * d2 * d ∧ ∀ w, Calls Try.prog 19 #[.agg #[.int .i64 n1, .int .i64 d1], .agg #[.int .i64 n2, .int .i64 d2]] w fun e w' => e = .returned (.tuple #[.agg #[.int .i64 n, .int .i64 d], .int .i64 0]) ∧ Below w.heap.size w w' := by
  have b1 := vbd hx; have b2 := vbd hy
  have hxy : Vld n1 d1 ∧ Vld n2 d2 := ⟨hx, hy⟩
  have hm := fun w => div_any n1 d1 n2 d2 w b1.1.1 b1.1.2 b1.2.1 b1.2.2 b2.1.1 b2.1.2 b2.2.1 b2.2.2
  unfold divN divD divE at hm
  rw [if_pos hxy, if_pos hxy, if_pos hxy, if_neg h0, if_neg h0, if_neg h0] at hm
  obtain ⟨k1, rfl, p1⟩ := nat_of_vld hx
  rw [Int.natAbs_mul, Int.natAbs_natCast] at hD
  have hp : 0 < k1 * n2.natAbs := Nat.mul_pos p1 (by omega)
  rw [Int.natAbs_natCast] at hm
  by_cases hs : n2 < 0
  · rw [if_pos hs, if_pos hs, if_pos hs] at hm
    obtain ⟨r1, r2⟩ := red_spec (n1 * -d2) (k1 * n2.natAbs) hp (by rw [Int.mul_neg, Int.natAbs_neg]; exact hN) hD
    rw [r1] at hm
    generalize redN (n1 * -d2) (k1 * n2.natAbs) = nn at *
    generalize redD (n1 * -d2) (k1 * n2.natAbs) = dd at *
    refine ⟨_, _, r2.v, ?_, hm⟩
    have e := r2.e
    rw [Int.natCast_mul, show (n2.natAbs : Int) = -n2 by omega, Int.mul_neg, Int.mul_neg, Int.mul_neg, Int.neg_mul] at e
    exact Int.neg_inj.1 e
  · rw [if_neg hs, if_neg hs, if_neg hs] at hm
    obtain ⟨r1, r2⟩ := red_spec (n1 * d2) (k1 * n2.natAbs) hp hN hD
    rw [r1] at hm
    refine ⟨_, _, r2.v, ?_, hm⟩
    have e := r2.e
    rwa [Int.natCast_mul, show (n2.natAbs : Int) = n2 by omega] at e
theorem div_by_zero (n1 d1 d2 : Int) (hx : Vld n1 d1) (hy : Vld 0 d2) (w : World) :
    Calls Try.prog 19 #[.agg #[.int .i64 n1, .int .i64 d1], .agg #[.int .i64 0, .int .i64 d2]] w fun e w' => e = .returned (.tuple #[.agg #[.int .i64 0, .int .i64 0], .int .i64 2]) ∧ Below w.heap.size w w' := by
  have b1 := vbd hx; have b2 := vbd hy
  have hxy : Vld n1 d1 ∧ Vld 0 d2 := ⟨hx, hy⟩
  have hm := div_any n1 d1 0 d2 w b1.1.1 b1.1.2 b1.2.1 b1.2.2 b2.1.1 b2.1.2 b2.2.1 b2.2.2
  unfold divN divD divE at hm
  rw [if_pos hxy, if_pos hxy, if_pos hxy, if_pos rfl, if_pos rfl, if_pos rfl] at hm
  exact hm
theorem mod_small (a : Int) (k x : Nat) (hk : 1 ≤ k) (hk2 : k ≤ 100000) (hx : a % (k : Int) = x) (w : World) : Calls Try.prog 26 #[.int .i64 a, .int .i64 (k : Int)] w fun e w' => e = .returned (.int .i64 x) ∧ w' = w := by
  have := mod_any a k w (by omega) (by omega)
  rwa [hx] at this
theorem emod_at (a : Int) (k : Nat) (hk : 0 < k) : ∃ x : Nat, a % (k : Int) = x ∧ x < k := by
  have h1 := Int.emod_nonneg a (b := (k : Int)) (by omega)
  have h2 := Int.emod_lt_of_pos a (b := (k : Int)) (by omega)
  exact ⟨(a % k).toNat, by omega, by omega⟩
theorem mk_red (n : Int) (d : Nat) (hd : 0 < d) : mkN n d = redN n d ∧ mkD n d = redD n d := by
  have hb' : ¬ ((d : Int) = 0) := by omega
  have hs : sg n d = decide (n < 0) := by
    unfold sg
    rw [decide_eq_false (show ¬ (d : Int) < 0 by omega)]
    cases decide (n < 0) <;> rfl
  unfold mkN mkD redN redD
  rw [if_neg hb', if_neg hb', hs, Int.natAbs_natCast]
  exact ⟨rfl, rfl⟩
set_option maxHeartbeats 400000 in
/-- small's answer is a valid fraction of small numbers -/
theorem small_any (a b : Int) :
    ∃ n d : Int, Vld n d ∧ n.natAbs ≤ 20 ∧ d ≤ 12 ∧ ∀ w, Calls Try.prog 25 #[.int .i64 a, .int .i64 b] w fun e w' => e = .returned (.agg #[.int .i64 n, .int .i64 d]) ∧ Below w.heap.size w w' := by
  obtain ⟨x, hx, hx'⟩ := emod_at a 41 (by omega)
  obtain ⟨y, hy, hy'⟩ := emod_at b 12 (by omega)
  have CX := Lib.hid (mod_small a 41 x (by omega) (by omega) hx)
  have CY := Lib.hid (mod_small b 12 y (by omega) (by omega) hy)
  obtain ⟨m1, m2⟩ := mk_red ((x : Int) - 20) (1 + y) (by omega)
  obtain ⟨_, r⟩ := red_spec ((x : Int) - 20) (1 + y) (by omega) (by omega) (by omega)
  have c := fun w => of_any ((x : Int) - 20) ((1 + y : Nat) : Int) w (by omega) (by omega) (by omega) (by omega)
  rw [m1, m2] at c
  have rn := r.n; have rd := r.d
  refine ⟨_, _, r.v, by omega, by omega, fun w => ?_⟩
  rw [show ((1 + y : Nat) : Int) = 1 + (y : Int) by omega] at c
  clear m1 m2 r rn rd
  generalize redN ((x : Int) - 20) (1 + y) = n at *
  generalize redD ((x : Int) - 20) (1 + y) = d at *
  have C := Lib.hid c
  clear c hx hy
  go_enter Try.func25, Try.ntmps25
  go_wp2_with fail
  refine (CX.out _).mono ?_
  rintro e w' ⟨rfl, rfl⟩
  go_wp2_with fail
  refine (CY.out _).mono ?_
  rintro e w' ⟨rfl, rfl⟩
  go_wp2_with fail
  refine (C.out _).mono ?_
  rintro e w1 ⟨rfl, hb⟩
  have hB1 := bnext (w := w) (by go_grown) hb
  have bR : Blk2 w1 w.heap.size 23 (.int .i64 0) (.int .i64 0) := Blk2.new.below hb (by simp)
  clear hb
  have cr0 := bR.c0; have cr1 := bR.c1; have zr := bR.lt; have fr0 := bR.f0; have fr1 := bR.f1
  go_wp2
  exact bodyPost_ret (v := .agg #[.int .i64 n, .int .i64 d]) (by simp [results, Try.results25, go_sem, *]) rfl ⟨rfl, by go_grown⟩
theorem absmul {a b : Int} {A B : Nat} (ha : a.natAbs ≤ A) (hb : b.natAbs ≤ B) : (a * b).natAbs ≤ A * B := by rw [Int.natAbs_mul]; exact Nat.mul_le_mul ha hb
/-- the law of distribution, by values -/
theorem distr (a1 a2 b1 b2 c1 c2 s1 s2 u1 u2 p1 p2 q1 q2 : Int) (ha : a2 ≠ 0) (hb : b2 ≠ 0) (hs : s2 ≠ 0)
    (es : s1 * (a2 * b2) = (a1 * b2 + b1 * a2) * s2) (eu : u1 * (s2 * c2) = s1 * c1 * u2) (ep : p1 * (a2 * c2) = a1 * c1 * p2) (eq : q1 * (b2 * c2) = b1 * c1 * q2) (hc : c2 ≠ 0) :
    u1 * (p2 * q2) = (p1 * q2 + q1 * p2) * u2 := by
  have h1 : u1 * (a2 * b2 * c2) = (a1 * b2 + b1 * a2) * c1 * u2 := by
    refine Int.eq_of_mul_eq_mul_right hs ?_
    calc u1 * (a2 * b2 * c2) * s2 = u1 * (s2 * c2) * (a2 * b2) := by ac_rfl
      _ = s1 * c1 * u2 * (a2 * b2) := by rw [eu]
      _ = s1 * (a2 * b2) * (c1 * u2) := by ac_rfl
      _ = (a1 * b2 + b1 * a2) * s2 * (c1 * u2) := by rw [es]
      _ = _ := by ac_rfl
  have h2 : (p1 * q2 + q1 * p2) * (a2 * b2 * c2) = (a1 * b2 + b1 * a2) * c1 * (p2 * q2) := by
    rw [Int.add_mul, Int.add_mul, Int.add_mul]
    congr 1
    · calc p1 * q2 * (a2 * b2 * c2) = p1 * (a2 * c2) * (q2 * b2) := by ac_rfl
        _ = a1 * c1 * p2 * (q2 * b2) := by rw [ep]
        _ = _ := by ac_rfl
    · calc q1 * p2 * (a2 * b2 * c2) = q1 * (b2 * c2) * (p2 * a2) := by ac_rfl
        _ = b1 * c1 * q2 * (p2 * a2) := by rw [eq]
        _ = _ := by ac_rfl
  refine Int.eq_of_mul_eq_mul_right (Int.mul_ne_zero (Int.mul_ne_zero ha hb) hc) ?_
  calc u1 * (p2 * q2) * (a2 * b2 * c2) = u1 * (a2 * b2 * c2) * (p2 * q2) := by ac_rfl
    _ = (a1 * b2 + b1 * a2) * c1 * u2 * (p2 * q2) := by rw [h1]
    _ = (a1 * b2 + b1 * a2) * c1 * (p2 * q2) * u2 := by ac_rfl
    _ = (p1 * q2 + q1 * p2) * (a2 * b2 * c2) * u2 := by rw [h2]
    _ = _ := by ac_rfl
/-- what was added and taken away -/
theorem back (a1 a2 b1 b2 s1 s2 : Int) (es : s1 * (a2 * b2) = (a1 * b2 + b1 * a2) * s2) : (a1 * (s2 * b2)) * a2 = ((s1 * b2 + -b1 * s2) * a2) * a2 := by
  have e1 : s1 * (a2 * b2) = a1 * b2 * s2 + b1 * a2 * s2 := by rw [es, Int.add_mul]
  have e2 : (s1 * b2 + -b1 * s2) * a2 = s1 * (a2 * b2) - b1 * a2 * s2 := by
    rw [Int.add_mul, Int.neg_mul, Int.neg_mul, Int.sub_eq_add_neg]
    congr 1
    · ac_rfl
    · congr 1; ac_rfl
  rw [e2, e1, Int.add_sub_cancel]
  ac_rfl
end Go.Proofs.Ytafheinapjfbaaa
