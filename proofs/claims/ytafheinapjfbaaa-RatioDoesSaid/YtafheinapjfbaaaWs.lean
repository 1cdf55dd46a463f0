/- Mul, Div of ratio as functions of integers. -/
import Derived.Test.YtafheinapjfbaaaWr
namespace Go.Proofs.Ytafheinapjfbaaa
open Go.RowKit Go.Lib Go.BigFrame
theorem tdiv_exact (n : Int) (f : Nat) (h : f ∣ n.natAbs) : n = n.tdiv f * f := by
  have : (f : Int) ∣ n := Int.ofNat_dvd_left.2 h
  exact (Int.tdiv_mul_cancel this).symm
theorem sign_mul_pos (z : Int) (k : Nat) (hk : 0 < k) : decide (z * (k : Int) < 0) = decide (z < 0) := by
  rw [decide_eq_decide]
  constructor
  · intro h
    rcases Int.lt_or_le z 0 with h1 | h1
    · exact h1
    · have := Int.mul_nonneg h1 (Int.natCast_nonneg k); omega
  · intro h; exact Int.mul_neg_of_neg_of_pos h (by omega)
theorem product_red (n1 n2 : Int) (d1 d2 : Nat) (hd1 : 0 < d1) (hd2 : 0 < d2) (h1 : Nat.gcd n1.natAbs d1 = 1) (h2 : Nat.gcd n2.natAbs d2 = 1) (f r : Nat) (hf : f = Nat.gcd n1.natAbs d2) (hr : r = Nat.gcd n2.natAbs d1) :
    n1.tdiv f * n2.tdiv r = sgn (decide (n1 * n2 < 0)) (quoN (n1 * n2).natAbs (d1 * d2)) ∧ (d1 / r) * (d2 / f) = quoD (n1 * n2).natAbs (d1 * d2) := by
  obtain ⟨p1, p2⟩ := prod_gcd n1.natAbs n2.natAbs d1 d2 hd1 hd2 h1 h2
  rw [← hf, ← hr] at p1 p2
  have hf0 : 0 < f := by rw [hf]; exact Nat.gcd_pos_of_pos_right _ hd2
  have hr0 : 0 < r := by rw [hr]; exact Nat.gcd_pos_of_pos_right _ hd1
  have e1 := tdiv_exact n1 f (by rw [hf]; exact Nat.gcd_dvd_left _ _)
  have e2 := tdiv_exact n2 r (by rw [hr]; exact Nat.gcd_dvd_left _ _)
  have a1 : (n1.tdiv f).natAbs = n1.natAbs / f := by rw [Int.natAbs_tdiv]; rfl
  have a2 : (n2.tdiv r).natAbs = n2.natAbs / r := by rw [Int.natAbs_tdiv]; rfl
  unfold quoN quoD
  rw [Int.natAbs_mul, p1, p2, ← a1, ← a2, ← Int.natAbs_mul]
  refine ⟨?_, rfl⟩
  have e3 : n1 * n2 = (n1.tdiv f * n2.tdiv r) * ((f * r : Nat) : Int) := by
    rw [Int.natCast_mul]
    conv => lhs; rw [e1, e2]
    ac_rfl
  rw [e3, sign_mul_pos _ _ (Nat.mul_pos hf0 hr0), sgn_abs]
/-- Mul's answer -/
def mulN (n1 d1 n2 d2 : Int) : Int := if Vld n1 d1 ∧ Vld n2 d2 then redN (n1 * n2) (d1.natAbs * d2.natAbs) else 0
def mulD (n1 d1 n2 d2 : Int) : Int := if Vld n1 d1 ∧ Vld n2 d2 then redD (n1 * n2) (d1.natAbs * d2.natAbs) else 0
def mulE (n1 d1 n2 d2 : Int) : Int := if Vld n1 d1 ∧ Vld n2 d2 then redE (n1 * n2) (d1.natAbs * d2.natAbs) else 4
/-- Div's answer -/
def divN (n1 d1 n2 d2 : Int) : Int := if Vld n1 d1 ∧ Vld n2 d2 then (if n2 = 0 then 0 else if n2 < 0 then redN (n1 * (-d2)) (d1.natAbs * n2.natAbs) else redN (n1 * d2) (d1.natAbs * n2.natAbs)) else 0
def divD (n1 d1 n2 d2 : Int) : Int := if Vld n1 d1 ∧ Vld n2 d2 then (if n2 = 0 then 0 else if n2 < 0 then redD (n1 * (-d2)) (d1.natAbs * n2.natAbs) else redD (n1 * d2) (d1.natAbs * n2.natAbs)) else 0
def divE (n1 d1 n2 d2 : Int) : Int := if Vld n1 d1 ∧ Vld n2 d2 then (if n2 = 0 then 2 else if n2 < 0 then redE (n1 * (-d2)) (d1.natAbs * n2.natAbs) else redE (n1 * d2) (d1.natAbs * n2.natAbs)) else 4
theorem prod_ans (n1 n2 : Int) (d1 d2 : Int) (h1 : Vld n1 d1) (h2 : n2.natAbs ≤ 1152921504606846976) (h3 : 1 ≤ d2) (h4 : d2 ≤ 1152921504606846976) (h5 : Nat.gcd n2.natAbs d2.natAbs = 1) (w : World) :
    Calls Try.prog 43 #[.agg #[.int .i64 n1, .int .i64 d1], .agg #[.int .i64 n2, .int .i64 d2]] w fun e w' =>
      e = .returned (.tuple #[.agg #[.int .i64 (redN (n1 * n2) (d1.natAbs * d2.natAbs)), .int .i64 (redD (n1 * n2) (d1.natAbs * d2.natAbs))], .int .i64 (redE (n1 * n2) (d1.natAbs * d2.natAbs))]) ∧ Below w.heap.size w w' := by
  obtain ⟨k1, k2, k3, k4⟩ := h1
  obtain ⟨e1, rfl⟩ : ∃ e : Nat, d1 = e := ⟨d1.toNat, by omega⟩
  obtain ⟨e2, rfl⟩ : ∃ e : Nat, d2 = e := ⟨d2.toNat, by omega⟩
  rw [Int.natAbs_natCast] at k4 h5
  obtain ⟨q1, q2⟩ := product_red n1 n2 e1 e2 (by omega) (by omega) k4 h5 _ _ rfl rfl
  have := product_any n1 n2 e1 e2 w k1 h2 (by omega) (by omega) (by omega) (by omega) _ _ _ _ _ _ rfl rfl rfl rfl rfl rfl
  rw [← Int.natCast_mul, q1, q2] at this
  rw [Int.natAbs_natCast, Int.natAbs_natCast]
  exact this
theorem vld_bd {n d : Int} (h : Vld n d) : n.natAbs ≤ 1152921504606846976 ∧ 1 ≤ d ∧ d ≤ 1152921504606846976 := ⟨h.1, h.2.1, h.2.2.1⟩
set_option maxHeartbeats 1000000 in
theorem mul_any (n1 d1 n2 d2 : Int) (w : World) (hn1 : -9223372036854775808 ≤ n1) (hn1' : n1 < 9223372036854775808) (hd1 : -9223372036854775808 ≤ d1) (hd1' : d1 < 9223372036854775808)
    (hn2 : -9223372036854775808 ≤ n2) (hn2' : n2 < 9223372036854775808) (hd2 : -9223372036854775808 ≤ d2) (hd2' : d2 < 9223372036854775808) :
    Calls Try.prog 17 #[.agg #[.int .i64 n1, .int .i64 d1], .agg #[.int .i64 n2, .int .i64 d2]] w fun e w' =>
      e = .returned (.tuple #[.agg #[.int .i64 (mulN n1 d1 n2 d2), .int .i64 (mulD n1 d1 n2 d2)], .int .i64 (mulE n1 d1 n2 d2)]) ∧ Below w.heap.size w w' := by
  have cx := fun w => valid_any n1 d1 w hn1 hn1' hd1 hd1'
  have cy := fun w => valid_any n2 d2 w hn2 hn2' hd2 hd2'
  by_cases hx : Vld n1 d1
  · rw [vldB_true hx] at cx
    by_cases hy : Vld n2 d2
    · rw [vldB_true hy] at cy
      have hxy : Vld n1 d1 ∧ Vld n2 d2 := ⟨hx, hy⟩
      unfold mulN mulD mulE
      rw [if_pos hxy, if_pos hxy, if_pos hxy]
      have C43 := Lib.hid (fun w => prod_ans n1 n2 d1 d2 hx hy.1 hy.2.1 hy.2.2.1 hy.2.2.2 w)
      generalize redN (n1 * n2) (d1.natAbs * d2.natAbs) = s1 at *
      generalize redD (n1 * n2) (d1.natAbs * d2.natAbs) = s2 at *
      generalize redE (n1 * n2) (d1.natAbs * d2.natAbs) = s3 at *
      have CX := Lib.hid cx; have CY := Lib.hid cy; clear cx cy hx hy hxy hn1 hn1' hd1 hd1' hn2 hn2' hd2 hd2'
      go_enter Try.func17, Try.ntmps17
      go_wp2_with fail
      refine (CX.out _).mono ?_
      rintro e w1 ⟨rfl, hb⟩
      have hB1 := bnext (w := w) (by go_grown) hb
      have bX : Blk2 w1 w.heap.size 23 (.int .i64 n1) (.int .i64 d1) := ((Blk2.new.alloc _).alloc _).below hb (by simp; omega)
      have bY : Blk2 w1 (w.heap.size + 1) 23 (.int .i64 n2) (.int .i64 d2) := ((Blk2.new' (by simp)).alloc _).below hb (by simp)
      have bR : Blk2 w1 (w.heap.size + 1 + 1) 23 (.int .i64 0) (.int .i64 0) := (Blk2.new' (by simp)).below hb (by simp)
      clear hb
      have cy0 := bY.c0; have cy1 := bY.c1; have zy := bY.lt
      go_wp2_with fail
      refine (CY.out _).mono ?_
      rintro e w2 ⟨rfl, hb⟩
      have hB2 := bnext (w := w) (by go_grown) hb
      have bX2 := bX.below hb bX.lt; have bY2 := bY.below hb bY.lt; have bR2 := bR.below hb bR.lt
      clear hb bX bY bR cy0 cy1 zy
      have cx0 := bX2.c0; have cx1 := bX2.c1; have zx := bX2.lt
      have cy0 := bY2.c0; have cy1 := bY2.c1; have zy := bY2.lt
      go_wp2_with fail
      refine (C43.out _).mono ?_
      rintro e w3 ⟨rfl, hb⟩
      have hB3 := bnext (w := w) (by go_grown) hb
      have bR3 := bR2.below hb bR2.lt
      clear hb bX2 bY2 bR2 cx0 cx1 zx cy0 cy1 zy
      have cr0 := bR3.c0; have cr1 := bR3.c1; have zr := bR3.lt; have fr0 := bR3.f0; have fr1 := bR3.f1
      go_wp2
      exact bodyPost_ret (v := .tuple #[.agg #[.int .i64 s1, .int .i64 s2], .int .i64 s3]) (by simp [results, Try.results17, go_sem, *]) rfl ⟨rfl, by go_grown⟩
    · rw [vldB_false hy] at cy
      have hxy : ¬ (Vld n1 d1 ∧ Vld n2 d2) := fun h => hy h.2
      unfold mulN mulD mulE
      rw [if_neg hxy, if_neg hxy, if_neg hxy]
      have CX := Lib.hid cx; have CY := Lib.hid cy; clear cx cy hx hy hxy hn1 hn1' hd1 hd1' hn2 hn2' hd2 hd2'
      go_enter Try.func17, Try.ntmps17
      go_wp2_with fail
      refine (CX.out _).mono ?_
      rintro e w1 ⟨rfl, hb⟩
      have hB1 := bnext (w := w) (by go_grown) hb
      have bY : Blk2 w1 (w.heap.size + 1) 23 (.int .i64 n2) (.int .i64 d2) := ((Blk2.new' (by simp)).alloc _).below hb (by simp)
      have bR : Blk2 w1 (w.heap.size + 1 + 1) 23 (.int .i64 0) (.int .i64 0) := (Blk2.new' (by simp)).below hb (by simp)
      clear hb
      have cy0 := bY.c0; have cy1 := bY.c1; have zy := bY.lt
      go_wp2_with fail
      refine (CY.out _).mono ?_
      rintro e w2 ⟨rfl, hb⟩
      have hB2 := bnext (w := w) (by go_grown) hb
      have bR2 := bR.below hb bR.lt
      clear hb bY bR cy0 cy1 zy
      have cr0 := bR2.c0; have cr1 := bR2.c1; have zr := bR2.lt; have fr0 := bR2.f0; have fr1 := bR2.f1
      go_wp2
      exact bodyPost_ret (v := .tuple #[.agg #[.int .i64 0, .int .i64 0], .int .i64 4]) (by simp [results, Try.results17, go_sem, *]) rfl ⟨rfl, by go_grown⟩
  · rw [vldB_false hx] at cx
    have hxy : ¬ (Vld n1 d1 ∧ Vld n2 d2) := fun h => hx h.1
    unfold mulN mulD mulE
    rw [if_neg hxy, if_neg hxy, if_neg hxy]
    have CX := Lib.hid cx; clear cx cy hx hxy hn1 hn1' hd1 hd1' hn2 hn2' hd2 hd2'
    go_enter Try.func17, Try.ntmps17
    go_wp2_with fail
    refine (CX.out _).mono ?_
    rintro e w1 ⟨rfl, hb⟩
    have hB1 := bnext (w := w) (by go_grown) hb
    have bR : Blk2 w1 (w.heap.size + 1 + 1) 23 (.int .i64 0) (.int .i64 0) := (Blk2.new' (by simp)).below hb (by simp)
    clear hb
    have cr0 := bR.c0; have cr1 := bR.c1; have zr := bR.lt; have fr0 := bR.f0; have fr1 := bR.f1
    go_wp2
    exact bodyPost_ret (v := .tuple #[.agg #[.int .i64 0, .int .i64 0], .int .i64 4]) (by simp [results, Try.results17, go_sem, *]) rfl ⟨rfl, by go_grown⟩
end Go.Proofs.Ytafheinapjfbaaa
