/- Cmp of ratio for valid fractions; the numbers of the law RatioOrder. -/
import Derived.Test.YtafheinapjfbaaaXg
namespace Go.Proofs.Ytafheinapjfbaaa
open Go.RowKit Go.Lib Go.BigFrame
set_option maxHeartbeats 600000 in
theorem cmp_valid (n1 d1 n2 d2 : Int) (w : World) (hx : Vld n1 d1) (hy : Vld n2 d2) :
    Calls Try.prog 21 #[.agg #[.int .i64 n1, .int .i64 d1], .agg #[.int .i64 n2, .int .i64 d2]] w fun e w' => e = .returned (.int .i64 (sgnI (n1 * d2 - n2 * d1))) ∧ Below w.heap.size w w' := by
  have b1 := vbd hx; have b2 := vbd hy
  have cx := fun w => valid_any n1 d1 w b1.1.1 b1.1.2 b1.2.1 b1.2.2
  have cy := fun w => valid_any n2 d2 w b2.1.1 b2.1.2 b2.2.1 b2.2.2
  rw [vldB_true hx] at cx
  rw [vldB_true hy] at cy
  have CX := Lib.hid cx; have CY := Lib.hid cy; clear cx cy
  have CK := Lib.hid (fun w => cross_minus n1 d1 n2 d2 w b1.1.1 b1.1.2 b1.2.1 b1.2.2 b2.1.1 b2.1.2 b2.2.1 b2.2.2)
  have hz : (n1 * d2 - n2 * d1).natAbs ≤ 2658455991569831745807614120560689152 := by
    have a1 : (n1 * d2).natAbs ≤ 1152921504606846976 * 1152921504606846976 := absmul hx.1 (by have := hy.2; omega)
    have a2 : (n2 * d1).natAbs ≤ 1152921504606846976 * 1152921504606846976 := absmul hy.1 (by have := hx.2; omega)
    generalize n1 * d2 = x at *
    generalize n2 * d1 = y at *
    omega
  have c45 := fun w => sign_any (hiOf (n1 * d2 - n2 * d1)) (loOf (n1 * d2 - n2 * d1)) w (hi_lt _) (lo_lt _)
  rw [sw_hilo _ (by omega) (by omega)] at c45
  have C45 := Lib.hid c45; clear c45 hz b1 b2 hx hy
  generalize hiOf (n1 * d2 - n2 * d1) = ph at *
  generalize loOf (n1 * d2 - n2 * d1) = pl at *
  generalize sgnI (n1 * d2 - n2 * d1) = r at *
  go_enter Try.func21, Try.ntmps21
  go_wp2_with fail
  refine (CX.out _).mono ?_
  rintro e w1 ⟨rfl, hb⟩
  have hB1 := bnext (w := w) (by go_grown) hb
  have bX : Blk2 w1 w.heap.size 23 (.int .i64 n1) (.int .i64 d1) := (Blk2.new.alloc _).below hb (by simp; omega)
  have bY : Blk2 w1 (w.heap.size + 1) 23 (.int .i64 n2) (.int .i64 d2) := (Blk2.new' (by simp)).below hb (by simp)
  clear hb
  have cy0 := bY.c0; have cy1 := bY.c1; have zy := bY.lt
  go_wp2_with fail
  refine (CY.out _).mono ?_
  rintro e w2 ⟨rfl, hb⟩
  have hB2 := bnext (w := w) (by go_grown) hb
  have bX2 := bX.below hb bX.lt; have bY2 := bY.below hb bY.lt
  clear hb bX bY cy0 cy1 zy
  have cx0 := bX2.c0; have cx1 := bX2.c1; have zx := bX2.lt
  have cy0 := bY2.c0; have cy1 := bY2.c1; have zy := bY2.lt
  go_wp2_with fail
  refine (CK.out _).mono ?_
  rintro e w3 ⟨rfl, hb⟩
  have hB3 := bnext (w := w) (by go_grown) hb
  clear hb bX2 bY2 cx0 cx1 zx cy0 cy1 zy
  go_wp2_with fail
  refine (C45.out _).mono ?_
  rintro e w4 ⟨rfl, hb⟩
  have hB4 := bnext (w := w) (by go_grown) hb
  clear hb
  go_wp2
  go_ret
  exact ⟨rfl, by go_grown⟩
theorem sgnI_neg (z : Int) : sgnI (-z) = - sgnI z := by
  unfold sgnI
  by_cases h1 : z < 0
  · rw [if_pos h1, if_neg (show ¬ -z < 0 by omega), if_neg (show ¬ -z = 0 by omega)]; rfl
  · by_cases h2 : z = 0
    · subst h2; rfl
    · rw [if_neg h1, if_neg h2, if_pos (show -z < 0 by omega)]
theorem sgnI_pos_mul (z k : Int) (hk : 0 < k) : sgnI (z * k) = sgnI z := by
  unfold sgnI
  have h1 : z * k < 0 ↔ z < 0 := by
    constructor
    · intro h
      rcases Int.lt_or_le z 0 with h' | h'
      · exact h'
      · have := Int.mul_nonneg h' (by omega : 0 ≤ k); omega
    · intro h; exact Int.mul_neg_of_neg_of_pos h hk
  have h2 : z * k = 0 ↔ z = 0 := by
    constructor
    · intro h
      rcases Int.mul_eq_zero.1 h with h' | h'
      · exact h'
      · omega
    · intro h; rw [h, Int.zero_mul]
  simp only [h1, h2]
theorem sgnI_cases (z : Int) : (sgnI z = 1 ∧ 0 < z) ∨ (sgnI z = 0 ∧ z = 0) ∨ (sgnI z = -1 ∧ z < 0) := by
  unfold sgnI
  by_cases h1 : z < 0
  · rw [if_pos h1]; omega
  · by_cases h2 : z = 0
    · rw [if_neg h1, if_pos h2]; omega
    · rw [if_neg h1, if_neg h2]; omega
/-- adding one number keeps the order -/
theorem add_order (a1 a2 b1 b2 c1 c2 s1 s2 t1 t2 : Int) (ha : 0 < a2) (hb : 0 < b2) (hc : 0 < c2) (hs : 0 < s2) (ht : 0 < t2)
    (es : s1 * (a2 * c2) = (a1 * c2 + c1 * a2) * s2) (et : t1 * (b2 * c2) = (b1 * c2 + c1 * b2) * t2) : sgnI (s1 * t2 - t1 * s2) = sgnI (a1 * b2 - b1 * a2) := by
  have e : (s1 * t2 - t1 * s2) * (a2 * c2 * (b2 * c2)) = (a1 * b2 - b1 * a2) * (s2 * t2 * (c2 * c2)) := by
    have e1 : s1 * t2 * (a2 * c2 * (b2 * c2)) = (a1 * c2 + c1 * a2) * s2 * (t2 * (b2 * c2)) := by rw [← es]; ac_rfl
    have e2 : t1 * s2 * (a2 * c2 * (b2 * c2)) = (b1 * c2 + c1 * b2) * t2 * (s2 * (a2 * c2)) := by rw [← et]; ac_rfl
    rw [Int.sub_mul, e1, e2, Int.sub_mul, Int.add_mul, Int.add_mul, Int.add_mul, Int.add_mul]
    have x1 : a1 * c2 * s2 * (t2 * (b2 * c2)) = a1 * b2 * (s2 * t2 * (c2 * c2)) := by ac_rfl
    have x2 : c1 * a2 * s2 * (t2 * (b2 * c2)) = c1 * b2 * t2 * (s2 * (a2 * c2)) := by ac_rfl
    have x3 : b1 * c2 * t2 * (s2 * (a2 * c2)) = b1 * a2 * (s2 * t2 * (c2 * c2)) := by ac_rfl
    rw [x1, x2, x3]
    omega
  have p1 : 0 < a2 * c2 * (b2 * c2) := Int.mul_pos (Int.mul_pos ha hc) (Int.mul_pos hb hc)
  have p2 : 0 < s2 * t2 * (c2 * c2) := Int.mul_pos (Int.mul_pos hs ht) (Int.mul_pos hc hc)
  rw [← sgnI_pos_mul _ _ p1, e, sgnI_pos_mul _ _ p2]
theorem order_trans (a1 a2 b1 b2 c1 c2 : Int) (ha : 0 < a2) (hb : 0 < b2) (hc : 0 < c2) (h1 : a1 * b2 - b1 * a2 ≤ 0) (h2 : b1 * c2 - c1 * b2 ≤ 0) : a1 * c2 - c1 * a2 ≤ 0 := by
  have e1 : a1 * b2 * c2 ≤ b1 * a2 * c2 := Int.mul_le_mul_of_nonneg_right (by omega) (by omega)
  have e2 : b1 * c2 * a2 ≤ c1 * b2 * a2 := Int.mul_le_mul_of_nonneg_right (by omega) (by omega)
  have e3 : b1 * a2 * c2 = b1 * c2 * a2 := by ac_rfl
  have e4 : a1 * b2 * c2 = a1 * c2 * b2 := by ac_rfl
  have e5 : c1 * b2 * a2 = c1 * a2 * b2 := by ac_rfl
  have e6 : (a1 * c2) * b2 ≤ (c1 * a2) * b2 := by omega
  have := Int.le_of_mul_le_mul_right e6 hb
  omega
theorem floor_nums (a1 a2 : Int) (va : Vld a1 a2) (a20 : a1.natAbs ≤ 20) (a12 : a2 ≤ 12) : ∃ n P Q : Int, flr a1 a2 = n ∧ -20 ≤ n ∧ n ≤ 20 ∧ wrap64 (n * a2) = P ∧ wrap64 ((n + 1) * a2) = Q ∧ decide (P ≤ a1) = true ∧ decide (a1 < Q) = true := by
  have pa := va.2.1
  have hf : flr a1 a2 = a1 / a2 := if_pos va
  have h1 := Int.mul_ediv_add_emod a1 a2
  have h2 := Int.emod_nonneg a1 (b := a2) (by omega)
  have h3 := Int.emod_lt_of_pos a1 (b := a2) (by omega)
  have h4 : -20 ≤ a1 / a2 := by
    have : (-20 : Int) * a2 ≤ a1 := by
      have : (20 : Int) * 1 ≤ 20 * a2 := Int.mul_le_mul_of_nonneg_left pa (by omega)
      omega
    exact (Int.le_ediv_iff_mul_le (by omega)).2 this
  have h5 : a1 / a2 ≤ 20 := by
    have : a1 / a2 < 21 := (Int.ediv_lt_iff_lt_mul (by omega)).2 (by
      have : (21 : Int) * 1 ≤ 21 * a2 := Int.mul_le_mul_of_nonneg_left pa (by omega)
      omega)
    omega
  have b1 : (a1 / a2 * a2).natAbs ≤ 20 * 12 := absmul (by omega) (by omega)
  have b2 : ((a1 / a2 + 1) * a2).natAbs ≤ 21 * 12 := absmul (by omega) (by omega)
  have e1 : a2 * (a1 / a2) = a1 / a2 * a2 := Int.mul_comm _ _
  have e2 : (a1 / a2 + 1) * a2 = a1 / a2 * a2 + a2 := by rw [Int.add_mul, Int.one_mul]
  refine ⟨a1 / a2, a1 / a2 * a2, (a1 / a2 + 1) * a2, hf, h4, h5, IntWalk.wrap64_in _ ⟨by omega, by omega⟩, IntWalk.wrap64_in _ ⟨by omega, by omega⟩, decide_eq_true (by omega), decide_eq_true (by omega)⟩
end Go.Proofs.Ytafheinapjfbaaa
