/- Lowest terms: what two fractions of one value have in common. -/
import Derived.Test.YtafheinapjfbaaaWu
namespace Go.Proofs.Ytafheinapjfbaaa
theorem quo_cop (N D : Nat) (hD : 0 < D) : Nat.gcd (quoN N D) (quoD N D) = 1 := by
  unfold quoN quoD
  exact Nat.gcd_div_gcd_div_gcd_of_pos_right hD
theorem quo_pos (N D : Nat) (hD : 0 < D) : 0 < quoD N D := by
  unfold quoD
  exact Nat.div_pos (Nat.gcd_le_right _ hD) (Nat.gcd_pos_of_pos_right _ hD)
theorem quo_eq (N D : Nat) : N = quoN N D * Nat.gcd N D ∧ D = quoD N D * Nat.gcd N D := by
  unfold quoN quoD
  exact ⟨(Nat.div_mul_cancel (Nat.gcd_dvd_left _ _)).symm, (Nat.div_mul_cancel (Nat.gcd_dvd_right _ _)).symm⟩
theorem low_unique (n d n' d' : Nat) (hd : 0 < d) (h : Nat.gcd n d = 1) (h' : Nat.gcd n' d' = 1) (e : n * d' = n' * d) : n = n' ∧ d = d' := by
  have h1 : d ∣ d' := Nat.Coprime.dvd_of_dvd_mul_left (Nat.Coprime.symm h) (by rw [e]; exact Nat.dvd_mul_left d n')
  have h2 : d' ∣ d := Nat.Coprime.dvd_of_dvd_mul_left (Nat.Coprime.symm h') (by rw [← e]; exact Nat.dvd_mul_left d' n)
  have h3 : d = d' := Nat.dvd_antisymm h1 h2
  subst h3
  exact ⟨Nat.eq_of_mul_eq_mul_right hd e, rfl⟩
theorem quo_cross (N D N' D' : Nat) (hD : 0 < D) (hD' : 0 < D') (e : N * D' = N' * D) : quoN N D = quoN N' D' ∧ quoD N D = quoD N' D' := by
  refine low_unique _ _ _ _ (quo_pos N D hD) (quo_cop N D hD) (quo_cop N' D' hD') ?_
  obtain ⟨a1, a2⟩ := quo_eq N D
  obtain ⟨b1, b2⟩ := quo_eq N' D'
  have g1 : 0 < Nat.gcd N D := Nat.gcd_pos_of_pos_right _ hD
  have g2 : 0 < Nat.gcd N' D' := Nat.gcd_pos_of_pos_right _ hD'
  generalize Nat.gcd N D = g at *
  generalize Nat.gcd N' D' = g' at *
  generalize quoN N D = n at *
  generalize quoD N D = d at *
  generalize quoN N' D' = n' at *
  generalize quoD N' D' = d' at *
  subst a1 a2 b1 b2
  have e2 : n * d' * (g * g') = n' * d * (g * g') := by
    calc n * d' * (g * g') = n * g * (d' * g') := by ac_rfl
      _ = n' * g' * (d * g) := e
      _ = _ := by ac_rfl
  exact Nat.eq_of_mul_eq_mul_right (Nat.mul_pos g1 g2) e2
theorem quo_one (N : Nat) : quoN N 1 = N ∧ quoD N 1 = 1 := by unfold quoN quoD; simp
theorem quo_self (N : Nat) (h : 0 < N) : quoN N N = 1 ∧ quoD N N = 1 := by unfold quoN quoD; simp [Nat.div_self h]
/-- positive numbers -/
theorem mk_pos (a b : Nat) (hb : 0 < b) (h1 : quoN a b ≤ 1152921504606846976) (h2 : quoD a b ≤ 1152921504606846976) : mkN a b = quoN a b ∧ mkD a b = quoD a b ∧ mkE a b = 0 := by
  have hb' : ¬ ((b : Int) = 0) := by omega
  have hs : sg a b = false := by
    unfold sg
    rw [decide_eq_false (show ¬ (a : Int) < 0 by omega), decide_eq_false (show ¬ (b : Int) < 0 by omega)]; rfl
  unfold mkN mkD mkE
  rw [if_neg hb', if_neg hb', if_neg hb', hs, Int.natAbs_natCast, Int.natAbs_natCast]
  obtain ⟨f1, f2, f3⟩ := nr_ok false _ _ h1 h2
  rw [f1, f2, f3]
  exact ⟨rfl, rfl, rfl⟩
theorem red_pos (N D : Nat) (h1 : quoN N D ≤ 1152921504606846976) (h2 : quoD N D ≤ 1152921504606846976) : redN (N : Int) D = quoN N D ∧ redD (N : Int) D = quoD N D ∧ redE (N : Int) D = 0 := by
  unfold redN redD redE
  rw [decide_eq_false (show ¬ (N : Int) < 0 by omega), Int.natAbs_natCast]
  obtain ⟨f1, f2, f3⟩ := nr_ok false _ _ h1 h2
  rw [f1, f2, f3]
  exact ⟨rfl, rfl, rfl⟩
theorem red_big (N D : Nat) (h1 : 1152921504606846976 < quoN N D) : redE (N : Int) D = 3 := by
  unfold redE
  rw [Int.natAbs_natCast]
  exact (nr_no _ _ _ (by omega)).2.2
theorem vld_quo (a b : Nat) (hb : 0 < b) (h1 : quoN a b ≤ 1152921504606846976) (h2 : quoD a b ≤ 1152921504606846976) : Vld (quoN a b) (quoD a b) := by
  have := quo_pos a b hb
  exact ⟨by omega, by omega, by omega, by rw [Int.natAbs_natCast, Int.natAbs_natCast]; exact quo_cop a b hb⟩
/-- the law's numbers -/
theorem limits (p q big : Nat) (hp : 1 ≤ p) (hp' : p ≤ 1000) (hq : 1 ≤ q) (hq' : q ≤ 1000) (hb : 1152921504606746977 ≤ big) (hb' : big ≤ 1152921504606846976) :
    mkE big p = 0 ∧ mkE q big = 0 ∧
    mulN (mkN big p) (mkD big p) (mkN q big) (mkD q big) = mkN q p ∧ mulD (mkN big p) (mkD big p) (mkN q big) (mkD q big) = mkD q p ∧ mulE (mkN big p) (mkD big p) (mkN q big) (mkD q big) = 0 ∧
    divN (mkN big p) (mkD big p) (mkN big p) (mkD big p) = 1 ∧ divD (mkN big p) (mkD big p) (mkN big p) (mkD big p) = 1 ∧ divE (mkN big p) (mkD big p) (mkN big p) (mkD big p) = 0 ∧
    mulE (mkN big 1) (mkD big 1) (mkN (2 + p) 1) (mkD (2 + p) 1) = 3 := by
  have x1 : quoN big p ≤ 1152921504606846976 := Nat.le_trans (quoN_le _ _) hb'
  have x2 : quoD big p ≤ 1152921504606846976 := Nat.le_trans (quoD_le _ _) (by omega)
  have y1 : quoN q big ≤ 1152921504606846976 := Nat.le_trans (quoN_le _ _) (by omega)
  have y2 : quoD q big ≤ 1152921504606846976 := Nat.le_trans (quoD_le _ _) hb'
  have z1 : quoN q p ≤ 1152921504606846976 := Nat.le_trans (quoN_le _ _) (by omega)
  have z2 : quoD q p ≤ 1152921504606846976 := Nat.le_trans (quoD_le _ _) (by omega)
  obtain ⟨X1, X2, X3⟩ := mk_pos big p (by omega) x1 x2
  obtain ⟨Y1, Y2, Y3⟩ := mk_pos q big (by omega) y1 y2
  obtain ⟨Z1, Z2, Z3⟩ := mk_pos q p (by omega) z1 z2
  have vx := vld_quo big p (by omega) x1 x2
  have vy := vld_quo q big (by omega) y1 y2
  obtain ⟨a1, a2⟩ := quo_eq big p
  obtain ⟨b1, b2⟩ := quo_eq q big
  have px := quo_pos big p (by omega)
  have py := quo_pos q big (by omega)
  have nx : 0 < quoN big p := by
    rcases Nat.eq_zero_or_pos (quoN big p) with h | h
    · rw [h, Nat.zero_mul] at a1; omega
    · exact h
  have cr := quo_cross (quoN big p * quoN q big) (quoD big p * quoD q big) q p (Nat.mul_pos px py) (by omega) (by
    have e1 : quoN big p * quoN q big * p = quoN big p * quoN q big * (quoD big p * Nat.gcd big p) := by rw [← a2]
    have e2 : q * (quoD big p * quoD q big) = quoN q big * Nat.gcd q big * (quoD big p * quoD q big) := by rw [← b1]
    rw [e1, e2]
    have e3 : quoN big p * quoN q big * (quoD big p * Nat.gcd big p) = (quoN big p * Nat.gcd big p) * (quoN q big * quoD big p) := by ac_rfl
    have e4 : quoN q big * Nat.gcd q big * (quoD big p * quoD q big) = (quoD q big * Nat.gcd q big) * (quoN q big * quoD big p) := by ac_rfl
    rw [e3, e4, ← a1, ← b2])
  have rd := red_pos (quoN big p * quoN q big) (quoD big p * quoD q big) (by rw [cr.1]; exact z1) (by rw [cr.2]; exact z2)
  rw [cr.1, cr.2, Int.natCast_mul] at rd
  have hdiv := red_pos (quoN big p * quoD big p) (quoD big p * quoN big p) (by rw [Nat.mul_comm (quoD big p), (quo_self _ (Nat.mul_pos nx px)).1]; omega) (by rw [Nat.mul_comm (quoD big p), (quo_self _ (Nat.mul_pos nx px)).2]; omega)
  rw [Nat.mul_comm (quoD big p), (quo_self _ (Nat.mul_pos nx px)).1, (quo_self _ (Nat.mul_pos nx px)).2, Int.natCast_mul] at hdiv
  obtain ⟨o1, o2⟩ := quo_one big
  obtain ⟨t1, t2⟩ := quo_one (2 + p)
  obtain ⟨O1, O2, _⟩ := mk_pos big 1 (by omega) (by rw [o1]; exact hb') (by rw [o2]; omega)
  obtain ⟨T1, T2, _⟩ := mk_pos (2 + p) 1 (by omega) (by rw [t1]; omega) (by rw [t2]; omega)
  rw [o1] at O1; rw [o2] at O2; rw [t1] at T1; rw [t2] at T2
  have vo : Vld (big : Int) 1 := ⟨by omega, by omega, by omega, by simp⟩
  have vt : Vld ((2 + p : Nat) : Int) 1 := ⟨by omega, by omega, by omega, by simp⟩
  have big3 : redE (((big * (2 + p) : Nat)) : Int) 1 = 3 := red_big _ _ (by
    rw [(quo_one _).1]
    have : big * 3 ≤ big * (2 + p) := Nat.mul_le_mul_left big (by omega)
    omega)
  have ep : ((2 : Int) + (p : Int)) = ((2 + p : Nat) : Int) := by omega
  have e1 : ((1 : Nat) : Int) = 1 := rfl
  rw [e1] at O1 O2 T1 T2
  refine ⟨X3, Y3, ?_⟩
  rw [X1, X2, Y1, Y2, Z1, Z2]
  unfold mulN mulD mulE divN divD divE
  have n0 : ¬ ((quoN big p : Int) = 0) := by omega
  have n1 : ¬ ((quoN big p : Int) < 0) := by omega
  have hxy : Vld (quoN big p : Int) (quoD big p : Int) ∧ Vld (quoN q big : Int) (quoD q big : Int) := ⟨vx, vy⟩
  have hxx : Vld (quoN big p : Int) (quoD big p : Int) ∧ Vld (quoN big p : Int) (quoD big p : Int) := ⟨vx, vx⟩
  simp only [if_pos hxy, if_pos hxx, if_neg n0, if_neg n1, Int.natAbs_natCast]
  refine ⟨rd.1, rd.2.1, rd.2.2, ?_, ?_, ?_, ?_⟩
  · rw [Nat.mul_comm (quoD big p)]; exact hdiv.1
  · rw [Nat.mul_comm (quoD big p)]; exact hdiv.2.1
  · rw [Nat.mul_comm (quoD big p)]; exact hdiv.2.2
  · have hot : Vld (big : Int) 1 ∧ Vld ((2 + p : Nat) : Int) 1 := ⟨vo, vt⟩
    rw [ep, O1, O2, T1, T2, if_pos hot, ← Int.natCast_mul]
    exact big3
end Go.Proofs.Ytafheinapjfbaaa
