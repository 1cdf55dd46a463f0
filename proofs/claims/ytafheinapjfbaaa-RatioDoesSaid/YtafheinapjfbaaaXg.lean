/- The walk of the law RatioField. -/
import Derived.Test.YtafheinapjfbaaaXf
namespace Go.Proofs.Ytafheinapjfbaaa
open Go.RowKit Go.Lib Go.BigFrame
theorem absle {a : Int} {A B : Nat} (h : a.natAbs ≤ A) (h' : A ≤ B) : a.natAbs ≤ B := Nat.le_trans h h'
/-- the numbers of the law -/
theorem field_nums (a1 a2 b1 b2 c1 c2 : Int) (ha : Vld a1 a2) (hb : Vld b1 b2) (hc : Vld c1 c2) (a20 : a1.natAbs ≤ 20) (b20 : b1.natAbs ≤ 20) (c20 : c1.natAbs ≤ 20) (a12 : a2 ≤ 12) (b12 : b2 ≤ 12) (c12 : c2 ≤ 12) :
    ∃ s1 s2 u1 u2 p1 p2 q1 q2 : Int,
      (∀ w, Calls Try.prog 13 #[.agg #[.int .i64 a1, .int .i64 a2], .agg #[.int .i64 b1, .int .i64 b2]] w fun e w' => e = .returned (.tuple #[.agg #[.int .i64 s1, .int .i64 s2], .int .i64 0]) ∧ Below w.heap.size w w') ∧
      (∀ w, Calls Try.prog 13 #[.agg #[.int .i64 b1, .int .i64 b2], .agg #[.int .i64 a1, .int .i64 a2]] w fun e w' => e = .returned (.tuple #[.agg #[.int .i64 s1, .int .i64 s2], .int .i64 0]) ∧ Below w.heap.size w w') ∧
      (∀ w, Calls Try.prog 17 #[.agg #[.int .i64 s1, .int .i64 s2], .agg #[.int .i64 c1, .int .i64 c2]] w fun e w' => e = .returned (.tuple #[.agg #[.int .i64 u1, .int .i64 u2], .int .i64 0]) ∧ Below w.heap.size w w') ∧
      (∀ w, Calls Try.prog 17 #[.agg #[.int .i64 a1, .int .i64 a2], .agg #[.int .i64 c1, .int .i64 c2]] w fun e w' => e = .returned (.tuple #[.agg #[.int .i64 p1, .int .i64 p2], .int .i64 0]) ∧ Below w.heap.size w w') ∧
      (∀ w, Calls Try.prog 17 #[.agg #[.int .i64 b1, .int .i64 b2], .agg #[.int .i64 c1, .int .i64 c2]] w fun e w' => e = .returned (.tuple #[.agg #[.int .i64 q1, .int .i64 q2], .int .i64 0]) ∧ Below w.heap.size w w') ∧
      (∀ w, Calls Try.prog 13 #[.agg #[.int .i64 p1, .int .i64 p2], .agg #[.int .i64 q1, .int .i64 q2]] w fun e w' => e = .returned (.tuple #[.agg #[.int .i64 u1, .int .i64 u2], .int .i64 0]) ∧ Below w.heap.size w w') ∧
      (∀ w, Calls Try.prog 15 #[.agg #[.int .i64 s1, .int .i64 s2], .agg #[.int .i64 b1, .int .i64 b2]] w fun e w' => e = .returned (.tuple #[.agg #[.int .i64 a1, .int .i64 a2], .int .i64 0]) ∧ Below w.heap.size w w') ∧
      (c1 ≠ 0 → ∀ w, Calls Try.prog 19 #[.agg #[.int .i64 p1, .int .i64 p2], .agg #[.int .i64 c1, .int .i64 c2]] w fun e w' => e = .returned (.tuple #[.agg #[.int .i64 a1, .int .i64 a2], .int .i64 0]) ∧ Below w.heap.size w w') ∧
      (c1 = 0 → ∀ w, Calls Try.prog 19 #[.agg #[.int .i64 p1, .int .i64 p2], .agg #[.int .i64 c1, .int .i64 c2]] w fun e w' => e = .returned (.tuple #[.agg #[.int .i64 0, .int .i64 0], .int .i64 2]) ∧ Below w.heap.size w w') := by
  have pa := ha.2.1; have pb := hb.2.1; have pc := hc.2.1
  have ka : a2.natAbs ≤ 12 := by omega
  have kb : b2.natAbs ≤ 12 := by omega
  have kc : c2.natAbs ≤ 12 := by omega
  have m1 := absmul a20 kb
  have m2 := absmul b20 ka
  have m3 := absmul ka kb
  have m4 := absmul a20 kc
  have m4' := absmul a20 c20
  have m5 := absmul ka kc
  have m6' := absmul b20 c20
  have m7 := absmul kb kc
  have n1 : (a1 * b2 + b1 * a2).natAbs ≤ 480 := by generalize a1 * b2 = x at *; generalize b1 * a2 = y at *; omega
  obtain ⟨s1, s2, rs, cs⟩ := add_small a1 a2 b1 b2 ha hb (by omega) (by omega)
  have ks1 : s1.natAbs ≤ 480 := Nat.le_trans rs.n n1
  have ps := rs.v.2.1
  have ks2 : s2.natAbs ≤ 144 := by have := rs.d; generalize a2 * b2 = x at *; omega
  obtain ⟨s1', s2', rs', cs'⟩ := add_small b1 b2 a1 a2 hb ha (by rw [Int.add_comm]; omega) (by rw [Int.mul_comm]; omega)
  have hab : a2 * b2 ≠ 0 := Int.mul_ne_zero (by omega) (by omega)
  have es := rs.unique hab rs'.v (by have := rs'.e; rw [Int.mul_comm b2, Int.add_comm (b1 * a2)] at this; exact this)
  obtain ⟨e1, e2⟩ := es
  subst e1 e2
  have m8 := absmul ks1 c20
  have m9 := absmul ks2 kc
  obtain ⟨u1, u2, ru, cu⟩ := mul_small s1 s2 c1 c2 rs.v hc (by omega) (by omega)
  obtain ⟨p1, p2, rp, cp⟩ := mul_small a1 a2 c1 c2 ha hc (by omega) (by omega)
  obtain ⟨q1, q2, rq, cq⟩ := mul_small b1 b2 c1 c2 hb hc (by omega) (by omega)
  have kp1 : p1.natAbs ≤ 400 := Nat.le_trans rp.n m4'
  have kq1 : q1.natAbs ≤ 400 := Nat.le_trans rq.n m6'
  have pp := rp.v.2.1; have pq := rq.v.2.1; have pu := ru.v.2.1
  have kp2 : p2.natAbs ≤ 144 := by have := rp.d; generalize a2 * c2 = x at *; omega
  have kq2 : q2.natAbs ≤ 144 := by have := rq.d; generalize b2 * c2 = x at *; omega
  have o1 := absmul kp1 kq2
  have o2 := absmul kq1 kp2
  have o3 := absmul kp2 kq2
  obtain ⟨v1, v2, rv, cv⟩ := add_small p1 p2 q1 q2 rp.v rq.v (by generalize p1 * q2 = x at *; generalize q1 * p2 = y at *; omega) (by omega)
  have hpq : p2 * q2 ≠ 0 := Int.mul_ne_zero (by omega) (by omega)
  obtain ⟨e1, e2⟩ := rv.unique hpq ru.v (distr a1 a2 b1 b2 c1 c2 s1 s2 u1 u2 p1 p2 q1 q2 (by omega) (by omega) (by omega) rs.e ru.e rp.e rq.e (by omega))
  subst e1 e2
  have o4 := absmul ks1 kb
  have o5 := absmul b20 ks2
  have o6 := absmul ks2 kb
  obtain ⟨w1, w2, rw', cw⟩ := sub_small s1 s2 b1 b2 rs.v hb (by rw [Int.neg_mul]; generalize s1 * b2 = x at *; generalize b1 * s2 = y at *; omega) (by omega)
  have hsb : s2 * b2 ≠ 0 := Int.mul_ne_zero (by omega) (by omega)
  obtain ⟨e1, e2⟩ := rw'.unique hsb ha (Int.eq_of_mul_eq_mul_right (show a2 ≠ 0 by omega) (back a1 a2 b1 b2 s1 s2 rs.e))
  subst e1 e2
  refine ⟨s1, s2, v1, v2, p1, p2, q1, q2, cs, cs', cu, cp, cq, cv, cw, fun h0 => ?_, fun h0 => ?_⟩
  · have o7 := absmul kp1 kc
    have o8 := absmul kp2 c20
    obtain ⟨r1, r2, hv, he, cr⟩ := div_small p1 p2 c1 c2 rp.v hc h0 (by omega) (by omega)
    obtain ⟨e1, e2⟩ := vld_unique hv ha (by
      have hne : p2 * c1 * c2 ≠ 0 := Int.mul_ne_zero (Int.mul_ne_zero (by omega) h0) (by omega)
      refine Int.eq_of_mul_eq_mul_right hne ?_
      calc r1 * w2 * (p2 * c1 * c2) = r1 * (p2 * c1) * (w2 * c2) := by ac_rfl
        _ = p1 * c2 * r2 * (w2 * c2) := by rw [he]
        _ = p1 * (w2 * c2) * (r2 * c2) := by ac_rfl
        _ = w1 * c1 * p2 * (r2 * c2) := by rw [rp.e]
        _ = _ := by ac_rfl)
    subst e1 e2
    exact cr
  · subst h0
    exact fun w => div_by_zero p1 p2 c2 rp.v hc w
end Go.Proofs.Ytafheinapjfbaaa
