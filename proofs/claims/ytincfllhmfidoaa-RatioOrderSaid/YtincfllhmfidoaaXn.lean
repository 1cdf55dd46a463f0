/- The walk of the law RatioOrder. -/
import Derived.Test.YtincfllhmfidoaaXj
import Derived.Test.YtincfllhmfidoaaXk
import Derived.Test.YtincfllhmfidoaaXl
import Derived.Test.YtincfllhmfidoaaXm
namespace Go.Proofs.Ytincfllhmfidoaa
open Go.RowKit Go.Lib Go.BigFrame
theorem law6_any (a b c d e f : Int) (w : World) (_ha1 : -9223372036854775808 ≤ a) (_ha2 : a < 9223372036854775808) (_hb1 : -9223372036854775808 ≤ b) (_hb2 : b < 9223372036854775808)
    (_hc1 : -9223372036854775808 ≤ c) (_hc2 : c < 9223372036854775808) (_hd1 : -9223372036854775808 ≤ d) (_hd2 : d < 9223372036854775808)
    (_he1 : -9223372036854775808 ≤ e) (_he2 : e < 9223372036854775808) (_hf1 : -9223372036854775808 ≤ f) (_hf2 : f < 9223372036854775808) :
    Calls Try.prog 6 #[.int .i64 a, .int .i64 b, .int .i64 c, .int .i64 d, .int .i64 e, .int .i64 f] w fun e w' => e = .returned (.bool true) ∧ Below w.heap.size w w' := by
  obtain ⟨a1, a2, va, a20, a12, ca⟩ := small_any a b
  obtain ⟨b1, b2, vb, b20, b12, cb⟩ := small_any c d
  obtain ⟨c1, c2, vc, c20, c12, cc⟩ := small_any e f
  have pa := va.2.1; have pb := vb.2.1; have pc := vc.2.1
  have ka : a2.natAbs ≤ 12 := by omega
  have kb : b2.natAbs ≤ 12 := by omega
  have kc : c2.natAbs ≤ 12 := by omega
  have m1 := absmul a20 kc
  have m2 := absmul c20 ka
  have m3 := absmul b20 kc
  have m4 := absmul c20 kb
  have m5 := absmul ka kc
  have m6 := absmul kb kc
  obtain ⟨s1, s2, rs, cs⟩ := add_small a1 a2 c1 c2 va vc (by generalize a1 * c2 = x at *; generalize c1 * a2 = y at *; omega) (by omega)
  obtain ⟨t1, t2, rt, ct⟩ := add_small b1 b2 c1 c2 vb vc (by generalize b1 * c2 = x at *; generalize c1 * b2 = y at *; omega) (by omega)
  obtain ⟨n, P, Q, hf, hn1, hn2, hP, hQ, hPa, hQa⟩ := floor_nums a1 a2 va a20 a12
  have ba := vbd va
  have cf := fun w => floor_any a1 a2 w ba.1.1 ba.1.2 ba.2.1 ba.2.2
  rw [hf] at cf
  have cxy := fun w => cmp_valid a1 a2 b1 b2 w va vb
  have cyx := fun w => cmp_valid b1 b2 a1 a2 w vb va
  have cst := fun w => cmp_valid s1 s2 t1 t2 w rs.v rt.v
  have cyz := fun w => cmp_valid b1 b2 c1 c2 w vb vc
  have cxz := fun w => cmp_valid a1 a2 c1 c2 w va vc
  rw [add_order a1 a2 b1 b2 c1 c2 s1 s2 t1 t2 (by omega) (by omega) (by omega) (by have := rs.v.2.1; omega) (by have := rt.v.2.1; omega) rs.e rt.e] at cst
  rw [show b1 * a2 - a1 * b2 = -(a1 * b2 - b1 * a2) by omega, sgnI_neg] at cyx
  have hne : ¬ a1 * b2 - b1 * a2 = 0 → (a1 == b1) = false ∨ ((a1 == b1) = true ∧ (a2 == b2) = false) := by
    intro h
    by_cases h1 : a1 = b1
    · refine Or.inr ⟨by rw [beq_iff_eq]; exact h1, ?_⟩
      rw [beq_eq_false_iff_ne]
      intro h2
      subst h1 h2
      omega
    · exact Or.inl (by rw [beq_eq_false_iff_ne]; exact h1)
  have htr := order_trans a1 a2 b1 b2 c1 c2 (by omega) (by omega) (by omega)
  rcases sgnI_cases (a1 * b2 - b1 * a2) with ⟨hk, hz⟩ | ⟨hk, hz⟩ | ⟨hk, hz⟩
  · rw [hk] at cxy cyx cst
    rcases hne (by omega) with h | h
    · exact order_1a a b c d e f a1 a2 b1 b2 c1 c2 s1 s2 t1 t2 n P Q w ca cb cc cs ct cxy cyx cst cf hn1 hn2 hP hQ hPa hQa h
    · exact order_1b a b c d e f a1 a2 b1 b2 c1 c2 s1 s2 t1 t2 n P Q w ca cb cc cs ct cxy cyx cst cf hn1 hn2 hP hQ hPa hQa h
  · rw [hk] at cxy cyx cst
    obtain ⟨e1, e2⟩ := vld_unique va vb (by omega)
    rcases sgnI_cases (b1 * c2 - c1 * b2) with ⟨hl, hy⟩ | ⟨hl, hy⟩ | ⟨hl, hy⟩
    · rw [hl] at cyz
      subst e1 e2
      exact order_0p a b c d e f a1 a2 c1 c2 s1 s2 t1 t2 n P Q 1 w ca cb cc cs ct cxy cyx cst cf hn1 hn2 hP hQ hPa hQa cyz (by omega)
    all_goals
      have hm := htr (by omega) (by omega)
      have hM : sgnI (a1 * c2 - c1 * a2) ≤ 0 := by rcases sgnI_cases (a1 * c2 - c1 * a2) with h | h | h <;> omega
      generalize sgnI (a1 * c2 - c1 * a2) = M at *
      rw [hl] at cyz
      subst e1 e2
      exact order_0n a b c d e f a1 a2 c1 c2 s1 s2 t1 t2 n P Q _ M w ca cb cc cs ct cxy cyx cst cf hn1 hn2 hP hQ hPa hQa cyz (by omega) cxz hM
  · rw [hk] at cxy cyx cst
    rcases sgnI_cases (b1 * c2 - c1 * b2) with ⟨hl, hy⟩ | ⟨hl, hy⟩ | ⟨hl, hy⟩
    · rw [hl] at cyz
      rcases hne (by omega) with h | h
      · exact order_map a b c d e f a1 a2 b1 b2 c1 c2 s1 s2 t1 t2 n P Q 1 w ca cb cc cs ct cxy cyx cst cf hn1 hn2 hP hQ hPa hQa cyz (by omega) h
      · exact order_mbp a b c d e f a1 a2 b1 b2 c1 c2 s1 s2 t1 t2 n P Q 1 w ca cb cc cs ct cxy cyx cst cf hn1 hn2 hP hQ hPa hQa cyz (by omega) h
    all_goals
      have hm := htr (by omega) (by omega)
      have hM : sgnI (a1 * c2 - c1 * a2) ≤ 0 := by rcases sgnI_cases (a1 * c2 - c1 * a2) with h | h | h <;> omega
      generalize sgnI (a1 * c2 - c1 * a2) = M at *
      rw [hl] at cyz
      rcases hne (by omega) with h | h
      · exact order_man a b c d e f a1 a2 b1 b2 c1 c2 s1 s2 t1 t2 n P Q _ M w ca cb cc cs ct cxy cyx cst cf hn1 hn2 hP hQ hPa hQa cyz (by omega) cxz hM h
      · exact order_mbn a b c d e f a1 a2 b1 b2 c1 c2 s1 s2 t1 t2 n P Q _ M w ca cb cc cs ct cxy cyx cst cf hn1 hn2 hP hQ hPa hQa cyz (by omega) cxz hM h
end Go.Proofs.Ytincfllhmfidoaa
