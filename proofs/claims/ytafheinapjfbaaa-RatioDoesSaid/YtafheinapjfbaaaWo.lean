/- Plain mathematics of sums and products of fractions in lowest terms. -/
namespace Go.Proofs.Ytafheinapjfbaaa
theorem cop_of_mul (a b c d : Nat) (h : Nat.gcd (a * b) (c * d) = 1) : Nat.Coprime b d :=
  Nat.Coprime.coprime_dvd_left (Nat.dvd_mul_left b a) (Nat.Coprime.coprime_dvd_right (Nat.dvd_mul_left d c) h)
theorem prod_gcd (n1 n2 d1 d2 : Nat) (hd1 : 0 < d1) (hd2 : 0 < d2) (h1 : Nat.gcd n1 d1 = 1) (h2 : Nat.gcd n2 d2 = 1) :
    n1 * n2 / Nat.gcd (n1 * n2) (d1 * d2) = (n1 / Nat.gcd n1 d2) * (n2 / Nat.gcd n2 d1) ∧
    d1 * d2 / Nat.gcd (n1 * n2) (d1 * d2) = (d1 / Nat.gcd n2 d1) * (d2 / Nat.gcd n1 d2) := by
  have hf : 0 < Nat.gcd n1 d2 := Nat.gcd_pos_of_pos_right _ hd2
  have hr : 0 < Nat.gcd n2 d1 := Nat.gcd_pos_of_pos_right _ hd1
  obtain ⟨a, ea⟩ := Nat.gcd_dvd_left n1 d2
  obtain ⟨c, ec⟩ := Nat.gcd_dvd_right n1 d2
  obtain ⟨b, eb⟩ := Nat.gcd_dvd_left n2 d1
  obtain ⟨e, ee⟩ := Nat.gcd_dvd_right n2 d1
  have hac : Nat.Coprime a c := by
    have := Nat.gcd_mul_left (Nat.gcd n1 d2) a c
    rw [← ea, ← ec] at this
    exact Nat.eq_of_mul_eq_mul_left hf (by rw [← this]; simp)
  have hbe : Nat.Coprime b e := by
    have := Nat.gcd_mul_left (Nat.gcd n2 d1) b e
    rw [← eb, ← ee] at this
    exact Nat.eq_of_mul_eq_mul_left hr (by rw [← this]; simp)
  have hae : Nat.Coprime a e := cop_of_mul (Nat.gcd n1 d2) a (Nat.gcd n2 d1) e (by rw [← ea, ← ee]; exact h1)
  have hbc : Nat.Coprime b c := cop_of_mul (Nat.gcd n2 d1) b (Nat.gcd n1 d2) c (by rw [← eb, ← ec]; exact h2)
  generalize Nat.gcd n1 d2 = f at *
  generalize Nat.gcd n2 d1 = r at *
  subst ea eb ec ee
  have e1 : f * a * (r * b) = (f * r) * (a * b) := by ac_rfl
  have e2 : r * e * (f * c) = (f * r) * (e * c) := by ac_rfl
  have hcop : Nat.Coprime (a * b) (e * c) := Nat.Coprime.mul_left (Nat.Coprime.mul_right hae hac) (Nat.Coprime.mul_right hbe hbc)
  have hfr : 0 < f * r := Nat.mul_pos hf hr
  have hg : Nat.gcd (f * a * (r * b)) (r * e * (f * c)) = f * r := by rw [e1, e2, Nat.gcd_mul_left, hcop, Nat.mul_one]
  rw [hg, e1, e2, Nat.mul_div_cancel_left _ hfr, Nat.mul_div_cancel_left _ hfr, Nat.mul_div_cancel_left _ hf, Nat.mul_div_cancel_left _ hr, Nat.mul_div_cancel_left _ hf, Nat.mul_div_cancel_left _ hr]
  exact ⟨rfl, rfl⟩

theorem cop_num (n1 n2 : Int) (u v s : Nat) (huv : Nat.Coprime u v) (h1 : Nat.gcd n1.natAbs (s * u) = 1) : Nat.Coprime (n1 * v + n2 * u).natAbs u := by
  have hk1 : Nat.gcd (n1 * v + n2 * u).natAbs u ∣ (n1 * v + n2 * u).natAbs := Nat.gcd_dvd_left _ _
  have hk2 : Nat.gcd (n1 * v + n2 * u).natAbs u ∣ u := Nat.gcd_dvd_right _ _
  show Nat.gcd (n1 * v + n2 * u).natAbs u = 1
  generalize Nat.gcd (n1 * v + n2 * u).natAbs u = k at *
  have a1 : (k : Int) ∣ n1 * v + n2 * u := Int.ofNat_dvd_left.2 hk1
  have a2 : (k : Int) ∣ n2 * u := Int.dvd_mul_of_dvd_right (Int.natCast_dvd_natCast.2 hk2)
  have a3 : (k : Int) ∣ n1 * v := (Int.dvd_add_left a2).1 a1
  have a4 : k ∣ n1.natAbs * v := by
    have := Int.ofNat_dvd_left.1 a3
    rwa [Int.natAbs_mul, Int.natAbs_natCast] at this
  have a5 : k ∣ n1.natAbs := Nat.Coprime.dvd_of_dvd_mul_right (Nat.Coprime.coprime_dvd_left hk2 huv) a4
  have a6 : k ∣ Nat.gcd n1.natAbs (s * u) := Nat.dvd_gcd a5 (Nat.dvd_trans hk2 (Nat.dvd_mul_left u s))
  rw [h1] at a6
  exact Nat.dvd_one.1 a6

theorem join_gcd (n1 n2 : Int) (d1 d2 : Nat) (hd1 : 0 < d1) (hd2 : 0 < d2) (h1 : Nat.gcd n1.natAbs d1 = 1) (h2 : Nat.gcd n2.natAbs d2 = 1) (num : Int) (s c : Nat)
    (hs : s = Nat.gcd d1 d2) (hnum : num = n1 * (d2 / s : Nat) + n2 * (d1 / s : Nat)) (hc : c = Nat.gcd (num.natAbs % s) s) :
    (n1 * d2 + n2 * d1).natAbs / Nat.gcd (n1 * d2 + n2 * d1).natAbs (d1 * d2) = num.natAbs / c ∧
    d1 * d2 / Nat.gcd (n1 * d2 + n2 * d1).natAbs (d1 * d2) = (d1 / s) * (d2 / c) ∧ n1 * d2 + n2 * d1 = s * num ∧ 0 < s ∧ 0 < c ∧ c ∣ num.natAbs ∧ c ∣ d2 := by
  have hs0 : 0 < s := by rw [hs]; exact Nat.gcd_pos_of_pos_right _ hd2
  obtain ⟨u, eu⟩ : s ∣ d1 := by rw [hs]; exact Nat.gcd_dvd_left d1 d2
  obtain ⟨v, ev⟩ : s ∣ d2 := by rw [hs]; exact Nat.gcd_dvd_right d1 d2
  have huv : Nat.Coprime u v := by
    have := Nat.gcd_mul_left s u v
    rw [← eu, ← ev, ← hs] at this
    exact Nat.eq_of_mul_eq_mul_left hs0 (by rw [← this]; simp)
  clear hs
  subst eu ev
  rw [Nat.mul_div_cancel_left _ hs0, Nat.mul_div_cancel_left _ hs0] at hnum
  have hN : n1 * ((s * v : Nat) : Int) + n2 * ((s * u : Nat) : Int) = s * num := by
    rw [hnum, Int.natCast_mul, Int.natCast_mul, Int.mul_add]
    congr 1 <;> ac_rfl
  have cu : Nat.Coprime num.natAbs u := by rw [hnum]; exact cop_num n1 n2 u v s huv h1
  have cv : Nat.Coprime num.natAbs v := by rw [hnum, Int.add_comm]; exact cop_num n2 n1 v u s huv.symm h2
  have hc' : c = Nat.gcd num.natAbs s := by rw [hc, ← Nat.gcd_rec, Nat.gcd_comm]
  have hc0 : 0 < c := by rw [hc']; exact Nat.gcd_pos_of_pos_right _ hs0
  have hcs : c ∣ s := by rw [hc']; exact Nat.gcd_dvd_right _ _
  have hcn : c ∣ num.natAbs := by rw [hc']; exact Nat.gcd_dvd_left _ _
  have hg : Nat.gcd (s * num.natAbs) (s * u * (s * v)) = s * c := by
    have e : s * u * (s * v) = s * (u * (s * v)) := by ac_rfl
    rw [e, Nat.gcd_mul_left, hc']
    congr 1
    have e2 : u * (s * v) = u * v * s := by ac_rfl
    rw [e2]
    exact Nat.Coprime.gcd_mul_left_cancel_right s (Nat.Coprime.mul_right cu cv).symm
  have hnn : (((s : Nat) : Int) * num).natAbs = s * num.natAbs := by rw [Int.natAbs_mul, Int.natAbs_natCast]
  rw [hN, hnn, hg]
  refine ⟨Nat.mul_div_mul_left _ _ hs0, ?_, rfl, hs0, hc0, hcn, Nat.dvd_trans hcs (Nat.dvd_mul_right s v)⟩
  rw [Nat.mul_div_cancel_left _ hs0, show s * u * (s * v) = s * (u * (s * v)) by ac_rfl, Nat.mul_div_mul_left _ _ hs0, Nat.mul_div_assoc _ (Nat.dvd_trans hcs (Nat.dvd_mul_right s v))]
end Go.Proofs.Ytafheinapjfbaaa
