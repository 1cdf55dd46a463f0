/- Plain mathematics of the division of two words by one, digit by digit. -/
namespace Go.Proofs.Ytafheinapjfbaaa
/-- the estimate q of a digit, with what is left r -/
structure Est (y u t q r : Nat) : Prop where
  eq : q * (y / 4294967296) + r = u
  ge : (u * 4294967296 + t) / y ≤ q
  le : q ≤ 4294967297
theorem split_mul (q y : Nat) : q * y = q * (y / 4294967296) * 4294967296 + q * (y % 4294967296) := by
  have h : y = y / 4294967296 * 4294967296 + y % 4294967296 := by omega
  calc q * y = q * (y / 4294967296 * 4294967296 + y % 4294967296) := by rw [← h]
    _ = _ := by rw [Nat.mul_add, Nat.mul_assoc]
theorem Est.start (y u t : Nat) (h1 : 9223372036854775808 ≤ y) (h2 : y < 18446744073709551616) (hu : u < y) (ht : t < 4294967296) :
    Est y u t (u / (y / 4294967296)) (u % (y / 4294967296)) ∧ u % (y / 4294967296) < 4294967296 := by
  have hp : 0 < y / 4294967296 := by omega
  have hm := Nat.mod_lt u hp
  have hq := Nat.div_add_mod u (y / 4294967296)
  refine ⟨⟨by rw [Nat.mul_comm]; exact hq, ?_, ?_⟩, by omega⟩
  · have h1 : (u * 4294967296 + t) / y ≤ (u * 4294967296 + t) / (4294967296 * (y / 4294967296)) := Nat.div_le_div_left (by omega) (by omega)
    rw [← Nat.div_div_eq_div_mul, show (u * 4294967296 + t) / 4294967296 = u by omega] at h1
    exact h1
  · apply Nat.le_of_lt_succ
    refine (Nat.div_lt_iff_lt_mul hp).2 ?_
    have hy : y < (y / 4294967296 + 1) * 4294967296 := by omega
    show u < 4294967298 * (y / 4294967296)
    omega
theorem Est.more {y u t q r : Nat} (E : Est y u t q r) (h2 : y < 18446744073709551616) (hu : u < y) (ht : t < 4294967296)
    (hc : 4294967296 ≤ q ∨ 4294967296 * r + t < q * (y % 4294967296)) : Est y u t (q - 1) (r + y / 4294967296) ∧ 1 ≤ q := by
  have hs := split_mul q y
  have he := E.eq
  have hlt : (u * 4294967296 + t) / y < q := by
    refine (Nat.div_lt_iff_lt_mul (by omega)).2 ?_
    rcases hc with hc | hc
    · have : 4294967296 * y ≤ q * y := Nat.mul_le_mul_right y hc
      omega
    · omega
  have hq : 1 ≤ q := Nat.lt_of_le_of_lt (Nat.zero_le _) hlt
  refine ⟨⟨?_, Nat.le_sub_one_of_lt hlt, by have := E.le; omega⟩, hq⟩
  have : q * (y / 4294967296) = (q - 1) * (y / 4294967296) + y / 4294967296 := by
    obtain ⟨p, rfl⟩ : ∃ p, q = p + 1 := ⟨q - 1, by omega⟩
    rw [Nat.add_sub_cancel, Nat.add_mul, Nat.one_mul]
  omega
theorem Est.done {y u t q r : Nat} (E : Est y u t q r) (hy : 0 < y) (hc : q * (y % 4294967296) ≤ 4294967296 * r + t) : q = (u * 4294967296 + t) / y := by
  have hs := split_mul q y
  have he := E.eq
  have : q ≤ (u * 4294967296 + t) / y := (Nat.le_div_iff_mul_le hy).2 (by omega)
  exact Nat.le_antisymm this E.ge
/-- behind the break -/
theorem Est.broke {y u t q r : Nat} (E : Est y u t q r) (hy : 0 < y) (hq : q ≤ 4294967296) (hr : 4294967296 ≤ r) : q = (u * 4294967296 + t) / y := by
  refine E.done hy ?_
  have h1 : q * (y % 4294967296) ≤ 4294967296 * (y % 4294967296) := Nat.mul_le_mul_right _ hq
  have h2 : y % 4294967296 < 4294967296 := Nat.mod_lt _ (by omega)
  omega
theorem digit_lt (y u t : Nat) (hu : u < y) (ht : t < 4294967296) : (u * 4294967296 + t) / y < 4294967296 := by
  refine (Nat.div_lt_iff_lt_mul (by omega)).2 ?_
  omega
end Go.Proofs.Ytafheinapjfbaaa
