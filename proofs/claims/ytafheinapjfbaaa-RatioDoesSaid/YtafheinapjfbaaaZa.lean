/- Plain mathematics of the division of two words by one: normalised, digit by digit. -/
import Derived.Test.YtafheinapjfbaaaWq
import Derived.Test.YtafheinapjfbaaaWh
import Derived.Lib.BitFns
namespace Go.Proofs.Ytafheinapjfbaaa
/-- the digits make the quotient -/
theorem div_digits (Y u t1 t0 : Nat) (hY : 0 < Y) :
    (u * 18446744073709551616 + t1 * 4294967296 + t0) / Y = (u * 4294967296 + t1) / Y * 4294967296 + ((u * 4294967296 + t1) % Y * 4294967296 + t0) / Y ∧
    (u * 18446744073709551616 + t1 * 4294967296 + t0) % Y = ((u * 4294967296 + t1) % Y * 4294967296 + t0) % Y := by
  have h := Nat.div_add_mod (u * 4294967296 + t1) Y
  obtain ⟨q, hq⟩ : ∃ q, (u * 4294967296 + t1) / Y = q := ⟨_, rfl⟩
  obtain ⟨r, hr⟩ : ∃ r, (u * 4294967296 + t1) % Y = r := ⟨_, rfl⟩
  rw [hq, hr] at h ⊢
  clear hq hr
  have e : u * 18446744073709551616 + t1 * 4294967296 + t0 = (r * 4294967296 + t0) + Y * (q * 4294967296) := by
    rw [← Nat.mul_assoc]; omega
  rw [e, Nat.add_mul_div_left _ _ hY, Nat.add_mul_mod_self_left]
  exact ⟨Nat.add_comm _ _, rfl⟩
/-- shifting both changes nothing but the remainder's scale -/
theorem div_shift (n y p : Nat) (hp : 0 < p) : n * p / (y * p) = n / y ∧ n * p % (y * p) / p = n % y := by
  refine ⟨Nat.mul_div_mul_right n y hp, ?_⟩
  rw [Nat.mul_mod_mul_right, Nat.mul_div_cancel _ hp]
/-- the normalised divisor and the three words -/
theorem norm_words (hi lo y p c : Nat) (hpc : p * c = 18446744073709551616) (hlt : hi < y) (hl : lo < 18446744073709551616) :
    (hi * 18446744073709551616 + lo) * p = (hi * p + lo / c) * 18446744073709551616 + lo * p % 18446744073709551616 ∧ hi * p + lo / c < y * p ∧ lo / c < p := by
  have hc : 0 < c := Nat.pos_of_ne_zero (fun h => by rw [h, Nat.mul_zero] at hpc; omega)
  have hlc : lo / c < p := (Nat.div_lt_iff_lt_mul hc).2 (by omega)
  have e1 : lo * p / 18446744073709551616 = lo / c := by
    have hp : 0 < p := Nat.lt_of_le_of_lt (Nat.zero_le _) hlc
    rw [← hpc, Nat.mul_comm p c, Nat.mul_div_mul_right _ _ hp]
  have e2 := Nat.div_add_mod (lo * p) 18446744073709551616
  rw [e1] at e2
  refine ⟨?_, ?_, hlc⟩
  · rw [Nat.add_mul, Nat.add_mul, Nat.mul_right_comm]; omega
  · have : (hi + 1) * p ≤ y * p := Nat.mul_le_mul_right p hlt
    rw [Nat.add_mul, Nat.one_mul] at this; omega
/-- what bitLen says: the divisor, shifted by the leading zeros, has the top bit -/
theorem norm_top (y b : Nat) (h1 : 1 ≤ b) (hb : b ≤ 64) (hlo : 2 ^ (b - 1) ≤ y) (hhi : y < 2 ^ b) :
    9223372036854775808 ≤ y * 2 ^ (64 - b) ∧ y * 2 ^ (64 - b) < 18446744073709551616 := by
  have e1 : 2 ^ (b - 1) * 2 ^ (64 - b) = 9223372036854775808 := by rw [← Nat.pow_add, show b - 1 + (64 - b) = 63 by omega]
  have e2 : 2 ^ b * 2 ^ (64 - b) = 18446744073709551616 := by rw [← Nat.pow_add, show b + (64 - b) = 64 by omega]
  constructor
  · rw [← e1]; exact Nat.mul_le_mul_right _ hlo
  · rw [← e2]; exact Nat.mul_lt_mul_of_pos_right hhi (Nat.pow_pos (by omega))
end Go.Proofs.Ytafheinapjfbaaa
