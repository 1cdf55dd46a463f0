/- Div64 whole: any two words by one word that is greater than the high one. -/
import Derived.Test.YtafheinapjfbaaaZe
import Derived.Test.YtafheinapjfbaaaZc
import Derived.Lib.ItoaNum
namespace Go.Proofs.Ytafheinapjfbaaa
open Go.RowKit Go.Lib Go.BigFrame
theorem wrap_nat (x : Nat) (h : x < 18446744073709551616) : IntKind.u64.wrap (x : Int) = (x : Int) := by simp only [IntKind.wrap_u64]; omega
theorem quo_word (U a : Nat) (h : U < 18446744073709551616) : IntKind.u64.wrap ((U : Int) / (a : Int)) = ((U / a : Nat) : Int) := by
  rw [← Int.natCast_ediv]; exact wrap_nat _ (Nat.lt_of_le_of_lt (Nat.div_le_self _ _) h)
theorem rem_word (U a : Nat) (h : U < 18446744073709551616) : IntKind.u64.wrap ((U : Int) - IntKind.u64.wrap (((U / a : Nat) : Int) * a)) = ((U % a : Nat) : Int) := by
  have h1 : U / a * a ≤ U := Nat.div_mul_le_self U a
  have h2 : U % a = U - U / a * a := by have := Nat.div_add_mod U a; rw [Nat.mul_comm] at this; omega
  rw [← Int.natCast_mul, h2]
  generalize U / a * a = z at h1 h2
  rw [wrap_nat z (by omega)]
  simp only [IntKind.wrap_u64]; omega
theorem rest_word (U t Y : Nat) (hY2 : Y < 18446744073709551616) (hYp : 0 < Y) :
    IntKind.u64.wrap (IntKind.u64.wrap (IntKind.u64.wrap ((U : Int) * 4294967296) + t) - IntKind.u64.wrap ((((U * 4294967296 + t) / Y : Nat) : Int) * Y)) = (((U * 4294967296 + t) % Y : Nat) : Int) := by
  have h1 := Nat.div_add_mod (U * 4294967296 + t) Y
  have h2 := Nat.mod_lt (U * 4294967296 + t) hYp
  rw [← Int.natCast_mul, Nat.mul_comm]
  generalize Y * ((U * 4294967296 + t) / Y) = z at h1 ⊢
  generalize (U * 4294967296 + t) % Y = m at h1 h2 ⊢
  simp only [IntKind.wrap_u64]
  omega
theorem join_word (d1 d0 : Nat) (h1 : d1 < 4294967296) (h0 : d0 < 4294967296) : IntKind.u64.wrap (IntKind.u64.wrap ((d1 : Int) * 4294967296) + d0) = ((d1 * 4294967296 + d0 : Nat) : Int) := by
  simp only [IntKind.wrap_u64]; omega
theorem shr32 (x : Nat) : (x : Int) / 4294967296 = ((x / 4294967296 : Nat) : Int) := by omega
theorem d64_high (hi lo y : Nat) (h0 : hi ≠ 0) (hlt : hi < y) (hy : y < 18446744073709551616) (hl : lo < 18446744073709551616) (w : World) :
    Calls Try.prog 58 #[.int .u64 hi, .int .u64 lo, .int .u64 y] w fun e w' => e = .returned (.tuple #[.int .u64 ((hi * 18446744073709551616 + lo) / y : Nat), .int .u64 ((hi * 18446744073709551616 + lo) % y : Nat)]) ∧ ∃ n, w' = w.drewN n := by
  obtain ⟨b, hb⟩ : ∃ b, b = Lib.bitLen y := ⟨_, rfl⟩
  obtain ⟨k1, k2, k3⟩ := bitLenAux_bounds 64 y hy (by omega)
  change 1 ≤ Lib.bitLen y at k1
  change 2 ^ (Lib.bitLen y - 1) ≤ y at k2
  change y < 2 ^ Lib.bitLen y at k3
  rw [← hb] at k1 k2 k3
  have k4 : b ≤ 64 := by
    rcases Nat.lt_or_ge 64 b with h | h
    · have : 2 ^ 64 ≤ 2 ^ (b - 1) := Nat.pow_le_pow_right (by omega) (by omega)
      have e : (2 : Nat) ^ 64 = 18446744073709551616 := by decide
      omega
    · exact h
  obtain ⟨t1, t2⟩ := norm_top y b k1 k4 k2 k3
  obtain ⟨s, hs⟩ : ∃ s, s = 64 - b := ⟨_, rfl⟩
  rw [← hs] at t1 t2
  have hpc : 2 ^ s * 2 ^ (64 - s) = 18446744073709551616 := by rw [← Nat.pow_add, show s + (64 - s) = 64 by omega]
  obtain ⟨n1, n2, _⟩ := norm_words hi lo y (2 ^ s) (2 ^ (64 - s)) hpc hlt hl
  have EY := shl_word y s t2
  have EU := high_word hi lo y s (by omega) hlt hl t2
  have ET := wrap_shl lo s
  have hp : 0 < 2 ^ s := Nat.pow_pos (by omega)
  have hds := div_shift (hi * 18446744073709551616 + lo) y (2 ^ s) hp
  rw [n1] at hds
  have hTlt : lo * 2 ^ s % 18446744073709551616 < 18446744073709551616 := Nat.mod_lt _ (by omega)
  generalize hYe : y * 2 ^ s = Y at *
  generalize hUe : hi * 2 ^ s + lo / 2 ^ (64 - s) = U at *
  generalize hTe : lo * 2 ^ s % 18446744073709551616 = T at *
  have hU : U < 18446744073709551616 := by omega
  have hYp : 0 < Y := by omega
  have ht1 : T / 4294967296 < 4294967296 := by omega
  have ht0 : T % 4294967296 < 4294967296 := by omega
  have hdd := div_digits Y U (T / 4294967296) (T % 4294967296) hYp
  rw [show U * 18446744073709551616 + T / 4294967296 * 4294967296 + T % 4294967296 = U * 18446744073709551616 + T by omega, hds.1] at hdd
  have hm := Nat.mod_lt (U * 4294967296 + T / 4294967296) hYp
  have hd1 := digit_lt Y U (T / 4294967296) n2 ht1
  have hd0 := digit_lt Y ((U * 4294967296 + T / 4294967296) % Y) (T % 4294967296) hm ht0
  have L : ∀ w, Calls Try.prog 59 #[.int .u64 (y : Int)] w fun e w' => e = .returned (.int .i64 (s : Int)) ∧ w' = w := by
    intro w
    have := Try.bits_LeadingZeros64 (y : Int) w (by omega) (by omega)
    rw [Int.toNat_natCast, ← hb, show (64 - (b : Int)) = (s : Int) by omega] at this
    exact this
  have hR : (((U * 4294967296 + T / 4294967296) % Y * 4294967296 + T % 4294967296) % Y) / 2 ^ s = (hi * 18446744073709551616 + lo) % y := by
    rw [← hdd.2]; exact hds.2
  have key := d64_walk hi lo y s Y U T (Y / 4294967296) (Y % 4294967296) (T / 4294967296) (T % 4294967296) (U / (Y / 4294967296)) (U % (Y / 4294967296))
    ((U * 4294967296 + T / 4294967296) / Y) ((U * 4294967296 + T / 4294967296) % Y)
    ((U * 4294967296 + T / 4294967296) % Y / (Y / 4294967296)) ((U * 4294967296 + T / 4294967296) % Y % (Y / 4294967296))
    (((U * 4294967296 + T / 4294967296) % Y * 4294967296 + T % 4294967296) / Y)
    ((hi * 18446744073709551616 + lo) / y) (((U * 4294967296 + T / 4294967296) % Y * 4294967296 + T % 4294967296) % Y) ((hi * 18446744073709551616 + lo) % y)
    (by omega) h0 hlt EY EU ET (shr32 Y) (mask_word Y t2) (shr32 T) (mask_word T hTlt) (quo_word U _ hU) (rem_word U _ hU) (rest_word U _ Y t2 hYp)
    (quo_word _ _ (by omega)) (rem_word _ _ (by omega)) (by rw [hdd.1]; exact join_word _ _ hd1 hd0) (rest_word _ _ Y t2 hYp) (by rw [← hR]; exact shr_word _ s)
    (Est.start Y U _ t1 t2 n2 ht1) (Est.start Y _ _ t1 t2 hm ht0) t2 hYp n2 hm ht1 ht0 rfl rfl ⟨by omega, by omega⟩ (show Y % 4294967296 < 4294967296 by omega) rfl rfl L w
  exact key
end Go.Proofs.Ytafheinapjfbaaa
