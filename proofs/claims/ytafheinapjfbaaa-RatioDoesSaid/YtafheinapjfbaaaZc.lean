/- The words of Div64's start, as the walk names them. -/
import Derived.Test.YtafheinapjfbaaaZa
import Derived.Handy
namespace Go.Proofs.Ytafheinapjfbaaa
open Go.RowKit Go.Lib Go.BigFrame
theorem pow_cast (s : Nat) : ((2 : Int) ^ s) = ((2 ^ s : Nat) : Int) := by simp
theorem wrap_shl (x s : Nat) : IntKind.u64.wrap ((x : Int) * 2 ^ s) = ((x * 2 ^ s % 18446744073709551616 : Nat) : Int) := by
  rw [pow_cast, ← Int.natCast_mul, IntKind.wrap_u64]; omega
theorem shl_word (x s : Nat) (h : x * 2 ^ s < 18446744073709551616) : IntKind.u64.wrap ((x : Int) * 2 ^ s) = ((x * 2 ^ s : Nat) : Int) := by
  rw [wrap_shl, Nat.mod_eq_of_lt h]
theorem shr_word (x k : Nat) : (x : Int) / 2 ^ k = ((x / 2 ^ k : Nat) : Int) := by
  rw [pow_cast, Int.natCast_ediv]
theorem or_shift (m b s : Nat) (hm : m * 2 ^ s < 18446744073709551616) (hb : b < 2 ^ s) (hb' : b < 18446744073709551616) : bits .or .u64 ((m * 2 ^ s : Nat) : Int) (b : Int) = ((m * 2 ^ s + b : Nat) : Int) := by
  rw [bits_or_u64_nat _ b hm hb']
  have := Nat.two_pow_add_eq_or_of_lt (i := s) (b := b) hb m
  rw [Nat.mul_comm (2 ^ s) m] at this
  rw [← this]
/-- the high word of the shifted number -/
theorem high_word (hi lo y s : Nat) (hs1 : s ≤ 64) (hlt : hi < y) (hl : lo < 18446744073709551616) (hy : y * 2 ^ s < 18446744073709551616) :
    bits .or .u64 (IntKind.u64.wrap ((hi : Int) * 2 ^ s)) ((lo : Int) / 2 ^ (64 - s)) = ((hi * 2 ^ s + lo / 2 ^ (64 - s) : Nat) : Int) := by
  have hpc : 2 ^ s * 2 ^ (64 - s) = 18446744073709551616 := by rw [← Nat.pow_add, show s + (64 - s) = 64 by omega]
  obtain ⟨_, k2, k3⟩ := norm_words hi lo y (2 ^ s) (2 ^ (64 - s)) hpc hlt hl
  have hm : hi * 2 ^ s < 18446744073709551616 := Nat.lt_of_le_of_lt (Nat.le_add_right _ _) (Nat.lt_trans k2 hy)
  rw [shl_word hi s hm, shr_word]
  exact or_shift hi _ s hm k3 (Nat.lt_of_le_of_lt (Nat.div_le_self _ _) hl)
theorem mask_word (x : Nat) (h : x < 18446744073709551616) : bits .and .u64 (x : Int) 4294967295 = ((x % 4294967296 : Nat) : Int) := by
  rw [show (4294967295 : Int) = ((4294967295 : Nat) : Int) from rfl, bits_and_u64_nat x 4294967295 h (by omega)]
  exact congrArg Nat.cast (Nat.and_two_pow_sub_one_eq_mod x 32)
end Go.Proofs.Ytafheinapjfbaaa
