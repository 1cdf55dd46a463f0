/- Plain mathematics of numbers of 128 bits in two words, and of fractions in lowest terms. -/
namespace Go.Proofs.Ytioohmhllajifaa
/-- what two words say, without a sign -/
def uw (h l : Nat) : Int := (h : Int) * 18446744073709551616 + (l : Int)
/-- what two words say in two's complement -/
def sw (h l : Nat) : Int := if h < 9223372036854775808 then uw h l else uw h l - 340282366920938463463374607431768211456
def hiOf (z : Int) : Nat := (z / 18446744073709551616 % 18446744073709551616).toNat
def loOf (z : Int) : Nat := (z % 18446744073709551616).toNat
theorem hi_lt (z : Int) : hiOf z < 18446744073709551616 := by unfold hiOf; omega
theorem lo_lt (z : Int) : loOf z < 18446744073709551616 := by unfold loOf; omega
theorem uw_hilo (z : Int) (h0 : 0 ≤ z) (h1 : z < 340282366920938463463374607431768211456) : uw (hiOf z) (loOf z) = z := by
  unfold uw hiOf loOf; omega
theorem sw_hilo (z : Int) (h0 : -170141183460469231731687303715884105728 ≤ z) (h1 : z < 170141183460469231731687303715884105728) : sw (hiOf z) (loOf z) = z := by
  unfold sw uw hiOf loOf; split <;> omega
theorem hi_uw (h l : Nat) (h1 : h < 18446744073709551616) (h2 : l < 18446744073709551616) : hiOf (uw h l) = h := by
  unfold uw hiOf; omega
theorem lo_uw (h l : Nat) (h2 : l < 18446744073709551616) : loOf (uw h l) = l := by
  unfold uw loOf; omega
theorem uw_zero (l : Nat) : uw 0 l = l := by unfold uw; omega
theorem sw_zero (l : Nat) : sw 0 l = l := by unfold sw uw; simp
theorem uw_nonneg (h l : Nat) : 0 ≤ uw h l := by unfold uw; omega
theorem uw_lt (h l : Nat) (h1 : h < 18446744073709551616) (h2 : l < 18446744073709551616) : uw h l < 340282366920938463463374607431768211456 := by unfold uw; omega
theorem sw_neg (h l : Nat) (h1 : h < 18446744073709551616) (h2 : l < 18446744073709551616) : sw h l < 0 ↔ 9223372036854775808 ≤ h := by
  unfold sw uw; split <;> omega
theorem sw_range (h l : Nat) (h1 : h < 18446744073709551616) (h2 : l < 18446744073709551616) :
    -170141183460469231731687303715884105728 ≤ sw h l ∧ sw h l < 170141183460469231731687303715884105728 := by
  unfold sw uw; split <;> omega
/-- the words of a difference, as Sub64 makes them -/
theorem sub_lo (xh xl yh yl : Nat) (h1 : xl < 18446744073709551616) (h2 : yl < 18446744073709551616) :
    (xl + 18446744073709551616 - yl - 0) % 18446744073709551616 = loOf (uw xh xl - uw yh yl) := by
  unfold uw loOf; omega
theorem sub_hi_t (xh xl yh yl : Nat) (h3 : xh < 18446744073709551616) (h4 : yh < 18446744073709551616) (h1 : xl < 18446744073709551616) (h2 : yl < 18446744073709551616) (h : xl < yl) :
    (xh + 18446744073709551616 - yh - 1) % 18446744073709551616 = hiOf (uw xh xl - uw yh yl) := by
  unfold uw hiOf; omega
theorem sub_hi_f (xh xl yh yl : Nat) (h3 : xh < 18446744073709551616) (h4 : yh < 18446744073709551616) (h1 : xl < 18446744073709551616) (h2 : yl < 18446744073709551616) (h : ¬ xl < yl) :
    (xh + 18446744073709551616 - yh - 0) % 18446744073709551616 = hiOf (uw xh xl - uw yh yl) := by
  unfold uw hiOf; omega
theorem add_lo (xh xl yh yl : Nat) :
    (xl + yl + 0) % 18446744073709551616 = loOf (uw xh xl + uw yh yl) := by
  unfold uw loOf; omega
theorem add_hi (xh xl yh yl : Nat) :
    (xh + yh + (xl + yl + 0) / 18446744073709551616) % 18446744073709551616 = hiOf (uw xh xl + uw yh yl) := by
  unfold uw hiOf; omega
end Go.Proofs.Ytioohmhllajifaa
