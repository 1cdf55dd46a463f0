package ratio

import (
	"math/bits"

	"cohesion/api"
)

// factor is a number whose products are wide.
type factor int

// times returns the exact product.
func (a factor) times(b factor) wide {
	high, low := bits.Mul64(magnitude(int(a)), magnitude(int(b)))
	return wide{high, low}.withSign((a < 0) != (b < 0))
}

// wide is a number of 128 bits in two's complement. The greatest ones that come up are sums of two products of
// numbers up to api.MaxNumber, at most 2^121, so nothing overflows.
type wide struct{ high, low uint64 }

func (a wide) plus(b wide) wide {
	low, carry := bits.Add64(a.low, b.low, 0)
	high, _ := bits.Add64(a.high, b.high, carry)
	return wide{high, low}
}

func (a wide) minus(b wide) wide {
	low, borrow := bits.Sub64(a.low, b.low, 0)
	high, _ := bits.Sub64(a.high, b.high, borrow)
	return wide{high, low}
}

func (a wide) isNegative() bool { return int64(a.high) < 0 }

// sign returns -1, 0 or 1.
func (a wide) sign() int {
	switch {
	case a.isNegative():
		return -1
	case a == wide{}:
		return 0
	}
	return 1
}

// withSign returns a number that is not negative, or its negative.
func (a wide) withSign(negative bool) wide {
	if negative {
		return wide{}.minus(a)
	}
	return a
}

// size returns the absolute value.
func (a wide) size() wide { return a.withSign(a.isNegative()) }

// quotient divides by a number greater than 0 that divides a.
func (a wide) quotient(divisor uint64) wide {
	size := a.size()
	high, rest := size.high/divisor, size.high%divisor
	low, _ := bits.Div64(rest, size.low, divisor) // rest is less than the divisor, so it cannot panic
	return wide{high, low}.withSign(a.isNegative())
}

// remainder returns what is left of the absolute value by a number greater than 0.
func (a wide) remainder(divisor uint64) uint64 {
	size := a.size()
	return bits.Rem64(size.high, size.low, divisor)
}

// narrow returns the number as an int, if a numerator or a denominator may be as large.
func (a wide) narrow() (int, bool) {
	size := a.size()
	if size.high != 0 || size.low > api.MaxNumber {
		return 0, false
	}
	if a.isNegative() {
		return -int(size.low), true
	}
	return int(size.low), true
}

// magnitude returns the absolute value, which for the least int is no int.
func magnitude(x int) uint64 {
	if x < 0 {
		return -uint64(x)
	}
	return uint64(x)
}

// commonDivisor returns the greatest common divisor of two numbers of which one at least is not 0.
func commonDivisor(a, b uint64) uint64 {
	for b != 0 {
		a, b = b, a%b
	}
	return a
}
