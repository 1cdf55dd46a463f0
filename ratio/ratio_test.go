package ratio_test

import (
	"math"
	"math/big"
	"testing"

	"cohesion/api"
	"cohesion/ratio"
)

// most is the limit of numerators and denominators.
const most = api.MaxNumber

type operation struct {
	name  string
	apply func(x, y api.Frac) (api.Frac, api.Errno)
	exact func(z, x, y *big.Rat) *big.Rat
}

var (
	add = operation{"Add", ratio.Add, (*big.Rat).Add}
	sub = operation{"Sub", ratio.Sub, (*big.Rat).Sub}
	mul = operation{"Mul", ratio.Mul, (*big.Rat).Mul}
	div = operation{"Div", ratio.Div, (*big.Rat).Quo}
)

func operations() []operation { return []operation{add, sub, mul, div} }

func frac(num, den int) api.Frac { return api.Frac{Num: num, Den: den} }

// borderNumbers are small numbers, numbers around a half of a word, and numbers at the limit and beyond it.
func borderNumbers() []int {
	return []int{
		0, 1, 2, 3, 4, 5, 6, 12, 1<<31 - 1, 1 << 31, 1<<32 - 1, 1<<32 + 1, 1e18,
		most / 3, most / 2, most - 2, most - 1, most, most + 1, most + 2, 2 * most, math.MaxInt,
		-1, -2, -3, -4, -6, -1 << 31, -1<<32 - 1, -1e18,
		-most / 2, -most + 1, -most, -most - 1, -2 * most, math.MinInt + 1, math.MinInt,
	}
}

// validFractions are the valid ones among those of the border numbers.
func validFractions() []api.Frac {
	var valid []api.Frac
	for _, num := range borderNumbers() {
		for _, den := range borderNumbers() {
			if x := frac(num, den); isValidByDefinition(x) {
				valid = append(valid, x)
			}
		}
	}
	return valid
}

// invalidFractions break the definition each in its own way.
func invalidFractions() []api.Frac {
	return []api.Frac{
		{}, frac(1, 0), frac(-1, 0), frac(0, 2), frac(0, most), frac(0, -1), frac(2, 4), frac(-3, 6), frac(1, -2), frac(-1, -2),
		frac(most+1, 1), frac(-most-1, 1), frac(1, most+1), frac(most, most), frac(most, 2),
		frac(math.MinInt, 1), frac(math.MaxInt, 1), frac(1, math.MinInt), frac(1, math.MaxInt), frac(math.MinInt, math.MinInt), frac(math.MinInt, -1),
	}
}

func isValidByDefinition(x api.Frac) bool {
	if x.Num < -most || x.Num > most || x.Den < 1 || x.Den > most {
		return false
	}
	num, den := big.NewInt(int64(x.Num)), big.NewInt(int64(x.Den))
	return new(big.Int).GCD(nil, nil, num.Abs(num), den).Cmp(big.NewInt(1)) == 0
}

func exactly(x api.Frac) *big.Rat { return big.NewRat(int64(x.Num), int64(x.Den)) }

// expected is the fraction that has the value, or ErrLimit if its numbers in lowest terms are beyond the limits.
func expected(value *big.Rat) (api.Frac, api.Errno) {
	limit := big.NewInt(most)
	if value.Num().CmpAbs(limit) > 0 || value.Denom().Cmp(limit) > 0 {
		return api.Frac{}, api.ErrLimit
	}
	return frac(int(value.Num().Int64()), int(value.Denom().Int64())), api.OK
}

func TestP1_1ValidAcceptsWhatTheDefinitionSays(t *testing.T) {
	for _, x := range []api.Frac{
		frac(0, 1), frac(1, 1), frac(-1, 1), frac(3, 2), frac(-3, 2), frac(most, 1), frac(-most, 1), frac(1, most), frac(-1, most), frac(most, most-1), frac(-most+1, most),
	} {
		if !ratio.Valid(x) {
			t.Errorf("Valid(%v) = false", x)
		}
	}
	for _, x := range invalidFractions() {
		if ratio.Valid(x) {
			t.Errorf("Valid(%v) = true", x)
		}
	}
	for _, num := range borderNumbers() {
		for _, den := range borderNumbers() {
			if x := frac(num, den); ratio.Valid(x) != isValidByDefinition(x) {
				t.Errorf("Valid(%v) = %v", x, ratio.Valid(x))
			}
		}
	}
}

func TestP1_1MakeReducesAndMovesTheSign(t *testing.T) {
	for _, c := range []struct {
		num, den int
		want     api.Frac
	}{
		{6, -4, frac(-3, 2)}, {-6, 4, frac(-3, 2)}, {-6, -4, frac(3, 2)}, {6, 4, frac(3, 2)}, {5, 1, frac(5, 1)},
		{0, 1, frac(0, 1)}, {0, 9, frac(0, 1)}, {0, -7, frac(0, 1)}, {0, math.MinInt, frac(0, 1)},
		{most, 1, frac(most, 1)}, {-most, 1, frac(-most, 1)}, {most, -1, frac(-most, 1)}, {1, most, frac(1, most)}, {-1, -most, frac(1, most)},
		{2 * most, 2, frac(most, 1)}, {3, 3 * most, frac(1, most)}, {math.MinInt, 8, frac(-most, 1)}, {8, math.MinInt, frac(-1, most)},
		{math.MinInt, math.MinInt, frac(1, 1)}, {math.MaxInt, math.MaxInt, frac(1, 1)},
	} {
		if got, e := ratio.Make(c.num, c.den); got != c.want || e != api.OK {
			t.Errorf("Make(%d, %d) = %v, %d", c.num, c.den, got, e)
		}
	}
}

func TestP1_1MakeErrors(t *testing.T) {
	for _, c := range []struct {
		num, den int
		want     api.Errno
	}{
		{1, 0, api.ErrZero}, {0, 0, api.ErrZero}, {-1, 0, api.ErrZero}, {most + 1, 0, api.ErrZero}, {math.MinInt, 0, api.ErrZero},
		{most + 1, 1, api.ErrLimit}, {-most - 1, 1, api.ErrLimit}, {1, most + 1, api.ErrLimit}, {1, -most - 1, api.ErrLimit},
		{2 * most, 1, api.ErrLimit}, {math.MinInt, -1, api.ErrLimit}, {math.MinInt, 1, api.ErrLimit}, {1, math.MinInt, api.ErrLimit}, {math.MaxInt, 2, api.ErrLimit}, {math.MaxInt, math.MinInt, api.ErrLimit},
	} {
		if got, e := ratio.Make(c.num, c.den); got != (api.Frac{}) || e != c.want {
			t.Errorf("Make(%d, %d) = %v, %d, want error %d", c.num, c.den, got, e, c.want)
		}
	}
}

func TestP1_1MakeIsExactAtTheBorders(t *testing.T) {
	for _, num := range borderNumbers() {
		for _, den := range borderNumbers() {
			if den == 0 {
				continue
			}
			want, wantError := expected(big.NewRat(int64(num), int64(den)))
			if got, e := ratio.Make(num, den); got != want || e != wantError {
				t.Errorf("Make(%d, %d) = %v, %d, want %v, %d", num, den, got, e, want, wantError)
			}
		}
	}
}

func TestP1_2OrdinaryResults(t *testing.T) {
	for _, c := range []struct {
		operation
		x, y, want api.Frac
	}{
		{add, frac(1, 2), frac(1, 3), frac(5, 6)}, {add, frac(1, 6), frac(1, 3), frac(1, 2)}, {add, frac(1, 2), frac(-1, 2), frac(0, 1)}, {add, frac(0, 1), frac(0, 1), frac(0, 1)},
		{sub, frac(1, 3), frac(1, 2), frac(-1, 6)}, {sub, frac(5, 6), frac(1, 3), frac(1, 2)}, {sub, frac(7, 9), frac(7, 9), frac(0, 1)}, {sub, frac(0, 1), frac(1, 2), frac(-1, 2)}, {sub, frac(-1, 2), frac(-3, 2), frac(1, 1)},
		{mul, frac(2, 3), frac(3, 4), frac(1, 2)}, {mul, frac(-2, 3), frac(-3, 2), frac(1, 1)}, {mul, frac(-7, 3), frac(0, 1), frac(0, 1)}, {mul, frac(0, 1), frac(0, 1), frac(0, 1)},
		{div, frac(1, 2), frac(-1, 4), frac(-2, 1)}, {div, frac(-1, 2), frac(-3, 4), frac(2, 3)}, {div, frac(-1, 2), frac(3, 4), frac(-2, 3)}, {div, frac(0, 1), frac(-3, 4), frac(0, 1)},
	} {
		if got, e := c.apply(c.x, c.y); got != c.want || e != api.OK {
			t.Errorf("%s(%v, %v) = %v, %d", c.name, c.x, c.y, got, e)
		}
	}
}

func TestP1_2SmallResultsOfLargeProducts(t *testing.T) {
	for _, c := range []struct {
		operation
		x, y, want api.Frac
	}{
		{add, frac(1, most), frac(1, most), frac(1, most/2)}, {add, frac(most-1, most), frac(1, most), frac(1, 1)}, {add, frac(most, most-1), frac(-most, most-1), frac(0, 1)}, {add, frac(most-1, 1), frac(1, 1), frac(most, 1)},
		{sub, frac(most, 3), frac(most, 3), frac(0, 1)}, {sub, frac(most, most-1), frac(1, most-1), frac(1, 1)}, {sub, frac(1-most, most), frac(1, most), frac(-1, 1)}, {sub, frac(1-most, 1), frac(1, 1), frac(-most, 1)},
		{mul, frac(most, 3), frac(3, most), frac(1, 1)}, {mul, frac(most, most-1), frac(1-most, most), frac(-1, 1)}, {mul, frac(most/2, 1), frac(-2, 1), frac(-most, 1)}, {mul, frac(1, most/2), frac(1, 2), frac(1, most)},
		{div, frac(most, 3), frac(-most, 3), frac(-1, 1)}, {div, frac(most, most-1), frac(most, most-1), frac(1, 1)}, {div, frac(1, most), frac(1, most), frac(1, 1)}, {div, frac(1, 1), frac(1, most), frac(most, 1)}, {div, frac(1, 1), frac(-most, 1), frac(-1, most)},
	} {
		if got, e := c.apply(c.x, c.y); got != c.want || e != api.OK {
			t.Errorf("%s(%v, %v) = %v, %d", c.name, c.x, c.y, got, e)
		}
	}
}

func TestP1_2ResultsBeyondTheLimits(t *testing.T) {
	for _, c := range []struct {
		operation
		x, y api.Frac
	}{
		{add, frac(most, 1), frac(1, 1)}, {add, frac(-most, 1), frac(-1, 1)}, {add, frac(most, 1), frac(1, most)}, {add, frac(1, most), frac(1, most-1)}, {add, frac(1, most), frac(1, 3)},
		{sub, frac(-most, 1), frac(1, 1)}, {sub, frac(most, 1), frac(-1, 1)}, {sub, frac(1, most), frac(1, most-1)},
		{mul, frac(most, 1), frac(2, 1)}, {mul, frac(most, 1), frac(-most, 1)}, {mul, frac(1, most), frac(1, 2)}, {mul, frac(1, most), frac(1, most)}, {mul, frac(1<<32+1, 1), frac(1<<32, 1)},
		{div, frac(most, 1), frac(1, 2)}, {div, frac(1, most), frac(2, 1)}, {div, frac(most, 1), frac(-1, most)}, {div, frac(1, most), frac(most, 1)},
	} {
		if got, e := c.apply(c.x, c.y); got != (api.Frac{}) || e != api.ErrLimit {
			t.Errorf("%s(%v, %v) = %v, %d, want ErrLimit", c.name, c.x, c.y, got, e)
		}
	}
}

func TestP1_2IsExactAtTheBorders(t *testing.T) {
	fractions := validFractions()
	for _, o := range operations() {
		for _, x := range fractions {
			for _, y := range fractions {
				if o.name == div.name && y.Num == 0 {
					continue
				}
				want, wantError := expected(o.exact(new(big.Rat), exactly(x), exactly(y)))
				if got, e := o.apply(x, y); got != want || e != wantError {
					t.Fatalf("%s(%v, %v) = %v, %d, want %v, %d", o.name, x, y, got, e, want, wantError)
				}
			}
		}
	}
}

// The numerator of x + y over the least common denominator has more than one word here, and the result is within the
// limits only because that numerator has the shared part of both denominators as a divisor.
func TestP1_2WideNumeratorsThatReduce(t *testing.T) {
	for _, shared := range []int{3 * 10007, 1e9 + 7, 3486784401, 1 << 33, 6e9} {
		for _, right := range []int{17, 103, 6967} {
			x := frac(coprimeBelow(most, shared), shared)
			sum := frac(x.Num/shared*right+1, right)
			y, e := expected(new(big.Rat).Sub(exactly(sum), exactly(x)))
			if e != api.OK || y.Den != shared*right {
				t.Fatalf("not a case: %v and %v", x, sum)
			}
			for _, c := range []struct {
				operation
				x, y, want api.Frac
			}{{add, x, y, sum}, {add, y, x, sum}, {sub, x, frac(-y.Num, y.Den), sum}, {sub, y, frac(-x.Num, x.Den), sum}, {sub, sum, x, y}, {sub, sum, y, x}} {
				if got, e := c.apply(c.x, c.y); got != c.want || e != api.OK {
					t.Errorf("%s(%v, %v) = %v, %d, want %v", c.name, c.x, c.y, got, e, c.want)
				}
			}
		}
	}
}

// coprimeBelow is the greatest numerator up to a limit that is in lowest terms over den.
func coprimeBelow(limit, den int) int {
	for !isValidByDefinition(frac(limit, den)) {
		limit--
	}
	return limit
}

func TestP1_2InvalidFractionsInEitherArgument(t *testing.T) {
	for _, o := range operations() {
		for _, bad := range invalidFractions() {
			for _, good := range []api.Frac{frac(0, 1), frac(1, 2), frac(-most, 1), frac(2, 4)} {
				if got, e := o.apply(bad, good); got != (api.Frac{}) || e != api.ErrForm {
					t.Errorf("%s(%v, %v) = %v, %d, want ErrForm", o.name, bad, good, got, e)
				}
				if got, e := o.apply(good, bad); got != (api.Frac{}) || e != api.ErrForm {
					t.Errorf("%s(%v, %v) = %v, %d, want ErrForm", o.name, good, bad, got, e)
				}
			}
		}
	}
}

func TestP1_2DivisionByZero(t *testing.T) {
	for _, x := range []api.Frac{frac(0, 1), frac(1, 2), frac(most, 1), frac(-1, most)} {
		if got, e := ratio.Div(x, frac(0, 1)); got != (api.Frac{}) || e != api.ErrZero {
			t.Errorf("Div(%v, 0) = %v, %d, want ErrZero", x, got, e)
		}
	}
	if got, e := ratio.Div(frac(1, 2), frac(0, 3)); got != (api.Frac{}) || e != api.ErrForm {
		t.Errorf("a zero that is not valid: %v, %d, want ErrForm", got, e)
	}
}

func TestP1_3CmpOrdersByValue(t *testing.T) {
	ascending := []api.Frac{
		frac(-most, 1), frac(-most+1, 1), frac(-3, 2), frac(-1, 1), frac(-2, 3), frac(-1, 2), frac(-1, most-1), frac(-1, most),
		frac(0, 1), frac(1, most), frac(1, most-1), frac(1, 2), frac(2, 3), frac(most-1, most), frac(1, 1), frac(most, most-1), frac(most-1, most-2), frac(3, 2), frac(most, 1),
	}
	for i, x := range ascending {
		for j, y := range ascending {
			want := 0
			if i < j {
				want = -1
			} else if i > j {
				want = 1
			}
			if got := ratio.Cmp(x, y); got != want {
				t.Errorf("Cmp(%v, %v) = %d, want %d", x, y, got, want)
			}
		}
	}
}

func TestP1_3CmpIsExactAtTheBorders(t *testing.T) {
	fractions := validFractions()
	for _, x := range fractions {
		for _, y := range fractions {
			if got, want := ratio.Cmp(x, y), exactly(x).Cmp(exactly(y)); got != want {
				t.Fatalf("Cmp(%v, %v) = %d, want %d", x, y, got, want)
			}
		}
	}
}

func TestP1_3FloorIsTheGreatestIntegerBelow(t *testing.T) {
	for _, c := range []struct {
		x    api.Frac
		want int
	}{
		{frac(7, 2), 3}, {frac(-7, 2), -4}, {frac(-3, 2), -2}, {frac(1, 2), 0}, {frac(-1, 2), -1}, {frac(0, 1), 0}, {frac(4, 1), 4}, {frac(-4, 1), -4},
		{frac(most, 1), most}, {frac(-most, 1), -most}, {frac(1, most), 0}, {frac(-1, most), -1}, {frac(most, most-1), 1}, {frac(-most, most-1), -2}, {frac(-most+1, most), -1},
	} {
		if got := ratio.Floor(c.x); got != c.want {
			t.Errorf("Floor(%v) = %d, want %d", c.x, got, c.want)
		}
	}
	for _, x := range validFractions() {
		below := ratio.Floor(x)
		value := exactly(x)
		if value.Cmp(new(big.Rat).SetInt64(int64(below))) < 0 || value.Cmp(new(big.Rat).SetInt64(int64(below)+1)) >= 0 {
			t.Errorf("Floor(%v) = %d", x, below)
		}
	}
}

func TestP1_3InvalidFractionsGiveZero(t *testing.T) {
	for _, bad := range invalidFractions() {
		for _, good := range []api.Frac{frac(0, 1), frac(1, 2), frac(-most, 1), frac(most, 1), frac(6, 4)} {
			if got := ratio.Cmp(bad, good); got != 0 {
				t.Errorf("Cmp(%v, %v) = %d", bad, good, got)
			}
			if got := ratio.Cmp(good, bad); got != 0 {
				t.Errorf("Cmp(%v, %v) = %d", good, bad, got)
			}
		}
		if got := ratio.Floor(bad); got != 0 {
			t.Errorf("Floor(%v) = %d", bad, got)
		}
	}
}
