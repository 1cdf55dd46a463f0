package ratio_test

import (
	"math"
	"testing"

	"cohesion/api"
	"cohesion/ratio"
)

// result is what an operation returns; a law says nothing where one of its steps fails.
type result struct {
	value api.Frac
	e     api.Errno
}

func known(x api.Frac) result { return result{x, api.OK} }

func (a result) by(o operation, b result) result {
	if a.e != api.OK || b.e != api.OK {
		return result{e: max(a.e, b.e)}
	}
	value, e := o.apply(a.value, b.value)
	return result{value, e}
}

func sameUnlessFailed(t *testing.T, law string, left, right result, of ...api.Frac) {
	t.Helper()
	if left.e == api.OK && right.e == api.OK && left.value != right.value {
		t.Errorf("%s: %v and %v, of %v", law, left.value, right.value, of)
	}
}

// lawFractions mix small numbers with numbers near the limits.
func lawFractions() []api.Frac {
	return []api.Frac{
		frac(0, 1), frac(1, 1), frac(-1, 1), frac(2, 3), frac(-3, 2), frac(5, 12), frac(-7, 1<<20), frac(1<<31, 3),
		frac(most, 1), frac(-most, 1), frac(1, most), frac(-1, most), frac(most, most-1), frac(1-most, most), frac(most/2, 3), frac(3, most/2),
	}
}

func TestLawsOfAField(t *testing.T) {
	for _, x := range lawFractions() {
		for _, y := range lawFractions() {
			a, b := known(x), known(y)
			sameUnlessFailed(t, "x + y = y + x", a.by(add, b), b.by(add, a), x, y)
			sameUnlessFailed(t, "x * y = y * x", a.by(mul, b), b.by(mul, a), x, y)
			sameUnlessFailed(t, "(x - y) + y = x", a.by(sub, b).by(add, b), a, x, y)
			sameUnlessFailed(t, "(x / y) * y = x", a.by(div, b).by(mul, b), a, x, y)
			for _, z := range lawFractions() {
				c := known(z)
				sameUnlessFailed(t, "(x + y) + z = x + (y + z)", a.by(add, b).by(add, c), a.by(add, b.by(add, c)), x, y, z)
				sameUnlessFailed(t, "(x * y) * z = x * (y * z)", a.by(mul, b).by(mul, c), a.by(mul, b.by(mul, c)), x, y, z)
				sameUnlessFailed(t, "x * (y + z) = x * y + x * z", a.by(mul, b.by(add, c)), a.by(mul, b).by(add, a.by(mul, c)), x, y, z)
			}
		}
	}
}

func TestNeutralAndInverseFractions(t *testing.T) {
	zero, one := frac(0, 1), frac(1, 1)
	for _, x := range lawFractions() {
		for _, c := range []struct {
			operation
			y, want api.Frac
		}{{add, zero, x}, {sub, zero, x}, {sub, x, zero}, {mul, one, x}, {mul, zero, zero}, {div, one, x}, {add, frac(-x.Num, x.Den), zero}} {
			if got, e := c.apply(x, c.y); got != c.want || e != api.OK {
				t.Errorf("%s(%v, %v) = %v, %d", c.name, x, c.y, got, e)
			}
		}
		if x.Num == 0 {
			continue
		}
		if got, e := ratio.Div(x, x); got != one || e != api.OK {
			t.Errorf("Div(%v, %v) = %v, %d", x, x, got, e)
		}
	}
}

// Equal values have one form, so == on fractions is equality of values.
func TestValidFractionsAreEqualExactlyIfTheirValuesAre(t *testing.T) {
	for _, x := range validFractions() {
		for _, y := range validFractions() {
			if (x == y) != (ratio.Cmp(x, y) == 0) {
				t.Fatalf("%v and %v: Cmp = %d", x, y, ratio.Cmp(x, y))
			}
		}
	}
}

func TestResultsAreValidOrZero(t *testing.T) {
	fractions := validFractions()
	for _, o := range operations() {
		for _, x := range fractions {
			for _, y := range fractions {
				if got, e := o.apply(x, y); (e == api.OK) != ratio.Valid(got) || e != api.OK && got != (api.Frac{}) {
					t.Fatalf("%s(%v, %v) = %v, %d", o.name, x, y, got, e)
				}
			}
		}
	}
}

// R1: no arguments make a function panic.
func TestNothingPanics(t *testing.T) {
	extremes := []int{math.MinInt, math.MinInt + 1, -most, -1, 0, 1, most, math.MaxInt}
	var fractions []api.Frac
	for _, num := range extremes {
		for _, den := range extremes {
			fractions = append(fractions, frac(num, den))
			ratio.Make(num, den)
		}
	}
	for _, x := range fractions {
		ratio.Floor(x)
		for _, y := range fractions {
			ratio.Cmp(x, y)
			for _, o := range operations() {
				o.apply(x, y)
			}
		}
	}
}
