package window_test

import (
	"math"
	"testing"

	"cohesion/api"
	"cohesion/window"
)

func checkCheck(t *testing.T, w api.Window, want api.Errno) {
	t.Helper()
	if got := window.Check(w); got != want {
		t.Errorf("Check(%+v) = %d, want %d", w, got, want)
	}
}

// firstError is Check by its definition.
func firstError(w api.Window) api.Errno {
	isRight := false
	switch w.Kind {
	case 1:
		isRight = w.Width == 0 && w.Most == 0
	case 2:
		isRight = w.Width >= 1 && w.Width <= 1048576 && w.Most == 0
	case 3:
		isRight = w.Width == 0 && w.Most >= 0 && w.Most <= 2016
	default:
		return api.ErrKind
	}
	if !isRight {
		return api.ErrRange
	}
	return api.OK
}

func TestP7_1CheckOfExamples(t *testing.T) {
	for _, w := range append(smallWindows(), largerWindows()...) {
		checkCheck(t, w, api.OK)
	}
	for _, c := range flawedWindows() {
		checkCheck(t, c.w, c.want)
	}
}

func TestP7_1CheckIsItsDefinition(t *testing.T) {
	numbers := []int{math.MinInt, math.MinInt + 1, -1 << 32, -1 << 20, -2016, -2, -1, 0, 1, 2, 3, 4, 255, 2015, 2016, 2017, 65536, 1<<20 - 1, 1 << 20, 1<<20 + 1, 1 << 32, 1<<32 + 1, math.MaxInt - 1, math.MaxInt}
	for _, width := range numbers {
		for _, most := range numbers {
			for _, kind := range numbers {
				w := api.Window{Kind: kind, Width: width, Most: most}
				checkCheck(t, w, firstError(w))
			}
		}
	}
}

func TestP7_1AllNumbersAroundTheLimits(t *testing.T) {
	for x := -70; x <= 3000; x++ {
		for _, w := range []api.Window{
			{Kind: x}, {Kind: x, Width: 5}, {Kind: x, Most: 5}, {Kind: 1, Width: x}, {Kind: 1, Most: x}, age(x), age(1<<20 - x), {Kind: 2, Width: 5, Most: x}, last(x), {Kind: 3, Width: x, Most: 5},
		} {
			checkCheck(t, w, firstError(w))
		}
	}
}
