package window_test

import (
	"slices"
	"testing"

	"cohesion/api"
	"cohesion/probe"
	"cohesion/window"
)

func checkUntil(t *testing.T, s api.State, w api.Window, want int, wantedOne bool, wantedError api.Errno) {
	t.Helper()
	if got, ok, err := window.Until(s, w); got != want || ok != wantedOne || err != wantedError {
		t.Errorf("Until(%s, %+v) = %d, %t, error %d, want %d, %t, error %d", text(s), w, got, ok, err, want, wantedOne, wantedError)
	}
}

func TestP7_4UntilOfExamples(t *testing.T) {
	one, several := state(2, linkAt(0, 1, 5)), state(4, linkAt(0, 1, 9), linkAt(0, 2, 3), linkAt(1, 2, 1000), linkAt(2, 3, 3))
	for _, x := range []struct {
		s     api.State
		width int
		want  int
	}{
		{one, 3, 8}, {one, 1, 6}, {one, 1 << 20, 1<<20 + 5}, {several, 3, 6}, {several, 1, 4}, {several, 5000, 5003}, {several, 1 << 20, 1<<20 + 3},
		{state(64, linkAt(62, 63, 0)), 1, 1}, {state(64, linkAt(62, 63, 0)), 1 << 20, 1 << 20}, {state(64, linkAt(0, 1, 1<<20)), 1, 1<<20 + 1}, {state(64, linkAt(0, 1, 1<<20)), 1 << 20, 1 << 21},
	} {
		checkUntil(t, x.s, age(x.width), x.want, true, api.OK)
	}
}

func TestP7_4NothingExpiresByItself(t *testing.T) {
	for _, w := range slices.Concat(smallWindows(), largerWindows()) {
		for _, nodes := range []int{0, 1, 2, 64} {
			checkUntil(t, state(nodes), w, 0, false, api.OK)
		}
		if w.Kind == 2 {
			continue
		}
		for _, s := range slices.Concat(statesOf(3, 0, 7), largerStates()) {
			checkUntil(t, s, w, 0, false, api.OK) // also if there are more links than the window by number has
		}
	}
}

func TestP7_4UntilIsTheLeastTimeOfAll(t *testing.T) {
	for _, s := range slices.Concat(smallStates(), largerStates()) {
		for _, w := range slices.Concat(smallWindows(), largerWindows()) {
			if times := expiries(s, w); len(times) > 0 {
				checkUntil(t, s, w, times[0], true, api.OK)
			} else {
				checkUntil(t, s, w, 0, false, api.OK)
			}
		}
	}
	// Whichever of the links is the one that was set first.
	for i := range 5 {
		s := state(4, linkAt(0, 1, 8), linkAt(0, 2, 8), linkAt(0, 3, 8), linkAt(1, 2, 8), linkAt(2, 3, 8))
		s.Links[i].Time = 6
		checkUntil(t, s, age(100), 106, true, api.OK)
	}
}

func TestP7_4ErrorsInOrder(t *testing.T) {
	for _, c := range flawedWindows() {
		checkUntil(t, state(3, linkAt(0, 1, 5)), c.w, 0, false, c.want)
		checkUntil(t, state(3), c.w, 0, false, c.want)
		for _, f := range probe.FlawedStates() {
			checkUntil(t, f.State, c.w, 0, false, c.want)
		}
	}
	for _, f := range probe.FlawedStates() {
		for _, w := range smallWindows() {
			checkUntil(t, f.State, w, 0, false, f.Err)
		}
	}
}
