package window_test

import (
	"slices"
	"testing"

	"cohesion/api"
	"cohesion/probe"
	"cohesion/window"
)

// checkDivided checks both Present and Expired.
func checkDivided(t *testing.T, s api.State, w api.Window, time int, want api.State, wantedCuts []api.Event, wantedError api.Errno) {
	t.Helper()
	if got, err := window.Present(s, w, time); !same(got, want) || err != wantedError {
		t.Errorf("Present(%s, %+v, %d) = %s, error %d, want %s, error %d", text(s), w, time, text(got), err, text(want), wantedError)
	}
	if got, err := window.Expired(s, w, time); !slices.Equal(got, wantedCuts) || err != wantedError {
		t.Errorf("Expired(%s, %+v, %d) = %s, error %d, want %s, error %d", text(s), w, time, list(got), err, list(wantedCuts), wantedError)
	}
}

// checkDivision compares Present and Expired of a valid state, with a window that is right, with their definition.
func checkDivision(t *testing.T, s api.State, w api.Window, time int) {
	t.Helper()
	if time < latest(s) || time < 0 || time > 1<<20 {
		checkDivided(t, s, w, time, api.State{}, nil, api.ErrTime)
		return
	}
	kept, cuts := divided(s, w, time)
	checkDivided(t, s, w, time, kept, cuts, api.OK)
}

func TestP7_2PresentAndExpiredOfExamples(t *testing.T) {
	a, b, c, d := link(0, 1, 1, 0, 1, 5), link(0, 3, 10, 2, -1, 7), link(1, 2, 1000, 15, 1, 5), link(2, 3, 7, 7, -1, 2)
	s := state(6, a, b, c, d)
	for _, x := range []struct {
		w    api.Window
		time int
		want []api.Link
		cuts []api.Event
	}{
		{whole(), 7, s.Links, nil}, {whole(), 1 << 20, s.Links, nil},
		{age(6), 7, s.Links, nil}, {age(5), 7, []api.Link{a, b, c}, []api.Event{cut(7, 2, 3)}}, {age(3), 7, []api.Link{a, b, c}, []api.Event{cut(7, 2, 3)}},
		{age(3), 8, []api.Link{b}, []api.Event{cut(8, 0, 1), cut(8, 1, 2), cut(8, 2, 3)}}, {age(3), 9, []api.Link{b}, []api.Event{cut(9, 0, 1), cut(9, 1, 2), cut(9, 2, 3)}},
		{age(3), 10, nil, []api.Event{cut(10, 0, 1), cut(10, 0, 3), cut(10, 1, 2), cut(10, 2, 3)}}, {age(1), 7, []api.Link{b}, []api.Event{cut(7, 0, 1), cut(7, 1, 2), cut(7, 2, 3)}}, {age(1 << 20), 1 << 20, s.Links, nil},
		{last(2016), 9, s.Links, nil}, {last(5), 9, s.Links, nil}, {last(4), 9, s.Links, nil}, {last(3), 9, []api.Link{a, b, c}, []api.Event{cut(9, 2, 3)}}, {last(2), 9, []api.Link{b, c}, []api.Event{cut(9, 0, 1), cut(9, 2, 3)}},
		{last(1), 9, []api.Link{b}, []api.Event{cut(9, 0, 1), cut(9, 1, 2), cut(9, 2, 3)}}, {last(0), 7, nil, []api.Event{cut(7, 0, 1), cut(7, 0, 3), cut(7, 1, 2), cut(7, 2, 3)}},
	} {
		checkDivided(t, s, x.w, x.time, state(6, x.want...), x.cuts, api.OK)
	}
}

// The example of the chapter.
func TestP7_2ALinkAtTheLastTimeAndBehindIt(t *testing.T) {
	s := state(2, linkAt(0, 1, 5))
	for _, time := range []int{5, 6, 7} {
		checkDivided(t, s, age(3), time, s, nil, api.OK)
	}
	for _, time := range []int{8, 9, 100, 1 << 20} {
		checkDivided(t, s, age(3), time, state(2), []api.Event{cut(time, 0, 1)}, api.OK)
	}
}

func TestP7_2TheAgesAtTheEndOfAllTimes(t *testing.T) {
	for _, x := range []struct {
		set, width int
		isIn       bool
	}{
		{0, 1 << 20, false}, {1, 1 << 20, true}, {0, 1<<20 - 1, false}, {1, 1<<20 - 1, false}, {2, 1<<20 - 1, true}, {1 << 20, 1, true}, {1<<20 - 1, 1, false}, {1<<20 - 1, 2, true}, {1<<20 - 2, 2, false},
	} {
		s := state(64, linkAt(62, 63, x.set))
		if x.isIn {
			checkDivided(t, s, age(x.width), 1<<20, s, nil, api.OK)
		} else {
			checkDivided(t, s, age(x.width), 1<<20, state(64), []api.Event{cut(1<<20, 62, 63)}, api.OK)
		}
	}
	zero := state(64, linkAt(0, 1, 0))
	checkDivided(t, zero, age(1<<20), 1<<20-1, zero, nil, api.OK)
	checkDivided(t, zero, age(1), 0, zero, nil, api.OK)
	checkDivided(t, zero, age(1), 1, state(64), []api.Event{cut(1, 0, 1)}, api.OK)
}

// Links of one time are told apart by their edges: the ends count, the lesser one first, and nothing else does.
func TestP7_2LinksOfOneTime(t *testing.T) {
	a, b, c, d, e := link(0, 1, 9, 9, 1, 4), link(0, 63, 1, 0, -1, 4), link(1, 2, 1000, 0, 1, 4), link(1, 3, 1, 15, -1, 4), link(2, 3, 1, 0, 1, 4)
	s := state(64, a, b, c, d, e)
	for i := range 6 {
		var cuts []api.Event
		for _, l := range s.Links[:5-i] {
			cuts = append(cuts, cut(6, l.U, l.V))
		}
		checkDivided(t, s, last(i), 6, state(64, s.Links[5-i:]...), cuts, api.OK)
	}
	later := state(64, a, link(0, 63, 1, 0, -1, 5), c, d, e)
	checkDivided(t, later, last(1), 5, state(64, later.Links[1]), []api.Event{cut(5, 0, 1), cut(5, 1, 2), cut(5, 1, 3), cut(5, 2, 3)}, api.OK)
	checkDivided(t, later, last(2), 5, state(64, later.Links[1], e), []api.Event{cut(5, 0, 1), cut(5, 1, 2), cut(5, 1, 3)}, api.OK)
}

func TestP7_2NoLinks(t *testing.T) {
	for _, w := range slices.Concat(smallWindows(), largerWindows()) {
		for _, nodes := range []int{0, 1, 2, 63, 64} {
			for _, time := range []int{0, 1, 2016, 1 << 20} {
				checkDivided(t, state(nodes), w, time, state(nodes), nil, api.OK)
			}
		}
	}
}

func TestP7_2PresentAndExpiredAreTheirDefinition(t *testing.T) {
	for _, s := range smallStates() {
		for _, w := range smallWindows() {
			for _, time := range []int{-1, 0, 1, 2, 3, 4, 5, 6, 7, 8, 1<<20 - 2, 1<<20 - 1, 1 << 20, 1<<20 + 1} {
				checkDivision(t, s, w, time)
			}
		}
	}
	for _, s := range largerStates() {
		for _, w := range largerWindows() {
			for _, time := range []int{latest(s) - 1, latest(s), latest(s) + 30, 1 << 20} {
				checkDivision(t, s, w, time)
			}
		}
	}
}

func TestP7_2TimesThatAreNone(t *testing.T) {
	for _, s := range slices.Concat([]api.State{state(0), state(3)}, largerStates()) {
		for _, w := range largerWindows() {
			for _, time := range wrongTimes() {
				checkDivided(t, s, w, time, api.State{}, nil, api.ErrTime)
			}
		}
	}
}

// Whichever of the links is the one that is set later.
func TestP7_2TimesLessThanThatOfALink(t *testing.T) {
	for _, at := range []int{1, 9, 1<<20 - 1} {
		for i := range 5 {
			s := state(4, linkAt(0, 1, at), linkAt(0, 2, at), linkAt(0, 3, at), linkAt(1, 2, at), linkAt(2, 3, at))
			s.Links[i].Time++
			for _, w := range []api.Window{whole(), age(1), age(2), age(1 << 20), last(0), last(4), last(5)} {
				checkDivided(t, s, w, at, api.State{}, nil, api.ErrTime)
				checkDivided(t, s, w, 0, api.State{}, nil, api.ErrTime)
				checkDivision(t, s, w, at+1)
			}
		}
	}
}

func TestP7_2ErrorsInOrder(t *testing.T) {
	good := state(3, linkAt(0, 1, 5), linkAt(1, 2, 9))
	times := append(wrongTimes(), 0, 8, 9, 10, 1<<20)
	for _, c := range flawedWindows() {
		for _, time := range times {
			checkDivided(t, good, c.w, time, api.State{}, nil, c.want)
			checkDivided(t, state(2), c.w, time, api.State{}, nil, c.want)
			for _, f := range probe.FlawedStates() {
				checkDivided(t, f.State, c.w, time, api.State{}, nil, c.want)
			}
		}
	}
	for _, f := range probe.FlawedStates() {
		for _, time := range times {
			for _, w := range []api.Window{whole(), age(3), last(1)} {
				checkDivided(t, f.State, w, time, api.State{}, nil, f.Err)
			}
		}
	}
	for _, time := range wrongTimes() {
		checkDivided(t, good, age(3), time, api.State{}, nil, api.ErrTime)
	}
}
