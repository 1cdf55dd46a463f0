package history_test

import (
	"math"
	"slices"
	"testing"

	"cohesion/api"
	"cohesion/history"
	"cohesion/links"
)

func checkAt(t *testing.T, h story, time int, want api.State, wantedError api.Errno) {
	t.Helper()
	if got, err := history.At(h.nodes, h.l, time); !same(got, want) || err != wantedError {
		t.Errorf("At %d of %v is %s, error %d, want %s, error %d", time, h, text(got), err, text(want), wantedError)
	}
}

func checkTimes(t *testing.T, h story, want []int, wantedError api.Errno) {
	t.Helper()
	if got, err := history.Times(h.nodes, h.l); !slices.Equal(got, want) || err != wantedError {
		t.Errorf("Times of %v are %v, error %d, want %v, error %d", h, got, err, want, wantedError)
	}
}

// stateAt is At by its definition, of a history without an error.
func stateAt(h story, time int) api.State {
	var past []api.Event
	for _, e := range h.l {
		if e.Time <= time {
			past = append(past, e)
		}
	}
	s, _, _ := links.All(state(h.nodes), past)
	return s
}

func TestP8_2AtOfExamples(t *testing.T) {
	h := story{5, []api.Event{set(3, 1, 0, 7, 2, -1), setAt(3, 2, 1), cut(6, 1, 0), set(6, 3, 2, 9, 9, -1), setAt(6, 0, 1), cut(6, 2, 3), leave(8, 1), setAt(8, 4, 3), setAt(1<<20, 0, 2)}}
	early, middle, late := []api.Link{link(0, 1, 7, 2, -1, 3), linkAt(1, 2, 3)}, []api.Link{linkAt(0, 1, 6), linkAt(1, 2, 3)}, []api.Link{linkAt(3, 4, 8)}
	end := []api.Link{linkAt(0, 2, 1<<20), linkAt(3, 4, 8)}
	for _, x := range []struct {
		time int
		want []api.Link
	}{
		{math.MinInt, nil}, {-1 << 32, nil}, {-1, nil}, {0, nil}, {2, nil}, // before the first event
		{3, early}, {6, middle}, {8, late}, {1 << 20, end}, // at an event
		{4, early}, {5, early}, {7, middle}, {9, late}, {1<<20 - 1, late}, // between two
		{1<<20 + 1, end}, {1 << 32, end}, {math.MaxInt, end}, // behind the last one
	} {
		checkAt(t, h, x.time, state(5, x.want...), api.OK)
	}
	first := story{2, []api.Event{setAt(0, 0, 1)}}
	for _, time := range []int{math.MinInt, -2, -1} {
		checkAt(t, first, time, state(2), api.OK)
	}
	for _, time := range []int{0, 1, 1 << 20, math.MaxInt} {
		checkAt(t, first, time, state(2, linkAt(0, 1, 0)), api.OK)
	}
}

func TestP8_2NoEvents(t *testing.T) {
	for nodes := range 65 {
		for _, l := range [][]api.Event{nil, {}} {
			for _, time := range timesAround(nil) {
				checkAt(t, story{nodes, l}, time, state(nodes), api.OK)
			}
			checkTimes(t, story{nodes, l}, nil, api.OK)
		}
	}
}

func TestP8_2AtIsItsDefinition(t *testing.T) {
	eachShortHistory(func(h story) {
		for time := -1; time <= 13; time++ {
			checkAt(t, h, time, stateAt(h, time), api.OK)
		}
	})
	for _, h := range longHistories() {
		for _, time := range timesAround(h.l) {
			checkAt(t, h, time, stateAt(h, time), api.OK)
		}
	}
}

func TestP8_2TimesOfExamples(t *testing.T) {
	for name, x := range map[string]struct {
		l    []api.Event
		want []int
	}{
		"some of one time change something":   {[]api.Event{cut(2, 0, 1), leave(2, 3), setAt(2, 0, 1), setAt(5, 2, 1), setAt(5, 2, 1), cut(7, 1, 0), cut(7, 0, 1)}, []int{2, 5, 7}},
		"none changes anything":               {[]api.Event{cut(0, 0, 1), leave(0, 2), leave(9, 2), cut(1<<20, 1, 2)}, nil},
		"set and cut at one time":             {[]api.Event{setAt(4, 0, 1), cut(4, 1, 0)}, []int{4}},
		"set and left at one time":            {[]api.Event{setAt(4, 0, 1), leave(4, 1), setAt(6, 1, 2), leave(6, 1)}, []int{4, 6}},
		"cut and set again at one time":       {[]api.Event{setAt(4, 0, 1), cut(5, 1, 0), setAt(5, 0, 1)}, []int{4, 5}},
		"set again, with another time":        {[]api.Event{setAt(4, 0, 1), setAt(5, 1, 0), setAt(9, 0, 1)}, []int{4, 5, 9}},
		"set again, with other attributes":    {[]api.Event{setAt(4, 0, 1), set(4, 0, 1, 2, 0, 1), set(6, 0, 1, 2, 3, -1)}, []int{4, 6}},
		"cut behind other cuts":               {[]api.Event{setAt(4, 0, 1), setAt(4, 2, 1), cut(5, 0, 1), cut(6, 0, 1), cut(7, 1, 2), cut(8, 1, 2)}, []int{4, 5, 7}},
		"a node that leaves twice":            {[]api.Event{setAt(4, 3, 1), leave(5, 3), leave(6, 3), leave(7, 1)}, []int{4, 5}},
		"a node that leaves without links":    {[]api.Event{setAt(4, 0, 1), leave(5, 3), leave(6, 2), leave(7, 0), leave(8, 1)}, []int{4, 7}},
		"the first time and the last one":     {[]api.Event{setAt(0, 0, 1), cut(1<<20, 0, 1)}, []int{0, 1 << 20}},
		"something happens elsewhere":         {[]api.Event{setAt(1, 2, 3), cut(2, 0, 1), leave(3, 1), leave(4, 0), cut(5, 2, 1), cut(6, 3, 0)}, []int{1}},
		"the first event of a time, the last": {[]api.Event{setAt(1, 2, 3), cut(2, 2, 3), leave(2, 1), cut(3, 0, 1), setAt(3, 0, 1), leave(4, 2), cut(4, 0, 1), leave(4, 1)}, []int{1, 2, 3, 4}},
	} {
		if got, err := history.Times(4, x.l); !slices.Equal(got, x.want) || err != api.OK {
			t.Errorf("%s: the times of %s are %v, error %d, want %v", name, list(x.l), got, err, x.want)
		}
	}
}

func TestP8_2TimesAreTheirDefinition(t *testing.T) {
	eachHistory(func(h story) {
		var want []int
		for _, m := range moments(h) {
			if m.changed {
				want = append(want, m.time)
			}
		}
		checkTimes(t, h, want, api.OK)
	})
}

// As many events as there may be, in which all links of all nodes come, one at a time, and are set again and again.
func TestP8_2TheMostEvents(t *testing.T) {
	var full, late []api.Link
	for u := range 64 {
		for v := u + 1; v < 64; v++ {
			full = append(full, linkAt(u, v, 0))
		}
	}
	h := story{64, nil}
	var times []int
	for i := range 1 << 16 {
		l := &full[i*5%2016] // 5 has no divisor in common with 2016, so each one comes in turn
		l.Time = 7 * i
		h.l, times = append(h.l, setAt(l.Time, l.V, l.U)), append(times, l.Time)
		if i == 40000 {
			late = slices.Clone(full)
		}
	}
	checkAt(t, h, 7*65535, state(64, full...), api.OK)
	checkAt(t, h, 7*40000+3, state(64, late...), api.OK)
	checkTimes(t, h, times, api.OK)
	for i := range h.l {
		h.l[i].Time = 9
	}
	checkTimes(t, h, []int{9}, api.OK)
}
