package window_test

import (
	"slices"
	"testing"

	"cohesion/api"
	"cohesion/probe"
	"cohesion/window"
)

func checkSlide(t *testing.T, nodes int, l []api.Event, w api.Window, want []api.Event, wantedError api.Errno) {
	t.Helper()
	if got, err := window.Slide(nodes, l, w); !slices.Equal(got, want) || err != wantedError {
		t.Errorf("Slide(%d, %s, %+v) = %s, error %d, want %s, error %d", nodes, list(l), w, list(got), err, list(want), wantedError)
	}
}

func TestP7_3NoEvents(t *testing.T) {
	for _, w := range append(smallWindows(), largerWindows()...) {
		for _, nodes := range []int{0, 1, 2, 63, 64} {
			checkSlide(t, nodes, nil, w, nil, api.OK)
			checkSlide(t, nodes, []api.Event{}, w, nil, api.OK)
		}
	}
}

// The window with all links has nothing to cut, at whatever time.
func TestP7_3AllLinks(t *testing.T) {
	l := []api.Event{setAt(0, 0, 1), leave(3, 2), setAt(7, 2, 1), cut(7, 0, 2), setAt(1<<20, 1, 0)}
	checkSlide(t, 3, l, whole(), l, api.OK)
	for nodes, streams := range longStreams() {
		for _, l := range streams {
			checkSlide(t, nodes, l, whole(), l, api.OK)
			checkSlide(t, nodes, l, last(2016), l, api.OK)
		}
	}
}

func TestP7_3ByAge(t *testing.T) {
	for name, x := range map[string]struct{ l, want []api.Event }{
		"between two events": {
			[]api.Event{setAt(5, 1, 0), leave(20, 2)},
			[]api.Event{setAt(5, 1, 0), cut(8, 0, 1), leave(20, 2)},
		},
		"at the time of an event": {
			[]api.Event{setAt(5, 1, 0), leave(7, 2), leave(8, 2), leave(9, 2)},
			[]api.Event{setAt(5, 1, 0), leave(7, 2), cut(8, 0, 1), leave(8, 2), leave(9, 2)},
		},
		"not before the last event": {
			[]api.Event{setAt(5, 1, 0), setAt(6, 1, 2), leave(7, 3)},
			[]api.Event{setAt(5, 1, 0), setAt(6, 1, 2), leave(7, 3)},
		},
		"at several times": {
			[]api.Event{setAt(5, 3, 2), setAt(6, 0, 2), setAt(7, 0, 1), leave(20, 0)},
			[]api.Event{setAt(5, 3, 2), setAt(6, 0, 2), setAt(7, 0, 1), cut(8, 2, 3), cut(9, 0, 2), cut(10, 0, 1), leave(20, 0)},
		},
		"several at one time, in the order of edges": {
			[]api.Event{setAt(5, 3, 2), setAt(5, 3, 1), setAt(5, 2, 0), setAt(5, 1, 0), setAt(6, 2, 1), leave(8, 0)},
			[]api.Event{setAt(5, 3, 2), setAt(5, 3, 1), setAt(5, 2, 0), setAt(5, 1, 0), setAt(6, 2, 1), cut(8, 0, 1), cut(8, 0, 2), cut(8, 1, 3), cut(8, 2, 3), leave(8, 0)},
		},
		"before the first one of several events of one time": {
			[]api.Event{setAt(5, 1, 0), leave(8, 2), setAt(8, 1, 2), leave(8, 0)},
			[]api.Event{setAt(5, 1, 0), cut(8, 0, 1), leave(8, 2), setAt(8, 1, 2), leave(8, 0)},
		},
		"set again before": {
			[]api.Event{setAt(5, 1, 0), setAt(7, 0, 1), leave(9, 0), leave(20, 3)},
			[]api.Event{setAt(5, 1, 0), setAt(7, 0, 1), leave(9, 0), leave(20, 3)},
		},
		"set again before, and left alone": {
			[]api.Event{setAt(5, 1, 0), setAt(7, 0, 1), leave(9, 3), leave(20, 3)},
			[]api.Event{setAt(5, 1, 0), setAt(7, 0, 1), leave(9, 3), cut(10, 0, 1), leave(20, 3)},
		},
		"set again at the time": {
			[]api.Event{setAt(5, 1, 0), setAt(8, 0, 1), leave(10, 3), leave(11, 3)},
			[]api.Event{setAt(5, 1, 0), cut(8, 0, 1), setAt(8, 0, 1), leave(10, 3), cut(11, 0, 1), leave(11, 3)},
		},
		"set again behind": {
			[]api.Event{setAt(5, 1, 0), setAt(9, 0, 1)},
			[]api.Event{setAt(5, 1, 0), cut(8, 0, 1), setAt(9, 0, 1)},
		},
		"set again with other attributes": {
			[]api.Event{set(5, 1, 0, 3, 2, 1), set(5, 0, 1, 4, 2, -1), set(6, 0, 1, 1000, 15, -1), leave(8, 2), leave(9, 2)},
			[]api.Event{set(5, 1, 0, 3, 2, 1), set(5, 0, 1, 4, 2, -1), set(6, 0, 1, 1000, 15, -1), leave(8, 2), cut(9, 0, 1), leave(9, 2)},
		},
		"set again and nothing changes": {
			[]api.Event{setAt(5, 1, 0), setAt(5, 1, 0), setAt(5, 0, 1), leave(8, 2)},
			[]api.Event{setAt(5, 1, 0), setAt(5, 1, 0), setAt(5, 0, 1), cut(8, 0, 1), leave(8, 2)},
		},
		"cut before, at the time and behind": {
			[]api.Event{setAt(5, 1, 0), setAt(5, 1, 2), setAt(5, 1, 3), cut(7, 1, 0), cut(8, 2, 1), cut(9, 3, 1)},
			[]api.Event{setAt(5, 1, 0), setAt(5, 1, 2), setAt(5, 1, 3), cut(7, 1, 0), cut(8, 1, 2), cut(8, 1, 3), cut(8, 2, 1), cut(9, 3, 1)},
		},
		"cut and set before": {
			[]api.Event{setAt(5, 1, 0), cut(5, 1, 0), setAt(6, 1, 0), cut(6, 0, 1), setAt(7, 1, 0), leave(20, 3)},
			[]api.Event{setAt(5, 1, 0), cut(5, 1, 0), setAt(6, 1, 0), cut(6, 0, 1), setAt(7, 1, 0), cut(10, 0, 1), leave(20, 3)},
		},
		"a node that leaves": {
			[]api.Event{setAt(5, 1, 0), setAt(6, 1, 2), setAt(6, 2, 3), setAt(6, 0, 3), leave(7, 1), leave(20, 1)},
			[]api.Event{setAt(5, 1, 0), setAt(6, 1, 2), setAt(6, 2, 3), setAt(6, 0, 3), leave(7, 1), cut(9, 0, 3), cut(9, 2, 3), leave(20, 1)},
		},
		"a node that leaves when its links expire": {
			[]api.Event{setAt(5, 1, 0), setAt(6, 1, 2), leave(8, 1), leave(20, 1)},
			[]api.Event{setAt(5, 1, 0), setAt(6, 1, 2), cut(8, 0, 1), leave(8, 1), leave(20, 1)},
		},
		"nothing changes": {
			[]api.Event{leave(0, 0), cut(0, 1, 2), cut(7, 1, 2), leave(1<<20, 3)},
			[]api.Event{leave(0, 0), cut(0, 1, 2), cut(7, 1, 2), leave(1<<20, 3)},
		},
		"at the end of all times": {
			[]api.Event{setAt(1<<20-3, 1, 0), setAt(1<<20-2, 1, 2), leave(1<<20, 3)},
			[]api.Event{setAt(1<<20-3, 1, 0), setAt(1<<20-2, 1, 2), cut(1<<20, 0, 1), leave(1<<20, 3)},
		},
	} {
		if got, err := window.Slide(4, x.l, age(3)); !slices.Equal(got, x.want) || err != api.OK {
			t.Errorf("%s: %s, error %d, want %s", name, list(got), err, list(x.want))
		}
	}
}

func TestP7_3TheLeastAndTheGreatestAge(t *testing.T) {
	l := []api.Event{setAt(0, 0, 1), setAt(1, 1, 2), leave(1, 3), leave(2, 3), leave(1<<20-1, 3), leave(1<<20, 3)}
	checkSlide(t, 4, l, age(1), []api.Event{l[0], cut(1, 0, 1), l[1], l[2], cut(2, 1, 2), l[3], l[4], l[5]}, api.OK)
	checkSlide(t, 4, l, age(1<<20), slices.Insert(slices.Clone(l), 5, cut(1<<20, 0, 1)), api.OK)
	checkSlide(t, 4, l, age(1<<20-1), []api.Event{l[0], l[1], l[2], l[3], cut(1<<20-1, 0, 1), l[4], cut(1<<20, 1, 2), l[5]}, api.OK)
}

func TestP7_3ByNumber(t *testing.T) {
	for name, x := range map[string]struct {
		most    int
		l, want []api.Event
	}{
		"the oldest one, behind the event": {
			2, []api.Event{setAt(5, 1, 0), setAt(6, 2, 1), setAt(9, 0, 2), leave(9, 3)},
			[]api.Event{setAt(5, 1, 0), setAt(6, 2, 1), setAt(9, 0, 2), cut(9, 0, 1), leave(9, 3)},
		},
		"of one time by edge": {
			2, []api.Event{setAt(5, 2, 1), setAt(5, 1, 0), setAt(5, 0, 2)},
			[]api.Event{setAt(5, 2, 1), setAt(5, 1, 0), setAt(5, 0, 2), cut(5, 0, 1)},
		},
		"of one time, the one that is set": {
			2, []api.Event{setAt(5, 2, 3), setAt(5, 2, 1), setAt(5, 1, 0), setAt(5, 3, 0), setAt(6, 1, 0)},
			[]api.Event{setAt(5, 2, 3), setAt(5, 2, 1), setAt(5, 1, 0), cut(5, 0, 1), setAt(5, 3, 0), cut(5, 0, 3), setAt(6, 1, 0), cut(6, 1, 2)},
		},
		"set again": {
			2, []api.Event{setAt(5, 1, 0), setAt(6, 2, 1), setAt(7, 1, 0), setAt(8, 3, 2)},
			[]api.Event{setAt(5, 1, 0), setAt(6, 2, 1), setAt(7, 1, 0), setAt(8, 3, 2), cut(8, 1, 2)},
		},
		"set again and nothing changes": {
			1, []api.Event{setAt(5, 1, 0), setAt(5, 1, 0), setAt(5, 0, 1), setAt(6, 0, 1)},
			[]api.Event{setAt(5, 1, 0), setAt(5, 1, 0), setAt(5, 0, 1), setAt(6, 0, 1)},
		},
		"what has fallen out does not come back": {
			2, []api.Event{setAt(5, 1, 0), setAt(6, 2, 1), setAt(7, 3, 2), cut(8, 3, 2), setAt(9, 3, 0), setAt(9, 0, 1)},
			[]api.Event{setAt(5, 1, 0), setAt(6, 2, 1), setAt(7, 3, 2), cut(7, 0, 1), cut(8, 3, 2), setAt(9, 3, 0), setAt(9, 0, 1), cut(9, 1, 2)},
		},
		"a node that leaves makes room": {
			3, []api.Event{setAt(5, 1, 0), setAt(6, 2, 1), setAt(7, 3, 2), leave(8, 2), setAt(9, 3, 0), setAt(9, 3, 1), setAt(9, 3, 2), leave(10, 0)},
			[]api.Event{setAt(5, 1, 0), setAt(6, 2, 1), setAt(7, 3, 2), leave(8, 2), setAt(9, 3, 0), setAt(9, 3, 1), setAt(9, 3, 2), cut(9, 0, 1), leave(10, 0)},
		},
		"none": {
			0, []api.Event{setAt(5, 1, 0), cut(5, 1, 0), setAt(7, 3, 2), leave(7, 3), setAt(7, 3, 2), setAt(1<<20, 1, 0)},
			[]api.Event{setAt(5, 1, 0), cut(5, 0, 1), cut(5, 1, 0), setAt(7, 3, 2), cut(7, 2, 3), leave(7, 3), setAt(7, 3, 2), cut(7, 2, 3), setAt(1<<20, 1, 0), cut(1<<20, 0, 1)},
		},
		"time alone removes nothing": {
			1, []api.Event{setAt(0, 1, 0), leave(1<<20, 3), setAt(1<<20, 2, 3)},
			[]api.Event{setAt(0, 1, 0), leave(1<<20, 3), setAt(1<<20, 2, 3), cut(1<<20, 0, 1)},
		},
	} {
		if got, err := window.Slide(4, x.l, last(x.most)); !slices.Equal(got, x.want) || err != api.OK {
			t.Errorf("%s: %s, error %d, want %s", name, list(got), err, list(x.want))
		}
	}
}

func TestP7_3SlideIsItsDefinition(t *testing.T) {
	windows := []api.Window{whole(), age(1), age(2), age(3), age(4), age(6), last(0), last(1), last(2), last(3)}
	check := func(l []api.Event) {
		for _, w := range windows {
			checkSlide(t, 3, l, w, slid(3, l, w), api.OK)
		}
	}
	eachStream(4, []int{0, 2}, check)
	eachStream(3, []int{0, 1, 3, 4}, check)
	for nodes, streams := range longStreams() {
		for _, l := range streams {
			for _, w := range append(largerWindows(), windows...) {
				checkSlide(t, nodes, l, w, slid(nodes, l, w), api.OK)
			}
		}
	}
}

// allPairs are the edges of the greatest graph, in an order that is not that of edges.
func allPairs() [][2]int {
	var pairs, mixed [][2]int
	for u := range 64 {
		for v := u + 1; v < 64; v++ {
			pairs = append(pairs, [2]int{u, v})
		}
	}
	for i := range pairs {
		mixed = append(mixed, pairs[i*5%len(pairs)]) // 5 has no divisor in common with 2016, so each one comes once
	}
	return mixed
}

// In as many events as there may be, each edge is set in turn, at a time of its own.
func TestP7_3TheMostEvents(t *testing.T) {
	pairs := allPairs()
	var l []api.Event
	for i := range 1 << 16 {
		p := pairs[i%2016]
		l = append(l, setAt(3*i, p[1], p[0]))
	}
	// With so many links before it is set again, each link is cut this many events behind the one that set it.
	cutBehind := func(count int, before bool, timeOf func(i int) int) []api.Event {
		var want []api.Event
		for i, e := range l {
			gone := cut(timeOf(i), pairs[(i-count+2016)%2016][0], pairs[(i-count+2016)%2016][1])
			switch {
			case i < count:
				want = append(want, e)
			case before:
				want = append(want, gone, e)
			default:
				want = append(want, e, gone)
			}
		}
		return want
	}
	at := func(i int) int { return 3 * i }
	checkSlide(t, 64, l, last(2015), cutBehind(2015, false, at), api.OK)
	checkSlide(t, 64, l, last(1000), cutBehind(1000, false, at), api.OK)
	checkSlide(t, 64, l, age(3*2016+1), l, api.OK)
	checkSlide(t, 64, l, age(3*2016), cutBehind(2016, true, at), api.OK)
	checkSlide(t, 64, l, age(3*1000-2), cutBehind(1000, true, func(i int) int { return 3*i - 2 }), api.OK)
}

// All links there can be expire at once.
func TestP7_3TheMostLinks(t *testing.T) {
	var l, cuts []api.Event
	for _, p := range allPairs() {
		l = append(l, setAt(7, p[0], p[1]))
	}
	for u := range 64 {
		for v := u + 1; v < 64; v++ {
			cuts = append(cuts, cut(17, u, v))
		}
	}
	l = append(l, leave(20, 0))
	checkSlide(t, 64, l, age(10), slices.Concat(l[:2016], cuts, l[2016:]), api.OK)
	checkSlide(t, 64, l, age(14), l, api.OK)
	checkSlide(t, 64, l, last(2016), l, api.OK)
}

// The limit is that of the events that are given, not that of what is put out.
func TestP7_3WhatIsPutOutHasNoLimit(t *testing.T) {
	most := slices.Repeat([]api.Event{setAt(3, 0, 1)}, 1<<16)
	for _, w := range []api.Window{whole(), age(1), age(1 << 20), last(1), last(2016)} {
		checkSlide(t, 2, most, w, most, api.OK)
	}
	if got, err := window.Slide(2, most, last(0)); len(got) != 1<<17 || err != api.OK {
		t.Errorf("with a cut behind each event, %s, error %d", list(got), err)
	}
}

func TestP7_3AllNodesThatExist(t *testing.T) {
	for nodes := range 65 {
		for x := range nodes {
			l := []api.Event{leave(4, x)}
			for y := range x {
				l = append(l, cut(4, x, y), cut(4, y, x))
			}
			for _, w := range []api.Window{whole(), age(3), last(1)} {
				checkSlide(t, nodes, l, w, l, api.OK)
			}
		}
	}
}

func TestP7_3StreamsThatAreNotValid(t *testing.T) {
	for _, w := range []api.Window{whole(), age(1), age(100), last(0), last(5)} {
		for _, f := range probe.FlawedStreams() {
			checkSlide(t, f.Nodes, f.Events, w, nil, f.Err)
		}
	}
}

func TestP7_3TimesMayStay(t *testing.T) {
	l := []api.Event{leave(0, 1), leave(0, 1), leave(1<<20, 1), leave(1<<20, 1)}
	checkSlide(t, 4, l, age(3), l, api.OK)
}

func TestP7_3ErrorsOfWindowsComeFirst(t *testing.T) {
	for _, c := range flawedWindows() {
		for _, nodes := range []int{-1, 0, 4, 64, 65} {
			for _, l := range [][]api.Event{nil, probe.GoodStream(), {{}}, {leave(3, 63), leave(2, 0)}, make([]api.Event, 1<<16+1)} {
				checkSlide(t, nodes, l, c.w, nil, c.want)
			}
		}
	}
}
