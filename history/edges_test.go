package history_test

import (
	"slices"
	"testing"

	"cohesion/api"
	"cohesion/history"
)

func checkFirst(t *testing.T, h story, ends [2]int, want int, wantedOK bool, wantedError api.Errno) {
	t.Helper()
	if got, ok, err := history.First(h.nodes, h.l, ends[0], ends[1]); got != want || ok != wantedOK || err != wantedError {
		t.Errorf("First of %v in %v is %d, %t, error %d, want %d, %t, error %d", ends, h, got, ok, err, want, wantedOK, wantedError)
	}
}

func checkLife(t *testing.T, h story, ends [2]int, want [][2]int, wantedError api.Errno) {
	t.Helper()
	if got, err := history.Life(h.nodes, h.l, ends[0], ends[1]); !slices.Equal(got, want) || err != wantedError {
		t.Errorf("Life of %v in %v is %v, error %d, want %v, error %d", ends, h, got, err, want, wantedError)
	}
}

// checkSpans checks First and Life of an edge without an error, with its ends in either order.
func checkSpans(t *testing.T, h story, u, v int, want [][2]int) {
	t.Helper()
	first := 0
	if len(want) > 0 {
		first = want[0][0]
	}
	for _, ends := range [][2]int{{u, v}, {v, u}} {
		checkFirst(t, h, ends, first, len(want) > 0, api.OK)
		checkLife(t, h, ends, want, api.OK)
	}
}

// spans is Life by its definition: the state behind each time is looked at.
func spans(all []moment, u, v int) [][2]int {
	var l [][2]int
	for _, m := range all {
		isOpen := len(l) > 0 && l[len(l)-1][1] == -1
		switch {
		case has(m.s, u, v) && !isOpen:
			l = append(l, [2]int{m.time, -1})
		case !has(m.s, u, v) && isOpen:
			l[len(l)-1][1] = m.time
		}
	}
	return l
}

func TestP8_3P8_4FirstAndLifeOfExamples(t *testing.T) {
	for name, x := range map[string]struct {
		l    []api.Event
		want [][2]int
	}{
		"the example of the chapter":        {[]api.Event{setAt(2, 0, 1), cut(5, 0, 1), setAt(5, 0, 1)}, [][2]int{{2, -1}}},
		"to the end":                        {[]api.Event{leave(1, 0), setAt(2, 0, 1), setAt(4, 1, 2), leave(7, 3)}, [][2]int{{2, -1}}},
		"at the first time":                 {[]api.Event{setAt(0, 0, 1)}, [][2]int{{0, -1}}},
		"at the last time":                  {[]api.Event{setAt(1<<20, 0, 1)}, [][2]int{{1 << 20, -1}}},
		"through all time":                  {[]api.Event{setAt(0, 0, 1), cut(1<<20, 0, 1)}, [][2]int{{0, 1 << 20}}},
		"one span":                          {[]api.Event{setAt(2, 1, 0), leave(4, 2), cut(7, 1, 0), cut(9, 1, 0)}, [][2]int{{2, 7}}},
		"several spans":                     {[]api.Event{setAt(0, 1, 0), cut(3, 0, 1), setAt(4, 0, 1), cut(5, 1, 0), setAt(9, 1, 0), leave(12, 0)}, [][2]int{{0, 3}, {4, 5}, {9, 12}}},
		"several spans, the last one open":  {[]api.Event{setAt(1, 1, 0), leave(3, 0), setAt(4, 0, 1), leave(5, 1), setAt(9, 1, 0)}, [][2]int{{1, 3}, {4, 5}, {9, -1}}},
		"no events":                         {nil, nil},
		"never set":                         {[]api.Event{setAt(1, 1, 2), setAt(1, 0, 2), cut(2, 0, 1), leave(3, 0)}, nil},
		"set and cut at one time":           {[]api.Event{setAt(4, 1, 0), cut(4, 0, 1)}, nil},
		"set and left at one time":          {[]api.Event{setAt(4, 1, 0), leave(4, 0), setAt(5, 1, 0), leave(5, 1)}, nil},
		"set and cut, and later set":        {[]api.Event{setAt(4, 1, 0), cut(4, 0, 1), setAt(6, 0, 1)}, [][2]int{{6, -1}}},
		"cut and set at one time":           {[]api.Event{setAt(2, 1, 0), cut(4, 0, 1), setAt(4, 1, 0), cut(6, 0, 1)}, [][2]int{{2, 6}}},
		"left and set at one time":          {[]api.Event{setAt(2, 1, 0), leave(4, 0), setAt(4, 1, 0), leave(6, 1)}, [][2]int{{2, 6}}},
		"set, cut and set at one time":      {[]api.Event{setAt(2, 1, 0), cut(2, 0, 1), setAt(2, 1, 0)}, [][2]int{{2, -1}}},
		"cut, set and cut at one time":      {[]api.Event{setAt(2, 1, 0), cut(4, 0, 1), setAt(4, 1, 0), cut(4, 0, 1)}, [][2]int{{2, 4}}},
		"set twice":                         {[]api.Event{setAt(2, 1, 0), setAt(4, 0, 1), cut(6, 0, 1)}, [][2]int{{2, 6}}},
		"set twice at one time":             {[]api.Event{setAt(2, 1, 0), setAt(2, 0, 1), cut(6, 0, 1)}, [][2]int{{2, 6}}},
		"set again in another way":          {[]api.Event{setAt(2, 1, 0), set(4, 0, 1, 9, 9, -1), cut(6, 0, 1)}, [][2]int{{2, 6}}},
		"cut twice":                         {[]api.Event{setAt(2, 1, 0), cut(4, 0, 1), cut(6, 0, 1)}, [][2]int{{2, 4}}},
		"the lesser node leaves":            {[]api.Event{setAt(2, 1, 0), leave(4, 0)}, [][2]int{{2, 4}}},
		"the greater node leaves":           {[]api.Event{setAt(2, 1, 0), leave(4, 1)}, [][2]int{{2, 4}}},
		"a neighbour leaves":                {[]api.Event{setAt(2, 1, 0), setAt(2, 1, 2), setAt(2, 0, 2), leave(4, 2)}, [][2]int{{2, -1}}},
		"other edges of the nodes come, go": {[]api.Event{setAt(1, 0, 2), setAt(2, 1, 0), cut(3, 0, 2), setAt(4, 3, 1), cut(5, 1, 3)}, [][2]int{{2, -1}}},
		"among other events of the time":    {[]api.Event{leave(2, 3), setAt(2, 1, 0), setAt(2, 2, 3), leave(5, 2), cut(5, 1, 0), leave(5, 3)}, [][2]int{{2, 5}}},
	} {
		t.Run(name, func(t *testing.T) { checkSpans(t, story{4, x.l}, 0, 1, x.want) })
	}
}

func TestP8_3P8_4FirstAndLifeAreTheirDefinition(t *testing.T) {
	check := func(h story) {
		all := moments(h)
		for _, ends := range pairsOf(min(h.nodes, 20)) {
			if ends[0] < ends[1] {
				checkSpans(t, h, ends[0], ends[1], spans(all, ends[0], ends[1]))
			}
		}
		for _, ends := range [][2]int{{62, 63}, {0, 63}, {31, 32}} {
			if h.nodes == 64 {
				checkSpans(t, h, ends[0], ends[1], spans(all, ends[0], ends[1]))
			}
		}
	}
	eachHistory(check)
}

func TestP8_3P8_4EndsThatAreNotTwoNodes(t *testing.T) {
	for _, h := range append(longHistories(), story{0, nil}, story{1, nil}, story{2, nil}, story{64, nil}) {
		for _, ends := range wrongPairs(h.nodes) {
			checkFirst(t, h, ends, 0, false, api.ErrNode)
			checkLife(t, h, ends, nil, api.ErrNode)
		}
	}
}

// As many events as there may be, and as many spans.
func TestP8_3P8_4TheMostEvents(t *testing.T) {
	l := slices.Repeat([]api.Event{setAt(0, 63, 62), cut(0, 62, 63)}, 1<<15)
	var want [][2]int
	for i := range l {
		l[i].Time = 5 * i
		if i%2 > 0 {
			want = append(want, [2]int{5*i - 5, 5 * i})
		}
	}
	checkSpans(t, story{64, l}, 62, 63, want)
	checkSpans(t, story{64, l}, 61, 63, nil)
	l[1<<16-1] = setAt(1<<20, 0, 63)
	want[1<<15-1][1] = -1
	checkSpans(t, story{64, l}, 62, 63, want)
	checkSpans(t, story{64, l}, 63, 0, [][2]int{{1 << 20, -1}})
}
