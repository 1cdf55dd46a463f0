package history_test

import (
	"slices"
	"testing"

	"cohesion/api"
	"cohesion/history"
)

func checkJoined(t *testing.T, h story, set []int, want int, wantedOK bool, wantedError api.Errno) {
	t.Helper()
	if got, ok, err := history.Joined(h.nodes, h.l, set); got != want || ok != wantedOK || err != wantedError {
		t.Errorf("Joined of %v in %v is %d, %t, error %d, want %d, %t, error %d", set, h, got, ok, err, want, wantedOK, wantedError)
	}
}

// firstTogether is Joined by its definition: the components behind each time are looked at.
func firstTogether(all []moment, numbers [][]int, set []int) (int, bool) {
	if len(set) < 2 {
		return 0, true
	}
	for i, m := range all {
		if isTogether(numbers[i], set) {
			return m.time, true
		}
	}
	return 0, false
}

func TestP8_3JoinedOfExamples(t *testing.T) {
	for name, x := range map[string]struct {
		l    []api.Event
		set  []int
		want int
		ok   bool
	}{
		"two nodes with an edge":           {[]api.Event{leave(1, 0), setAt(2, 5, 3)}, []int{3, 5}, 2, true},
		"at the first time":                {[]api.Event{setAt(0, 5, 3), setAt(2, 5, 3)}, []int{3, 5}, 0, true},
		"at the last time":                 {[]api.Event{leave(0, 5), setAt(1<<20, 5, 3)}, []int{3, 5}, 1 << 20, true},
		"two nodes joined by another one":  {[]api.Event{setAt(2, 5, 3), setAt(4, 5, 1)}, []int{1, 3}, 4, true},
		"two nodes joined by others":       {[]api.Event{setAt(2, 5, 0), setAt(3, 1, 2), setAt(4, 4, 3), setAt(5, 4, 5), setAt(6, 0, 1), setAt(7, 2, 3)}, []int{2, 3}, 6, true},
		"a path through all nodes":         {[]api.Event{setAt(2, 0, 3), setAt(3, 3, 1), setAt(4, 1, 4), setAt(5, 4, 2), setAt(6, 2, 5)}, []int{0, 5}, 6, true},
		"three nodes":                      {[]api.Event{setAt(2, 0, 3), setAt(3, 4, 5), setAt(4, 5, 1), setAt(5, 3, 4), setAt(6, 1, 3)}, []int{1, 3, 5}, 5, true},
		"all nodes":                        {[]api.Event{setAt(2, 0, 3), setAt(3, 3, 1), setAt(4, 1, 4), setAt(5, 4, 2), setAt(7, 1, 5)}, []int{0, 1, 2, 3, 4, 5}, 7, true},
		"some of the nodes only":           {[]api.Event{setAt(2, 0, 1), setAt(3, 2, 3)}, []int{0, 1, 2}, 0, false},
		"in two components":                {[]api.Event{setAt(2, 0, 1), setAt(3, 2, 3), setAt(4, 1, 5)}, []int{1, 3}, 0, false},
		"no events":                        {nil, []int{0, 1}, 0, false},
		"nothing but cuts":                 {[]api.Event{cut(0, 0, 1), leave(3, 0)}, []int{0, 1}, 0, false},
		"joined and parted at one time":    {[]api.Event{setAt(4, 0, 1), cut(4, 1, 0)}, []int{0, 1}, 0, false},
		"joined and left at one time":      {[]api.Event{setAt(4, 0, 2), setAt(4, 2, 1), leave(4, 2)}, []int{0, 1}, 0, false},
		"parted, and joined later":         {[]api.Event{setAt(4, 0, 2), setAt(4, 2, 1), leave(4, 2), setAt(6, 0, 1), setAt(8, 0, 2)}, []int{0, 1, 2}, 8, true},
		"parted and joined at one time":    {[]api.Event{setAt(2, 0, 2), setAt(4, 2, 1), leave(4, 2), setAt(4, 0, 1)}, []int{0, 1}, 4, true},
		"not at once":                      {[]api.Event{setAt(2, 0, 2), cut(4, 0, 2), setAt(5, 2, 1), leave(6, 2), setAt(7, 0, 2), setAt(9, 2, 1)}, []int{0, 1}, 9, true},
		"another way when one is cut":      {[]api.Event{setAt(2, 0, 2), setAt(2, 0, 3), cut(3, 2, 0), setAt(3, 2, 3), setAt(5, 2, 4)}, []int{0, 2, 4}, 5, true},
		"parted behind the time":           {[]api.Event{setAt(2, 0, 2), cut(3, 2, 0), setAt(9, 0, 2)}, []int{0, 2}, 2, true},
		"no node":                          {[]api.Event{setAt(2, 0, 1)}, nil, 0, true},
		"one node":                         {[]api.Event{setAt(2, 0, 1)}, []int{1}, 0, true},
		"one node without links":           {[]api.Event{setAt(2, 0, 1), leave(3, 5)}, []int{5}, 0, true},
		"one node, and no events":          {nil, []int{5}, 0, true},
		"the first node of the set is far": {[]api.Event{setAt(1, 4, 5), setAt(2, 3, 4), setAt(3, 0, 2)}, []int{0, 4, 5}, 0, false},
	} {
		t.Run(name, func(t *testing.T) { checkJoined(t, story{6, x.l}, x.set, x.want, x.ok, api.OK) })
	}
}

func TestP8_3SetsOfFewerThanTwoNodes(t *testing.T) {
	for nodes := range 65 {
		for _, l := range [][]api.Event{nil, {}} {
			checkJoined(t, story{nodes, l}, nil, 0, true, api.OK)
			checkJoined(t, story{nodes, l}, []int{}, 0, true, api.OK)
			for v := range nodes {
				checkJoined(t, story{nodes, l}, []int{v}, 0, true, api.OK)
			}
		}
	}
}

func TestP8_3JoinedIsItsDefinition(t *testing.T) {
	eachHistory(func(h story) {
		all := moments(h)
		var numbers [][]int
		for _, m := range all {
			numbers = append(numbers, components(m.s))
		}
		sets := setsOf(min(h.nodes, 5))
		if h.nodes >= 20 {
			sets = append(sets, []int{0, h.nodes - 1}, []int{3, 9, 17}, []int{h.nodes - 3, h.nodes - 2}, []int{1, 2, 4, 8, 16, h.nodes - 1}, allNodes(h.nodes))
		}
		for _, set := range sets {
			want, ok := firstTogether(all, numbers, set)
			checkJoined(t, h, set, want, ok, api.OK)
		}
	})
}

// allNodes is the set of all nodes.
func allNodes(nodes int) []int {
	var set []int
	for v := range nodes {
		set = append(set, v)
	}
	return set
}

func TestP8_3ListsThatAreNoSets(t *testing.T) {
	for _, h := range append(longHistories(), story{0, nil}, story{1, nil}, story{2, nil}, story{64, nil}) {
		for _, set := range wrongSets(h.nodes) {
			checkJoined(t, h, set, 0, false, api.ErrNode)
		}
		checkJoined(t, h, make([]int, 1<<16), 0, false, api.ErrNode)
	}
}

// As many events as there may be, among 63 nodes that are all joined: the last one is joined with them at the end, or never.
func TestP8_3TheMostEvents(t *testing.T) {
	var l []api.Event
	for len(l) < 1<<16 {
		for _, ends := range pairsOf(63) {
			l = append(l, setAt(7*len(l), ends[0], ends[1]))
		}
	}
	l = l[:1<<16]
	checkJoined(t, story{64, l}, []int{0, 63}, 0, false, api.OK)
	for _, set := range [][]int{{62, 63}, allNodes(64)} {
		joined := append(slices.Clone(l[:1<<16-1]), setAt(1<<20, 31, 63))
		checkJoined(t, story{64, joined}, set, 1<<20, true, api.OK)
	}
}
