package history_test

import (
	"math"
	"slices"
	"testing"

	"cohesion/api"
	"cohesion/history"
	"cohesion/probe"
)

func checkBetween(t *testing.T, a, b api.State, time int, want []api.Event, wantedError api.Errno) {
	t.Helper()
	if got, err := history.Between(a, b, time); !slices.Equal(got, want) || err != wantedError {
		t.Errorf("Between %s and %s, at %d, is %s, error %d, want %s, error %d", text(a), text(b), time, list(got), err, list(want), wantedError)
	}
}

// linkOf returns the link between two nodes of a state, the lesser one first, by looking at each one.
func linkOf(s api.State, u, v int) (api.Link, bool) {
	at := slices.IndexFunc(s.Links, func(l api.Link) bool { return l.U == u && l.V == v })
	if at < 0 {
		return api.Link{}, false
	}
	return s.Links[at], true
}

// differences is Between by its definition, of valid states: each pair of nodes is looked at in order.
func differences(a, b api.State, time int) []api.Event {
	var l []api.Event
	for u := range a.Nodes {
		for v := u + 1; v < a.Nodes; v++ {
			old, wasThere := linkOf(a, u, v)
			now, isThere := linkOf(b, u, v)
			switch {
			case wasThere && !isThere:
				l = append(l, cut(time, u, v))
			case isThere && (!wasThere || old.Weight != now.Weight || old.Label != now.Label || old.Sign != now.Sign):
				l = append(l, set(time, u, v, now.Weight, now.Label, now.Sign))
			}
		}
	}
	return l
}

func TestP8_2BetweenOfExamples(t *testing.T) {
	x, y, z := link(0, 1, 3, 2, -1, 5), link(0, 3, 10, 0, 1, 1<<20), link(1, 2, 1000, 15, 1, 0)
	setX, setY, setZ := set(9, 0, 1, 3, 2, -1), set(9, 0, 3, 10, 0, 1), set(9, 1, 2, 1000, 15, 1)
	for name, c := range map[string]struct {
		a, b []api.Link
		want []api.Event
	}{
		"no links":                 {nil, nil, nil},
		"equal states":             {[]api.Link{x, y, z}, []api.Link{x, y, z}, nil},
		"all new":                  {nil, []api.Link{x, y, z}, []api.Event{setX, setY, setZ}},
		"all gone":                 {[]api.Link{x, y, z}, nil, []api.Event{cut(9, 0, 1), cut(9, 0, 3), cut(9, 1, 2)}},
		"the first one new":        {[]api.Link{y, z}, []api.Link{x, y, z}, []api.Event{setX}},
		"the middle one gone":      {[]api.Link{x, y, z}, []api.Link{x, z}, []api.Event{cut(9, 0, 3)}},
		"the last one new":         {[]api.Link{x, y}, []api.Link{x, y, z}, []api.Event{setZ}},
		"one for another one":      {[]api.Link{x, z}, []api.Link{y, z}, []api.Event{cut(9, 0, 1), setY}},
		"in the order of edges":    {[]api.Link{x, z}, []api.Link{y}, []api.Event{cut(9, 0, 1), setY, cut(9, 1, 2)}},
		"in the order of edges, 2": {[]api.Link{y}, []api.Link{x, z}, []api.Event{setX, cut(9, 0, 3), setZ}},
	} {
		if got, err := history.Between(state(4, c.a...), state(4, c.b...), 9); !slices.Equal(got, c.want) || err != api.OK {
			t.Errorf("%s: %s, error %d, want %s", name, list(got), err, list(c.want))
		}
	}
}

func TestP8_2BetweenOfLinksWithOtherAttributes(t *testing.T) {
	before, behind := linkAt(0, 1, 2), linkAt(2, 3, 1)
	a := state(4, before, link(1, 2, 10, 2, -1, 5), behind)
	for _, c := range []struct{ weight, label, sign int }{{11, 2, -1}, {1, 2, -1}, {1000, 2, -1}, {10, 3, -1}, {10, 0, -1}, {10, 15, -1}, {10, 2, 1}, {11, 3, 1}} {
		for _, time := range []int{0, 4, 5, 6, 1 << 20} {
			b := state(4, before, link(1, 2, c.weight, c.label, c.sign, time), behind)
			checkBetween(t, a, b, 9, []api.Event{set(9, 1, 2, c.weight, c.label, c.sign)}, api.OK)
			checkBetween(t, b, a, 5, []api.Event{set(5, 1, 2, 10, 2, -1)}, api.OK)
		}
	}
	// The time of a link does not matter.
	for _, time := range []int{0, 4, 5, 6, 9, 1 << 20} {
		checkBetween(t, a, state(4, before, link(1, 2, 10, 2, -1, time), behind), 9, nil, api.OK)
		checkBetween(t, a, state(4, linkAt(0, 1, time), link(1, 2, 10, 2, -1, time), linkAt(2, 3, time)), 5, nil, api.OK)
	}
}

// statesOf are all states of a number of nodes in which each edge has no link, or one of three; two of these differ in their time
// alone.
func statesOf(nodes int) []api.State {
	states := []api.State{state(nodes)}
	for _, ends := range pairsOf(nodes) {
		if ends[0] > ends[1] {
			continue
		}
		for _, s := range slices.Clone(states) {
			for _, l := range []api.Link{link(ends[0], ends[1], 1, 0, 1, 5), link(ends[0], ends[1], 1, 0, 1, 9), link(ends[0], ends[1], 1000, 15, -1, 5)} {
				states = append(states, state(nodes, append(slices.Clone(s.Links), l)...))
			}
		}
	}
	for _, s := range states {
		slices.SortFunc(s.Links, func(a, b api.Link) int { return slices.Compare([]int{a.U, a.V}, []int{b.U, b.V}) })
	}
	return states
}

// largerStates are states of 64 nodes, up to the greatest one there is.
func largerStates() []api.State {
	by := func(rule func(u, v int) bool) api.State {
		return stateBy(64, func(u, v int) (api.Link, bool) {
			return link(u, v, 1+(u*31+v*517)%3, (u*5+v)%4, 1-(u+2*v)%2*2, u*64+v), rule(u, v)
		})
	}
	full := by(func(_, _ int) bool { return true })
	other := stateBy(64, func(u, v int) (api.Link, bool) { return link(u, v, 1+u%2, v%2, 1, 7), true })
	return []api.State{
		state(64), full, other, by(func(u, v int) bool { return (u+v)%3 == 1 }), by(func(u, v int) bool { return u == 31 || v == 31 }), by(func(u, v int) bool { return (u*5+v*3)%4 == 0 }),
	}
}

func TestP8_2BetweenIsItsDefinition(t *testing.T) {
	for _, states := range [][]api.State{statesOf(0), statesOf(1), statesOf(2), statesOf(3), largerStates()} {
		for _, a := range states {
			for _, b := range states {
				for _, time := range []int{0, 5, 1 << 20} {
					checkBetween(t, a, b, time, differences(a, b, time), api.OK)
				}
			}
		}
	}
}

func TestP8_2TimesOfBetween(t *testing.T) {
	a, b := state(4, linkAt(0, 1, 5), linkAt(1, 3, 1<<20)), state(4, linkAt(0, 1, 9), linkAt(0, 2, 9))
	for _, time := range []int{0, 1, 4, 5, 1<<20 - 1, 1 << 20} { // also before the times of the links
		checkBetween(t, a, b, time, []api.Event{setAt(time, 0, 2), cut(time, 1, 3)}, api.OK)
		checkBetween(t, a, a, time, nil, api.OK)
	}
	for _, time := range []int{math.MinInt, math.MinInt + 1, -1 << 32, -1 << 20, -2, -1, 1<<20 + 1, 1 << 21, 1 << 32, math.MaxInt - 1, math.MaxInt} {
		checkBetween(t, a, b, time, nil, api.ErrTime)
		checkBetween(t, a, a, time, nil, api.ErrTime)
		checkBetween(t, state(0), state(0), time, nil, api.ErrTime)
	}
}

func TestP8_2BetweenStatesOfOtherNumbersOfNodes(t *testing.T) {
	l := linkAt(0, 1, 5)
	for a := range 65 {
		for b := range 65 {
			for _, time := range []int{-1, 5, 1<<20 + 1} {
				want := api.ErrNode
				switch {
				case a == b && time == 5:
					want = api.OK
				case a == b:
					want = api.ErrTime
				}
				checkBetween(t, state(a), state(b), time, nil, want)
				if a > 1 && b > 1 {
					checkBetween(t, state(a, l), state(b, l), time, nil, want)
				}
			}
		}
	}
}

func TestP8_2StatesThatAreNotValid(t *testing.T) {
	for _, f := range probe.FlawedStates() {
		for _, time := range []int{-1, 5, 1<<20 + 1} {
			for _, good := range []api.State{state(0), state(min(max(f.State.Nodes, 0), 64)), state(3, linkAt(0, 1, 7)), state(64)} {
				checkBetween(t, f.State, good, time, nil, f.Err)
				checkBetween(t, good, f.State, time, nil, f.Err)
			}
			for _, second := range probe.FlawedStates() {
				checkBetween(t, f.State, second.State, time, nil, f.Err)
			}
		}
	}
}
