package links_test

import (
	"slices"
	"testing"

	"cohesion/api"
	"cohesion/links"
	"cohesion/probe"
)

func checkApply(t *testing.T, s api.State, e api.Event, want api.State, wantedChanges []api.Event, wantedError api.Errno) {
	t.Helper()
	got, changes, err := links.Apply(s, e)
	if !same(got, want) || !slices.Equal(changes, wantedChanges) || err != wantedError {
		t.Errorf("Apply(%+v, %+v) = %+v, %+v, %d, want %+v, %+v, %d", s, e, got, changes, err, want, wantedChanges, wantedError)
	}
}

// isEnd reports whether a node is an end of the link between two nodes.
func isEnd(node, u, v int) bool { return node == u || node == v }

// applied is Apply by its definition, of a valid state: each pair of nodes is looked at in order, before the event and behind it.
func applied(s api.State, e api.Event) (api.State, []api.Event, api.Errno) {
	if e.U >= s.Nodes || e.V >= s.Nodes {
		return api.State{}, nil, api.ErrNode
	}
	var changes []api.Event
	next := stateBy(s.Nodes, func(u, v int) (api.Link, bool) {
		old, wasThere := between(s, u, v)
		now, isThere := old, wasThere
		switch {
		case e.Kind == api.EvLeave:
			isThere = wasThere && !isEnd(e.U, u, v)
		case isEnd(e.U, u, v) && isEnd(e.V, u, v):
			now, isThere = link(u, v, e.Weight, e.Label, e.Sign, e.Time), e.Kind == api.EvSet
		}
		switch {
		case isThere && (!wasThere || now != old):
			changes = append(changes, set(e.Time, u, v, e.Weight, e.Label, e.Sign))
		case wasThere && !isThere:
			changes = append(changes, cut(e.Time, u, v))
		}
		return now, isThere
	})
	return next, changes, api.OK
}

func checkApplied(t *testing.T, s api.State, e api.Event) {
	t.Helper()
	want, changes, err := applied(s, e)
	checkApply(t, s, e, want, changes, err)
}

func TestP5_2ApplyOfExamples(t *testing.T) {
	a, b, c, d := link(0, 1, 1, 0, 1, 1), link(0, 3, 10, 2, -1, 5), link(1, 3, 1000, 15, 1, 2), link(3, 4, 7, 7, -1, 1<<20)
	s := state(6, a, b, c, d)
	for _, x := range []struct {
		e       api.Event
		want    []api.Link
		changes []api.Event
	}{
		{set(9, 1, 2, 3, 4, -1), []api.Link{a, b, link(1, 2, 3, 4, -1, 9), c, d}, []api.Event{set(9, 1, 2, 3, 4, -1)}},
		{set(9, 2, 1, 3, 4, -1), []api.Link{a, b, link(1, 2, 3, 4, -1, 9), c, d}, []api.Event{set(9, 1, 2, 3, 4, -1)}},
		{set(0, 5, 4, 1, 0, 1), []api.Link{a, b, c, d, link(4, 5, 1, 0, 1, 0)}, []api.Event{set(0, 4, 5, 1, 0, 1)}},
		{set(0, 2, 0, 1, 0, 1), []api.Link{a, link(0, 2, 1, 0, 1, 0), b, c, d}, []api.Event{set(0, 0, 2, 1, 0, 1)}},
		{cut(9, 0, 3), []api.Link{a, c, d}, []api.Event{cut(9, 0, 3)}},
		{cut(9, 3, 0), []api.Link{a, c, d}, []api.Event{cut(9, 0, 3)}},
		{cut(0, 1, 0), []api.Link{b, c, d}, []api.Event{cut(0, 0, 1)}},
		{cut(1<<20, 3, 4), []api.Link{a, b, c}, []api.Event{cut(1<<20, 3, 4)}},
		{cut(9, 1, 2), s.Links, nil}, {cut(9, 2, 1), s.Links, nil}, {cut(9, 5, 4), s.Links, nil}, {cut(1, 0, 5), s.Links, nil},
		{leave(9, 0), []api.Link{c, d}, []api.Event{cut(9, 0, 1), cut(9, 0, 3)}},
		{leave(9, 3), []api.Link{a}, []api.Event{cut(9, 0, 3), cut(9, 1, 3), cut(9, 3, 4)}},
		{leave(9, 1), []api.Link{b, d}, []api.Event{cut(9, 0, 1), cut(9, 1, 3)}},
		{leave(0, 4), []api.Link{a, b, c}, []api.Event{cut(0, 3, 4)}},
		{leave(9, 2), s.Links, nil}, {leave(9, 5), s.Links, nil},
	} {
		checkApply(t, s, x.e, state(6, x.want...), x.changes, api.OK)
	}
	checkApply(t, state(2), set(3, 1, 0, 4, 5, -1), state(2, link(0, 1, 4, 5, -1, 3)), []api.Event{set(3, 0, 1, 4, 5, -1)}, api.OK)
	checkApply(t, state(2, a), cut(3, 1, 0), state(2), []api.Event{cut(3, 0, 1)}, api.OK)
	checkApply(t, state(2, a), leave(3, 1), state(2), []api.Event{cut(3, 0, 1)}, api.OK)
	checkApply(t, state(2), cut(3, 1, 0), state(2), nil, api.OK)
	checkApply(t, state(1), leave(3, 0), state(1), nil, api.OK)
}

func TestP5_2ALinkThatIsSetAnew(t *testing.T) {
	before, behind := plain(0, 1), plain(2, 3)
	s := state(4, before, link(1, 2, 10, 2, -1, 5), behind)
	for _, ends := range [][2]int{{1, 2}, {2, 1}} {
		again := func(time, weight, label, sign int) api.Event {
			return set(time, ends[0], ends[1], weight, label, sign)
		}
		checkApply(t, s, again(5, 10, 2, -1), s, nil, api.OK)
		for _, e := range []api.Event{
			again(6, 10, 2, -1), again(4, 10, 2, -1), again(0, 10, 2, -1), again(1<<20, 10, 2, -1), // another time alone
			again(5, 11, 2, -1), again(5, 1, 2, -1), again(5, 1000, 2, -1), again(5, 10, 3, -1), again(5, 10, 0, -1), again(5, 10, 15, -1), again(5, 10, 2, 1), // one attribute alone
			again(6, 11, 2, -1), again(6, 10, 3, -1), again(4, 10, 2, 1), again(5, 11, 3, 1), again(9, 7, 8, 1),
		} {
			want := state(4, before, link(1, 2, e.Weight, e.Label, e.Sign, e.Time), behind)
			checkApply(t, s, e, want, []api.Event{set(e.Time, 1, 2, e.Weight, e.Label, e.Sign)}, api.OK)
			checkApply(t, want, e, want, nil, api.OK)
		}
	}
}

// eventsFor are valid events with nodes up to one that the state does not have, and attributes that the links of small states have
// or do not have.
func eventsFor(s api.State) []api.Event {
	var l []api.Event
	for u := range min(s.Nodes+2, api.MaxNodes) {
		l = append(l, leave(5, u), leave(1<<20, u))
		for v := range min(s.Nodes+2, api.MaxNodes) {
			if u == v {
				continue
			}
			l = append(l, cut(6, u, v), set(5, u, v, 1, 0, 1), set(4, u, v, 1, 0, 1), set(1<<20, u, v, 1000, 15, -1), set(1<<20, u, v, 1000, 14, -1), set(5, u, v, 1, 0, -1), set(5, u, v, 2, 0, 1))
		}
	}
	return l
}

func TestP5_2ApplyIsItsDefinition(t *testing.T) {
	for _, s := range append(smallStates(), largerStates()[0]) {
		for _, e := range eventsFor(s) {
			checkApplied(t, s, e)
		}
	}
	for _, s := range largerStates()[1:] {
		for _, u := range []int{0, 1, 7, 12, 19, 20, 31, 32, 62, 63} {
			checkApplied(t, s, leave(3, u))
			for _, v := range []int{0, 31, 63} {
				if u != v {
					checkApplied(t, s, set(3, u, v, 4, 5, -1))
					checkApplied(t, s, cut(3, u, v))
				}
			}
		}
	}
}

func TestP5_2NodesThatDoNotExist(t *testing.T) {
	for _, nodes := range []int{0, 1, 2, 3, 5, 63, 64} {
		s := state(nodes)
		for x := range api.MaxNodes {
			y := 0 // the lesser node, or if x is that one, one that exists if x does and another one too
			if x == 0 {
				y = 1
			}
			for _, e := range []api.Event{set(1, x, y, 1, 0, 1), set(1, y, x, 1, 0, 1), cut(1, x, y), cut(1, y, x), leave(1, x)} {
				if e.U >= nodes || e.V >= nodes {
					checkApply(t, s, e, api.State{}, nil, api.ErrNode)
				} else if _, _, err := links.Apply(s, e); err != api.OK {
					t.Errorf("Apply(%+v) to %d nodes = %d", e, nodes, err)
				}
			}
		}
	}
}

func TestP5_2ApplyReturnsItsErrorsInOrder(t *testing.T) {
	s := state(4, plain(0, 1), plain(0, 3), plain(1, 2))
	for _, c := range probe.WrongEvents() {
		checkApply(t, s, c.Event, api.State{}, nil, c.Err)
		checkApply(t, state(0), c.Event, api.State{}, nil, c.Err)
		checkApply(t, state(64), c.Event, api.State{}, nil, c.Err)
	}
	for _, c := range probe.FlawedStates() {
		for _, e := range []api.Event{cut(9, 0, 1), set(9, 0, 2, 1, 0, 1), leave(9, 1), leave(9, 63), cut(9, 1, 63)} {
			checkApply(t, c.State, e, api.State{}, nil, c.Err)
		}
		for _, e := range probe.WrongEvents() {
			checkApply(t, c.State, e.Event, api.State{}, nil, c.Err)
		}
	}
	for _, c := range []struct {
		e    api.Event
		want api.Errno
	}{
		{set(9, 0, 4, 0, 0, 1), api.ErrRange}, {set(9, 4, 0, 1, 16, 1), api.ErrRange}, {set(-1, 0, 4, 1, 0, 1), api.ErrTime}, {cut(-1, 0, 4), api.ErrTime}, {api.Event{Kind: 7, U: 4}, api.ErrKind},
		{set(9, 0, 4, 1, 0, 1), api.ErrNode}, {set(9, 4, 0, 1, 0, 1), api.ErrNode}, {cut(9, 4, 5), api.ErrNode}, {cut(9, 3, 63), api.ErrNode}, {leave(9, 4), api.ErrNode}, {leave(9, 63), api.ErrNode},
	} {
		checkApply(t, s, c.e, api.State{}, nil, c.want)
	}
}

func checkAll(t *testing.T, s api.State, l []api.Event, want api.State, wantedCount int, wantedError api.Errno) {
	t.Helper()
	if got, count, err := links.All(s, l); !same(got, want) || count != wantedCount || err != wantedError {
		t.Errorf("All(%+v, %+v) = %+v, %d, %d, want %+v, %d, %d", s, l[:min(len(l), 9)], got, count, err, want, wantedCount, wantedError)
	}
}

// allApplied is All by its definition, of a valid state and valid events.
func allApplied(s api.State, l []api.Event) (api.State, int, api.Errno) {
	count := 0
	for i, e := range l {
		next, changes, err := applied(s, e)
		if err != api.OK {
			return api.State{}, i, err
		}
		s, count = next, count+len(changes)
	}
	return s, count, api.OK
}

func TestP5_3AllOfExamples(t *testing.T) {
	s := state(4, plain(0, 1), plain(0, 3), plain(1, 3))
	checkAll(t, s, nil, s, 0, api.OK)
	checkAll(t, state(0), nil, state(0), 0, api.OK)
	checkAll(t, s, []api.Event{leave(9, 2), cut(9, 1, 2), set(7, 3, 1, 3, 2, -1)}, s, 0, api.OK)
	checkAll(t, s, []api.Event{leave(9, 3)}, state(4, plain(0, 1)), 2, api.OK)
	checkAll(t, s, []api.Event{leave(9, 3), leave(8, 3), leave(7, 0)}, state(4), 3, api.OK)
	// Times may go back, and a link that comes and goes counts twice.
	checkAll(t, s, []api.Event{set(9, 2, 3, 1, 0, 1), set(8, 2, 3, 1, 0, 1), set(8, 3, 2, 1, 0, 1), cut(7, 3, 2), cut(7, 2, 3)}, s, 3, api.OK)
	checkAll(t, s, []api.Event{leave(9, 0), set(1, 1, 0, 5, 6, 1), set(2, 2, 0, 5, 6, 1), leave(0, 1)}, state(4, link(0, 2, 5, 6, 1, 2)), 6, api.OK)
}

func TestP5_3AllIsItsDefinition(t *testing.T) {
	events := []api.Event{set(5, 0, 1, 1, 0, 1), set(5, 2, 1, 1, 0, 1), set(1<<20, 1, 0, 1000, 15, -1), set(6, 1, 2, 7, 3, -1), set(1, 0, 3, 1, 0, 1), cut(4, 0, 1), cut(4, 2, 0), cut(4, 3, 1), leave(3, 1), leave(2, 2), leave(1, 3)}
	lists := probe.Lists(events, 3)
	for _, s := range slices.Concat(statesOf(0), statesOf(1), statesOf(2), statesOf(3), largerStates()[:2]) {
		for _, l := range lists {
			want, count, err := allApplied(s, l)
			checkAll(t, s, l, want, count, err)
		}
	}
	for _, s := range largerStates()[1:] {
		for _, l := range lists[len(lists)-15:] {
			want, count, err := allApplied(s, l)
			checkAll(t, s, l, want, count, err)
		}
	}
}

func TestP5_3AllReturnsTheIndexOfTheFirstEventWithAnError(t *testing.T) {
	s := state(4, plain(0, 1), plain(0, 3), plain(1, 2))
	good := []api.Event{leave(9, 0), set(9, 3, 2, 1, 0, 1), cut(9, 0, 1), set(8, 1, 0, 1, 0, 1), cut(9, 2, 1)}
	wrong := probe.WrongEvents()
	for _, e := range []api.Event{set(9, 0, 4, 1, 0, 1), cut(9, 63, 1), leave(9, 4)} {
		wrong = append(wrong, probe.WrongEvent{Event: e, Err: api.ErrNode})
	}
	for _, first := range wrong {
		for at := range len(good) + 1 {
			l := slices.Insert(slices.Clone(good), at, first.Event)
			checkAll(t, s, l, api.State{}, at, first.Err)
			for _, second := range wrong {
				checkAll(t, s, append(slices.Clone(l), second.Event), api.State{}, at, first.Err)
				checkAll(t, s, slices.Insert(slices.Clone(l), at+1, second.Event), api.State{}, at, first.Err)
			}
		}
	}
}

func TestP5_3AllOfStatesThatAreNotValid(t *testing.T) {
	for _, c := range probe.FlawedStates() {
		checkAll(t, c.State, nil, api.State{}, 0, c.Err)
		checkAll(t, c.State, []api.Event{}, api.State{}, 0, c.Err)
		checkAll(t, c.State, []api.Event{cut(9, 0, 1), leave(9, 1)}, api.State{}, 0, c.Err)
		for _, e := range probe.WrongEvents() {
			checkAll(t, c.State, []api.Event{e.Event}, api.State{}, 0, c.Err)
			checkAll(t, c.State, []api.Event{cut(9, 0, 1), e.Event}, api.State{}, 0, c.Err)
		}
	}
}

// The greatest state comes and goes, link by link and node by node, in an order that is not that of its links.
func TestP5_3AStateGrowsToTheGreatestOneAndShrinksAgain(t *testing.T) {
	full := stateBy(api.MaxNodes, func(u, v int) (api.Link, bool) { return varied(u, v), true })
	var sets, cuts, leaves []api.Event
	for i := range full.Links {
		l := full.Links[(i*5)%len(full.Links)] // 5 has no divisor in common with 2016, so each link comes once
		sets = append(sets, set(l.Time, l.V, l.U, l.Weight, l.Label, l.Sign))
		cuts = append(cuts, cut(1, l.V, l.U))
	}
	for v := range api.MaxNodes {
		leaves = append(leaves, leave(1, (v*5)%api.MaxNodes))
	}
	empty := state(api.MaxNodes)
	checkAll(t, empty, sets, full, api.MaxEdges, api.OK)
	checkAll(t, full, sets, full, 0, api.OK)
	checkAll(t, full, cuts, empty, api.MaxEdges, api.OK)
	checkAll(t, full, leaves, empty, api.MaxEdges, api.OK)
	checkAll(t, empty, slices.Concat(sets, cuts, sets, leaves, sets), full, 5*api.MaxEdges, api.OK)
}

// The errors of All are those of Apply: the limit of a list of events is not among them.
func TestP5_3AllHasNoLimitOfEvents(t *testing.T) {
	many := slices.Repeat([]api.Event{set(1, 0, 1, 1, 0, 1), set(1, 1, 2, 1, 0, 1), leave(2, 1)}, api.MaxEvents)
	checkAll(t, state(3), many, state(3), 4*api.MaxEvents, api.OK)
	checkAll(t, state(3), append(many, leave(2, 3)), api.State{}, 3*api.MaxEvents, api.ErrNode)
}
