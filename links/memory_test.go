package links_test

import (
	"math"
	"slices"
	"testing"

	"cohesion/api"
	"cohesion/links"
	"cohesion/probe"
)

// arguments are all the memory that a call is given.
type arguments struct {
	s      api.State
	l      []api.Event
	labels []int
}

// Elements that occur in no list: some stand behind the ends of guarded lists, the others are written over lists.
var (
	untouchedLink  = plain(-77, -78)
	untouchedEvent = api.Event{Kind: -77}
	spoiltLink     = plain(-79, -80)
	spoiltEvent    = api.Event{Kind: -79}
	spoiltEdge     = api.Edge{U: -79, V: -80}
)

const (
	untouchedLabel = -77
	spoiltLabel    = -79
)

// Guarded is for probe.Fault, as all methods of arguments and results are.
func (a arguments) Guarded() arguments {
	guarded := a.s
	guarded.Links = probe.Guarded(a.s.Links, untouchedLink)
	return arguments{guarded, probe.Guarded(a.l, untouchedEvent), probe.Guarded(a.labels, untouchedLabel)}
}

func (a arguments) AreUnchanged(before arguments) bool {
	return probe.IsUnchanged(a.s.Links, before.s.Links, untouchedLink) && probe.IsUnchanged(a.l, before.l, untouchedEvent) && probe.IsUnchanged(a.labels, before.labels, untouchedLabel)
}

func (a arguments) Spoil() {
	probe.Spoil(a.s.Links, spoiltLink)
	probe.Spoil(a.l, spoiltEvent)
	probe.Spoil(a.labels, spoiltLabel)
}

// result is all that a call returns.
type result struct {
	s       api.State
	g       api.Graph
	changes []api.Event
	number  int
	err     api.Errno
}

func (r result) Clone() result {
	r.s.Links, r.g.Edges, r.changes = slices.Clone(r.s.Links), slices.Clone(r.g.Edges), slices.Clone(r.changes)
	return r
}

func (r result) Equals(other result) bool {
	return same(r.s, other.s) && r.g.Nodes == other.g.Nodes && slices.Equal(r.g.Edges, other.g.Edges) && slices.Equal(r.changes, other.changes) && r.number == other.number && r.err == other.err
}

func (r result) Spoil() {
	probe.Spoil(r.s.Links, spoiltLink)
	probe.Spoil(r.g.Edges, spoiltEdge)
	probe.Spoil(r.changes, spoiltEvent)
}

// first is the first event of a list, or one that changes nothing.
func first(l []api.Event) api.Event {
	return slices.Concat(l, []api.Event{cut(9, 2, 0)})[0]
}

// calls are all functions.
func calls() map[string]func(a arguments) result {
	return map[string]func(a arguments) result{
		"Check": func(a arguments) result { return result{err: links.Check(a.s)} },
		"Apply": func(a arguments) (r result) { r.s, r.changes, r.err = links.Apply(a.s, first(a.l)); return r },
		"All":   func(a arguments) (r result) { r.s, r.number, r.err = links.All(a.s, a.l); return r },
		"Find":  func(a arguments) result { return result{number: links.Find(a.s, 3, 1)} },
		"Graph": func(a arguments) (r result) { r.g, r.err = links.Graph(a.s); return r },
		"Where": func(a arguments) (r result) { r.s, r.err = links.Where(a.s, a.labels, 0, 0); return r },
		"Where of a sign": func(a arguments) (r result) {
			r.s, r.err = links.Where(a.s, a.labels, -1, 2)
			return r
		},
	}
}

// eventLists are lists of which the first event, or all of them, change nothing, or something, or cannot happen.
func eventLists() [][]api.Event {
	lists := [][]api.Event{
		nil, {}, {set(9, 3, 2, 4, 5, 1), cut(9, 1, 0), leave(9, 3), set(8, 1, 0, 1, 2, -1)}, {set(9, 1, 0, 4, 5, 1), set(9, 0, 1, 4, 5, 1)}, {set(7, 1, 0, 3, 2, -1)},
		{cut(9, 1, 0), cut(9, 2, 0)}, {cut(9, 3, 1), leave(9, 2)}, {leave(9, 1), leave(9, 0), leave(9, 0)}, {set(9, 0, 2, 1, 0, 1)}, {leave(9, 2)}, {set(9, 0, 1, 1, 0, 1), leave(9, 63)},
	}
	for _, c := range probe.WrongEvents() {
		lists = append(lists, []api.Event{c.Event}, []api.Event{cut(9, 1, 0), c.Event, cut(9, 3, 1)})
	}
	return lists
}

// givenStates are states of all kinds, few enough that each is tried with many lists.
func givenStates() []api.State {
	all := slices.Concat(statesOf(2), statesOf(3), statesOf(4)[700:], largerStates(), []api.State{state(4, plain(0, 1)), state(4, plain(0, 1), plain(1, 3), plain(2, 3))})
	for _, c := range probe.FlawedStates() {
		all = append(all, c.State)
	}
	return all
}

// R2: neither by a call nor by a change of a result, and no result follows later changes of arguments or of another result.
func TestNoMemoryIsChangedOrShared(t *testing.T) {
	for name, call := range calls() {
		for _, s := range givenStates() {
			for i, l := range eventLists() {
				given := arguments{s, l, labelLists()[i%len(labelLists())]}
				if fault := probe.Fault(call, given); fault != "" {
					t.Errorf("%s(%+v) %s", name, given, fault)
				}
			}
		}
	}
}

// R2: a nil list and an empty one are equivalent.
func TestNilAndEmptyListsAreEquivalent(t *testing.T) {
	for nodes := -1; nodes <= 66; nodes++ {
		bare, empty := state(nodes), api.State{Nodes: nodes, Links: []api.Link{}}
		for name, call := range calls() {
			for _, l := range eventLists() {
				if !call(arguments{s: bare, l: l}).Equals(call(arguments{empty, l, []int{}})) {
					t.Errorf("%s of %d nodes without links has two results", name, nodes)
				}
			}
		}
	}
	for _, s := range validStates() {
		for name, call := range calls() {
			if !call(arguments{s: s}).Equals(call(arguments{s, []api.Event{}, []int{}})) {
				t.Errorf("%s(%+v) has two results", name, s)
			}
		}
	}
}

// R1: no arguments make a function panic.
func TestNothingPanics(t *testing.T) {
	numbers := []int{math.MinInt, math.MinInt + 1, -1, 0, 1, 63, 64, math.MaxInt}
	var ends []api.Link
	for _, u := range numbers {
		for _, v := range numbers {
			ends = append(ends, plain(u, v), link(u, v, u, v, u, v))
		}
	}
	for _, nodes := range append(numbers, 2, 65) {
		for _, l := range append(probe.Lists(ends, 1), []api.Link{plain(0, 1), plain(1, 1)}, []api.Link{plain(0, 1), plain(0, 63), plain(1, 63)}) {
			s := api.State{Nodes: nodes, Links: l}
			for _, call := range calls() {
				call(arguments{s, []api.Event{leave(1, 0), leave(1, 63)}, numbers})
			}
			for _, end := range ends {
				links.Find(s, end.U, end.V)
				links.Apply(s, set(end.Time, end.U, end.V, 3, 2, -1))
				links.Apply(s, cut(7, end.U, end.V))
				links.All(s, []api.Event{leave(7, end.U), cut(end.Time, end.U, end.V)})
				links.Where(s, []int{end.U}, end.V, end.U)
			}
		}
	}
}
