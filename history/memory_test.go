package history_test

import (
	"math"
	"slices"
	"testing"

	"cohesion/api"
	"cohesion/history"
	"cohesion/probe"
)

// arguments are all the memory that a call is given, and the numbers.
type arguments struct {
	nodes      int
	l          []api.Event
	a, b       api.State
	set        []int
	time, u, v int
}

// Elements that occur in no list: some stand behind the ends of guarded lists, the others are written over lists.
var (
	untouchedEvent, spoiltEvent = api.Event{Kind: -77}, api.Event{Kind: -79}
	untouchedLink, spoiltLink   = linkAt(-77, -78, -77), linkAt(-79, -80, -79)
	untouchedNode, spoiltNode   = -77, -79
)

// Guarded is for probe.Fault, as all methods of arguments and results are.
func (a arguments) Guarded() arguments {
	a.l, a.set = probe.Guarded(a.l, untouchedEvent), probe.Guarded(a.set, untouchedNode)
	a.a.Links, a.b.Links = probe.Guarded(a.a.Links, untouchedLink), probe.Guarded(a.b.Links, untouchedLink)
	return a
}

func (a arguments) AreUnchanged(before arguments) bool {
	return probe.IsUnchanged(a.l, before.l, untouchedEvent) && probe.IsUnchanged(a.set, before.set, untouchedNode) &&
		probe.IsUnchanged(a.a.Links, before.a.Links, untouchedLink) && probe.IsUnchanged(a.b.Links, before.b.Links, untouchedLink)
}

func (a arguments) Spoil() {
	probe.Spoil(a.l, spoiltEvent)
	probe.Spoil(a.set, spoiltNode)
	probe.Spoil(a.a.Links, spoiltLink)
	probe.Spoil(a.b.Links, spoiltLink)
}

// result is all that a call returns.
type result struct {
	s      api.State
	events []api.Event
	times  []int
	spans  [][2]int
	time   int
	ok     bool
	err    api.Errno
}

func (r result) Clone() result {
	r.s.Links, r.events, r.times, r.spans = slices.Clone(r.s.Links), slices.Clone(r.events), slices.Clone(r.times), slices.Clone(r.spans)
	return r
}

func (r result) Equals(other result) bool {
	return same(r.s, other.s) && slices.Equal(r.events, other.events) && slices.Equal(r.times, other.times) && slices.Equal(r.spans, other.spans) &&
		r.time == other.time && r.ok == other.ok && r.err == other.err
}

func (r result) Spoil() {
	probe.Spoil(r.s.Links, spoiltLink)
	probe.Spoil(r.events, spoiltEvent)
	probe.Spoil(r.times, spoiltNode)
	probe.Spoil(r.spans, [2]int{spoiltNode, spoiltNode})
}

// calls are all functions.
func calls() map[string]func(a arguments) result {
	return map[string]func(a arguments) result{
		"Check":   func(a arguments) result { return result{err: history.Check(a.nodes, a.l)} },
		"At":      func(a arguments) (r result) { r.s, r.err = history.At(a.nodes, a.l, a.time); return r },
		"Between": func(a arguments) (r result) { r.events, r.err = history.Between(a.a, a.b, a.time); return r },
		"Times":   func(a arguments) (r result) { r.times, r.err = history.Times(a.nodes, a.l); return r },
		"First":   func(a arguments) (r result) { r.time, r.ok, r.err = history.First(a.nodes, a.l, a.u, a.v); return r },
		"Joined":  func(a arguments) (r result) { r.time, r.ok, r.err = history.Joined(a.nodes, a.l, a.set); return r },
		"Life":    func(a arguments) (r result) { r.spans, r.err = history.Life(a.nodes, a.l, a.u, a.v); return r },
	}
}

// givenHistories are histories of all kinds, right or not.
func givenHistories() []story {
	given := []story{
		{0, nil}, {2, nil}, {64, []api.Event{}}, {2, []api.Event{setAt(0, 0, 1)}}, {3, []api.Event{setAt(0, 0, 1), setAt(4, 1, 2), cut(4, 1, 0), leave(9, 1)}}, {3, []api.Event{setAt(3, 2, 1), setAt(3, 1, 0), leave(4, 1), setAt(5, 0, 1), leave(40, 2)}},
		{3, longStream(50, 3, 2)}, {20, longStream(200, 20, 3)}, {64, longStream(200, 64, 1)}, {-1, nil}, {65, nil}, {1, []api.Event{setAt(0, 0, 1)}}, {4, []api.Event{leave(4, 0), leave(3, 0)}},
	}
	for _, e := range probe.WrongEvents() {
		given = append(given, story{4, []api.Event{setAt(1, 0, 1), e.Event, leave(9, 0)}})
	}
	return given
}

// givenStates are states of all kinds, right or not.
func givenStates() []api.State {
	states := slices.Concat(statesOf(2), statesOf(3)[:20], largerStates()[:4], []api.State{state(0), state(1)})
	for _, f := range probe.FlawedStates() {
		states = append(states, f.State)
	}
	return states
}

// eachCall tries all functions with all kinds of arguments.
func eachCall(try func(name string, call func(a arguments) result, given arguments)) {
	states, sets := givenStates(), [][]int{nil, {1}, {0, 1}, {0, 1, 2}, {1, 0}, {3, 64}, {-1}}
	for name, call := range calls() {
		for i, h := range givenHistories() {
			for k, set := range sets {
				for time, ends := range map[int][2]int{-1: {0, 1}, 3: {2, 1}, 9: {0, 0}, 1 << 20: {1, 3}, math.MaxInt: {-1, 64}} {
					try(name, call, arguments{h.nodes, h.l, states[(i*5+k)%len(states)], states[(i*3+k*7)%len(states)], set, time, ends[0], ends[1]})
				}
			}
		}
	}
	for _, a := range states {
		for _, b := range states {
			try("Between", calls()["Between"], arguments{a: a, b: b, time: 7})
		}
	}
}

// R2: neither by a call nor by a change of a result, and no result follows later changes of arguments or of another result.
func TestNoMemoryIsChangedOrShared(t *testing.T) {
	eachCall(func(name string, call func(a arguments) result, given arguments) {
		if fault := probe.Fault(call, given); fault != "" {
			t.Errorf("%s %s: %+v", name, fault, given)
		}
	})
}

// R3: with an error, or without a time that is asked for, there is nothing else.
func TestWithAnErrorThereIsNothingElse(t *testing.T) {
	failed := 0
	eachCall(func(name string, call func(a arguments) result, given arguments) {
		got := call(given)
		if got.err != api.OK {
			failed++
			if !got.Equals(result{err: got.err}) {
				t.Errorf("%s returns %+v: %+v", name, got, given)
			}
		}
		if !got.ok && got.time != 0 {
			t.Errorf("%s returns no time, but %d: %+v", name, got.time, given)
		}
	})
	if failed < 1000 {
		t.Errorf("only %d calls had errors", failed)
	}
}

// R2: a nil list and an empty one are equivalent.
func TestNilAndEmptyListsAreEquivalent(t *testing.T) {
	for nodes := -1; nodes <= 66; nodes++ {
		bare, empty := state(nodes), api.State{Nodes: nodes, Links: []api.Link{}}
		for name, call := range calls() {
			for _, x := range []int{-1, 0, 1, 5, 63, 1 << 20} {
				if !call(arguments{nodes, nil, bare, bare, nil, x, 0, x}).Equals(call(arguments{nodes, []api.Event{}, empty, empty, []int{}, x, 0, x})) {
					t.Errorf("%s of %d nodes, with %d, has two results", name, nodes, x)
				}
			}
		}
	}
}

// R1: no arguments make a function panic.
func TestNothingPanics(t *testing.T) {
	numbers := []int{math.MinInt, math.MinInt + 1, -1, 0, 1, 2, 3, 63, 64, 65, 1 << 20, math.MaxInt}
	for _, x := range numbers {
		for _, y := range numbers {
			l := []api.Event{setAt(1, 0, 1), setAt(x, 1, 0), {Kind: y, Time: x, U: x, V: y, Weight: y, Label: x, Sign: y}}
			s := state(y, linkAt(0, 1, 2), linkAt(0, 2, x), linkAt(1, x, 3), linkAt(x, y, x))
			for _, nodes := range append(numbers, 4) {
				for count := range len(l) + 1 {
					for _, call := range calls() {
						call(arguments{nodes, l[:count], state(nodes, s.Links[:count]...), s, []int{x, y}[:min(count, 2)], x, x, y})
						call(arguments{nodes, l[:count], state(y, s.Links[:count]...), state(y), []int{0, x, y}, y, 0, y})
					}
				}
			}
		}
	}
}
