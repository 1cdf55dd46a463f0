package window_test

import (
	"math"
	"slices"
	"testing"

	"cohesion/api"
	"cohesion/probe"
	"cohesion/window"
)

// arguments are all the memory that a call is given, the window and the time.
type arguments struct {
	s    api.State
	l    []api.Event
	w    api.Window
	time int
}

// Elements that occur in no list: some stand behind the ends of guarded lists, the others are written over lists.
var (
	untouchedLink, spoiltLink   = linkAt(-77, -78, -77), linkAt(-79, -80, -79)
	untouchedEvent, spoiltEvent = api.Event{Kind: -77}, api.Event{Kind: -79}
)

// Guarded is for probe.Fault, as all methods of arguments and results are.
func (a arguments) Guarded() arguments {
	a.s.Links, a.l = probe.Guarded(a.s.Links, untouchedLink), probe.Guarded(a.l, untouchedEvent)
	return a
}

func (a arguments) AreUnchanged(before arguments) bool {
	return probe.IsUnchanged(a.s.Links, before.s.Links, untouchedLink) && probe.IsUnchanged(a.l, before.l, untouchedEvent)
}

func (a arguments) Spoil() {
	probe.Spoil(a.s.Links, spoiltLink)
	probe.Spoil(a.l, spoiltEvent)
}

// result is all that a call returns.
type result struct {
	s      api.State
	events []api.Event
	time   int
	ok     bool
	err    api.Errno
}

func (r result) Clone() result {
	r.s.Links, r.events = slices.Clone(r.s.Links), slices.Clone(r.events)
	return r
}

func (r result) Equals(other result) bool {
	return same(r.s, other.s) && slices.Equal(r.events, other.events) && r.time == other.time && r.ok == other.ok && r.err == other.err
}

func (r result) Spoil() {
	probe.Spoil(r.s.Links, spoiltLink)
	probe.Spoil(r.events, spoiltEvent)
}

// calls are all functions.
func calls() map[string]func(a arguments) result {
	return map[string]func(a arguments) result{
		"Check":   func(a arguments) result { return result{err: window.Check(a.w)} },
		"Present": func(a arguments) (r result) { r.s, r.err = window.Present(a.s, a.w, a.time); return r },
		"Expired": func(a arguments) (r result) { r.events, r.err = window.Expired(a.s, a.w, a.time); return r },
		"Slide":   func(a arguments) (r result) { r.events, r.err = window.Slide(a.s.Nodes, a.l, a.w); return r },
		"Until":   func(a arguments) (r result) { r.time, r.ok, r.err = window.Until(a.s, a.w); return r },
	}
}

// givenWindows are windows of all kinds, right or not.
func givenWindows() []api.Window {
	windows := []api.Window{whole(), age(1), age(3), age(9), age(1 << 20), last(0), last(2), last(7), last(2016)}
	for _, c := range flawedWindows() {
		windows = append(windows, c.w)
	}
	return windows
}

// givenStates are states of all kinds.
func givenStates() []api.State {
	states := slices.Concat(statesOf(2, 0, 4), statesOf(3, 0, 4), largerStates()[:3], []api.State{state(0), state(1), state(64)})
	for _, f := range probe.FlawedStates() {
		states = append(states, f.State)
	}
	return states
}

// givenStreams are lists of events of all kinds.
func givenStreams() [][]api.Event {
	streams := [][]api.Event{
		nil, {}, {setAt(0, 0, 1)}, {setAt(0, 0, 1), setAt(4, 1, 0), leave(9, 1)}, {setAt(3, 2, 1), setAt(3, 1, 0), setAt(4, 2, 0), cut(5, 1, 2), leave(40, 2)}, longStream(50, 3, 2), longStream(200, 20, 3), {{}}, {leave(4, 0), leave(3, 0)}, {setAt(4, 0, 1), leave(5, 63)},
	}
	for _, c := range probe.WrongEvents() {
		streams = append(streams, []api.Event{setAt(1, 0, 1), c.Event, leave(9, 0)})
	}
	return streams
}

// eachCall tries all functions with all kinds of arguments.
func eachCall(try func(name string, call func(a arguments) result, given arguments)) {
	states, streams := givenStates(), givenStreams()
	for name, call := range calls() {
		for _, w := range givenWindows() {
			for i, s := range states {
				for _, time := range []int{-1, 4, latest(s), 1 << 20} {
					try(name, call, arguments{s, streams[i%len(streams)], w, time})
				}
			}
			for _, l := range streams {
				for _, nodes := range []int{-1, 0, 2, 3, 20, 64} {
					try(name, call, arguments{state(nodes), l, w, 9})
				}
			}
		}
	}
}

// R2: neither by a call nor by a change of a result, and no result follows later changes of arguments or of another result.
func TestNoMemoryIsChangedOrShared(t *testing.T) {
	eachCall(func(name string, call func(a arguments) result, given arguments) {
		if fault := probe.Fault(call, given); fault != "" {
			t.Errorf("%s %s: %s, %s, %+v, %d", name, fault, text(given.s), list(given.l), given.w, given.time)
		}
	})
}

// R3: with an error there is nothing else, and without one it is what is asked for.
func TestWithAnErrorThereIsNothingElse(t *testing.T) {
	failed := 0
	eachCall(func(name string, call func(a arguments) result, given arguments) {
		got := call(given)
		if got.err != api.OK {
			failed++
			if !got.Equals(result{err: got.err}) {
				t.Errorf("%s returns %+v: %s, %s, %+v, %d", name, got, text(given.s), list(given.l), given.w, given.time)
			}
		}
	})
	if failed < 1000 {
		t.Errorf("only %d calls had errors", failed)
	}
}

// R2: a nil list and an empty one are equivalent.
func TestNilAndEmptyListsAreEquivalent(t *testing.T) {
	for nodes := -1; nodes <= 66; nodes++ {
		bare, empty := state(nodes), api.State{Nodes: nodes, Links: []api.Link{}}
		for name, call := range calls() {
			for _, w := range givenWindows() {
				for _, time := range []int{-1, 0, 5, 1 << 20} {
					if !call(arguments{bare, nil, w, time}).Equals(call(arguments{empty, []api.Event{}, w, time})) {
						t.Errorf("%s of %d nodes without links, with the window %+v at %d, has two results", name, nodes, w, time)
					}
				}
			}
		}
	}
}

// R1: no arguments make a function panic.
func TestNothingPanics(t *testing.T) {
	numbers := []int{math.MinInt, math.MinInt + 1, -1, 0, 1, 2, 3, 64, 2016, 1 << 20, math.MaxInt}
	for _, kind := range numbers {
		for _, width := range numbers {
			for _, most := range numbers {
				w := api.Window{Kind: kind, Width: width, Most: most}
				for _, x := range numbers {
					s := state(x, linkAt(0, 1, 2), linkAt(0, 2, x), linkAt(1, x, 3), linkAt(x, x, x))
					l := []api.Event{setAt(1, 0, 1), setAt(x, 1, 0), {Kind: x, Time: x, U: x, V: x, Weight: x, Label: x, Sign: x}}
					for _, call := range calls() {
						for count := range len(s.Links) + 1 {
							call(arguments{state(x, s.Links[:count]...), l[:min(count, 3)], w, x})
						}
						call(arguments{state(64, s.Links[:2]...), l[:2], w, x})
					}
				}
			}
		}
	}
}
