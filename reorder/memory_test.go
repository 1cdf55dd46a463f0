package reorder_test

import (
	"math"
	"slices"
	"testing"

	"cohesion/api"
	"cohesion/probe"
	"cohesion/reorder"
)

// arguments are all the memory that a call is given, and the bound.
type arguments struct {
	b     api.Buffer
	l     []api.Event
	bound int
}

// Events that occur in no list: one stands behind the ends of guarded lists, the other is written over lists.
var untouched, spoilt = api.Event{Kind: -77}, api.Event{Kind: -79}

// Guarded is for probe.Fault, as all methods of arguments and results are.
func (a arguments) Guarded() arguments {
	a.b.Waiting, a.l = probe.Guarded(a.b.Waiting, untouched), probe.Guarded(a.l, untouched)
	return a
}

func (a arguments) AreUnchanged(before arguments) bool {
	return probe.IsUnchanged(a.b.Waiting, before.b.Waiting, untouched) && probe.IsUnchanged(a.l, before.l, untouched)
}

func (a arguments) Spoil() {
	probe.Spoil(a.b.Waiting, spoilt)
	probe.Spoil(a.l, spoilt)
}

// result is all that a call returns.
type result struct {
	b        api.Buffer
	released []api.Event
	late     int
	isValid  bool
	err      api.Errno
}

func (r result) Clone() result {
	r.b.Waiting, r.released = slices.Clone(r.b.Waiting), slices.Clone(r.released)
	return r
}

func (r result) Equals(other result) bool {
	return same(r.b, other.b) && slices.Equal(r.released, other.released) && r.late == other.late && r.isValid == other.isValid && r.err == other.err
}

func (r result) Spoil() {
	probe.Spoil(r.b.Waiting, spoilt)
	probe.Spoil(r.released, spoilt)
}

// calls are all functions; those that take one event take the first one of a list.
func calls() map[string]func(a arguments) result {
	return map[string]func(a arguments) result{
		"Open":  func(a arguments) (r result) { r.b, r.err = reorder.Open(a.bound); return r },
		"Valid": func(a arguments) result { return result{isValid: reorder.Valid(a.b)} },
		"Push": func(a arguments) (r result) {
			r.b, r.released, r.err = reorder.Push(a.b, slices.Concat(a.l, []api.Event{{}})[0])
			return r
		},
		"Flush": func(a arguments) (r result) { r.b, r.released, r.err = reorder.Flush(a.b); return r },
		"Sort":  func(a arguments) (r result) { r.released, r.late, r.err = reorder.Sort(a.bound, a.l); return r },
	}
}

// eventLists are lists of which the first event, or all of them, release none, some, or all, or cannot be taken.
func eventLists() [][]api.Event {
	return [][]api.Event{
		nil, {}, eventsAt(0, 1), eventsAt(3, 0, 3, 2), eventsAt(6, 3, 5, 2), eventsAt(12, 12, 1), eventsAt(1<<20, 1<<20-1, 1<<20), eventsAt(-1, 2), eventsAt(2, 1<<20+1), eventsAt(12, 8, 15, 0, 40, 36, 41, 60),
		{{}}, {leave(4, 0), cut(4, 1, 1)}, {set(5, 1, 2, 0, 0, 0)}, mixed(200, 20), slices.Repeat([]api.Event{leave(9, 1)}, 4097),
	}
}

// eachCall tries all functions with all kinds of arguments.
func eachCall(try func(name string, call func(a arguments) result, given arguments)) {
	buffers := slices.Concat(
		buffersOf([]int{-1, 0, 2}, []int{-1, 2, 3}, []int{-1, 0, 2}, []int{1, 2, 3}, 3), largerBuffers(), flawedBuffers(),
		[]api.Buffer{buffer(5, 40, 40), buffer(1<<20, -1, -1), buffer(1<<20, 12, 2, eventsAt(3, 3, 4, 7, 9, 12)...)},
	)
	for name, call := range calls() {
		for i, b := range buffers {
			for k, l := range eventLists() {
				if len(l) <= 100 || i%40 == 0 { // it is enough to try the long ones with some buffers
					try(name, call, arguments{b, l, []int{0, 1, 5, 1 << 20, -1, 30}[(i+k)%6]})
				}
			}
		}
	}
}

// R2: neither by a call nor by a change of a result, and no result follows later changes of arguments or of another result.
func TestNoMemoryIsChangedOrShared(t *testing.T) {
	eachCall(func(name string, call func(a arguments) result, given arguments) {
		if fault := probe.Fault(call, given); fault != "" {
			t.Errorf("%s %s: %s, %s", name, fault, text(given.b), list(given.l))
		}
	})
}

// The lists of one result do not share memory, not even by what is appended to them.
func TestWhatIsReleasedAndWhatWaitsAreApart(t *testing.T) {
	both := 0
	eachCall(func(name string, call func(a arguments) result, given arguments) {
		got := call(given)
		before := got.Clone()
		probe.Spoil(got.released, spoilt)
		_ = append(got.released, spoilt, spoilt)
		if !slices.Equal(got.b.Waiting, before.b.Waiting) {
			t.Errorf("%s shares what waits with what is released: %s, %s", name, text(given.b), list(given.l))
		}
		got = call(given)
		probe.Spoil(got.b.Waiting, spoilt)
		_ = append(got.b.Waiting, spoilt, spoilt)
		if !slices.Equal(got.released, before.released) {
			t.Errorf("%s shares what is released with what waits: %s, %s", name, text(given.b), list(given.l))
		}
		if len(before.released) > 0 && len(before.b.Waiting) > 0 {
			both++
		}
	})
	if both < 100 {
		t.Errorf("only %d calls released some events and let others wait", both)
	}
}

// R2: a nil list and an empty one are equivalent.
func TestNilAndEmptyListsAreEquivalent(t *testing.T) {
	for _, bound := range []int{-1, 0, 1, 5, 1 << 20, 1<<20 + 1} {
		for latest := -2; latest < 9; latest++ {
			for mark := -2; mark < 9; mark++ {
				bare, empty := buffer(bound, latest, mark), api.Buffer{Bound: bound, Latest: latest, Mark: mark, Waiting: []api.Event{}}
				for name, call := range calls() {
					for _, l := range eventLists()[:12] {
						if !call(arguments{bare, l, bound}).Equals(call(arguments{empty, l, bound})) {
							t.Errorf("%s with %s has two results", name, text(bare))
						}
					}
					if !call(arguments{bare, nil, bound}).Equals(call(arguments{empty, []api.Event{}, bound})) {
						t.Errorf("%s with %s and no events has two results", name, text(bare))
					}
				}
			}
		}
	}
}

// R1: no arguments make a function panic.
func TestNothingPanics(t *testing.T) {
	numbers := []int{math.MinInt, math.MinInt + 1, -2, -1, 0, 1, 1 << 20, 1<<20 + 1, math.MaxInt - 1, math.MaxInt}
	lists := [][]api.Event{nil, slices.Repeat([]api.Event{leave(1, 1)}, 4097)}
	for _, time := range numbers {
		lists = append(lists, []api.Event{leave(time, 1)}, []api.Event{leave(0, 1), leave(time, 1), leave(1, 1)}, []api.Event{{Kind: time, Time: time, U: time, V: time, Weight: time, Label: time, Sign: time}})
	}
	for _, bound := range numbers {
		for _, latest := range numbers {
			for _, mark := range numbers {
				for _, waiting := range lists {
					b := buffer(bound, latest, mark, waiting...)
					for _, call := range calls() {
						for _, l := range lists {
							if len(waiting)+len(l) < 10 || mark == 0 && latest == 1<<20 {
								call(arguments{b, l, bound})
							}
						}
					}
				}
			}
		}
	}
}
