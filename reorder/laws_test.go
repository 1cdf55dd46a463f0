package reorder_test

import (
	"cmp"
	"slices"
	"testing"

	"cohesion/api"
	"cohesion/probe"
	"cohesion/reorder"
)

// flushHere stands in a stream for a flush, where others stand for the time of an event that is pushed.
const flushHere = -1

// passage is what happened to a stream so far.
type passage struct {
	b               api.Buffer
	taken, released []api.Event
	wasFlushed      bool
}

// step is a call of Push, or of Flush, and what it led to.
type step struct {
	before, behind passage
	e              api.Event
	isFlush        bool
	released       []api.Event
	err            api.Errno
}

// eachStep goes with a stream through an opened buffer and flushes it at the end.
func eachStep(t *testing.T, bound int, stream []int, try func(s step)) {
	t.Helper()
	b, err := reorder.Open(bound)
	if err != api.OK {
		t.Fatalf("Open(%d) has error %d", bound, err)
	}
	now := passage{b: b}
	for i, time := range append(slices.Clone(stream), flushHere) {
		s := step{before: now, behind: now, e: numbered(time, i), isFlush: time == flushHere}
		if s.isFlush {
			s.behind.b, s.released, s.err = reorder.Flush(now.b)
			s.behind.wasFlushed = true
		} else {
			s.behind.b, s.released, s.err = reorder.Push(now.b, s.e)
			if s.err == api.OK {
				s.behind.taken = append(now.taken, s.e)
			}
		}
		s.behind.released = append(now.released, s.released...)
		try(s)
		now = s.behind
	}
}

// eachStream tries all short streams, also with flushes, and some long ones, with several bounds.
func eachStream(try func(bound int, stream []int)) {
	for _, stream := range probe.Lists([]int{flushHere, 0, 1, 2, 4}, 6) {
		for _, bound := range []int{0, 1, 2, 3} {
			try(bound, stream)
		}
	}
	for _, by := range []int{0, 3, 20} {
		stream := times(mixed(400, by))
		try(by, stream)
		try(by/2, stream)
		try(1<<20, stream)
		for i := 30; i < len(stream); i += 70 {
			stream[i] = flushHere
		}
		try(by, stream)
		try(1<<20, stream)
	}
}

func byTime(a, b api.Event) int { return cmp.Compare(a.Time, b.Time) }

// counted tells how often each event stands in a list.
func counted(l []api.Event) map[api.Event]int {
	counts := map[api.Event]int{}
	for _, e := range l {
		counts[e]++
	}
	return counts
}

func TestReleasedTimesDoNotDescend(t *testing.T) {
	eachStream(func(bound int, stream []int) {
		eachStep(t, bound, stream, func(s step) {
			if !slices.IsSortedFunc(s.behind.released, byTime) {
				t.Errorf("bound %d, stream %v: %s were released", bound, stream, list(s.behind.released))
			}
		})
	})
}

func TestEachTakenEventIsReleasedOnce(t *testing.T) {
	eachStream(func(bound int, stream []int) {
		var last passage
		eachStep(t, bound, stream, func(s step) { last = s.behind })
		taken, released := counted(last.taken), counted(last.released)
		if len(last.b.Waiting) != 0 || len(taken) != len(last.taken) || len(last.released) != len(last.taken) {
			t.Errorf("bound %d, stream %v: %s were taken, %s released", bound, stream, list(last.taken), list(last.released))
		}
		for e, count := range taken {
			if released[e] != count {
				t.Errorf("bound %d, stream %v: %v is released %d times", bound, stream, e, released[e])
			}
		}
	})
}

// What was taken and not yet released waits, and events of one time keep the order in which they came.
func TestWhatIsNotReleasedWaits(t *testing.T) {
	eachStream(func(bound int, stream []int) {
		eachStep(t, bound, stream, func(s step) {
			all := slices.Concat(s.behind.released, s.behind.b.Waiting)
			want := slices.Clone(s.behind.taken)
			slices.SortStableFunc(want, byTime)
			if !slices.Equal(all, want) {
				t.Errorf("bound %d, stream %v: %s were released or wait, %s were taken", bound, stream, list(all), list(want))
			}
		})
	})
}

func TestEventsWithinTheBoundAreNeverLate(t *testing.T) {
	late := 0
	eachStream(func(bound int, stream []int) {
		eachStep(t, bound, stream, func(s step) {
			if s.isFlush || s.before.wasFlushed {
				return
			}
			isWithin := s.before.b.Latest-s.e.Time <= bound
			if isWithin != (s.err == api.OK) || isWithin == (s.err == api.ErrLate) {
				t.Errorf("bound %d, stream %v: %v has error %d with %s", bound, stream, s.e, s.err, text(s.before.b))
			}
			if !isWithin {
				late++
			}
		})
	})
	if late < 1000 {
		t.Errorf("only %d events were late", late)
	}
}

// Up to the mark everything was released, and nothing behind it; what follows an error is as if it had not been.
func TestTheMarkDividesWhatIsReleased(t *testing.T) {
	eachStream(func(bound int, stream []int) {
		eachStep(t, bound, stream, func(s step) {
			if !reorder.Valid(s.behind.b) || s.behind.b.Mark < s.before.b.Mark || s.behind.b.Latest < s.before.b.Latest || s.behind.b.Bound != bound {
				t.Errorf("bound %d, stream %v: %s leads to %s", bound, stream, text(s.before.b), text(s.behind.b))
			}
			for _, e := range s.released {
				if e.Time <= s.before.b.Mark || e.Time > s.behind.b.Mark {
					t.Errorf("bound %d, stream %v: %v is released at the mark %d", bound, stream, e, s.behind.b.Mark)
				}
			}
			if s.err != api.OK && (s.err != api.ErrLate || !same(s.before.b, s.behind.b) || len(s.released) > 0) {
				t.Errorf("bound %d, stream %v: with error %d, %s leads to %s", bound, stream, s.err, text(s.before.b), text(s.behind.b))
			}
		})
	})
}

func TestWithoutLateEventsSortIsAStableSort(t *testing.T) {
	compared := 0
	check := func(bound int, l []api.Event) {
		got, late, err := reorder.Sort(bound, l)
		if err != api.OK || late > 0 {
			return
		}
		want := slices.Clone(l)
		slices.SortStableFunc(want, byTime)
		if !slices.Equal(got, want) {
			t.Errorf("Sort(%d, %s) = %s, want %s", bound, list(l), list(got), list(want))
		}
		compared++
	}
	for _, times := range probe.Lists([]int{0, 1, 2, 3, 1 << 20}, 5) {
		for _, bound := range []int{0, 1, 2, 3, 1 << 20} {
			check(bound, eventsAt(times...))
		}
	}
	if compared < 5000 {
		t.Errorf("only %d lists were sorted without late events", compared)
	}
	for _, by := range []int{0, 3, 20, 500, 4000} {
		compared = 0
		if check(1<<20, mixed(4000, by)); compared != 1 {
			t.Errorf("events out of order by %d were not sorted without late ones", by)
		}
	}
}

// A greater bound takes whatever a lesser one takes.
func TestAGreaterBoundLetsNoMoreEventsBeLate(t *testing.T) {
	for _, by := range []int{0, 3, 20, 500} {
		l := mixed(2000, by)
		before := len(l)
		for _, bound := range []int{0, 1, 2, 5, 10, 50, 300, 700, 1000, 1 << 20} {
			got, late, err := reorder.Sort(bound, l)
			if late > before || len(got)+late != len(l) || err != api.OK {
				t.Errorf("Sort(%d, %s) = %s, %d late, error %d; %d were late before", bound, list(l), list(got), late, err, before)
			}
			before = late
		}
	}
}
