package reorder_test

import (
	"math"
	"slices"
	"testing"

	"cohesion/api"
	"cohesion/probe"
	"cohesion/reorder"
)

func checkFlush(t *testing.T, b api.Buffer, isValid bool) {
	t.Helper()
	want, wantReleased, wantErr := flushed(b, isValid)
	got, released, err := reorder.Flush(b)
	if !same(got, want) || !slices.Equal(released, wantReleased) || err != wantErr {
		t.Errorf("Flush(%s) = %s; %s; error %d, want %s; %s; error %d", text(b), text(got), list(released), err, text(want), list(wantReleased), wantErr)
	}
}

func checkSort(t *testing.T, bound int, l []api.Event) {
	t.Helper()
	want, wantLate, wantErr := sorted(bound, l)
	checkSorted(t, bound, l, want, wantLate, wantErr)
}

func checkSorted(t *testing.T, bound int, l, want []api.Event, wantLate int, wantErr api.Errno) {
	t.Helper()
	got, late, err := reorder.Sort(bound, l)
	if !slices.Equal(got, want) || late != wantLate || err != wantErr {
		t.Errorf("Sort(%d, %s) = %s, %d late, error %d, want %s, %d late, error %d", bound, list(l), list(got), late, err, list(want), wantLate, wantErr)
	}
}

func TestP6_3FlushIsItsDefinition(t *testing.T) {
	for _, b := range slices.Concat(smallBuffers(), lastBuffers()) {
		checkFlush(t, b, isValid(b))
	}
	for _, b := range largerBuffers() {
		checkFlush(t, b, true)
	}
	for _, b := range flawedBuffers() {
		checkFlush(t, b, false)
	}
}

func TestP6_3FlushReleasesAllEvents(t *testing.T) {
	l := eventsAt(3, 4, 4, 6, 9)
	for _, c := range []struct {
		b        api.Buffer
		want     api.Buffer
		released []api.Event
	}{
		{buffer(5, 9, 2, l...), buffer(5, 9, 9), l}, {buffer(5, 9, 2, l[:4]...), buffer(5, 9, 9), l[:4]}, {buffer(0, 9, 2), buffer(0, 9, 9), nil}, {buffer(5, 9, 9), buffer(5, 9, 9), nil}, {buffer(5, -1, -1), buffer(5, -1, -1), nil},
		{buffer(1<<20, 1<<20, -1), buffer(1<<20, 1<<20, 1<<20), nil}, {buffer(1<<20, 0, -1, leave(0, 0)), buffer(1<<20, 0, 0), []api.Event{leave(0, 0)}},
	} {
		if got, released, err := reorder.Flush(c.b); !same(got, c.want) || !slices.Equal(released, c.released) || err != api.OK {
			t.Errorf("Flush(%s) = %s, %s, error %d", text(c.b), text(got), list(released), err)
		}
	}
}

// What follows a flush is late up to the time that was the latest one, and waits as before behind it.
func TestP6_3PushBehindAFlush(t *testing.T) {
	for _, b := range largerBuffers() {
		empty, _, err := reorder.Flush(b)
		if err != api.OK || !reorder.Valid(empty) {
			t.Fatalf("a flush of %s leads to %s, error %d", text(b), text(empty), err)
		}
		checkFlush(t, empty, true)
		for time := max(0, b.Latest-20); time <= b.Latest; time++ {
			checkPushed(t, empty, leave(time, 0), empty, nil, api.ErrLate)
		}
		for time := b.Latest + 1; time <= min(1<<20, b.Latest+20); time++ {
			want := buffer(b.Bound, time, max(b.Latest, time-b.Bound-1), leave(time, 0))
			checkPushed(t, empty, leave(time, 0), want, nil, api.OK)
			checkFlush(t, want, true)
		}
	}
}

func TestP6_3SortIsItsDefinition(t *testing.T) {
	for _, times := range probe.Lists([]int{0, 1, 2, 3, 4}, 6) {
		for bound := range 5 {
			checkSort(t, bound, eventsAt(times...))
		}
	}
	for _, times := range probe.Lists([]int{0, 1, 7, 1<<20 - 1, 1 << 20}, 4) {
		for _, bound := range []int{-1, 0, 1, 5, 6, 7, 1<<20 - 8, 1<<20 - 7, 1<<20 - 2, 1<<20 - 1, 1 << 20, 1<<20 + 1} {
			checkSort(t, bound, eventsAt(times...))
		}
	}
	for _, times := range probe.Lists([]int{-1, 0, 1, 3, 1<<20 + 1}, 5) {
		checkSort(t, 1, eventsAt(times...))
	}
}

func TestP6_3SortReportsWrongBounds(t *testing.T) {
	for _, bound := range []int{math.MinInt, math.MinInt + 1, -1 << 32, -1, 1<<20 + 1, 1 << 32, math.MaxInt - 1, math.MaxInt} {
		for _, l := range [][]api.Event{nil, {}, eventsAt(1, 2, 3), {{}}, slices.Repeat([]api.Event{leave(1, 1)}, 5000)} {
			checkSorted(t, bound, l, nil, 0, api.ErrRange)
		}
	}
	for _, bound := range []int{0, 1, 1 << 20} {
		checkSorted(t, bound, nil, nil, 0, api.OK)
		checkSorted(t, bound, eventsAt(1, 2, 3), eventsAt(1, 2, 3), 0, api.OK)
	}
}

func TestP6_3SortReportsTheFirstWrongEvent(t *testing.T) {
	for _, wrong := range wrongEvents() {
		_, _, err := pushed(buffer(0, -1, -1), true, wrong)
		for _, times := range probe.Lists([]int{0, 3, 9}, 3) {
			for at := range len(times) + 1 {
				l := slices.Insert(eventsAt(times...), at, wrong)
				for _, bound := range []int{0, 2, 1 << 20} {
					checkSorted(t, bound, l, nil, 0, err)
					checkSorted(t, bound, append(slices.Clone(l), set(-1, 0, 0, 0, 0, 0), api.Event{}), nil, 0, err)
				}
			}
		}
	}
	// An event that is wrong and late is wrong.
	checkSorted(t, 0, []api.Event{leave(9, 0), cut(3, 2, 2)}, nil, 0, api.ErrNode)
	checkSorted(t, 0, []api.Event{leave(9, 0), leave(3, 0), set(3, 1, 2, 0, 0, 0)}, nil, 0, api.ErrRange)
}

func TestP6_3SortReportsThatTooManyEventsWait(t *testing.T) {
	most := slices.Repeat([]api.Event{leave(9, 1)}, 4096)
	for _, c := range []struct {
		bound int
		more  []api.Event
		late  int
		err   api.Errno
	}{
		{0, nil, 0, api.OK}, {1 << 20, nil, 0, api.OK}, {0, []api.Event{leave(9, 1)}, 0, api.ErrLimit}, {0, []api.Event{leave(10, 1)}, 0, api.ErrLimit}, {1 << 20, []api.Event{leave(0, 1)}, 0, api.ErrLimit}, {8, []api.Event{leave(1, 1)}, 0, api.ErrLimit},
		{8, []api.Event{leave(0, 1)}, 1, api.OK}, {8, []api.Event{leave(0, 1), leave(0, 2)}, 2, api.OK}, {0, []api.Event{leave(8, 1), leave(5, 1), leave(9, 1)}, 0, api.ErrLimit}, {0, []api.Event{leave(8, 1), {}}, 0, api.ErrKind}, {0, []api.Event{leave(9, 1), {}}, 0, api.ErrLimit},
	} {
		want := most
		if c.err != api.OK {
			want = nil
		}
		checkSorted(t, c.bound, slices.Concat(most, c.more), want, c.late, c.err)
	}
	// One event less waits, so that another one is taken, and those before it are released.
	l := append(most[:4095:4095], leave(10, 1), leave(10, 2))
	checkSorted(t, 0, l, l, 0, api.OK)
	checkSorted(t, 1, l, nil, 0, api.ErrLimit)
}

// mixed are many events that are out of order by at most a number, with some that are later than that.
func mixed(count, by int) []api.Event {
	var l []api.Event
	x := 1
	for i := range count {
		x = (x*1103515245 + 12345) % (1 << 31)
		time := i/2 + x>>8%(by+1)
		if x>>20%50 == 0 {
			time /= 2
		}
		l = append(l, numbered(time, i))
	}
	return l
}

func TestP6_3SortOfManyEvents(t *testing.T) {
	for _, by := range []int{0, 1, 5, 40, 200} {
		l := mixed(1200, by)
		for _, bound := range []int{0, 1, by, 50, 300, 1000, 1 << 20} {
			checkSort(t, bound, l)
		}
	}
	// There is no limit of the events of a list, only of those that wait.
	var long, late []api.Event
	for i := range 70000 {
		long = append(long, numbered(i, i))
		late = append(late, numbered(70000-i, i))
	}
	checkSorted(t, 3, long, long, 0, api.OK)
	checkSorted(t, 3, late, []api.Event{late[3], late[2], late[1], late[0]}, 69996, api.OK)
	checkSorted(t, 4094, long, long, 0, api.OK)
	checkSorted(t, 4095, long, nil, 0, api.ErrLimit)
}

// The example of the chapter.
func TestP6_3TheExampleSorted(t *testing.T) {
	l := eventsAt(5, 3, 6, 2)
	checkSorted(t, 2, l, []api.Event{l[1], l[0], l[2]}, 1, api.OK)
	checkSorted(t, 4, l, []api.Event{l[3], l[1], l[0], l[2]}, 0, api.OK)
	checkSorted(t, 1, l, []api.Event{l[0], l[2]}, 2, api.OK)
}
