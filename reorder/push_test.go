package reorder_test

import (
	"math"
	"slices"
	"testing"

	"cohesion/api"
	"cohesion/reorder"
)

// checkPush compares Push with its definition; it is known whether the buffer is valid.
func checkPush(t *testing.T, b api.Buffer, isValid bool, e api.Event) {
	t.Helper()
	want, wantReleased, wantErr := pushed(b, isValid, e)
	checkPushed(t, b, e, want, wantReleased, wantErr)
}

func checkPushed(t *testing.T, b api.Buffer, e api.Event, want api.Buffer, wantReleased []api.Event, wantErr api.Errno) {
	t.Helper()
	got, released, err := reorder.Push(b, e)
	if !same(got, want) || !slices.Equal(released, wantReleased) || err != wantErr {
		t.Errorf("Push(%s; %v) = %s; %s; error %d, want %s; %s; error %d", text(b), e, text(got), list(released), err, text(want), list(wantReleased), wantErr)
	}
}

func TestP6_2PushIsItsDefinition(t *testing.T) {
	for _, b := range smallBuffers() {
		isValid := isValid(b)
		for time := -1; time <= 8; time++ {
			checkPush(t, b, isValid, numbered(time, 9))
		}
	}
	for _, b := range lastBuffers() {
		isValid := isValid(b)
		for _, time := range []int{-1, 0, 1, 2, 1<<20 - 3, 1<<20 - 2, 1<<20 - 1, 1 << 20, 1<<20 + 1} {
			checkPush(t, b, isValid, numbered(time, 9))
		}
	}
}

func TestP6_2PushIntoLargerBuffers(t *testing.T) {
	for _, b := range largerBuffers() {
		for _, past := range []int{0, b.Mark, b.Latest, b.Latest + b.Bound, 1 << 20} {
			for time := past - 15; time <= past+15; time++ {
				checkPush(t, b, true, set(time, 62, 63, 7, 7, -1))
			}
		}
		for time := b.Mark; time <= b.Latest; time += 1 + (b.Latest-b.Mark)/40 {
			checkPush(t, b, true, leave(time, 63))
			checkPush(t, b, true, leave(time+b.Bound, 63))
		}
	}
}

func TestP6_2AnEventWaitsBehindThoseOfItsTime(t *testing.T) {
	a, c, d, f := leave(4, 1), cut(5, 1, 2), leave(5, 1), cut(6, 1, 2)
	checkPushed(t, buffer(9, -1, -1), a, buffer(9, 4, -1, a), nil, api.OK)
	checkPushed(t, buffer(9, 6, 2, a, c, f), d, buffer(9, 6, 2, a, c, d, f), nil, api.OK)
	checkPushed(t, buffer(9, 6, 2, a, d, f), c, buffer(9, 6, 2, a, d, c, f), nil, api.OK)
	checkPushed(t, buffer(9, 6, 2, a, d, f), d, buffer(9, 6, 2, a, d, d, f), nil, api.OK)
	checkPushed(t, buffer(9, 6, 2, c, d, f), a, buffer(9, 6, 2, a, c, d, f), nil, api.OK)
	checkPushed(t, buffer(9, 5, 2, a, c, d), f, buffer(9, 6, 2, a, c, d, f), nil, api.OK)
	checkPushed(t, buffer(9, 6, 2, f), a, buffer(9, 6, 2, a, f), nil, api.OK)
	checkPushed(t, buffer(9, 6, 2), a, buffer(9, 6, 2, a), nil, api.OK)
}

func TestP6_2WhatIsLateEnoughIsReleased(t *testing.T) {
	l := eventsAt(3, 4, 4, 6, 7)
	b := buffer(3, 7, 2, l...)
	// None, some and all of them; the event itself is only released if the buffer waits for less than it could.
	checkPushed(t, b, cut(5, 1, 2), buffer(3, 7, 3, l[1], l[2], cut(5, 1, 2), l[3], l[4]), l[:1], api.OK)
	waits := buffer(4, 7, 2, l...)
	for _, c := range []struct{ time, count, mark int }{
		{7, 0, 2}, {8, 1, 3}, {9, 3, 4}, {10, 3, 5}, {11, 4, 6}, {12, 5, 7}, {13, 5, 8}, {1 << 20, 5, 1<<20 - 5},
	} {
		e := leave(c.time, 9)
		checkPushed(t, waits, e, buffer(4, c.time, c.mark, append(slices.Clone(l[c.count:]), e)...), l[:c.count], api.OK)
	}
	checkPushed(t, buffer(0, 9, 2, l...), leave(3, 9), buffer(0, 9, 8), []api.Event{l[0], leave(3, 9), l[1], l[2], l[3], l[4]}, api.OK)
	checkPushed(t, buffer(0, -1, -1), leave(0, 9), buffer(0, 0, -1, leave(0, 9)), nil, api.OK)
	checkPushed(t, buffer(0, 0, -1, leave(0, 9)), leave(1, 8), buffer(0, 1, 0, leave(1, 8)), []api.Event{leave(0, 9)}, api.OK)
	checkPushed(t, buffer(1<<20, -1, -1), leave(1<<20, 9), buffer(1<<20, 1<<20, -1, leave(1<<20, 9)), nil, api.OK)
	checkPushed(t, buffer(1<<20-1, 0, -1, leave(0, 9)), leave(1<<20, 8), buffer(1<<20-1, 1<<20, 0, leave(1<<20, 8)), []api.Event{leave(0, 9)}, api.OK)
}

func TestP6_2TheMarkDoesNotBecomeSmaller(t *testing.T) {
	// As a flush leaves the buffer: the mark is at the latest time.
	checkPushed(t, buffer(5, 10, 10), leave(11, 1), buffer(5, 11, 10, leave(11, 1)), nil, api.OK)
	checkPushed(t, buffer(5, 11, 10, leave(11, 1)), leave(16, 2), buffer(5, 16, 10, leave(11, 1), leave(16, 2)), nil, api.OK)
	checkPushed(t, buffer(5, 16, 10, leave(11, 1), leave(16, 2)), leave(17, 3), buffer(5, 17, 11, leave(16, 2), leave(17, 3)), []api.Event{leave(11, 1)}, api.OK)
	checkPushed(t, buffer(5, 10, 10), leave(10, 1), buffer(5, 10, 10), nil, api.ErrLate)
	checkPushed(t, buffer(1<<20, 1<<20-1, 1<<20-1), leave(1<<20, 1), buffer(1<<20, 1<<20, 1<<20-1, leave(1<<20, 1)), nil, api.OK)
}

func TestP6_2ErrorsInTheirOrder(t *testing.T) {
	good, late, wrong := cut(11, 1, 2), cut(9, 1, 2), cut(9, 2, 2)
	full := waitingFor(1<<20, 4096)
	for _, e := range []api.Event{good, late, wrong} {
		for _, b := range flawedBuffers() {
			checkPushed(t, b, e, b, nil, api.ErrForm)
		}
	}
	for _, b := range []api.Buffer{full, waitingFor(3, 7), buffer(3, 9, 9), buffer(3, -1, -1), buffer(1<<20, 1<<20, 1<<20)} {
		for _, wrong := range wrongEvents() {
			checkPush(t, b, true, wrong)
		}
	}
	checkPushed(t, full, wrong, full, nil, api.ErrNode)
	checkPushed(t, full, cut(-1, 2, 2), full, nil, api.ErrTime)
	checkPushed(t, full, set(9, 1, 2, 0, 0, 0), full, nil, api.ErrRange)
	checkPushed(t, full, late, full, nil, api.ErrLate)
	checkPushed(t, full, cut(0, 1, 2), full, nil, api.ErrLate)
	checkPushed(t, full, good, full, nil, api.ErrLimit)
	checkPushed(t, full, cut(10, 1, 2), full, nil, api.ErrLimit)
}

func TestP6_2LateEvents(t *testing.T) {
	for mark := -1; mark < 40; mark++ {
		for _, b := range []api.Buffer{buffer(3, mark, mark), buffer(3, 50, mark), buffer(3, 50, mark, leave(40, 1), leave(50, 2)), buffer(1<<20, 1<<20, mark)} {
			for time := 0; time <= 50; time++ {
				_, _, err := reorder.Push(b, leave(time, 0))
				if (err == api.ErrLate) != (time <= mark) || err != api.ErrLate && err != api.OK {
					t.Errorf("an event at %d is pushed into %s with error %d", time, text(b), err)
				}
				checkPush(t, b, true, leave(time, 0))
			}
		}
	}
	last := buffer(0, 1<<20, 1<<20)
	checkPushed(t, last, leave(1<<20, 0), last, nil, api.ErrLate)
	checkPushed(t, last, leave(0, 0), last, nil, api.ErrLate)
}

func TestP6_2AFullBuffer(t *testing.T) {
	nearly := waitingFor(1<<20, 4095)
	checkPush(t, nearly, true, leave(10, 0))
	if b, _, err := reorder.Push(nearly, leave(700, 0)); len(b.Waiting) != 4096 || !reorder.Valid(b) || err != api.OK {
		t.Errorf("behind a push %d events wait, error %d", len(b.Waiting), err)
	}
	// It does not matter whether an event would have released others.
	full := waitingFor(1366, 4096)
	for _, time := range []int{10, 1000, full.Latest, full.Latest + 1, 5000, 1 << 20} {
		checkPushed(t, full, leave(time, 0), full, nil, api.ErrLimit)
	}
}

func TestP6_2NumbersOfAnyKind(t *testing.T) {
	numbers := []int{math.MinInt, math.MinInt + 1, -2, -1, 0, 1, 1 << 20, 1<<20 + 1, math.MaxInt - 1, math.MaxInt}
	for _, bound := range numbers {
		for _, latest := range numbers {
			for _, mark := range numbers {
				for _, b := range []api.Buffer{buffer(bound, latest, mark), buffer(bound, latest, mark, leave(1, 0)), buffer(bound, latest, mark, leave(latest, 0))} {
					isValid := isValid(b)
					for _, time := range numbers {
						checkPush(t, b, isValid, leave(time, 1))
					}
				}
			}
		}
	}
}

// The example of the chapter.
func TestP6_2ThreeIsTakenAndTwoIsLate(t *testing.T) {
	b := buffer(2, -1, -1)
	for _, step := range []struct {
		time, mark int
		waiting    []int
		released   []int
		err        api.Errno
	}{
		{5, 2, []int{5}, nil, api.OK}, {3, 2, []int{3, 5}, nil, api.OK}, {6, 3, []int{5, 6}, []int{3}, api.OK}, {2, 3, []int{5, 6}, nil, api.ErrLate},
	} {
		got, released, err := reorder.Push(b, leave(step.time, 1))
		if got.Mark != step.mark || !slices.Equal(times(got.Waiting), step.waiting) || !slices.Equal(times(released), step.released) || err != step.err {
			t.Errorf("behind %d there is %s; %s; error %d", step.time, text(got), list(released), err)
		}
		b = got
	}
}

func times(l []api.Event) []int {
	var times []int
	for _, e := range l {
		times = append(times, e.Time)
	}
	return times
}
