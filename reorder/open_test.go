package reorder_test

import (
	"math"
	"slices"
	"testing"

	"cohesion/api"
	"cohesion/reorder"
)

func checkValid(t *testing.T, b api.Buffer, want bool) {
	t.Helper()
	if got := reorder.Valid(b); got != want {
		t.Errorf("Valid(%s) = %t, want %t", text(b), got, want)
	}
}

func checkOpen(t *testing.T, bound int) {
	t.Helper()
	want, wantErr := buffer(bound, -1, -1), api.OK
	if bound < 0 || bound > 1048576 {
		want, wantErr = api.Buffer{}, api.ErrRange
	}
	if got, err := reorder.Open(bound); !same(got, want) || err != wantErr {
		t.Errorf("Open(%d) = %s, error %d, want %s, error %d", bound, text(got), err, text(want), wantErr)
	}
	checkValid(t, buffer(bound, -1, -1), wantErr == api.OK)
}

func TestP6_1OpenReturnsABufferWithoutEvents(t *testing.T) {
	for bound := -100; bound <= 5000; bound++ {
		checkOpen(t, bound)
		checkOpen(t, 1<<20+100-bound)
	}
	for _, bound := range []int{math.MinInt, math.MinInt + 1, -1 << 32, -1 << 20, 1 << 19, 1 << 21, 1 << 32, 1<<32 + 1, math.MaxInt - 1, math.MaxInt} {
		checkOpen(t, bound)
	}
}

func TestP6_1ValidIsItsDefinition(t *testing.T) {
	valid, notValid := 0, 0
	for _, b := range slices.Concat(smallBuffers(), lastBuffers()) {
		want := isValid(b)
		checkValid(t, b, want)
		if want {
			valid++
		} else {
			notValid++
		}
	}
	if valid < 500 || notValid < 5000 {
		t.Errorf("%d buffers are valid, %d are not", valid, notValid)
	}
	for _, b := range largerBuffers() {
		checkValid(t, b, true)
	}
	for _, b := range flawedBuffers() {
		checkValid(t, b, false)
	}
}

func TestP6_1OfEachNumberAllValuesAroundItsLimits(t *testing.T) {
	waits := cut(1000, 1, 2)
	for x := -100; x <= 3000; x++ {
		last := 1<<20 + 100 - x
		checkValid(t, buffer(x, 5000, 10, waits), 0 <= x)
		checkValid(t, buffer(last, 5000, 10, waits), last <= 1048576)
		checkValid(t, buffer(0, x, -1), -1 <= x)
		checkValid(t, buffer(0, x, -1, waits), 1000 <= x)
		checkValid(t, buffer(0, x, 10), 10 <= x)
		checkValid(t, buffer(0, last, 10, waits), last <= 1048576)
		checkValid(t, buffer(0, 2000, x), -1 <= x && x <= 2000)
		checkValid(t, buffer(0, 2000, x, waits), -1 <= x && x < 1000)
		checkValid(t, buffer(0, x, x), -1 <= x)
		checkValid(t, buffer(0, last, last), last <= 1048576)
	}
	for _, x := range []int{math.MinInt, math.MinInt + 1, -1 << 32, -1 << 20, 1<<20 + 1, 1 << 32, 1<<32 + 1, math.MaxInt - 1, math.MaxInt} {
		for _, l := range [][]api.Event{nil, {waits}} {
			checkValid(t, buffer(x, 5000, 10, l...), false)
			checkValid(t, buffer(0, x, 10, l...), false)
			checkValid(t, buffer(0, 5000, x, l...), false)
			checkValid(t, buffer(0, x, x, l...), false)
			checkValid(t, buffer(x, x, x, l...), false)
		}
	}
}

func TestP6_1AtMostMaxWaitEventsWait(t *testing.T) {
	for _, bound := range []int{0, 1 << 20} {
		for count := 0; count < 5000; count += 1 + count%97 {
			checkValid(t, waitingFor(bound, count), count <= 4096)
		}
		for count := 4090; count < 4100; count++ {
			checkValid(t, waitingFor(bound, count), count <= 4096)
		}
		checkValid(t, waitingFor(bound, 100000), false)
	}
	// All of them may have the same time.
	for _, count := range []int{4095, 4096, 4097} {
		checkValid(t, buffer(3, 9, 8, slices.Repeat([]api.Event{leave(9, 1)}, count)...), count <= 4096)
	}
}

func TestP6_1EachWaitingEventIsChecked(t *testing.T) {
	for _, b := range []api.Buffer{waitingFor(7, 20), waitingFor(13, 300), waitingFor(1366, 4096)} {
		for i := 0; i < len(b.Waiting); i += 1 + i%13*len(b.Waiting)/300 {
			with := func(e api.Event) api.Buffer {
				return buffer(b.Bound, b.Latest, b.Mark, slices.Replace(slices.Clone(b.Waiting), i, i+1, e)...)
			}
			for _, wrong := range wrongAt(b.Waiting[i].Time) {
				checkValid(t, with(wrong), false)
			}
			checkValid(t, with(leave(b.Mark, 1)), false)
			checkValid(t, with(leave(b.Latest+1, 1)), false)
			checkValid(t, with(leave(b.Mark+1, 1)), b.Waiting[max(i-1, 0)].Time == b.Mark+1)
			checkValid(t, with(leave(b.Latest, 1)), i == len(b.Waiting)-1 || b.Waiting[i+1].Time == b.Latest)
		}
	}
}
