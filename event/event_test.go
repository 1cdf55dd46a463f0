package event_test

import (
	"testing"

	"cohesion/api"
	"cohesion/event"
)

func TestP4_1CheckOfExamples(t *testing.T) {
	for _, c := range []checked{
		{set(5, 0, 3, 10, 2, -1), api.OK}, {cut(70000, 63, 1), api.OK}, {leave(1<<20, 7), api.OK}, {leave(0, 0), api.OK},
		{api.Event{}, api.ErrKind}, {api.Event{Kind: 4}, api.ErrKind}, {api.Event{Kind: -1, Time: 5, U: 0, V: 3, Weight: 1, Sign: 1}, api.ErrKind},
		{set(-1, 0, 3, 10, 2, -1), api.ErrTime}, {cut(1<<20+1, 0, 3), api.ErrTime}, {leave(-1, 0), api.ErrTime},
		{set(5, 3, 3, 10, 2, -1), api.ErrNode}, {cut(5, 64, 3), api.ErrNode}, {leave(5, -1), api.ErrNode},
		{api.Event{Kind: api.EvLeave, U: 3, V: 1}, api.ErrNode}, {api.Event{Kind: api.EvCut, U: 3, V: 0}, api.OK},
		{set(5, 0, 3, 0, 2, -1), api.ErrRange}, {set(5, 0, 3, 1001, 2, -1), api.ErrRange}, {set(5, 0, 3, 1, 16, -1), api.ErrRange}, {set(5, 0, 3, 1, 2, 0), api.ErrRange},
		{api.Event{Kind: api.EvCut, U: 3, Weight: 1}, api.ErrRange}, {api.Event{Kind: api.EvLeave, U: 3, Label: 1}, api.ErrRange}, {api.Event{Kind: api.EvLeave, U: 3, Sign: 1}, api.ErrRange},
	} {
		if got := event.Check(c.e); got != c.want {
			t.Errorf("Check(%+v) = %d, want %d", c.e, got, c.want)
		}
	}
}

func TestP4_1CheckReturnsTheFirstErrorOfAllFields(t *testing.T) {
	seen := map[api.Errno]int{}
	eachChecked(func(c checked) {
		seen[c.want]++
		if got := event.Check(c.e); got != c.want {
			t.Errorf("Check(%+v) = %d, want %d", c.e, got, c.want)
		}
	})
	for _, e := range []api.Errno{api.OK, api.ErrKind, api.ErrTime, api.ErrNode, api.ErrRange} {
		if seen[e] < 500 {
			t.Errorf("only %d events have the error %d", seen[e], e)
		}
	}
}

func TestP4_1OfEachFieldAllValuesAroundItsLimits(t *testing.T) {
	for x := -70; x <= 1100; x++ {
		isNode := 0 <= x && x <= 63
		for _, c := range []struct {
			e       api.Event
			isRight bool
			wrong   api.Errno
		}{
			{cut(x, 1, 2), x >= 0, api.ErrTime}, {leave(1<<20-x, 1), x >= 0, api.ErrTime}, {set(1<<20-x, 1, 0, 1, 0, 1), x >= 0, api.ErrTime},
			{cut(0, x, 2), isNode && x != 2, api.ErrNode}, {cut(0, 62, x), isNode && x != 62, api.ErrNode}, {leave(0, x), isNode, api.ErrNode},
			{set(0, x, 2, 1, 0, 1), isNode && x != 2, api.ErrNode}, {set(0, 62, x, 1, 0, 1), isNode && x != 62, api.ErrNode},
			{api.Event{Kind: api.EvLeave, U: 5, V: x}, x == 0, api.ErrNode},
			{set(0, 1, 2, x, 0, 1), 1 <= x && x <= 1000, api.ErrRange}, {set(0, 1, 2, 1, x, 1), 0 <= x && x <= 15, api.ErrRange}, {set(0, 1, 2, 1, 0, x), x == 1 || x == -1, api.ErrRange},
			{api.Event{Kind: api.EvCut, V: 1, Weight: x}, x == 0, api.ErrRange}, {api.Event{Kind: api.EvCut, V: 1, Label: x}, x == 0, api.ErrRange}, {api.Event{Kind: api.EvCut, V: 1, Sign: x}, x == 0, api.ErrRange},
			{api.Event{Kind: api.EvLeave, U: 1, Weight: x}, x == 0, api.ErrRange}, {api.Event{Kind: api.EvLeave, U: 1, Label: x}, x == 0, api.ErrRange}, {api.Event{Kind: api.EvLeave, U: 1, Sign: x}, x == 0, api.ErrRange},
		} {
			want := c.wrong
			if c.isRight {
				want = api.OK
			}
			if got := event.Check(c.e); got != want {
				t.Errorf("Check(%+v) = %d, want %d", c.e, got, want)
			}
		}
	}
}
