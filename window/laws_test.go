package window_test

import (
	"slices"
	"testing"

	"cohesion/api"
	"cohesion/event"
	"cohesion/links"
	"cohesion/window"
)

// eachStreamOfAnyLength tries short streams of all kinds and some long ones, with windows of all kinds.
func eachStreamOfAnyLength(try func(nodes int, l []api.Event, w api.Window)) {
	eachStream(3, []int{0, 1, 2}, func(l []api.Event) {
		for _, w := range []api.Window{whole(), age(1), age(2), age(3), last(0), last(1), last(2)} {
			try(3, l, w)
		}
	})
	for nodes, streams := range longStreams() {
		for _, l := range streams {
			for _, w := range []api.Window{whole(), age(1), age(9), age(60), age(5000), last(0), last(3), last(20), last(2016)} {
				try(nodes, l[:min(len(l), 150)], w) // what is put out of each beginning is looked at, so not too many
			}
		}
	}
}

// steps returns of each event of a list what Slide puts out up to it, with the cuts behind it if the window is one by number;
// each of them goes on where the one before it ends.
func steps(t *testing.T, nodes int, l []api.Event, w api.Window) [][]api.Event {
	t.Helper()
	whole, err := window.Slide(nodes, l, w)
	if err != api.OK {
		t.Fatalf("Slide(%d, %s, %+v) has error %d", nodes, list(l), w, err)
	}
	var parts [][]api.Event
	before := 0
	for i := range l {
		begun, err := window.Slide(nodes, l[:i+1], w)
		if err != api.OK || len(begun) <= before || len(begun) > len(whole) || !slices.Equal(begun, whole[:len(begun)]) {
			t.Fatalf("Slide(%d, %s, %+v) = %s, error %d, but of the first %d events %s", nodes, list(l), w, list(whole), err, i+1, list(begun))
		}
		parts = append(parts, begun[before:])
		before = len(begun)
	}
	if before != len(whole) {
		t.Fatalf("Slide(%d, %s, %+v) goes on behind the last event: %s", nodes, list(l), w, list(whole))
	}
	return parts
}

// happen returns the state behind events that have no error.
func happen(t *testing.T, s api.State, l ...api.Event) api.State {
	t.Helper()
	next, _, err := links.All(s, l)
	if err != api.OK {
		t.Fatalf("All(%s, %s) has error %d", text(s), list(l), err)
	}
	return next
}

func TestBehindEachEventTheWindowIsPresent(t *testing.T) {
	eachStreamOfAnyLength(func(nodes int, l []api.Event, w api.Window) {
		s, unbound := state(nodes), state(nodes)
		for i, part := range steps(t, nodes, l, w) {
			s = happen(t, s, part...)
			unbound = happen(t, unbound, l[i])
			want, err := window.Present(unbound, w, l[i].Time)
			if w.Kind == api.WinCount {
				unbound = want // what has fallen out does not come back
			}
			if !same(s, want) || err != api.OK {
				t.Fatalf("behind the event %d of %s, with the window %+v, there is %s, want %s, error %d", i, list(l), w, text(s), text(want), err)
			}
		}
	})
}

// All events are put out, in their order; whatever is put out beside them is a cut that changes something.
func TestTheCutsStandBetweenTheEvents(t *testing.T) {
	cuts := 0
	eachStreamOfAnyLength(func(nodes int, l []api.Event, w api.Window) {
		s := state(nodes)
		for i, part := range steps(t, nodes, l, w) {
			at := len(part) - 1
			if w.Kind == api.WinCount {
				at = 0
			}
			for k, e := range part {
				next := happen(t, s, e)
				switch {
				case k == at && e != l[i]:
					t.Fatalf("with the window %+v, %s has %+v instead of the event %d", w, list(l), e, i)
				case k != at && (e.Kind != api.EvCut || e.U >= e.V || len(next.Links) != len(s.Links)-1):
					t.Fatalf("with the window %+v, %s has %+v beside the event %d, which cuts nothing", w, list(l), e, i)
				case k != at:
					cuts++
				}
				s = next
			}
		}
	})
	if cuts < 10000 {
		t.Errorf("there were only %d cuts", cuts)
	}
}

func TestStreamsAreValidAndTheirTimesDoNotDescend(t *testing.T) {
	eachStreamOfAnyLength(func(nodes int, l []api.Event, w api.Window) {
		stream, err := window.Slide(nodes, l, w)
		if again, other := window.Slide(nodes, stream, whole()); !slices.Equal(again, stream) || err != api.OK || other != api.OK {
			t.Errorf("Slide(%d, %s, %+v) = %s, error %d, which is no stream, with error %d", nodes, list(l), w, list(stream), err, other)
		}
	})
}

// What Expired returns leads from a state to what Present returns, which is valid and has nothing more to expire at this time.
func TestExpiredLeadsToPresent(t *testing.T) {
	for _, s := range slices.Concat(smallStates(), largerStates()) {
		for _, w := range largerWindows() {
			for _, time := range []int{latest(s), (latest(s) + 1<<20) / 2, 1 << 20} {
				cuts, _ := window.Expired(s, w, time)
				kept, err := window.Present(s, w, time)
				if links.Check(kept) != api.OK || err != api.OK || !same(kept, happen(t, s, cuts...)) || len(kept.Links)+len(cuts) != len(s.Links) {
					t.Errorf("of %s, the window %+v has %s at %d, and what expires is %s", text(s), w, text(kept), time, list(cuts))
				}
				if again, err := window.Present(kept, w, time); !same(again, kept) || err != api.OK {
					t.Errorf("of %s, which is present, the window %+v has %s at %d, error %d", text(kept), w, text(again), time, err)
				}
				for _, c := range cuts {
					if event.Check(c) != api.OK || c.Kind != api.EvCut || c.Time != time || c.U >= c.V {
						t.Errorf("%+v expires at %d in %s", c, time, text(s))
					}
				}
			}
		}
	}
}

// Before the time that Until returns, all is present that ever will be; at this time something has expired.
func TestUntilIsWhenSomethingExpires(t *testing.T) {
	seen := 0
	for _, s := range append(smallStates(), largerStates()...) {
		for _, w := range append(smallWindows(), largerWindows()...) {
			until, ok, err := window.Until(s, w)
			if err != api.OK {
				t.Fatalf("Until(%s, %+v) has error %d", text(s), w, err)
			}
			first, _ := window.Expired(s, w, latest(s))
			for _, time := range []int{until - 1, until, 1 << 20} {
				if time < latest(s) || time > 1<<20 {
					continue
				}
				seen++
				cuts, _ := window.Expired(s, w, time)
				if hasExpired := len(cuts) > 0; w.Kind == api.WinAge && hasExpired != (ok && time >= until) || w.Kind != api.WinAge && len(cuts) != len(first) {
					t.Errorf("until %d, %t, of %s, but at %d the window %+v lets %s expire", until, ok, text(s), time, w, list(cuts))
				}
			}
		}
	}
	if seen < 1000 {
		t.Errorf("only %d times were looked at", seen)
	}
}

// endOf returns the time of the last event, 0 without events.
func endOf(l []api.Event) int {
	if len(l) == 0 {
		return 0
	}
	return l[len(l)-1].Time
}

// The stream of Slide goes on with the cuts at the time that Until returns for the state behind it, if the next event is that late.
func TestSlideGoesOnAtTheTimeOfUntil(t *testing.T) {
	eachStream(3, []int{0, 1, 2}, func(l []api.Event) {
		for _, w := range []api.Window{whole(), age(1), age(2), age(5), last(1)} {
			stream, _ := window.Slide(3, l, w)
			until, ok, _ := window.Until(happen(t, state(3), stream...), w)
			for _, end := range []int{50, until - 1, until} {
				if end < endOf(l) {
					continue
				}
				more, err := window.Slide(3, append(slices.Clone(l), leave(end, 2)), w)
				next := more[len(stream)]
				if isCut := next.Kind == api.EvCut && next.Time == until; err != api.OK || isCut != (ok && end >= until) {
					t.Errorf("behind %s, with the window %+v until %d, %t, comes %+v before the time %d, error %d", list(l), w, until, ok, next, end, err)
				}
			}
		}
	})
}

// A wider window has at least the links of a narrower one.
func TestAWiderWindowHasNoFewerLinks(t *testing.T) {
	for _, s := range append(smallStates(), largerStates()...) {
		time := min(latest(s)+2, 1<<20)
		for _, windows := range [][]api.Window{
			{age(1), age(2), age(3), age(5), age(50), age(1000), age(1 << 20), whole()}, {last(0), last(1), last(2), last(3), last(20), last(500), last(2015), last(2016), whole()},
		} {
			narrow := state(s.Nodes)
			for _, w := range windows {
				wide, err := window.Present(s, w, time)
				for _, l := range narrow.Links {
					if _, found := slices.BinarySearchFunc(wide.Links, l, byEdge); !found {
						t.Errorf("of %s, the window %+v does not have %v at %d", text(s), w, l, time)
					}
				}
				if narrow = wide; err != api.OK {
					t.Errorf("Present(%s, %+v, %d) has error %d", text(s), w, time, err)
				}
			}
			if !same(narrow, s) {
				t.Errorf("of %s, the window with all links has %s", text(s), text(narrow))
			}
		}
	}
}
