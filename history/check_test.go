package history_test

import (
	"math"
	"slices"
	"testing"

	"cohesion/api"
	"cohesion/history"
	"cohesion/probe"
)

func checkCheck(t *testing.T, nodes int, l []api.Event, want api.Errno) {
	t.Helper()
	if got := history.Check(nodes, l); got != want {
		t.Errorf("Check(%d, %s) = %d, want %d", nodes, list(l), got, want)
	}
}

// firstError is Check by its definition.
func firstError(nodes int, l []api.Event) api.Errno {
	if nodes < 0 || nodes > 64 {
		return api.ErrRange
	}
	if len(l) > 65536 {
		return api.ErrLimit
	}
	for i, e := range l {
		if err := eventError(e); err != api.OK {
			return err
		}
		if e.U >= nodes || e.V >= nodes {
			return api.ErrNode
		}
		if i > 0 && e.Time < l[i-1].Time {
			return api.ErrTime
		}
	}
	return api.OK
}

// eventError is the first error of an event by itself: chapter 4.
func eventError(e api.Event) api.Errno {
	isNode := func(v int) bool { return v >= 0 && v <= 63 }
	hasNodes, hasAttributes := isNode(e.U) && isNode(e.V) && e.U != e.V, e.Weight == 0 && e.Label == 0 && e.Sign == 0
	switch e.Kind {
	case 1:
		hasAttributes = e.Weight >= 1 && e.Weight <= 1000 && e.Label >= 0 && e.Label <= 15 && (e.Sign == 1 || e.Sign == -1)
	case 2:
	case 3:
		hasNodes = isNode(e.U) && e.V == 0
	default:
		return api.ErrKind
	}
	switch {
	case e.Time < 0 || e.Time > 1<<20:
		return api.ErrTime
	case !hasNodes:
		return api.ErrNode
	case !hasAttributes:
		return api.ErrRange
	}
	return api.OK
}

func TestP8_1HistoriesWithoutAnError(t *testing.T) {
	eachHistory(func(h story) { checkCheck(t, h.nodes, h.l, api.OK) })
	for nodes := range 65 {
		checkCheck(t, nodes, nil, api.OK)
		checkCheck(t, nodes, []api.Event{}, api.OK)
		for v := range nodes {
			l := []api.Event{leave(4, v)}
			for u := range v {
				l = append(l, setAt(4, u, v), setAt(4, v, u), cut(4, u, v), cut(4, v, u))
			}
			checkCheck(t, nodes, l, api.OK)
		}
	}
	checkCheck(t, 4, []api.Event{leave(0, 1), leave(0, 1), leave(1<<20, 1), leave(1<<20, 1)}, api.OK) // times may stay
	checkCheck(t, 2, slices.Repeat([]api.Event{setAt(3, 0, 1)}, 1<<16), api.OK)
}

func TestP8_1FlawedHistories(t *testing.T) {
	for _, f := range probe.FlawedStreams() {
		checkCheck(t, f.Nodes, f.Events, f.Err)
		if want := firstError(f.Nodes, f.Events); want != f.Err {
			t.Errorf("by the definition, %d nodes with %s have the error %d, not %d", f.Nodes, list(f.Events), want, f.Err)
		}
	}
}

func TestP8_1CheckIsItsDefinition(t *testing.T) {
	events := []api.Event{setAt(3, 0, 1), setAt(2, 2, 0), cut(3, 3, 1), cut(1, 0, 1), leave(2, 0), leave(4, 2), leave(3, 63), setAt(3, 0, 64), {}, cut(2, 1, 1), set(3, 0, 1, 0, 0, 1), leave(-1, 0), setAt(1<<20+1, 0, 1)}
	for _, l := range probe.Lists(events, 3) {
		for _, nodes := range []int{-1, 0, 1, 2, 3, 4, 63, 64, 65} {
			checkCheck(t, nodes, l, firstError(nodes, l))
		}
	}
	numbers := []int{math.MinInt, -1, 0, 1, 2, 3, 15, 16, 63, 64, 1000, 1001, 1 << 20, 1<<20 + 1, math.MaxInt}
	for _, base := range []api.Event{setAt(3, 0, 1), cut(3, 0, 1), leave(3, 1)} {
		for _, x := range numbers {
			for field := range 7 {
				e := base
				*[]*int{&e.Kind, &e.Time, &e.U, &e.V, &e.Weight, &e.Label, &e.Sign}[field] = x
				l := []api.Event{leave(0, 0), e, leave(5, 0)}
				for _, nodes := range numbers {
					checkCheck(t, nodes, l, firstError(nodes, l))
				}
			}
		}
	}
}

// The other arguments are right or wrong.
func TestP8_1AllFunctionsReturnTheErrorOfTheHistoryFirst(t *testing.T) {
	for _, f := range probe.FlawedStreams() {
		for _, time := range []int{math.MinInt, -1, 3, 9, 1<<20 + 1} {
			checkAt(t, story{f.Nodes, f.Events}, time, api.State{}, f.Err)
		}
		checkTimes(t, story{f.Nodes, f.Events}, nil, f.Err)
		for _, ends := range [][2]int{{0, 1}, {1, 0}, {0, 0}, {1, 63}, {-1, 64}} {
			checkFirst(t, story{f.Nodes, f.Events}, ends, 0, false, f.Err)
			checkLife(t, story{f.Nodes, f.Events}, ends, nil, f.Err)
		}
		for _, set := range [][]int{nil, {0}, {0, 1}, {1, 0}, {63}, {-1, 64}} {
			checkJoined(t, story{f.Nodes, f.Events}, set, 0, false, f.Err)
		}
	}
}
