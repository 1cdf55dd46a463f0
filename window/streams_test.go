package window_test

import (
	"cmp"
	"fmt"
	"math"
	"slices"

	"cohesion/api"
	"cohesion/links"
	"cohesion/probe"
)

// Events and states are written without the package under test.
var (
	set, cut, leave            = probe.Set, probe.Cut, probe.Leave
	setAt, linkAt              = probe.SetAt, probe.LinkAt
	link, state, stateBy, same = probe.Link, probe.State, probe.StateBy, probe.SameState
	longStream, longStreams    = probe.LongStream, probe.LongStreams
)

// whole, age and last return windows of each kind, right or not.
func whole() api.Window          { return api.Window{Kind: 1} }
func age(width int) api.Window   { return api.Window{Kind: 2, Width: width} }
func last(number int) api.Window { return api.Window{Kind: 3, Most: number} }

// text tells what is in a state, of many links the first ones.
func text(s api.State) string {
	return fmt.Sprintf("%d nodes, %d links %v", s.Nodes, len(s.Links), s.Links[:min(len(s.Links), 8)])
}

// list tells which events there are, of many the first ones.
func list(l []api.Event) string {
	return fmt.Sprintf("%d events %v", len(l), l[:min(len(l), 12)])
}

// byEdge tells which of two links comes first in a state.
func byEdge(a, b api.Link) int { return cmp.Or(cmp.Compare(a.U, b.U), cmp.Compare(a.V, b.V)) }

// comesLater reports whether a link comes behind another one by time, and of one time by edge.
func comesLater(a, b api.Link) bool {
	return a.Time > b.Time || a.Time == b.Time && (a.U > b.U || a.U == b.U && a.V > b.V)
}

// isIn reports whether a link of a state is in a window at a time, by the definition.
func isIn(w api.Window, s api.State, l api.Link, time int) bool {
	switch w.Kind {
	case 2:
		return time-l.Time < w.Width
	case 3:
		later := 0
		for _, other := range s.Links {
			if comesLater(other, l) {
				later++
			}
		}
		return later < w.Most
	}
	return true
}

// divided returns the state with the links that are in a window at a time, and the cuts of the others.
func divided(s api.State, w api.Window, time int) (api.State, []api.Event) {
	kept := state(s.Nodes)
	var cuts []api.Event
	for _, l := range s.Links {
		if isIn(w, s, l, time) {
			kept.Links = append(kept.Links, l)
		} else {
			cuts = append(cuts, cut(time, l.U, l.V))
		}
	}
	return kept, cuts
}

// expiries are the times at which links of a state expire, in order.
func expiries(s api.State, w api.Window) []int {
	var times []int
	for _, l := range s.Links {
		if w.Kind == 2 {
			times = append(times, l.Time+w.Width)
		}
	}
	slices.Sort(times)
	return slices.Compact(times)
}

// slid is Slide by its definition, of events without an error: whatever is put out is applied to a state by links.All.
func slid(nodes int, l []api.Event, w api.Window) []api.Event {
	s := state(nodes)
	var stream []api.Event
	put := func(events ...api.Event) {
		s, _, _ = links.All(s, events)
		stream = append(stream, events...)
	}
	for _, e := range l {
		for _, time := range expiries(s, w) {
			if time <= e.Time {
				_, cuts := divided(s, w, time)
				put(cuts...)
			}
		}
		put(e)
		if w.Kind == 3 {
			_, cuts := divided(s, w, e.Time)
			put(cuts...)
		}
	}
	return stream
}

// latest returns the greatest time of a link, 0 without links.
func latest(s api.State) int {
	time := 0
	for _, l := range s.Links {
		time = max(time, l.Time)
	}
	return time
}

// statesOf are all states of a number of nodes in which each edge has no link, or one with one of these times.
func statesOf(nodes int, times ...int) []api.State {
	states := []api.State{state(nodes)}
	for u := range nodes {
		for v := u + 1; v < nodes; v++ {
			for _, s := range slices.Clone(states) {
				for _, time := range times {
					l := link(u, v, 1+(u*7+v*3+time)%1000, (u+v)%16, 1-(u+time)%2*2, time)
					states = append(states, state(nodes, append(slices.Clone(s.Links), l)...))
				}
			}
		}
	}
	return states
}

// smallStates are states of few nodes, with links of one time and of several, also around the greatest time.
func smallStates() []api.State {
	return slices.Concat(statesOf(0), statesOf(1), statesOf(2, 0, 1, 4), statesOf(3, 0, 1, 3, 4), statesOf(4, 2, 4), statesOf(3, 0, 1<<20-2, 1<<20))
}

// largerStates are states of several shapes, up to the greatest one there is, in which times are mixed, all the same, or ascend
// or descend with the edges.
func largerStates() []api.State {
	by := func(nodes int, time func(u, v int) int) api.State {
		return stateBy(nodes, func(u, v int) (api.Link, bool) {
			return link(u, v, 1+(u*31+v*517)%1000, (u*5+v)%16, 1-(u+2*v)%2*2, time(u, v)), nodes == 64 || (u+v)%3 > 0
		})
	}
	return []api.State{
		by(9, func(u, v int) int { return (u*5 + v*3) % 7 }),
		by(20, func(u, v int) int { return (u*29 + v*41) % 50 }),
		by(20, func(_, _ int) int { return 9 }),
		by(64, func(u, v int) int { return u*64 + v }),
		by(64, func(u, v int) int { return 5000 - u*64 - v }),
		by(64, func(u, v int) int { return (u*1031 + v*517) % 2003 * 523 }),
		by(64, func(u, _ int) int { return u / 16 }),
		by(64, func(_, _ int) int { return 1 << 20 }),
	}
}

// smallWindows are windows that let some links expire in small states and in short streams, or none, or all.
func smallWindows() []api.Window {
	return []api.Window{whole(), age(1), age(2), age(3), age(4), age(5), age(1<<20 - 1), age(1 << 20), last(0), last(1), last(2), last(3), last(4), last(6), last(2016)}
}

// largerWindows are windows for larger states and longer streams.
func largerWindows() []api.Window {
	return []api.Window{whole(), age(1), age(7), age(40), age(300), age(2000), age(1<<20 - 500), age(1 << 20), last(0), last(1), last(5), last(30), last(100), last(1000), last(2015), last(2016)}
}

// flawedWindow is a window that is not right, with the first of its errors.
type flawedWindow struct {
	w    api.Window
	want api.Errno
}

func flawedWindows() []flawedWindow {
	return []flawedWindow{
		{api.Window{}, api.ErrKind}, {api.Window{Kind: 4}, api.ErrKind}, {api.Window{Kind: -1, Width: -1}, api.ErrKind}, {api.Window{Kind: 4, Width: 3, Most: 3}, api.ErrKind}, {api.Window{Kind: math.MinInt, Most: -1}, api.ErrKind},
		{age(0), api.ErrRange}, {age(-1), api.ErrRange}, {age(1<<20 + 1), api.ErrRange}, {age(math.MinInt), api.ErrRange}, {age(math.MaxInt), api.ErrRange}, {api.Window{Kind: 2, Width: 3, Most: 1}, api.ErrRange}, {api.Window{Kind: 2, Most: 3}, api.ErrRange},
		{last(-1), api.ErrRange}, {last(2017), api.ErrRange}, {last(math.MinInt), api.ErrRange}, {last(math.MaxInt), api.ErrRange}, {api.Window{Kind: 3, Width: 1, Most: 3}, api.ErrRange}, {api.Window{Kind: 3, Width: 3}, api.ErrRange},
		{api.Window{Kind: 1, Width: 1}, api.ErrRange}, {api.Window{Kind: 1, Most: 1}, api.ErrRange}, {api.Window{Kind: 1, Width: -1, Most: -1}, api.ErrRange},
	}
}

// wrongTimes are no times at all.
func wrongTimes() []int {
	return []int{math.MinInt, math.MinInt + 1, -1 << 32, -1 << 20, -2, -1, 1<<20 + 1, 1 << 21, 1 << 32, math.MaxInt - 1, math.MaxInt}
}

// eachStream tries all short streams of events that happen to three nodes.
func eachStream(length int, steps []int, try func(l []api.Event)) {
	probe.EachStream([]api.Event{setAt(0, 0, 1), setAt(0, 2, 0), set(0, 1, 2, 7, 3, -1), cut(0, 1, 0), leave(0, 2)}, length, steps, try)
}
