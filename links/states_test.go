package links_test

import (
	"math"
	"slices"

	"cohesion/api"
	"cohesion/probe"
)

// Events are written without the package under test.
var set, cut, leave = probe.Set, probe.Cut, probe.Leave

// link returns the struct alone, valid or not.
func link(u, v, weight, label, sign, time int) api.Link {
	return api.Link{U: u, V: v, Weight: weight, Label: label, Sign: sign, Time: time}
}

// plain returns a link, valid or not, whose attributes do not matter, but which are right.
func plain(u, v int) api.Link { return link(u, v, 3, 2, -1, 7) }

// state returns the struct alone, valid or not.
func state(nodes int, l ...api.Link) api.State { return api.State{Nodes: nodes, Links: l} }

// same reports whether states are equal; R2: nil and empty lists are.
func same(a, b api.State) bool {
	return a.Nodes == b.Nodes && slices.Equal(a.Links, b.Links)
}

// between returns the link between two nodes of a state, in any order, by looking at each one.
func between(s api.State, u, v int) (api.Link, bool) {
	for _, l := range s.Links {
		if l.U == u && l.V == v || l.U == v && l.V == u {
			return l, true
		}
	}
	return api.Link{}, false
}

// stateBy returns the state whose links are those that the rule gives, by going through all pairs in order.
func stateBy(nodes int, rule func(u, v int) (api.Link, bool)) api.State {
	s := api.State{Nodes: nodes}
	for u := range nodes {
		for v := u + 1; v < nodes; v++ {
			if l, ok := rule(u, v); ok {
				s.Links = append(s.Links, l)
			}
		}
	}
	return s
}

// statesOf are all states of a number of nodes in which each edge has no link, or one of two that differ in all attributes.
func statesOf(nodes int) []api.State {
	states := []api.State{{Nodes: nodes}}
	for u := range nodes {
		for v := u + 1; v < nodes; v++ {
			var more []api.State
			for _, s := range states {
				for _, l := range []api.Link{link(u, v, 1, 0, 1, 5), link(u, v, 1000, 15, -1, 1<<20)} {
					more = append(more, state(nodes, append(slices.Clone(s.Links), l)...))
				}
			}
			states = append(states, more...)
		}
	}
	return states
}

// smallStates are all such states of at most four nodes.
func smallStates() []api.State {
	return slices.Concat(statesOf(0), statesOf(1), statesOf(2), statesOf(3), statesOf(4))
}

// varied is a link with attributes that depend on its ends.
func varied(u, v int) api.Link {
	sign := 1
	if (u+2*v)%3 == 0 {
		sign = -1
	}
	return link(u, v, 1+(u*31+v*517)%1000, (u*5+v)%16, sign, (u*64+v)*259)
}

// largerStates are states of several shapes, up to the greatest one there is.
func largerStates() []api.State {
	joined := func(nodes int, rule func(u, v int) bool) api.State {
		return stateBy(nodes, func(u, v int) (api.Link, bool) { return varied(u, v), rule(u, v) })
	}
	return []api.State{
		state(5, link(0, 1, 1, 0, 1, 0), link(0, 3, 10, 2, -1, 5), link(1, 3, 1000, 15, 1, 1<<20), link(3, 4, 500, 7, -1, 4)),
		joined(12, func(u, v int) bool { return (u*5+v*3)%4 == 0 }),
		joined(20, func(u, v int) bool { return (u+v)%3 == 1 }),
		joined(64, func(_, _ int) bool { return false }),
		joined(64, func(u, v int) bool { return u == 31 || v == 31 }),
		joined(64, func(u, v int) bool { return v == u+1 }),
		joined(64, func(_, _ int) bool { return true }),
	}
}

func validStates() []api.State { return append(smallStates(), largerStates()...) }

// flawed is a state that is not valid, with the first of its errors.
type flawed struct {
	s    api.State
	want api.Errno
}

// flawedStates are states with one error or several; in most of them 0 and 1 seem to be linked, so that a function that does not
// check them first would find something.
func flawedStates() []flawed {
	good := plain(0, 1)
	noRange, noTime := link(0, 2, 0, 0, 1, 0), link(0, 2, 1, 0, 1, -1)
	return []flawed{
		{state(-1), api.ErrRange}, {state(65), api.ErrRange}, {state(math.MinInt), api.ErrRange}, {state(math.MaxInt), api.ErrRange},
		{state(-1, good), api.ErrRange}, {state(65, good), api.ErrRange}, {state(math.MinInt, good), api.ErrRange}, {state(math.MaxInt, good), api.ErrRange},
		{state(65, good, plain(1, 1)), api.ErrRange}, {state(-1, good, noTime), api.ErrRange}, {state(65, good, good), api.ErrRange},
		{state(0, good), api.ErrNode}, {state(1, good), api.ErrNode}, {state(3, good, plain(0, 3)), api.ErrNode}, {state(64, good, plain(0, 64)), api.ErrNode},
		{state(3, plain(-1, 0), good), api.ErrNode}, {state(3, good, plain(1, 1)), api.ErrNode}, {state(3, plain(1, 0)), api.ErrNode}, {state(3, good, plain(2, 1)), api.ErrNode},
		{state(3, plain(math.MinInt, 1), good), api.ErrNode}, {state(3, good, plain(0, math.MaxInt)), api.ErrNode}, {state(3, good, plain(math.MinInt, math.MaxInt)), api.ErrNode},
		{state(3, good, link(0, 2, 0, 2, -1, 7)), api.ErrRange}, {state(3, good, link(0, 2, 1001, 2, -1, 7)), api.ErrRange}, {state(3, good, link(0, 2, 3, -1, -1, 7)), api.ErrRange},
		{state(3, good, link(0, 2, 3, 16, -1, 7)), api.ErrRange}, {state(3, good, link(0, 2, 3, 2, 0, 7)), api.ErrRange}, {state(3, good, link(0, 2, 3, 2, 2, 7)), api.ErrRange},
		{state(3, good, link(0, 2, 3, 2, 1, -1)), api.ErrTime}, {state(3, good, link(0, 2, 3, 2, 1, 1<<20+1)), api.ErrTime}, {state(3, link(0, 1, 3, 2, 1, math.MinInt)), api.ErrTime},
		{state(3, good, good), api.ErrOrder}, {state(3, plain(0, 2), good), api.ErrOrder}, {state(3, plain(1, 2), good), api.ErrOrder}, {state(4, plain(1, 2), good, plain(0, 3)), api.ErrOrder},
		{state(3, good, link(0, 1, 4, 2, -1, 8)), api.ErrOrder}, {state(4, good, plain(1, 2), plain(0, 3), plain(2, 3)), api.ErrOrder},
		{state(3, good, link(2, 1, 0, 2, -1, -1)), api.ErrNode}, {state(3, good, link(0, 2, 0, 2, -1, -1)), api.ErrRange}, {state(3, good, link(0, 1, 0, 2, -1, 7)), api.ErrRange},
		{state(3, good, link(0, 1, 3, 2, -1, -1)), api.ErrTime}, {state(3, good, link(0, 1, 0, 2, 0, -1)), api.ErrRange}, {state(3, plain(1, 2), plain(0, 0)), api.ErrNode},
		{state(3, good, noRange, plain(2, 2)), api.ErrRange}, {state(3, good, noTime, noRange), api.ErrTime}, {state(3, good, good, plain(2, 2)), api.ErrOrder}, {state(3, good, good, noTime), api.ErrOrder},
		{state(3, good, noTime, plain(2, 2)), api.ErrTime}, {state(3, good, noTime, good), api.ErrTime}, {state(3, good, plain(2, 2), noRange), api.ErrNode},
	}
}

// wrongEvent is an event that is not valid, with the first of its errors.
type wrongEvent struct {
	e    api.Event
	want api.Errno
}

func wrongEvents() []wrongEvent {
	return []wrongEvent{
		{api.Event{}, api.ErrKind}, {api.Event{Kind: 4, Time: -1, U: 99, Weight: 1}, api.ErrKind}, {api.Event{Kind: -1, U: 0, V: 1, Weight: 1, Sign: 1}, api.ErrKind},
		{set(-1, 0, 1, 1, 0, 1), api.ErrTime}, {cut(1<<20+1, 0, 1), api.ErrTime}, {leave(-1, 0), api.ErrTime}, {cut(-1, 99, 1), api.ErrTime}, {set(math.MaxInt, 1, 1, 0, 0, 0), api.ErrTime},
		{set(0, 1, 1, 1, 0, 1), api.ErrNode}, {cut(0, 1, 1), api.ErrNode}, {cut(0, -1, 1), api.ErrNode}, {cut(0, 0, -1), api.ErrNode}, {leave(0, -1), api.ErrNode}, {leave(0, 64), api.ErrNode},
		{set(0, 64, 1, 1, 0, 1), api.ErrNode}, {set(0, 1, 64, 0, 0, 1), api.ErrNode}, {api.Event{Kind: api.EvLeave, U: 1, V: 2}, api.ErrNode},
		{set(0, 0, 1, 0, 0, 1), api.ErrRange}, {set(0, 0, 1, 1001, 0, 1), api.ErrRange}, {set(0, 1, 0, 1, 16, 1), api.ErrRange}, {set(0, 1, 0, 1, -1, 1), api.ErrRange}, {set(0, 0, 1, 1, 0, 0), api.ErrRange},
		{set(0, 0, 1, 1, 0, 2), api.ErrRange}, {api.Event{Kind: api.EvCut, V: 1, Sign: 1}, api.ErrRange}, {api.Event{Kind: api.EvLeave, Weight: 1}, api.ErrRange}, {set(0, 63, 62, 0, 0, 1), api.ErrRange},
	}
}

// nodesAround returns all nodes of a state and numbers that are no nodes of it.
func nodesAround(s api.State) []int {
	l := []int{math.MinInt, math.MinInt + 1, -64, -1, 64, 65, 66, math.MaxInt, s.Nodes, s.Nodes + 1}
	for v := range s.Nodes {
		l = append(l, v)
	}
	return l
}
