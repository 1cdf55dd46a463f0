package links_test

import (
	"math"
	"slices"

	"cohesion/api"
	"cohesion/probe"
)

// Events and states are written without the package under test.
var (
	set, cut, leave            = probe.Set, probe.Cut, probe.Leave
	link, state, stateBy, same = probe.Link, probe.State, probe.StateBy, probe.SameState
)

// plain returns a link, valid or not, whose attributes do not matter, but which are right.
func plain(u, v int) api.Link { return link(u, v, 3, 2, -1, 7) }

// between returns the link between two nodes of a state, in any order, by looking at each one.
func between(s api.State, u, v int) (api.Link, bool) {
	for _, l := range s.Links {
		if l.U == u && l.V == v || l.U == v && l.V == u {
			return l, true
		}
	}
	return api.Link{}, false
}

// statesOf are all states of a number of nodes in which each edge has no link, or one of two that differ in all attributes.
func statesOf(nodes int) []api.State {
	states := []api.State{{Nodes: nodes}}
	for u := range nodes {
		for v := u + 1; v < nodes; v++ {
			var more []api.State
			for _, s := range states {
				for _, l := range []api.Link{link(u, v, 1, 0, 1, 5), link(u, v, 1000, 15, -1, 1<<20)} {
					more = append(more, state(nodes, append(slices.Clone(s.Links), l)...))
				}
			}
			states = append(states, more...)
		}
	}
	return states
}

// smallStates are all such states of at most four nodes.
func smallStates() []api.State {
	return slices.Concat(statesOf(0), statesOf(1), statesOf(2), statesOf(3), statesOf(4))
}

// varied is a link with attributes that depend on its ends.
func varied(u, v int) api.Link {
	sign := 1
	if (u+2*v)%3 == 0 {
		sign = -1
	}
	return link(u, v, 1+(u*31+v*517)%1000, (u*5+v)%16, sign, (u*64+v)*259)
}

// largerStates are states of several shapes, up to the greatest one there is.
func largerStates() []api.State {
	joined := func(nodes int, rule func(u, v int) bool) api.State {
		return stateBy(nodes, func(u, v int) (api.Link, bool) { return varied(u, v), rule(u, v) })
	}
	return []api.State{
		state(5, link(0, 1, 1, 0, 1, 0), link(0, 3, 10, 2, -1, 5), link(1, 3, 1000, 15, 1, 1<<20), link(3, 4, 500, 7, -1, 4)),
		joined(12, func(u, v int) bool { return (u*5+v*3)%4 == 0 }),
		joined(20, func(u, v int) bool { return (u+v)%3 == 1 }),
		joined(64, func(_, _ int) bool { return false }),
		joined(64, func(u, v int) bool { return u == 31 || v == 31 }),
		joined(64, func(u, v int) bool { return v == u+1 }),
		joined(64, func(_, _ int) bool { return true }),
	}
}

func validStates() []api.State { return append(smallStates(), largerStates()...) }

// nodesAround returns all nodes of a state and numbers that are no nodes of it.
func nodesAround(s api.State) []int {
	l := []int{math.MinInt, math.MinInt + 1, -64, -1, 64, 65, 66, math.MaxInt, s.Nodes, s.Nodes + 1}
	for v := range s.Nodes {
		l = append(l, v)
	}
	return l
}
