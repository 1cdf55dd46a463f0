package probe

import (
	"math"
	"slices"

	"cohesion/api"
)

// Link returns the struct alone, valid or not.
func Link(u, v, weight, label, sign, time int) api.Link {
	return api.Link{U: u, V: v, Weight: weight, Label: label, Sign: sign, Time: time}
}

// State returns the struct alone, valid or not.
func State(nodes int, l ...api.Link) api.State { return api.State{Nodes: nodes, Links: l} }

// StateBy returns the state whose links are those that the rule gives, by going through all pairs in order.
func StateBy(nodes int, rule func(u, v int) (api.Link, bool)) api.State {
	s := api.State{Nodes: nodes}
	for u := range nodes {
		for v := u + 1; v < nodes; v++ {
			if l, ok := rule(u, v); ok {
				s.Links = append(s.Links, l)
			}
		}
	}
	return s
}

// SameState reports whether states are equal; R2: nil and empty lists are.
func SameState(a, b api.State) bool {
	return a.Nodes == b.Nodes && slices.Equal(a.Links, b.Links)
}

// Flawed is a state that is not valid, with the first of its errors.
type Flawed struct {
	State api.State
	Err   api.Errno
}

// FlawedStates returns states with one error or several; in most of them 0 and 1 seem to be linked, so that a function that does
// not check them first would find something.
func FlawedStates() []Flawed {
	plain := func(u, v int) api.Link { return Link(u, v, 3, 2, -1, 7) }
	good := plain(0, 1)
	noRange, noTime := Link(0, 2, 0, 0, 1, 0), Link(0, 2, 1, 0, 1, -1)
	return []Flawed{
		{State(-1), api.ErrRange}, {State(65), api.ErrRange}, {State(math.MinInt), api.ErrRange}, {State(math.MaxInt), api.ErrRange},
		{State(-1, good), api.ErrRange}, {State(65, good), api.ErrRange}, {State(math.MinInt, good), api.ErrRange}, {State(math.MaxInt, good), api.ErrRange},
		{State(65, good, plain(1, 1)), api.ErrRange}, {State(-1, good, noTime), api.ErrRange}, {State(65, good, good), api.ErrRange},
		{State(0, good), api.ErrNode}, {State(1, good), api.ErrNode}, {State(3, good, plain(0, 3)), api.ErrNode}, {State(64, good, plain(0, 64)), api.ErrNode},
		{State(3, plain(-1, 0), good), api.ErrNode}, {State(3, good, plain(1, 1)), api.ErrNode}, {State(3, plain(1, 0)), api.ErrNode}, {State(3, good, plain(2, 1)), api.ErrNode},
		{State(3, plain(math.MinInt, 1), good), api.ErrNode}, {State(3, good, plain(0, math.MaxInt)), api.ErrNode}, {State(3, good, plain(math.MinInt, math.MaxInt)), api.ErrNode},
		{State(3, good, Link(0, 2, 0, 2, -1, 7)), api.ErrRange}, {State(3, good, Link(0, 2, 1001, 2, -1, 7)), api.ErrRange}, {State(3, good, Link(0, 2, 3, -1, -1, 7)), api.ErrRange},
		{State(3, good, Link(0, 2, 3, 16, -1, 7)), api.ErrRange}, {State(3, good, Link(0, 2, 3, 2, 0, 7)), api.ErrRange}, {State(3, good, Link(0, 2, 3, 2, 2, 7)), api.ErrRange},
		{State(3, good, Link(0, 2, 3, 2, 1, -1)), api.ErrTime}, {State(3, good, Link(0, 2, 3, 2, 1, 1<<20+1)), api.ErrTime}, {State(3, Link(0, 1, 3, 2, 1, math.MinInt)), api.ErrTime},
		{State(3, good, good), api.ErrOrder}, {State(3, plain(0, 2), good), api.ErrOrder}, {State(3, plain(1, 2), good), api.ErrOrder}, {State(4, plain(1, 2), good, plain(0, 3)), api.ErrOrder},
		{State(3, good, Link(0, 1, 4, 2, -1, 8)), api.ErrOrder}, {State(4, good, plain(1, 2), plain(0, 3), plain(2, 3)), api.ErrOrder},
		{State(3, good, Link(2, 1, 0, 2, -1, -1)), api.ErrNode}, {State(3, good, Link(0, 2, 0, 2, -1, -1)), api.ErrRange}, {State(3, good, Link(0, 1, 0, 2, -1, 7)), api.ErrRange},
		{State(3, good, Link(0, 1, 3, 2, -1, -1)), api.ErrTime}, {State(3, good, Link(0, 1, 0, 2, 0, -1)), api.ErrRange}, {State(3, plain(1, 2), plain(0, 0)), api.ErrNode},
		{State(3, good, noRange, plain(2, 2)), api.ErrRange}, {State(3, good, noTime, noRange), api.ErrTime}, {State(3, good, good, plain(2, 2)), api.ErrOrder}, {State(3, good, good, noTime), api.ErrOrder},
		{State(3, good, noTime, plain(2, 2)), api.ErrTime}, {State(3, good, noTime, good), api.ErrTime}, {State(3, good, plain(2, 2), noRange), api.ErrNode},
	}
}
