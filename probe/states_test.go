package probe_test

import (
	"slices"
	"testing"

	"cohesion/api"
	"cohesion/probe"
)

func TestStatesAreWhatTheirWordsSay(t *testing.T) {
	first, second := api.Link{U: 1, V: 2, Weight: 3, Label: 4, Sign: 5, Time: 6}, api.Link{U: 7}
	if got := probe.Link(1, 2, 3, 4, 5, 6); got != first {
		t.Errorf("%+v is not %+v", got, first)
	}
	s := probe.State(9, first, second)
	if s.Nodes != 9 || !slices.Equal(s.Links, []api.Link{first, second}) {
		t.Errorf("the state is %+v", s)
	}
	between := func(u, v int) (api.Link, bool) { return api.Link{U: u, V: v}, u+v != 2 }
	if got := probe.StateBy(4, between); !probe.SameState(got, probe.State(4, api.Link{V: 1}, api.Link{V: 3}, api.Link{U: 1, V: 2}, api.Link{U: 1, V: 3}, api.Link{U: 2, V: 3})) {
		t.Errorf("the state by a rule is %+v", got)
	}
}

func TestStatesAreTheSameByNodesAndLinks(t *testing.T) {
	a, b := api.Link{V: 1}, api.Link{V: 1, Time: 1}
	for _, c := range []struct {
		s, other api.State
		want     bool
	}{
		{probe.State(2), api.State{Nodes: 2, Links: []api.Link{}}, true}, {probe.State(2, a), probe.State(2, a), true},
		{probe.State(2), probe.State(3), false}, {probe.State(2, a), probe.State(2, b), false}, {probe.State(2, a), probe.State(2), false}, {probe.State(2, a), probe.State(3, a), false},
	} {
		if probe.SameState(c.s, c.other) != c.want || probe.SameState(c.other, c.s) != c.want {
			t.Errorf("%+v and %+v are the same: %t", c.s, c.other, !c.want)
		}
	}
}
