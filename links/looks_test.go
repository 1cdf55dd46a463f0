package links_test

import (
	"math"
	"slices"
	"testing"

	"cohesion/api"
	"cohesion/links"
	"cohesion/probe"
)

func TestP5_4FindGraphAndWhereOfExamples(t *testing.T) {
	a, b, c, d := link(0, 1, 1, 1, 1, 9), link(0, 3, 7, 2, -1, 0), link(1, 3, 3, 0, 1, 5), link(2, 3, 1000, 15, -1, 5)
	s := state(5, a, b, c, d)
	for _, x := range []struct{ u, v, want int }{
		{0, 1, 0}, {1, 0, 0}, {0, 3, 1}, {3, 0, 1}, {1, 3, 2}, {3, 1, 2}, {2, 3, 3}, {3, 2, 3},
		{0, 2, -1}, {2, 0, -1}, {1, 2, -1}, {3, 4, -1}, {4, 3, -1}, {0, 0, -1}, {3, 3, -1}, {0, 5, -1}, {-1, 0, -1}, {9, 9, -1},
	} {
		if got := links.Find(s, x.u, x.v); got != x.want {
			t.Errorf("Find(%d, %d) = %d, want %d", x.u, x.v, got, x.want)
		}
	}
	checkGraph(t, s, api.Graph{Nodes: 5, Edges: []api.Edge{{U: 0, V: 1}, {U: 0, V: 3}, {U: 1, V: 3}, {U: 2, V: 3}}}, api.OK)
	checkGraph(t, state(0), api.Graph{}, api.OK)
	checkGraph(t, state(64), api.Graph{Nodes: 64}, api.OK)
	for _, x := range []struct {
		labels      []int
		sign, least int
		want        []api.Link
	}{
		{nil, 0, 0, s.Links}, {[]int{}, 0, 0, s.Links}, {[]int{0, 1, 2, 15}, 0, 1, s.Links},
		{[]int{2}, 0, 0, []api.Link{b}}, {[]int{15, 1}, 0, 0, []api.Link{a, d}}, {[]int{0}, 0, 0, []api.Link{c}}, {[]int{2, 0, 2, 2}, 0, 0, []api.Link{b, c}},
		{[]int{3}, 0, 0, nil}, {[]int{3, 14, 4}, 0, 0, nil}, {[]int{16, -1, 77, math.MinInt, math.MaxInt}, 0, 0, nil}, {[]int{16, 15}, 0, 0, []api.Link{d}}, {[]int{-1}, 0, 0, nil},
		{nil, 1, 0, []api.Link{a, c}}, {nil, -1, 0, []api.Link{b, d}}, {nil, 2, 0, nil}, {nil, -2, 0, nil}, {nil, math.MinInt, 0, nil},
		{nil, 0, 1, s.Links}, {nil, 0, 2, []api.Link{b, c, d}}, {nil, 0, 3, []api.Link{b, c, d}}, {nil, 0, 4, []api.Link{b, d}}, {nil, 0, 7, []api.Link{b, d}}, {nil, 0, 8, []api.Link{d}},
		{nil, 0, 1000, []api.Link{d}}, {nil, 0, 1001, nil}, {nil, 0, math.MaxInt, nil}, {nil, 0, -5, s.Links}, {nil, 0, math.MinInt, s.Links},
		{[]int{2, 1}, 1, 0, []api.Link{a}}, {[]int{2, 1}, -1, 0, []api.Link{b}}, {[]int{2, 1}, 0, 2, []api.Link{b}}, {nil, 1, 2, []api.Link{c}}, {[]int{15}, 1, 0, nil}, {[]int{15, 2, 0}, -1, 8, []api.Link{d}},
	} {
		checkWhere(t, s, x.labels, x.sign, x.least, state(5, x.want...), api.OK)
	}
	checkWhere(t, state(0), nil, 0, 0, state(0), api.OK)
	checkWhere(t, state(64), []int{1}, 1, 1, state(64), api.OK)
}

func checkGraph(t *testing.T, s api.State, want api.Graph, wantedError api.Errno) {
	t.Helper()
	if got, err := links.Graph(s); got.Nodes != want.Nodes || !slices.Equal(got.Edges, want.Edges) || err != wantedError {
		t.Errorf("Graph(%+v) = %+v, %d, want %+v, %d", s, got, err, want, wantedError)
	}
}

func checkWhere(t *testing.T, s api.State, labels []int, sign, least int, want api.State, wantedError api.Errno) {
	t.Helper()
	if got, err := links.Where(s, labels, sign, least); !same(got, want) || err != wantedError {
		t.Errorf("Where(%+v, %v, %d, %d) = %+v, %d, want %+v, %d", s, labels, sign, least, got, err, want, wantedError)
	}
}

func TestP5_4FindIsItsDefinition(t *testing.T) {
	for _, s := range validStates() {
		for _, u := range nodesAround(s) {
			for _, v := range nodesAround(s) {
				want := slices.IndexFunc(s.Links, func(l api.Link) bool { return l.U == min(u, v) && l.V == max(u, v) })
				if got := links.Find(s, u, v); got != want {
					t.Fatalf("Find(%+v, %d, %d) = %d, want %d", s, u, v, got, want)
				}
			}
		}
	}
}

func TestP5_4GraphIsItsDefinition(t *testing.T) {
	for _, s := range validStates() {
		want := api.Graph{Nodes: s.Nodes}
		for u := range s.Nodes {
			for v := u + 1; v < s.Nodes; v++ {
				if _, isThere := between(s, u, v); isThere {
					want.Edges = append(want.Edges, api.Edge{U: u, V: v})
				}
			}
		}
		checkGraph(t, s, want, api.OK)
	}
}

// labelLists are lists of labels: none, some, all, in any order and with repetitions, and numbers that are no labels.
func labelLists() [][]int {
	return [][]int{nil, {}, {0}, {15}, {7, 0}, {3, 2, 1, 2}, {0, 15}, {1, 4, 9, 14}, {14, 13, 12, 11, 10, 9, 8, 7, 6, 5, 4, 3, 2, 1, 0, 15}, {16}, {-1, 16, 99}, {math.MaxInt, 5, math.MinInt}}
}

func checkWhereOfAll(t *testing.T, s api.State, labels []int, sign, least int) {
	t.Helper()
	want := stateBy(s.Nodes, func(u, v int) (api.Link, bool) {
		l, isThere := between(s, u, v)
		hasLabel, hasSign := len(labels) == 0, sign == 0 || l.Sign == sign
		for _, label := range labels {
			hasLabel = hasLabel || label == l.Label
		}
		return l, isThere && hasLabel && hasSign && l.Weight >= least
	})
	checkWhere(t, s, labels, sign, least, want, api.OK)
}

func TestP5_4WhereIsItsDefinition(t *testing.T) {
	for _, s := range slices.Concat(statesOf(0), statesOf(1), statesOf(2), statesOf(3), largerStates()[:3]) {
		for _, labels := range labelLists() {
			for _, sign := range []int{0, 1, -1, 2} {
				for _, least := range []int{math.MinInt, -1, 0, 1, 2, 500, 501, 999, 1000, 1001, math.MaxInt} {
					checkWhereOfAll(t, s, labels, sign, least)
				}
			}
		}
	}
	for _, s := range largerStates()[3:] {
		for i, labels := range labelLists() {
			checkWhereOfAll(t, s, labels, i%3-1, i*90)
		}
	}
}

// A list of labels may be long; how often a label occurs in it does not matter.
func TestP5_4LabelsMayBeALongList(t *testing.T) {
	s := largerStates()[6]
	others := slices.Repeat([]int{16, -1, 400, math.MaxInt}, 1<<16)
	checkWhere(t, s, others, 0, 0, state(64), api.OK)
	for _, labels := range [][]int{{3}, {3, 3, 9}} {
		want, err := links.Where(s, labels, 0, 0)
		if err != api.OK || len(want.Links) == 0 {
			t.Errorf("Where(%v) = %+v, %d", labels, want, err)
		}
		checkWhere(t, s, slices.Concat(others, labels, others), 0, 0, want, api.OK)
		checkWhere(t, s, slices.Repeat(labels, 1<<16), 0, 0, want, api.OK)
	}
}

func TestP5_4LooksAtStatesThatAreNotValid(t *testing.T) {
	for _, c := range probe.FlawedStates() {
		for _, ends := range [][2]int{{0, 1}, {1, 0}, {0, 2}, {2, 0}, {1, 2}, {0, 3}, {-1, 0}, {1, 1}, {0, 64}} {
			if got := links.Find(c.State, ends[0], ends[1]); got != -1 {
				t.Errorf("Find(%+v, %d, %d) = %d", c.State, ends[0], ends[1], got)
			}
		}
		checkGraph(t, c.State, api.Graph{}, c.Err)
		for _, labels := range labelLists() {
			checkWhere(t, c.State, labels, 0, 0, api.State{}, c.Err)
			checkWhere(t, c.State, labels, -1, 1, api.State{}, c.Err)
			checkWhere(t, c.State, labels, 5, 1001, api.State{}, c.Err)
		}
	}
}
