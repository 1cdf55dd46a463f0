package graph_test

import (
	"slices"
	"testing"

	"cohesion/api"
	"cohesion/graph"
	"cohesion/probe"
)

func TestP3_3InducedInsideAndDensityOfExamples(t *testing.T) {
	g := graphOf(5, 0, 1, 0, 2, 1, 2, 2, 3)
	for _, c := range []struct {
		set     []int
		induced api.Graph
		density api.Frac
	}{
		{nil, graphOf(5), api.Frac{Num: 0, Den: 1}},
		{[]int{}, graphOf(5), api.Frac{Num: 0, Den: 1}},
		{[]int{5, -1, 64, 8}, graphOf(5), api.Frac{Num: 0, Den: 1}},
		{[]int{4}, graphOf(5), api.Frac{Num: 0, Den: 1}},
		{[]int{3, 4}, graphOf(5), api.Frac{Num: 0, Den: 1}},
		{[]int{2, 0}, graphOf(5, 0, 2), api.Frac{Num: 1, Den: 2}},
		{[]int{2, 3, 0}, graphOf(5, 0, 2, 2, 3), api.Frac{Num: 2, Den: 3}},
		{[]int{0, 1, 2}, graphOf(5, 0, 1, 0, 2, 1, 2), api.Frac{Num: 1, Den: 1}},
		{[]int{0, 2, 1, 2, 7, -1}, graphOf(5, 0, 1, 0, 2, 1, 2), api.Frac{Num: 1, Den: 1}},
		{[]int{3, 2, 1, 0}, g, api.Frac{Num: 1, Den: 1}},
		{[]int{0, 1, 2, 3, 4, 4, 9}, g, api.Frac{Num: 4, Den: 5}},
	} {
		if got, e := graph.Induced(g, c.set); !same(got, c.induced) || e != api.OK {
			t.Errorf("Induced(%v) = %v, %d", c.set, got, e)
		}
		if got := graph.Inside(g, c.set); got != len(c.induced.Edges) {
			t.Errorf("Inside(%v) = %d", c.set, got)
		}
		if got, e := graph.Density(g, c.set); got != c.density || e != api.OK {
			t.Errorf("Density(%v) = %v, %d", c.set, got, e)
		}
	}
	path := graphOf(3, 0, 1, 1, 2)
	if got, e := graph.Density(path, []int{0, 1, 2}); got != (api.Frac{Num: 2, Den: 3}) || e != api.OK {
		t.Errorf("the density of the example is %v, %d", got, e)
	}
}

// densityBy returns edges / nodes in lowest terms, by trying all divisors.
func densityBy(edges, nodes int) api.Frac {
	if nodes == 0 {
		return api.Frac{Num: 0, Den: 1}
	}
	for divisor := nodes; ; divisor-- {
		if edges%divisor == 0 && nodes%divisor == 0 {
			return api.Frac{Num: edges / divisor, Den: nodes / divisor}
		}
	}
}

func checkPart(t *testing.T, g api.Graph, set []int) {
	t.Helper()
	nodes := 0
	for v := range g.Nodes {
		if occursIn(set, v) {
			nodes++
		}
	}
	want := graphBy(g.Nodes, func(u, v int) bool { return listed(g.Edges, u, v) && occursIn(set, u) && occursIn(set, v) })
	if got, e := graph.Induced(g, set); !same(got, want) || e != api.OK {
		t.Errorf("Induced(%v, %v) = %v, %d", g, set, got, e)
	}
	if got := graph.Inside(g, set); got != len(want.Edges) {
		t.Errorf("Inside(%v, %v) = %d", g, set, got)
	}
	if got, e := graph.Density(g, set); got != densityBy(len(want.Edges), nodes) || e != api.OK {
		t.Errorf("Density(%v, %v) = %v, %d", g, set, got, e)
	}
}

func TestP3_3InducedInsideAndDensityAreTheirDefinitions(t *testing.T) {
	for _, g := range smallGraphs() {
		for _, set := range probe.Lists([]int{-1, 0, 1, 2, 3, 4}, 4) {
			checkPart(t, g, set)
		}
	}
	for _, g := range largerGraphs() {
		for _, set := range setsOf(g) {
			checkPart(t, g, set)
		}
	}
}

// Neither repetitions nor the order of a long list count.
func TestP3_3SetsMayBeLongLists(t *testing.T) {
	g := graphBy(64, func(_, _ int) bool { return true })
	long := slices.Repeat(around(g), 1000)
	if got, e := graph.Density(g, long); got != (api.Frac{Num: 63, Den: 2}) || e != api.OK {
		t.Errorf("Density of all nodes = %v, %d", got, e)
	}
	if got, e := graph.Induced(g, long); !same(got, g) || e != api.OK || graph.Inside(g, long) != api.MaxEdges {
		t.Errorf("Induced by all nodes = %v, %d", got, e)
	}
}

func TestP3_3GraphsThatAreNotValid(t *testing.T) {
	for _, c := range flawedGraphs() {
		for _, set := range [][]int{nil, {}, {0}, {0, 1}, {1, 0, 1, 3, 2}, {7}} {
			if got, e := graph.Induced(c.g, set); e != c.e || !same(got, api.Graph{}) {
				t.Errorf("Induced(%v, %v) = %v, %d, want %d", c.g, set, got, e, c.e)
			}
			if got, e := graph.Density(c.g, set); e != c.e || got != (api.Frac{}) {
				t.Errorf("Density(%v, %v) = %v, %d, want %d", c.g, set, got, e, c.e)
			}
			if got := graph.Inside(c.g, set); got != 0 {
				t.Errorf("Inside(%v, %v) = %d", c.g, set, got)
			}
		}
	}
}
