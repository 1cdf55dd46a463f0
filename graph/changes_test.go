package graph_test

import (
	"math"
	"testing"

	"cohesion/api"
	"cohesion/graph"
)

// change is Add or Remove, with the error for edges that are there already, or are not there.
type change struct {
	name    string
	apply   func(g api.Graph, u, v int) (api.Graph, api.Errno)
	adds    bool
	refused api.Errno
}

func changes() []change {
	return []change{{"Add", graph.Add, true, api.ErrThere}, {"Remove", graph.Remove, false, api.ErrEdge}}
}

func TestP3_4AddAndRemoveExamples(t *testing.T) {
	g := graphOf(5, 0, 1, 1, 2, 1, 4)
	add, remove := changes()[0], changes()[1]
	for _, c := range []struct {
		change
		u, v int
		want api.Graph
	}{
		{add, 2, 0, graphOf(5, 0, 1, 0, 2, 1, 2, 1, 4)}, {add, 0, 2, graphOf(5, 0, 1, 0, 2, 1, 2, 1, 4)}, {add, 3, 1, graphOf(5, 0, 1, 1, 2, 1, 3, 1, 4)}, {add, 4, 3, graphOf(5, 0, 1, 1, 2, 1, 4, 3, 4)},
		{remove, 1, 0, graphOf(5, 1, 2, 1, 4)}, {remove, 0, 1, graphOf(5, 1, 2, 1, 4)}, {remove, 2, 1, graphOf(5, 0, 1, 1, 4)}, {remove, 1, 4, graphOf(5, 0, 1, 1, 2)},
	} {
		if got, e := c.apply(g, c.u, c.v); !same(got, c.want) || e != api.OK {
			t.Errorf("%s(%d, %d) = %v, %d", c.name, c.u, c.v, got, e)
		}
	}
	if got, e := graph.Remove(graphOf(2, 0, 1), 1, 0); !same(got, graphOf(2)) || e != api.OK {
		t.Errorf("Remove of the only edge = %v, %d", got, e)
	}
	if got, e := graph.Add(graphOf(2), 1, 0); !same(got, graphOf(2, 0, 1)) || e != api.OK {
		t.Errorf("Add of the first edge = %v, %d", got, e)
	}
}

func TestP3_4AddAndRemoveReturnTheirErrorsInOrder(t *testing.T) {
	g := graphOf(4, 0, 1, 1, 2)
	for _, c := range changes() {
		for _, pair := range edges(1, 1, 3, 3, 0, 0, 1, 4, 4, 1, -1, 0, 0, -1, 4, 4, -1, -1, 5, 9, math.MinInt, 0, 0, math.MaxInt, math.MinInt, math.MaxInt) {
			if got, e := c.apply(g, pair.U, pair.V); e != api.ErrNode || !same(got, api.Graph{}) {
				t.Errorf("%s(%v) = %v, %d", c.name, pair, got, e)
			}
		}
		if got, e := c.apply(graphOf(0), 0, 1); e != api.ErrNode || !same(got, api.Graph{}) {
			t.Errorf("%s to no nodes = %v, %d", c.name, got, e)
		}
		if got, e := c.apply(graphOf(1), 0, 0); e != api.ErrNode || !same(got, api.Graph{}) {
			t.Errorf("%s to one node = %v, %d", c.name, got, e)
		}
		for _, bad := range flawedGraphs() {
			for _, pair := range edges(0, 1, 1, 0, 2, 0, 1, 1, -1, 9) {
				if got, e := c.apply(bad.g, pair.U, pair.V); e != bad.e || !same(got, api.Graph{}) {
					t.Errorf("%s(%v, %v) = %v, %d, want %d", c.name, bad.g, pair, got, e, bad.e)
				}
			}
		}
	}
}

func checkChange(t *testing.T, c change, g api.Graph, u, v int) {
	t.Helper()
	isNode := func(x int) bool { return 0 <= x && x < g.Nodes }
	want, wantedError := api.Graph{}, api.OK
	switch {
	case !isNode(u) || !isNode(v) || u == v:
		wantedError = api.ErrNode
	case listed(g.Edges, u, v) == c.adds:
		wantedError = c.refused
	default:
		want = graphBy(g.Nodes, func(x, y int) bool {
			if x == min(u, v) && y == max(u, v) {
				return c.adds
			}
			return listed(g.Edges, x, y)
		})
	}
	if got, e := c.apply(g, u, v); !same(got, want) || e != wantedError {
		t.Errorf("%s(%v, %d, %d) = %v, %d", c.name, g, u, v, got, e)
	}
}

func TestP3_4AddAndRemoveAreTheirDefinitions(t *testing.T) {
	for _, c := range changes() {
		for _, g := range append(smallGraphs(), largerGraphs()[:3]...) {
			for _, u := range around(g) {
				for _, v := range around(g) {
					checkChange(t, c, g, u, v)
				}
			}
		}
		for _, g := range largerGraphs()[3:] {
			for _, pair := range edges(0, 1, 1, 0, 31, 0, 63, 31, 62, 63, 19, 18, 5, 40, 63, 64, 20, 20) {
				checkChange(t, c, g, pair.U, pair.V)
			}
		}
	}
}

func TestP3_4AGraphGrowsToTheGreatestOneAndShrinksAgain(t *testing.T) {
	g, e := graphOf(api.MaxNodes), api.OK
	full := graphBy(api.MaxNodes, func(_, _ int) bool { return true })
	for i := len(full.Edges) - 1; i >= 0; i-- {
		edge := full.Edges[(i*5)%len(full.Edges)] // 5 has no divisor in common with 2016, so each edge comes once
		if g, e = graph.Add(g, edge.V, edge.U); e != api.OK {
			t.Fatalf("Add(%v) = %d", edge, e)
		}
	}
	if !same(g, full) {
		t.Error("all edges together are not the greatest graph")
	}
	for _, edge := range full.Edges {
		if _, e := graph.Add(full, edge.U, edge.V); e != api.ErrThere {
			t.Fatalf("Add(%v) = %d", edge, e)
		}
		if g, e = graph.Remove(g, edge.U, edge.V); e != api.OK {
			t.Fatalf("Remove(%v) = %d", edge, e)
		}
	}
	if !same(g, graphOf(api.MaxNodes)) {
		t.Errorf("without all its edges, the graph is %v", g)
	}
}
