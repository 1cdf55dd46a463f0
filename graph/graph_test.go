package graph_test

import (
	"math"
	"slices"
	"testing"

	"cohesion/api"
	"cohesion/graph"
	"cohesion/probe"
)

// smallEdges are all pairs of numbers from -1 to 3, in both orders and with equal ends.
func smallEdges() []api.Edge {
	var l []api.Edge
	for u := -1; u <= 3; u++ {
		for v := -1; v <= 3; v++ {
			l = append(l, api.Edge{U: u, V: v})
		}
	}
	return l
}

func TestP3_1CheckAcceptsValidGraphs(t *testing.T) {
	for _, g := range validGraphs() {
		if e := graph.Check(g); e != api.OK {
			t.Errorf("Check(%v) = %d", g, e)
		}
	}
	most := graphBy(api.MaxNodes, func(_, _ int) bool { return true })
	if len(most.Edges) != api.MaxEdges || graph.Check(most) != api.OK {
		t.Error("the greatest graph is not valid")
	}
}

func TestP3_1CheckReturnsTheFirstError(t *testing.T) {
	for _, c := range flawedGraphs() {
		if e := graph.Check(c.g); e != c.e {
			t.Errorf("Check(%v) = %d, want %d", c.g, e, c.e)
		}
	}
}

// firstError is the order of errors by its definition: each kind is looked for in all edges, and the first one decides.
func firstError(g api.Graph) api.Errno {
	isNode := func(x int) bool { return 0 <= x && x < g.Nodes }
	nodeError := slices.IndexFunc(g.Edges, func(e api.Edge) bool { return !isNode(e.U) || !isNode(e.V) || !(e.U < e.V) })
	orderError := -1
	for i := len(g.Edges) - 1; i > 0; i-- {
		before, e := g.Edges[i-1], g.Edges[i]
		if ascends := before.U < e.U || before.U == e.U && before.V < e.V; !ascends {
			orderError = i
		}
	}
	switch {
	case g.Nodes < 0 || g.Nodes > 64:
		return api.ErrRange
	case nodeError >= 0 && (orderError < 0 || nodeError <= orderError):
		return api.ErrNode
	case orderError >= 0:
		return api.ErrOrder
	}
	return api.OK
}

func TestP3_1CheckIsItsDefinition(t *testing.T) {
	for _, l := range probe.Lists(smallEdges(), 3) {
		for _, nodes := range []int{-1, 0, 1, 2, 3, 4, 64, 65} {
			g := api.Graph{Nodes: nodes, Edges: l}
			if got, want := graph.Check(g), firstError(g); got != want {
				t.Fatalf("Check(%v) = %d, want %d", g, got, want)
			}
		}
	}
}

func TestP3_1OfExamples(t *testing.T) {
	for _, c := range []struct {
		nodes int
		l     []api.Edge
		want  api.Graph
	}{
		{3, edges(2, 1, 0, 1, 1, 2), graphOf(3, 0, 1, 1, 2)},
		{0, nil, graphOf(0)}, {0, []api.Edge{}, graphOf(0)}, {1, nil, graphOf(1)}, {64, nil, graphOf(64)},
		{2, edges(1, 0), graphOf(2, 0, 1)}, {2, edges(0, 1, 1, 0, 0, 1, 1, 0), graphOf(2, 0, 1)},
		{12, edges(10, 2, 1, 11, 9, 1, 2, 3, 1, 2), graphOf(12, 1, 2, 1, 9, 1, 11, 2, 3, 2, 10)},
		{64, edges(63, 62, 63, 0), graphOf(64, 0, 63, 62, 63)},
	} {
		if got, e := graph.Of(c.nodes, c.l); !same(got, c.want) || e != api.OK {
			t.Errorf("Of(%d, %v) = %v, %d", c.nodes, c.l, got, e)
		}
	}
}

func TestP3_1OfReturnsItsErrorsInOrder(t *testing.T) {
	for _, c := range []struct {
		nodes int
		l     []api.Edge
		e     api.Errno
	}{
		{-1, nil, api.ErrRange}, {65, nil, api.ErrRange}, {math.MinInt, nil, api.ErrRange}, {math.MaxInt, nil, api.ErrRange},
		{-1, edges(0, 0), api.ErrRange}, {65, edges(0, 65), api.ErrRange}, {65, edges(1, 1), api.ErrRange}, {65, edges(0, 1), api.ErrRange},
		{0, edges(0, 1), api.ErrNode}, {1, edges(0, 0), api.ErrNode}, {1, edges(0, 1), api.ErrNode}, {3, edges(1, 1), api.ErrNode},
		{3, edges(0, 3), api.ErrNode}, {3, edges(3, 0), api.ErrNode}, {3, edges(-1, 1), api.ErrNode}, {3, edges(1, -1), api.ErrNode},
		{3, edges(0, 1, 0, 1, 2, 2), api.ErrNode}, {3, edges(0, 1, 1, 2, 7, 8), api.ErrNode}, {64, edges(64, 0), api.ErrNode}, {64, edges(-1, 64), api.ErrNode},
		{3, edges(math.MinInt, 0), api.ErrNode}, {3, edges(math.MinInt, math.MaxInt), api.ErrNode}, {3, edges(0, math.MaxInt), api.ErrNode},
	} {
		if got, e := graph.Of(c.nodes, c.l); e != c.e || !same(got, api.Graph{}) {
			t.Errorf("Of(%d, %v) = %v, %d, want %d", c.nodes, c.l, got, e, c.e)
		}
	}
}

func TestP3_1OfIsItsDefinition(t *testing.T) {
	for _, l := range probe.Lists(smallEdges(), 3) {
		for nodes := -1; nodes <= 4; nodes++ {
			want, wantedError := api.Graph{}, api.OK
			isNode := func(x int) bool { return 0 <= x && x < nodes }
			switch {
			case nodes < 0:
				wantedError = api.ErrRange
			case slices.ContainsFunc(l, func(e api.Edge) bool { return !isNode(e.U) || !isNode(e.V) || e.U == e.V }):
				wantedError = api.ErrNode
			default:
				want = graphBy(nodes, func(u, v int) bool { return listed(l, u, v) })
			}
			if got, e := graph.Of(nodes, l); !same(got, want) || e != wantedError {
				t.Fatalf("Of(%d, %v) = %v, %d", nodes, l, got, e)
			}
		}
	}
}

// Lists may be much longer than a graph's edges, since repetitions are permitted.
func TestP3_1OfDoesNotDependOnOrderEndsOrRepetitions(t *testing.T) {
	for _, g := range validGraphs() {
		turned := slices.Clone(g.Edges)
		slices.Reverse(turned)
		for i, e := range turned {
			if i%3 != 1 {
				turned[i] = api.Edge{U: e.V, V: e.U}
			}
		}
		for _, l := range [][]api.Edge{g.Edges, turned, slices.Concat(turned, g.Edges), slices.Repeat(turned, 9)} {
			if got, e := graph.Of(g.Nodes, l); !same(got, g) || e != api.OK {
				t.Fatalf("Of(%d, %v) = %v, %d", g.Nodes, l, got, e)
			}
		}
	}
}

func TestP3_2FindExamples(t *testing.T) {
	g := graphOf(5, 0, 1, 0, 2, 1, 2, 2, 3)
	for _, c := range []struct{ u, v, want int }{
		{0, 1, 0}, {1, 0, 0}, {0, 2, 1}, {2, 1, 2}, {1, 2, 2}, {3, 2, 3}, {0, 3, -1}, {3, 4, -1}, {2, 2, -1}, {0, 0, -1},
		{9, 0, -1}, {0, 9, -1}, {-1, 0, -1}, {-1, -1, -1}, {5, 5, -1}, {math.MinInt, math.MaxInt, -1}, {math.MinInt, 0, -1},
	} {
		if got := graph.Find(g, c.u, c.v); got != c.want {
			t.Errorf("Find(%d, %d) = %d, want %d", c.u, c.v, got, c.want)
		}
	}
}

func TestP3_2FindReturnsTheIndexOfEachEdge(t *testing.T) {
	for _, g := range validGraphs() {
		for i, e := range g.Edges {
			if graph.Find(g, e.U, e.V) != i || graph.Find(g, e.V, e.U) != i {
				t.Fatalf("Find(%v, %v) is not %d", g, e, i)
			}
		}
	}
	for _, g := range append(smallGraphs(), largerGraphs()[:4]...) {
		for _, u := range around(g) {
			for _, v := range around(g) {
				if got, there := graph.Find(g, u, v), listed(g.Edges, u, v); (got >= 0) != there || !there && got != -1 {
					t.Fatalf("Find(%v, %d, %d) = %d", g, u, v, got)
				}
			}
		}
	}
}

// neighboursBy is the definition: all nodes that are joined with v, in order.
func neighboursBy(g api.Graph, v int) []int {
	var l []int
	for u := range g.Nodes {
		if listed(g.Edges, u, v) {
			l = append(l, u)
		}
	}
	return l
}

func TestP3_2NeighboursAndDegreeExamples(t *testing.T) {
	g := graphOf(5, 0, 1, 0, 2, 1, 2, 2, 3)
	for v, want := range [][]int{{1, 2}, {0, 2}, {0, 1, 3}, {2}, nil} {
		if got := graph.Neighbours(g, v); !slices.Equal(got, want) {
			t.Errorf("Neighbours(%d) = %v, want %v", v, got, want)
		}
		if got := graph.Degree(g, v); got != len(want) {
			t.Errorf("Degree(%d) = %d, want %d", v, got, len(want))
		}
	}
	for _, v := range append(extremes(), 5) {
		if len(graph.Neighbours(g, v)) != 0 || graph.Degree(g, v) != 0 {
			t.Errorf("%d is no node, but has neighbours", v)
		}
	}
}

func TestP3_2NeighboursAndDegreeAreTheirDefinitions(t *testing.T) {
	for _, g := range validGraphs() {
		for _, v := range around(g) {
			want := neighboursBy(g, v)
			if got := graph.Neighbours(g, v); !slices.Equal(got, want) {
				t.Fatalf("Neighbours(%v, %d) = %v", g, v, got)
			}
			if got := graph.Degree(g, v); got != len(want) {
				t.Fatalf("Degree(%v, %d) = %d", g, v, got)
			}
		}
	}
}

func TestP3_2CommonExamples(t *testing.T) {
	g := graphOf(6, 0, 1, 0, 2, 0, 4, 1, 2, 1, 4, 2, 3)
	for _, c := range []struct {
		u, v int
		want []int
	}{
		{0, 1, []int{2, 4}}, {1, 0, []int{2, 4}}, {1, 3, []int{2}}, {0, 3, []int{2}}, {2, 4, []int{0, 1}}, {2, 3, nil}, {3, 4, nil}, {0, 5, nil},
		{0, 0, nil}, {2, 2, nil}, {5, 5, nil}, {9, 9, nil}, {-1, -1, nil}, {0, 6, nil}, {0, 9, nil}, {-1, 2, nil}, {math.MinInt, math.MaxInt, nil},
	} {
		if got := graph.Common(g, c.u, c.v); !slices.Equal(got, c.want) {
			t.Errorf("Common(%d, %d) = %v, want %v", c.u, c.v, got, c.want)
		}
	}
}

func TestP3_2CommonIsItsDefinition(t *testing.T) {
	for _, g := range append(smallGraphs(), largerGraphs()[:4]...) {
		for _, u := range around(g) {
			for _, v := range around(g) {
				var want []int
				for x := range g.Nodes {
					if u != v && listed(g.Edges, u, x) && listed(g.Edges, v, x) {
						want = append(want, x)
					}
				}
				if got := graph.Common(g, u, v); !slices.Equal(got, want) {
					t.Fatalf("Common(%v, %d, %d) = %v, want %v", g, u, v, got, want)
				}
			}
		}
	}
}

func TestP3_2GraphsThatAreNotValidHaveNothing(t *testing.T) {
	for _, c := range flawedGraphs() {
		for u := -1; u <= 4; u++ {
			if len(graph.Neighbours(c.g, u)) != 0 || graph.Degree(c.g, u) != 0 {
				t.Errorf("%v is not valid, but %d has neighbours", c.g, u)
			}
			for v := -1; v <= 4; v++ {
				if graph.Find(c.g, u, v) != -1 || len(graph.Common(c.g, u, v)) != 0 {
					t.Errorf("%v is not valid, but there is something of %d and %d", c.g, u, v)
				}
			}
		}
	}
}
