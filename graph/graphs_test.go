package graph_test

import (
	"math"
	"slices"

	"cohesion/api"
)

// edges returns a list of edges of which each has two numbers, as they are.
func edges(ends ...int) []api.Edge {
	var l []api.Edge
	for pair := range slices.Chunk(ends, 2) {
		l = append(l, api.Edge{U: pair[0], V: pair[1]})
	}
	return l
}

// graphOf returns the struct alone, valid or not, without the package under test.
func graphOf(nodes int, ends ...int) api.Graph {
	return api.Graph{Nodes: nodes, Edges: edges(ends...)}
}

// same reports whether graphs are equal; R2: nil and empty lists are.
func same(a, b api.Graph) bool {
	return a.Nodes == b.Nodes && slices.Equal(a.Edges, b.Edges)
}

// graphBy returns the graph whose edges are those that the rule asks for, by going through all pairs in order.
func graphBy(nodes int, rule func(u, v int) bool) api.Graph {
	g := api.Graph{Nodes: nodes}
	for u := range nodes {
		for v := u + 1; v < nodes; v++ {
			if rule(u, v) {
				g.Edges = append(g.Edges, api.Edge{U: u, V: v})
			}
		}
	}
	return g
}

// listed is adjacency by its definition: one of the edges has both ends, in one order or the other.
func listed(l []api.Edge, u, v int) bool {
	for _, e := range l {
		if e.U == u && e.V == v || e.U == v && e.V == u {
			return true
		}
	}
	return false
}

func occursIn(l []int, x int) bool {
	for _, y := range l {
		if x == y {
			return true
		}
	}
	return false
}

// smallGraphs are all graphs of at most four nodes.
func smallGraphs() []api.Graph {
	var all []api.Graph
	for nodes := range 5 {
		pairs := nodes * (nodes - 1) / 2
		for chosen := range 1 << pairs {
			at := -1
			all = append(all, graphBy(nodes, func(_, _ int) bool { at++; return chosen>>at&1 == 1 }))
		}
	}
	return all
}

// largerGraphs are graphs of several shapes, up to the greatest one there is.
func largerGraphs() []api.Graph {
	return []api.Graph{
		graphOf(5, 0, 1, 0, 2, 1, 2, 2, 3),
		graphOf(12, 0, 9, 0, 10, 1, 10, 2, 11, 9, 11, 10, 11),
		graphBy(9, func(u, v int) bool { return (u*5+v*3)%4 == 0 }),
		graphBy(20, func(u, v int) bool { return (u+v)%3 == 1 }),
		graphBy(64, func(_, _ int) bool { return false }),
		graphBy(64, func(u, v int) bool { return u == 31 || v == 31 }),
		graphBy(64, func(u, v int) bool { return v == u+1 }),
		graphBy(64, func(u, v int) bool { return u < 32 && v >= 32 }),
		graphBy(64, func(_, _ int) bool { return true }),
	}
}

func validGraphs() []api.Graph { return append(smallGraphs(), largerGraphs()...) }

// flawed is a graph that is not valid, with the first of its errors.
type flawed struct {
	g api.Graph
	e api.Errno
}

// flawedGraphs are graphs with one error or several; in most of them 0 and 1 seem to be joined, so that a function that
// does not check them first would find something.
func flawedGraphs() []flawed {
	return []flawed{
		{graphOf(-1, 0, 1), api.ErrRange}, {graphOf(65, 0, 1), api.ErrRange}, {graphOf(math.MinInt, 0, 1), api.ErrRange}, {graphOf(math.MaxInt, 0, 1), api.ErrRange},
		{graphOf(65, 0, 1, 5, 4), api.ErrRange}, {graphOf(-1, 0, 1, 0, 1), api.ErrRange}, {graphOf(-1), api.ErrRange}, {graphOf(65), api.ErrRange},
		{graphOf(0, 0, 1), api.ErrNode}, {graphOf(1, 0, 1), api.ErrNode}, {graphOf(3, 0, 1, 0, 3), api.ErrNode}, {graphOf(64, 0, 1, 0, 64), api.ErrNode},
		{graphOf(3, -1, 0, 0, 1), api.ErrNode}, {graphOf(3, 0, 1, 1, 1), api.ErrNode}, {graphOf(3, 1, 0), api.ErrNode}, {graphOf(3, 0, 1, 2, 1), api.ErrNode},
		{graphOf(3, math.MinInt, 1, 0, 1), api.ErrNode}, {graphOf(3, 0, 1, 0, math.MaxInt), api.ErrNode}, {graphOf(3, 0, 1, math.MinInt, math.MaxInt), api.ErrNode},
		{graphOf(3, 0, 1, 0, 1), api.ErrOrder}, {graphOf(3, 0, 2, 0, 1), api.ErrOrder}, {graphOf(3, 1, 2, 0, 1), api.ErrOrder}, {graphOf(4, 1, 2, 0, 1, 0, 3), api.ErrOrder},
		{graphOf(4, 0, 1, 1, 2, 0, 3, 2, 3), api.ErrOrder}, {graphOf(4, 0, 1, 0, 2, 0, 2, 3, 3), api.ErrOrder},
		{graphOf(4, 0, 1, 1, 3, 0, 2, 1, 9), api.ErrOrder}, {graphOf(4, 0, 1, 3, 2, 0, 1), api.ErrNode}, {graphOf(4, 0, 1, 1, 2, 0, 0), api.ErrNode},
	}
}

// extremes are numbers that are no nodes of any graph.
func extremes() []int { return []int{math.MinInt, math.MinInt + 1, -64, -1, 64, 65, math.MaxInt} }

// around returns all nodes of a graph and numbers that are no nodes of it.
func around(g api.Graph) []int {
	l := append(extremes(), g.Nodes, g.Nodes+1)
	for v := range g.Nodes {
		l = append(l, v)
	}
	return l
}

// setsOf returns lists of nodes of a graph and of other numbers: sets, lists out of order, and lists with repetitions.
func setsOf(g api.Graph) [][]int {
	every := around(g)
	lists := [][]int{nil, {}, every, slices.Repeat(every, 3), extremes(), {0}, {0, 0, 0}, {1, 0}, {2, 0, 1, 0, 2}, {3, 1}, {g.Nodes - 1, 0}, {g.Nodes, 0, 1}}
	for step := 2; step < 6; step++ {
		var l []int
		for v := g.Nodes + 1; v >= -1; v -= step {
			l = append(l, v, v)
		}
		lists = append(lists, l)
	}
	return lists
}
