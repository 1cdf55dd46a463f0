package graph_test

import (
	"math"
	"slices"
	"testing"

	"cohesion/api"
	"cohesion/graph"
	"cohesion/probe"
)

// result is all the memory that a call returns.
type result struct {
	edges []api.Edge
	nodes []int
}

func (r result) clone() result { return result{slices.Clone(r.edges), slices.Clone(r.nodes)} }

func (r result) equals(other result) bool {
	return slices.Equal(r.edges, other.edges) && slices.Equal(r.nodes, other.nodes)
}

func (r result) spoil() {
	probe.Spoil(r.edges, api.Edge{U: 77, V: 76})
	probe.Spoil(r.nodes, -79)
}

// calls are all functions, as functions of a graph and a set, with two different nodes where nodes are asked for.
func calls() map[string]func(g api.Graph, set []int) result {
	graphAlone := func(g api.Graph, _ api.Errno) result { return result{edges: g.Edges} }
	return map[string]func(g api.Graph, set []int) result{
		"Check":      func(g api.Graph, _ []int) result { graph.Check(g); return result{} },
		"Of":         func(g api.Graph, _ []int) result { return graphAlone(graph.Of(g.Nodes, g.Edges)) },
		"Find":       func(g api.Graph, _ []int) result { graph.Find(g, 1, 0); return result{} },
		"Neighbours": func(g api.Graph, _ []int) result { return result{nodes: graph.Neighbours(g, 1)} },
		"Degree":     func(g api.Graph, _ []int) result { graph.Degree(g, 1); return result{} },
		"Common":     func(g api.Graph, _ []int) result { return result{nodes: graph.Common(g, 0, 1)} },
		"Induced":    func(g api.Graph, set []int) result { return graphAlone(graph.Induced(g, set)) },
		"Inside":     func(g api.Graph, set []int) result { graph.Inside(g, set); return result{} },
		"Density":    func(g api.Graph, set []int) result { graph.Density(g, set); return result{} },
		"Add":        func(g api.Graph, _ []int) result { return graphAlone(graph.Add(g, 1, 0)) },
		"Add last":   func(g api.Graph, _ []int) result { return graphAlone(graph.Add(g, g.Nodes-1, g.Nodes-2)) },
		"Remove":     func(g api.Graph, _ []int) result { return graphAlone(graph.Remove(g, 1, 0)) },
		"Remove last": func(g api.Graph, _ []int) result {
			last := slices.Concat(edges(0, 1), g.Edges)[len(g.Edges)]
			return graphAlone(graph.Remove(g, last.U, last.V))
		},
	}
}

// Elements of these values stand behind the ends of guarded lists, where an append to an argument would write.
var (
	untouchedEdge = api.Edge{U: -77, V: -78}
	untouchedNode = -77
)

// unordered is a list for Of, which the other functions refuse.
func unordered() api.Graph { return graphOf(6, 5, 1, 1, 0, 0, 1, 4, 2, 1, 5, 0, 3) }

// givenGraphs are graphs of all kinds, few enough that each is tried with many sets.
func givenGraphs() []api.Graph {
	all := append(validGraphs(), unordered())
	for _, c := range flawedGraphs() {
		all = append(all, c.g)
	}
	return all
}

// eachCall tries all functions with guarded arguments.
func eachCall(try func(name string, call func(g api.Graph, set []int) result, given, g api.Graph, givenSet, set []int)) {
	for name, call := range calls() {
		for _, given := range givenGraphs() {
			for _, givenSet := range [][]int{nil, {0, 1}, {4, 1, 0, 1, -5, 2, 99}, {3, 3, 2, 1, 0, 0}} {
				g := api.Graph{Nodes: given.Nodes, Edges: probe.Guarded(given.Edges, untouchedEdge)}
				try(name, call, given, g, givenSet, probe.Guarded(givenSet, untouchedNode))
			}
		}
	}
}

// R2: neither by a call nor by a change of its result.
func TestArgumentsAreNotChanged(t *testing.T) {
	eachCall(func(name string, call func(g api.Graph, set []int) result, given, g api.Graph, givenSet, set []int) {
		got := call(g, set)
		if !probe.IsUnchanged(g.Edges, given.Edges, untouchedEdge) || !probe.IsUnchanged(set, givenSet, untouchedNode) {
			t.Errorf("%s(%v, %v) changes an argument", name, given, givenSet)
		}
		got.spoil()
		if !probe.IsUnchanged(g.Edges, given.Edges, untouchedEdge) || !probe.IsUnchanged(set, givenSet, untouchedNode) {
			t.Errorf("%s(%v, %v) shares its result with an argument", name, given, givenSet)
		}
	})
}

// R2: a result neither follows later changes of the arguments nor those of another result.
func TestResultsAreNewMemory(t *testing.T) {
	eachCall(func(name string, call func(g api.Graph, set []int) result, given, g api.Graph, givenSet, set []int) {
		got, other := call(g, set), call(g, set)
		before := got.clone()
		result{g.Edges, set}.spoil()
		other.spoil()
		if !got.equals(before) || !call(given, givenSet).equals(before) {
			t.Errorf("%s(%v, %v) shares its result", name, given, givenSet)
		}
	})
}

// R1: no arguments make a function panic.
func TestNothingPanics(t *testing.T) {
	numbers := []int{math.MinInt, math.MinInt + 1, -1, 0, 1, 64, math.MaxInt}
	var pairs []api.Edge
	for _, u := range numbers {
		for _, v := range numbers {
			pairs = append(pairs, api.Edge{U: u, V: v})
		}
	}
	for _, nodes := range append(numbers, 2, 65) {
		for _, l := range append(probe.Lists(pairs, 2), edges(0, 1)) {
			g := api.Graph{Nodes: nodes, Edges: l}
			for _, call := range calls() {
				call(g, numbers)
			}
		}
		for _, g := range []api.Graph{graphOf(nodes), graphOf(nodes, 0, 1)} {
			for _, pair := range pairs {
				graph.Find(g, pair.U, pair.V)
				graph.Neighbours(g, pair.U)
				graph.Degree(g, pair.U)
				graph.Common(g, pair.U, pair.V)
				graph.Add(g, pair.U, pair.V)
				graph.Remove(g, pair.U, pair.V)
				graph.Density(g, []int{pair.U, pair.V})
			}
		}
	}
}

// R2: a nil list and an empty one are equivalent.
func TestNilAndEmptyListsAreEquivalent(t *testing.T) {
	for nodes := -1; nodes <= 66; nodes++ {
		bare, empty := api.Graph{Nodes: nodes}, api.Graph{Nodes: nodes, Edges: []api.Edge{}}
		if graph.Check(bare) != graph.Check(empty) || graph.Find(bare, 0, 1) != graph.Find(empty, 0, 1) || graph.Degree(bare, 0) != graph.Degree(empty, 0) {
			t.Errorf("a graph of %d nodes without edges is looked at in two ways", nodes)
		}
		for name, call := range calls() {
			if !call(bare, nil).equals(call(empty, []int{})) {
				t.Errorf("%s of %d nodes without edges has two results", name, nodes)
			}
		}
	}
	for _, g := range validGraphs() {
		nothing, e := graph.Density(g, nil)
		alsoNothing, alsoE := graph.Density(g, []int{})
		if nothing != alsoNothing || e != alsoE || graph.Inside(g, nil) != graph.Inside(g, []int{}) {
			t.Errorf("nil and empty sets of %v differ", g)
		}
	}
}
