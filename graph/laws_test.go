package graph_test

import (
	"testing"

	"cohesion/api"
	"cohesion/graph"
)

func TestDegreesAddUpToTwiceTheEdges(t *testing.T) {
	for _, g := range validGraphs() {
		sum := 0
		for v := range g.Nodes {
			sum += graph.Degree(g, v)
		}
		if sum != 2*len(g.Edges) {
			t.Errorf("the degrees of %v add up to %d", g, sum)
		}
	}
}

func TestRemoveUndoesAddAndAddUndoesRemove(t *testing.T) {
	for _, g := range append(smallGraphs(), largerGraphs()[:5]...) {
		for u := range g.Nodes {
			for v := range g.Nodes {
				first, second := graph.Add, graph.Remove
				if graph.Find(g, u, v) >= 0 {
					first, second = second, first
				}
				changed, e := first(g, u, v)
				if e != api.OK {
					continue // equal ends
				}
				if got, e := second(changed, v, u); !same(got, g) || e != api.OK || same(changed, g) {
					t.Fatalf("%v with %d and %d changed becomes %v, and then %v, %d", g, u, v, changed, got, e)
				}
			}
		}
	}
}

func TestAllNodesInduceTheGraph(t *testing.T) {
	for _, g := range validGraphs() {
		if got, e := graph.Induced(g, around(g)); !same(got, g) || e != api.OK || graph.Inside(g, around(g)) != len(g.Edges) {
			t.Errorf("all nodes of %v induce %v, %d", g, got, e)
		}
	}
}

// What one function says of an edge, the others say too.
func TestLooksAgree(t *testing.T) {
	for _, g := range append(smallGraphs(), largerGraphs()[:5]...) {
		for u := range g.Nodes {
			for v := range g.Nodes {
				there := graph.Find(g, u, v) >= 0
				if occursIn(graph.Neighbours(g, u), v) != there || (graph.Inside(g, []int{u, v}) == 1) != there {
					t.Fatalf("%d and %d of %v are joined for one function, not for another one", u, v, g)
				}
			}
		}
	}
}

func TestResultsAreValidGraphs(t *testing.T) {
	for _, g := range validGraphs() {
		results := []api.Graph{}
		for _, set := range setsOf(g) {
			induced, _ := graph.Induced(g, set)
			results = append(results, induced)
		}
		added, _ := graph.Add(g, 2, 0)
		removed, _ := graph.Remove(g, 2, 0)
		of, _ := graph.Of(g.Nodes, g.Edges)
		for _, result := range append(results, added, removed, of) {
			if e := graph.Check(result); e != api.OK {
				t.Fatalf("%v, made of %v, has the error %d", result, g, e)
			}
		}
	}
}
