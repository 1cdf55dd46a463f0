package graph

import (
	"cmp"

	"cohesion/api"
	"cohesion/nodeset"
)

// isNodeCount reports whether a graph may have so many nodes.
func isNodeCount(nodes int) bool {
	return 0 <= nodes && nodes <= api.MaxNodes
}

// isNode reports whether v is among the nodes 0 to nodes - 1.
func isNode(nodes, v int) bool {
	return 0 <= v && v < nodes
}

// canBeJoined reports whether u and v are two different nodes, so that there may be an edge between them.
func canBeJoined(nodes, u, v int) bool {
	return u != v && isNode(nodes, u) && isNode(nodes, v)
}

// edgeBetween returns the edge between two nodes. Each edge has one form only, so that edges can be compared as structs.
func edgeBetween(u, v int) api.Edge {
	return api.Edge{U: min(u, v), V: max(u, v)}
}

// compareEdges tells which of two edges comes first in a graph.
func compareEdges(a, b api.Edge) int {
	return cmp.Or(cmp.Compare(a.U, b.U), cmp.Compare(a.V, b.V))
}

// lookUp returns where the edge between two nodes is, -1 if it is not there, or the error of the graph or of the nodes.
func lookUp(g api.Graph, u, v int) (int, api.Errno) {
	if e := Check(g); e != api.OK {
		return 0, e
	}
	if !canBeJoined(g.Nodes, u, v) {
		return 0, api.ErrNode
	}
	return Find(g, u, v), api.OK
}

// nodesIn returns the different nodes of a graph that are in a list of any numbers.
func nodesIn(g api.Graph, l []int) []int {
	return nodeset.Meet(nodeset.Range(g.Nodes), l)
}
