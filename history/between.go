package history

import (
	"cmp"
	"slices"

	"cohesion/api"
)

// changes returns what leads from links to other ones, as events at a time, in the order of edges.
func changes(from, to []api.Link, time int) []api.Event {
	before, behind := setsOf(from, time), setsOf(to, time)
	var l []api.Event
	for edge := range before {
		if _, stays := behind[edge]; !stays {
			l = append(l, api.Event{Kind: api.EvCut, Time: time, U: edge.U, V: edge.V})
		}
	}
	for edge, set := range behind {
		if before[edge] != set {
			l = append(l, set)
		}
	}
	// No edge occurs twice, so the order in which a map is gone through leaves no trace.
	slices.SortFunc(l, compareEdges)
	return l
}

// setsOf returns the events that set links at a time, by edge. At the same time, links are set in the same way if their attributes
// are the same.
func setsOf(l []api.Link, time int) map[api.Edge]api.Event {
	sets := map[api.Edge]api.Event{}
	for _, link := range l {
		sets[api.Edge{U: link.U, V: link.V}] = api.Event{Kind: api.EvSet, Time: time, U: link.U, V: link.V, Weight: link.Weight, Label: link.Label, Sign: link.Sign}
	}
	return sets
}

// compareEdges tells which of two events comes first in the order of edges.
func compareEdges(a, b api.Event) int {
	return cmp.Or(cmp.Compare(a.U, b.U), cmp.Compare(a.V, b.V))
}
