package history

import (
	"iter"

	"cohesion/api"
)

// version is what there is behind all events of a time, as far as it matters when something comes or goes: which nodes are joined,
// but not the attributes of links. To keep it costs much less than links.Apply, which checks a whole state for each event.
type version struct {
	time      int
	isChanged bool // an event of this time changed something
	isJoined  [api.MaxNodes][api.MaxNodes]bool
}

// versions goes through a history without an error, time by time. There is only one version, which changes as it goes on.
func versions(l []api.Event) iter.Seq[*version] {
	return func(yield func(*version) bool) {
		var now version
		for i, e := range l {
			now.apply(e)
			isLastOfItsTime := i+1 == len(l) || e.Time < l[i+1].Time
			if isLastOfItsTime && !yield(&now) {
				return
			}
		}
	}
}

// firstTime returns the first time of a history at which the version is as asked, and whether there is one.
func firstTime(l []api.Event, isAsked func(now *version) bool) (int, bool) {
	for now := range versions(l) {
		if isAsked(now) {
			return now.time, true
		}
	}
	return 0, false
}

// apply lets an event happen, at no earlier time than those before it.
func (v *version) apply(e api.Event) {
	if v.time < e.Time {
		v.time, v.isChanged = e.Time, false
	}
	if v.change(e) {
		v.isChanged = true
	}
}

// change does what an event does, and reports whether something has changed at its time.
func (v *version) change(e api.Event) bool {
	switch e.Kind {
	case api.EvSet:
		v.isJoined[e.U][e.V], v.isJoined[e.V][e.U] = true, true
		// A link that was there gets another time at least, unless it was set at this very time: then that was a change.
		return true
	case api.EvCut:
		return v.part(e.U, e.V)
	}
	hasParted := false
	for other := range v.isJoined {
		if v.part(e.U, other) {
			hasParted = true
		}
	}
	return hasParted
}

// part parts two nodes, and reports whether they were joined.
func (v *version) part(a, b int) bool {
	wasJoined := v.isJoined[a][b]
	v.isJoined[a][b], v.isJoined[b][a] = false, false
	return wasJoined
}

// component returns the nodes that are connected with a node, and the node itself.
func (v *version) component(node int) []int {
	var isFound [api.MaxNodes]bool
	isFound[node] = true
	found := []int{node}
	for at := 0; at < len(found); at++ {
		for other, isJoined := range v.isJoined[found[at]] {
			if isJoined && !isFound[other] {
				isFound[other] = true
				found = append(found, other)
			}
		}
	}
	return found
}
