package history

import (
	"cohesion/api"
	"cohesion/nodeset"
)

// checkNodes returns the error of two states that do not have the same nodes.
func checkNodes(a, b api.State) api.Errno {
	if a.Nodes != b.Nodes {
		return api.ErrNode
	}
	return api.OK
}

// checkTime returns the error of a time that an event cannot have.
func checkTime(time int) api.Errno {
	if time < 0 || time > api.MaxTime {
		return api.ErrTime
	}
	return api.OK
}

// checkEnds returns the error of two nodes, of so many, that no edge can join.
func checkEnds(nodes, u, v int) api.Errno {
	if u == v || min(u, v) < 0 || max(u, v) >= nodes {
		return api.ErrNode
	}
	return api.OK
}

// checkSet returns the error of a list that is not a set of so many nodes.
func checkSet(nodes int, set []int) api.Errno {
	if !nodeset.Valid(set, nodes) {
		return api.ErrNode
	}
	return api.OK
}
