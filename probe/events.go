package probe

import "cohesion/api"

// Set returns the event that a link is set, valid or not.
func Set(time, u, v, weight, label, sign int) api.Event {
	return api.Event{Kind: api.EvSet, Time: time, U: u, V: v, Weight: weight, Label: label, Sign: sign}
}

// Cut returns the event that a link is cut, valid or not.
func Cut(time, u, v int) api.Event {
	return api.Event{Kind: api.EvCut, Time: time, U: u, V: v}
}

// Leave returns the event that a node leaves, valid or not.
func Leave(time, u int) api.Event {
	return api.Event{Kind: api.EvLeave, Time: time, U: u}
}
